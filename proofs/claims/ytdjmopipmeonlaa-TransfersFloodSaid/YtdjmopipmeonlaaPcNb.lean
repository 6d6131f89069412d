import Derived.Test.YtdjmopipmeonlaaLbCmp
/- The code's neighborsOf. -/
namespace Go.Proofs.Ytdjmopipmeonlaa
set_option linter.unusedVariables false
open Go.RowKit Go.Sort Go.Lib

theorem clip16_any (a : Option Addr) (n c : Nat) (w : World) (hnc : n ≤ c) (_hc : c ≤ maxLen) :
    Calls Try.prog 58 #[.slice a n c] w fun e w' => e = .returned (.slice a n n) ∧ w = w' := by
  have h1 : (n : Int) ≤ (c : Int) := by omega
  go_enter Try.func58, Try.ntmps58
  go_wp2
  go_ret
  exact ⟨rfl, rfl⟩
theorem clipI_any (a : Option Addr) (n c : Nat) (w : World) (hnc : n ≤ c) (_hc : c ≤ maxLen) :
    Calls Try.prog 62 #[.slice a n c] w fun e w' => e = .returned (.slice a n n) ∧ w = w' := by
  have h1 : (n : Int) ≤ (c : Int) := by omega
  go_enter Try.func62, Try.ntmps62
  go_wp2
  go_ret
  exact ⟨rfl, rfl⟩
theorem clipL_any (a : Option Addr) (n c : Nat) (w : World) (hnc : n ≤ c) (_hc : c ≤ maxLen) :
    Calls Try.prog 41 #[.slice a n c] w fun e w' => e = .returned (.slice a n n) ∧ w = w' := by
  have h1 : (n : Int) ≤ (c : Int) := by omega
  go_enter Try.func41, Try.ntmps41
  go_wp2
  go_ret
  exact ⟨rfl, rfl⟩
theorem clipC_any (a : Option Addr) (n c : Nat) (w : World) (hnc : n ≤ c) (_hc : c ≤ maxLen) :
    Calls Try.prog 54 #[.slice a n c] w fun e w' => e = .returned (.slice a n n) ∧ w = w' := by
  have h1 : (n : Int) ≤ (c : Int) := by omega
  go_enter Try.func54, Try.ntmps54
  go_wp2
  go_ret
  exact ⟨rfl, rfl⟩
theorem keeps_iff (l : List Int) {j : Nat} (hj : j < l.length) : keeps l.toArray j = decide (j = 0 ∨ l.getD j 0 ≠ l.getD (j - 1) 0) := by
  unfold keeps
  have e1 : l.toArray[j]! = l.getD j 0 := by simp [List.getD_eq_getElem?_getD, hj]
  have e2 : l.toArray[j - 1]! = l.getD (j - 1) 0 := by simp [List.getD_eq_getElem?_getD, show j - 1 < l.length by omega]
  rw [e1, e2]
theorem compact_dedup {l : List Int} (h : l.Pairwise (· ≤ ·)) : compactUpTo l.toArray l.length = dedup l := by
  have gd : ∀ j, (hj : j < l.length) → l.toArray[j]! = l[j] := fun j hj => by simp [hj]
  have gD : ∀ j, (hj : j < l.length) → l.getD j 0 = l[j] := fun j hj => by simp [List.getD_eq_getElem?_getD, hj]
  have asc : ∀ i j, i ≤ j → (hj : j < l.length) → l.getD i 0 ≤ l.getD j 0 := fun i j hij hj => by
    rw [gD j hj, gD i (by omega)]
    rcases Nat.eq_or_lt_of_le hij with e | e
    · subst e; exact Int.le_refl _
    · exact List.pairwise_iff_getElem.1 h i j (by omega) hj e
  refine sorted_ext (r := (· < ·)) (fun x y h1 h2 => by omega) ?_ (dedup_asc h) fun x => ?_
  · unfold compactUpTo
    rw [List.pairwise_map]
    refine List.Pairwise.imp_of_mem (fun {i j} hi hj hij => ?_) (List.Pairwise.filter _ List.pairwise_lt_range)
    obtain ⟨hj1, hj2⟩ := List.mem_filter.1 hj
    have hjl := List.mem_range.1 hj1
    rw [keeps_iff l hjl, decide_eq_true_eq] at hj2
    rw [gd i (by omega), gd j hjl, ← gD i (by omega), ← gD j hjl]
    have h1 := asc i (j - 1) (by omega) (by omega)
    have h2 := asc (j - 1) j (by omega) hjl
    rcases hj2 with h3 | h3
    · omega
    · omega
  · rw [mem_dedup]
    unfold compactUpTo
    rw [List.mem_map]
    constructor
    · rintro ⟨j, hj, rfl⟩
      have hjl := List.mem_range.1 (List.mem_filter.1 hj).1
      rw [gd j hjl]; exact List.getElem_mem _
    · intro hx
      obtain ⟨j, hj, rfl⟩ := List.getElem_of_mem hx
      have key : ∀ j, (hj : j < l.length) → ∃ i, i ∈ (List.range l.length).filter (keeps l.toArray) ∧ l.toArray[i]! = l[j] := by
        intro j
        induction j with
        | zero => exact fun hj => ⟨0, List.mem_filter.2 ⟨List.mem_range.2 hj, by rw [keeps_iff l hj]; simp⟩, gd 0 hj⟩
        | succ j ih =>
          intro hj
          by_cases e : l.getD (j + 1) 0 = l.getD j 0
          · obtain ⟨i, h1, h2⟩ := ih (by omega)
            refine ⟨i, h1, h2.trans ?_⟩
            rw [← gD j (by omega), ← e, gD (j + 1) hj]
          · exact ⟨j + 1, List.mem_filter.2 ⟨List.mem_range.2 hj, by rw [keeps_iff l hj]; simpa using e⟩, gd _ hj⟩
      exact key j hj
theorem putRow_exc (enc : Int → Value) (w : World) (q blk off : Nat) (d : Array Int) : Exc (fun k => k = blk) w (putRow enc (Sort.ahead w q) blk off d) := by
  refine ⟨rfl, rfl, rfl, by simp [putRow, mapBlock, Sort.ahead], fun k _ hn => ?_⟩
  show ((Sort.ahead w q).heap.modify blk _)[k]? = w.heap[k]?
  rw [Array.getElem?_modify, if_neg (fun e => hn e.symm)]
  rfl
theorem dedup_short {l : List Int} (h : l.length < 2) : dedup l = l := by
  match l, h with
  | [], _ => rfl
  | [_], _ => rfl
def NbMid (g0 : Nat) (l : List Int) (w : World) (e : Ending) (w' : World) : Prop := ∃ a c, e = .returned (.slice a l.length c) ∧ Row .u16 w' a l.length c l ∧ Exc (fun k => g0 ≤ k) w w' ∧ ∀ z, a = some z → g0 ≤ z.block
set_option maxHeartbeats 1000000 in
theorem compact16_any (B : Nat) (v : Value) (l : List Int) (n : Nat) (w : World) (hown : w.ownsRow B 40 1 v n (nums .u16 l)) (hn : l.length = n) (hasc : l.Pairwise (· ≤ ·)) (hwf : ∀ x ∈ l, (Lit.int .u16 x).wf = true) (hsz : n ≤ 1000000) :
    Calls Try.prog 59 #[v] w (NbMid B (dedup l) w) := by
  by_cases h2 : n < 2
  · obtain ⟨a, c, rfl, hr, _⟩ := ownsRow_rowN .u16 hown hwf
    have e : dedup l = l := dedup_short (by omega)
    have h2i : (n : Int) < 2 := by omega
    rw [e]
    have HR := Lib.hid hr
    have HN := Lib.hid hn
    have HF : Hid (∀ z, a = some z → B ≤ z.block) := Lib.hid (fun z hz => by
      subst hz
      rcases hown.2 with ⟨h0, _⟩ | ⟨g, cap, cur, h0, hb, _⟩
      · cases h0
      · cases h0; exact hb)
    clear hown hn hasc hr e
    go_enter Try.func59, Try.ntmps59
    go_wp2
    go_ret
    exact ⟨a, c, by rw [HN.out]; rfl, by rw [HN.out]; exact HR.out, Exc.refl _ _, HF.out⟩
  · rcases hown.2 with ⟨rfl, h0⟩ | ⟨g, cap, cur, rfl, hb, hg, hle, hc, hs, ht⟩
    · omega
    · have hOwn : Own w g 40 (nums .u16 l ++ cur.toList.drop (n * 1)) := by
        unfold Own
        rw [hg, ← ht, List.take_append_drop]
      have hH : Holds (Value.int .u16) w g 0 l.toArray := fun j hj => by
        have hj' : j < l.length := by simpa using hj
        have h1 := hOwn.cell j (by simp [nums_length]; omega)
        refine ⟨?_, by rw [Nat.zero_add]; exact hOwn.frozen j⟩
        rw [Nat.zero_add, h1]
        have e3 : (nums .u16 l ++ cur.toList.drop (n * 1))[j]? = (nums .u16 l)[j]? := List.getElem?_append_left (by rw [nums_length]; exact hj')
        rw [List.getD_eq_getElem?_getD, e3]
        simp [nums, hj']
      have hcon := AnyE.slices_Compact layCompact (Value.int .u16) (fun _ => rfl) (EqlAt.intD _ _ .u16) (NeqAt.intD _ _ .u16) 0 (Try.zeroValue40) g 0 cap l.toArray w hH (by simp; omega) (by simp; omega)
      have hs1 : l.toArray.size = l.length := by simp
      rw [hs1, compact_dedup hasc, hn] at hcon
      change Calls Try.prog 59 _ _ _ at hcon
      refine hcon.mono ?_
      rintro e w' ⟨rfl, q, rfl⟩
      have hdl := dedup_le l
      refine ⟨_, cap, rfl, ⟨rfl, by omega, hc, fun x hx => hwf x (mem_dedup.1 hx), .inr ⟨g, 0, rfl, fun i hi => ?_⟩, by simp⟩, (putRow_exc _ _ _ _ _ _).weak fun i _ hi => by subst hi; exact hb, fun z hz => by cases hz; exact hb⟩
      have hsz2 : (dedup l ++ List.replicate (n - (dedup l).length) 0).toArray.size = l.toArray.size := by simp; omega
      have := cell?_putRow (Value.int .u16) (Sort.ahead w q) g 0 l.toArray _ (holds_ahead _ _ _ _ _ _ hH) hsz2 i (by simp; omega)
      rw [this]
      simp [List.getD_eq_getElem?_getD, List.getElem?_append_left hi, hi]
/-- A list of codes without spare capacity, in memory of the call's own. -/
def NbOut (l : List Int) (w : World) (e : Ending) (w' : World) : Prop := ∃ a, e = .returned (.slice a l.length l.length) ∧ Row .u16 w' a l.length l.length l ∧ Below w.heap.size w w' ∧ ∀ z, a = some z → w.heap.size ≤ z.block
theorem oth_eq {l : Ln} (h : l.A < l.B) (c : Int) : (othB l.A l.B c = true ∧ othO l c = some (othL l.A l.B c)) ∨ (othB l.A l.B c = false ∧ othO l c = none) := by
  unfold othL othB othO
  by_cases h1 : l.A = c
  · have h2 : ¬ l.B = c := by omega
    left; simp [h1, h2]
  · by_cases h2 : l.B = c
    · left; simp [h1, h2]
    · right; simp [h1, h2]
theorem infoU16 : (Try.prog.info? 40).map (fun i => (i.zero, i.size, i.bytes)) = some (some (.int .u16 0), 1, 2) := by kernel_rfl
theorem othersL_wf {L : List Ln} {c : Int} (h : ∀ x ∈ L, (0 ≤ x.A ∧ x.A ≤ 65535) ∧ (0 ≤ x.B ∧ x.B ≤ 65535)) : ∀ y ∈ othersL L c, (Lit.int .u16 y).wf = true := fun y hy => by
  unfold othersL at hy
  obtain ⟨l, hl, e⟩ := List.mem_filterMap.1 hy
  have := h l hl
  rw [wf_u16]
  unfold othO at e
  split at e
  · cases e; exact this.2
  · split at e
    · cases e; exact this.1
    · cases e
set_option maxHeartbeats 4000000 in
theorem neighborsOf_any (p : Pn) (a : Option Addr) (n c : Nat) (a' : Option Addr) (n' c' : Nat) (code : Int) (w : World) (hL : LRow w a' n' c' p.L) (hv : ValidPl p) :
    Calls Try.prog 42 #[planV a n c a' n' c' p, .int .u16 code] w (NbOut (nbrs p code) w) := by
  unfold planV
  obtain ⟨W, hW⟩ : ∃ W, W = w.alloc (.cells (planCells a n c a' n' c' p).toArray 33) := ⟨_, rfl⟩
  have hB : Below w.heap.size w W := by rw [hW]; exact below_alloc _ _
  have hA : PlanAt W w.heap.size a n c a' n' c' p := by rw [hW]; exact PlanAt.new _ _ _ _ _ _ _ _
  have hmax := hL.max
  have hle := hL.le
  unfold maxLen at hmax
  have hn' : n' ≤ 1024 := by have := hv.nl; have := hL.len; omega
  have HLl := Lib.hid hL.len
  have HL := Lib.hid (hL.later hB)
  have HV := Lib.hid hv
  go_enter Try.func42, Try.ntmps42
  go_wp2_with fail
  show Code.wp _ _ _ _ (w.alloc (.cells (planCells a n c a' n' c' p).toArray 33))
  rw [← hW]
  obtain ⟨g0, g1, g2, g3, g4, g5, g6⟩ := hA.cells
  have HB := Lib.hid hB
  clear hA hB hW hL hv g0 g2 g3 g4 g5 g6
  go_wp2_with fail
  clear g1
  have HO := Lib.hid (fun (A B C : Int) (W : World) => other_any A B C code W)
  go_loopw [5, 13] (fun v i wr => ∃ k : Nat, k ≤ n' ∧ i = .int .i64 k ∧ Below W.heap.size W wr ∧ wr.ownsRow W.heap.size 40 1 v (othersL (p.L.take k) code).length (nums .u16 (othersL (p.L.take k) code))) (fun _ i _ => n' - (intOf i).toNat)
  case atStart => exact ⟨0, Nat.zero_le _, rfl, Below.refl _ _, by simpa [othersL, nums] using World.ownsRow_nil W W.heap.size 40 1⟩
  case round =>
    obtain ⟨k, hk, rfl, hb, hown⟩ := hrel
    have hsz : W.heap.size ≤ wr.heap.size := hb.size
    have HL2 := Lib.hid (HL.out.later hb)
    have hel := othersL_le (p.L.take k) code
    rw [List.length_take] at hel
    obtain ⟨N, hN⟩ : ∃ N, N = (othersL (p.L.take k) code).length := ⟨_, rfl⟩
    rw [← hN] at hown hel
    have hNk : N ≤ 1024 := by omega
    have HN := Lib.hid hN
    have HW := Lib.hid hown
    have HBr := Lib.hid hb
    clear hb hown hN hel
    by_cases hkn : k < n'
    · obtain ⟨b, off, rfl, hc⟩ := HL2.out.cells.resolve_left (by omega)
      obtain ⟨c0, c1, c2, c3⟩ := hc k hkn
      clear hc
      have hbl : b < wr.heap.size := World.block_lt_of_cell? _ _ c0
      have hkl : k < p.L.length := by have := HLl.out; omega
      have HT := Lib.hid (othersL_take p.L code k hkl)
      have hmem : lnAt p.L k ∈ p.L := by
        have : lnAt p.L k = p.L[k] := by simp [lnAt, List.getD_eq_getElem?_getD, hkl]
        rw [this]; exact List.getElem_mem _
      have HE := Lib.hid (oth_eq (line_of_valid HV.out hmem).1 code)
      clear hmem
      obtain ⟨l, hl⟩ : ∃ l, l = lnAt p.L k := ⟨_, rfl⟩
      rw [← hl] at c0 c1 c2 c3 HE HT
      clear hl
      obtain ⟨A, B, C, D⟩ := l
      simp only at c0 c1 c2 c3 HE
      go_wp2_with fail
      have HBa := Lib.hid (below_alloc wr (.cells #[.int .u16 A, .int .u16 B, .int .u8 C, .int .i64 D] 99))
      clear c0 c1 c2 c3
      with_reducible refine (HO.out A B C _).mono ?_
      rintro e w' ⟨rfl, hb⟩
      have hb2 : Below wr.heap.size wr w' := HBa.out.trans (hb.mono HBa.out.size)
      have HB2 := Lib.hid (HBr.out.trans (hb2.mono HBr.out.size))
      have HW2 := Lib.hid (ownsRow_below HW.out hb2)
      have hsz2 : W.heap.size ≤ w'.heap.size := HB2.out.size
      clear hb hb2
      rcases HE.out with ⟨e1, e2⟩ | ⟨e1, e2⟩
      · have HT2 := Lib.hid (show othersL (p.L.take (k + 1)) code = othersL (p.L.take k) code ++ [othL A B code] by rw [HT.out, e2]; rfl)
        rw [e1]
        clear e1 e2 HE
        generalize othL A B code = y at *
        go_wp2_with (at_builtin; refine wpList_append_one Try.underlying78 infoU16 (by decide) rfl _ _ rfl W.heap.size _ _ _ _ rfl (by exact HW2.out) rfl (by omega) hsz2 ?_)
        intro v1 w1 h1 h2 gx cx h3
        have H1 := Lib.hid h1
        have H2 := Lib.hid h2
        clear h1 h2 h3
        go_wp2
        refine ⟨⟨k + 1, by omega, by go_num, HB2.out.trans (H2.out.below hsz2 (fun j hj => (ownBlock_lt HW2.out hj).1)), ?_⟩, by simp [intOf]; omega⟩
        rw [HT2.out, List.length_append, ← HN.out]
        exact H1.out
      · have HT2 := Lib.hid (show othersL (p.L.take (k + 1)) code = othersL (p.L.take k) code by rw [HT.out, e2]; exact List.append_nil _)
        rw [e1]
        clear e1 e2 HE
        go_wp2
        refine ⟨⟨k + 1, by omega, by go_num, HB2.out, ?_⟩, by simp [intOf]; omega⟩
        rw [HT2.out, ← HN.out]
        exact HW2.out
    · obtain rfl : k = n' := by omega
      have hTk : p.L.take k = p.L := List.take_of_length_le (by rw [HLl.out]; exact Nat.le_refl _)
      have hown := HW.out
      rw [hTk] at hown
      have hNl := HN.out
      rw [hTk] at hNl
      have hcon := compact16_any W.heap.size _ _ N wr hown hNl.symm (othersL_asc (ord_of_valid HV.out) (fun _ hl => (line_of_valid HV.out hl).1) code) (othersL_wf fun x hx => ⟨(HL.out.wf x hx).1, (HL.out.wf x hx).2.1⟩) (by omega)
      have HC := Lib.hid hcon
      clear hcon hown hNl hTk
      go_wp2_with fail
      with_reducible refine HC.out.mono ?_
      rintro e w' ⟨a2, c2, rfl, hr, hx, hfr⟩
      have hcl := clip16_any a2 (dedup (othersL p.L code)).length c2 w' hr.le hr.max
      have HCl := Lib.hid hcl
      have HR := Lib.hid hr
      have HX := Lib.hid (HB.out.trans ((HBr.out.trans (hx.below hsz (fun i _ hi => hi))).mono HB.out.size))
      have HFr := Lib.hid (fun z hz => Nat.le_trans HB.out.size (hfr z hz))
      clear hcl hr hx HC hfr
      go_wp2_with fail
      with_reducible refine HCl.out.mono ?_
      rintro e w2 ⟨rfl, rfl⟩
      go_wp2
      go_ret
      exact ⟨a2, rfl, ⟨rfl, Nat.le_refl _, Nat.le_trans HR.out.le HR.out.max, HR.out.wf, HR.out.cells, fun e => by have h1 := HR.out.isNil e; have h2 := HR.out.le; show (dedup (othersL p.L code)).length = 0; omega⟩, HX.out, HFr.out⟩
end Go.Proofs.Ytdjmopipmeonlaa
