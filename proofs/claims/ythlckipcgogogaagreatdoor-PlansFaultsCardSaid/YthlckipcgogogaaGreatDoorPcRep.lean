/- Joined: PcNb PcRep. -/
import Derived.Test.YthlckipcgogogaaGreatDoorLbCmp
import Derived.Test.YthlckipcgogogaaGreatDoorPlNat
import Derived.BigQuiet
import Derived.BigRegion
import Derived.Laws.CopyOwn
import Derived.Deep.RegionLaw
/- The code's neighborsOf. -/
namespace Go.Proofs.YthlckipcgogogaaGreatDoor
set_option linter.unusedVariables false
open Go.RowKit Go.Sort Go.Lib

theorem clip16_any (a : Option Addr) (n c : Nat) (w : World) (hnc : n ≤ c) (_hc : c ≤ maxLen) :
    Calls Tryz.prog 88 #[.slice a n c] w fun e w' => e = .returned (.slice a n n) ∧ w = w' := by
  have h1 : (n : Int) ≤ (c : Int) := by omega
  go_enter Tryz.func88, Tryz.ntmps88
  go_wp2
  go_ret
  exact ⟨rfl, rfl⟩
theorem clipI_any (a : Option Addr) (n c : Nat) (w : World) (hnc : n ≤ c) (_hc : c ≤ maxLen) :
    Calls Tryz.prog 91 #[.slice a n c] w fun e w' => e = .returned (.slice a n n) ∧ w = w' := by
  have h1 : (n : Int) ≤ (c : Int) := by omega
  go_enter Tryz.func91, Tryz.ntmps91
  go_wp2
  go_ret
  exact ⟨rfl, rfl⟩
theorem clipL_any (a : Option Addr) (n c : Nat) (w : World) (hnc : n ≤ c) (_hc : c ≤ maxLen) :
    Calls Tryz.prog 63 #[.slice a n c] w fun e w' => e = .returned (.slice a n n) ∧ w = w' := by
  have h1 : (n : Int) ≤ (c : Int) := by omega
  go_enter Tryz.func63, Tryz.ntmps63
  go_wp2
  go_ret
  exact ⟨rfl, rfl⟩
theorem clipC_any (a : Option Addr) (n c : Nat) (w : World) (hnc : n ≤ c) (_hc : c ≤ maxLen) :
    Calls Tryz.prog 70 #[.slice a n c] w fun e w' => e = .returned (.slice a n n) ∧ w = w' := by
  have h1 : (n : Int) ≤ (c : Int) := by omega
  go_enter Tryz.func70, Tryz.ntmps70
  go_wp2
  go_ret
  exact ⟨rfl, rfl⟩
theorem keeps_iff (l : List Int) {j : Nat} (hj : j < l.length) : keeps l.toArray j = decide (j = 0 ∨ l.getD j 0 ≠ l.getD (j - 1) 0) := by
  unfold keeps
  have e1 : l.toArray[j]! = l.getD j 0 := by simp [List.getD_eq_getElem?_getD, hj]
  have e2 : l.toArray[j - 1]! = l.getD (j - 1) 0 := by simp [List.getD_eq_getElem?_getD, show j - 1 < l.length by omega]
  rw [e1, e2]
theorem compact_dedup {l : List Int} (h : l.Pairwise (· ≤ ·)) : compactUpTo l.toArray l.length = dedup l := by
  have gd : ∀ j, (hj : j < l.length) → l.toArray[j]! = l[j] := fun j hj => by simp [hj]
  have gD : ∀ j, (hj : j < l.length) → l.getD j 0 = l[j] := fun j hj => by simp [List.getD_eq_getElem?_getD, hj]
  have asc : ∀ i j, i ≤ j → (hj : j < l.length) → l.getD i 0 ≤ l.getD j 0 := fun i j hij hj => by
    rw [gD j hj, gD i (by omega)]
    rcases Nat.eq_or_lt_of_le hij with e | e
    · subst e; exact Int.le_refl _
    · exact List.pairwise_iff_getElem.1 h i j (by omega) hj e
  refine sorted_ext (r := (· < ·)) (fun x y h1 h2 => by omega) ?_ (dedup_asc h) fun x => ?_
  · unfold compactUpTo
    rw [List.pairwise_map]
    refine List.Pairwise.imp_of_mem (fun {i j} hi hj hij => ?_) (List.Pairwise.filter _ List.pairwise_lt_range)
    obtain ⟨hj1, hj2⟩ := List.mem_filter.1 hj
    have hjl := List.mem_range.1 hj1
    rw [keeps_iff l hjl, decide_eq_true_eq] at hj2
    rw [gd i (by omega), gd j hjl, ← gD i (by omega), ← gD j hjl]
    have h1 := asc i (j - 1) (by omega) (by omega)
    have h2 := asc (j - 1) j (by omega) hjl
    rcases hj2 with h3 | h3
    · omega
    · omega
  · rw [mem_dedup]
    unfold compactUpTo
    rw [List.mem_map]
    constructor
    · rintro ⟨j, hj, rfl⟩
      have hjl := List.mem_range.1 (List.mem_filter.1 hj).1
      rw [gd j hjl]; exact List.getElem_mem _
    · intro hx
      obtain ⟨j, hj, rfl⟩ := List.getElem_of_mem hx
      have key : ∀ j, (hj : j < l.length) → ∃ i, i ∈ (List.range l.length).filter (keeps l.toArray) ∧ l.toArray[i]! = l[j] := by
        intro j
        induction j with
        | zero => exact fun hj => ⟨0, List.mem_filter.2 ⟨List.mem_range.2 hj, by rw [keeps_iff l hj]; simp⟩, gd 0 hj⟩
        | succ j ih =>
          intro hj
          by_cases e : l.getD (j + 1) 0 = l.getD j 0
          · obtain ⟨i, h1, h2⟩ := ih (by omega)
            refine ⟨i, h1, h2.trans ?_⟩
            rw [← gD j (by omega), ← e, gD (j + 1) hj]
          · exact ⟨j + 1, List.mem_filter.2 ⟨List.mem_range.2 hj, by rw [keeps_iff l hj]; simpa using e⟩, gd _ hj⟩
      exact key j hj
theorem putRow_exc (enc : Int → Value) (w : World) (q blk off : Nat) (d : Array Int) : Exc (fun k => k = blk) w (putRow enc (Sort.ahead w q) blk off d) := by
  refine ⟨rfl, rfl, rfl, by simp [putRow, mapBlock, Sort.ahead], fun k _ hn => ?_⟩
  show ((Sort.ahead w q).heap.modify blk _)[k]? = w.heap[k]?
  rw [Array.getElem?_modify, if_neg (fun e => hn e.symm)]
  rfl
theorem dedup_short {l : List Int} (h : l.length < 2) : dedup l = l := by
  match l, h with
  | [], _ => rfl
  | [_], _ => rfl
def NbMid (g0 : Nat) (l : List Int) (w : World) (e : Ending) (w' : World) : Prop := ∃ a c, e = .returned (.slice a l.length c) ∧ Row .u16 w' a l.length c l ∧ Exc (fun k => g0 ≤ k) w w' ∧ ∀ z, a = some z → g0 ≤ z.block
set_option maxHeartbeats 1000000 in
theorem compact16_any (B : Nat) (v : Value) (l : List Int) (n : Nat) (w : World) (hown : w.ownsRow B 53 1 v n (nums .u16 l)) (hn : l.length = n) (hasc : l.Pairwise (· ≤ ·)) (hwf : ∀ x ∈ l, (Lit.int .u16 x).wf = true) (hsz : n ≤ 1000000) :
    Calls Tryz.prog 89 #[v] w (NbMid B (dedup l) w) := by
  by_cases h2 : n < 2
  · obtain ⟨a, c, rfl, hr, _⟩ := ownsRow_rowN .u16 hown hwf
    have e : dedup l = l := dedup_short (by omega)
    have h2i : (n : Int) < 2 := by omega
    rw [e]
    have HR := Lib.hid hr
    have HN := Lib.hid hn
    have HF : Hid (∀ z, a = some z → B ≤ z.block) := Lib.hid (fun z hz => by
      subst hz
      rcases hown.2 with ⟨h0, _⟩ | ⟨g, cap, cur, h0, hb, _⟩
      · cases h0
      · cases h0; exact hb)
    clear hown hn hasc hr e
    go_enter Tryz.func89, Tryz.ntmps89
    go_wp2
    go_ret
    exact ⟨a, c, by rw [HN.out]; rfl, by rw [HN.out]; exact HR.out, Exc.refl _ _, HF.out⟩
  · rcases hown.2 with ⟨rfl, h0⟩ | ⟨g, cap, cur, rfl, hb, hg, hle, hc, hs, ht⟩
    · omega
    · have hOwn : Own w g 53 (nums .u16 l ++ cur.toList.drop (n * 1)) := by
        unfold Own
        rw [hg, ← ht, List.take_append_drop]
      have hH : Holds (Value.int .u16) w g 0 l.toArray := fun j hj => by
        have hj' : j < l.length := by simpa using hj
        have h1 := hOwn.cell j (by simp [nums_length]; omega)
        refine ⟨?_, by rw [Nat.zero_add]; exact hOwn.frozen j⟩
        rw [Nat.zero_add, h1]
        have e3 : (nums .u16 l ++ cur.toList.drop (n * 1))[j]? = (nums .u16 l)[j]? := List.getElem?_append_left (by rw [nums_length]; exact hj')
        rw [List.getD_eq_getElem?_getD, e3]
        simp [nums, hj']
      have hcon := AnyE.slices_Compact layCompact (Value.int .u16) (fun _ => rfl) (EqlAt.intD _ _ .u16) (NeqAt.intD _ _ .u16) 0 (Tryz.zeroValue53) g 0 cap l.toArray w hH (by simp; omega) (by simp; omega)
      have hs1 : l.toArray.size = l.length := by simp
      rw [hs1, compact_dedup hasc, hn] at hcon
      change Calls Tryz.prog 89 _ _ _ at hcon
      refine hcon.mono ?_
      rintro e w' ⟨rfl, q, rfl⟩
      have hdl := dedup_le l
      refine ⟨_, cap, rfl, ⟨rfl, by omega, hc, fun x hx => hwf x (mem_dedup.1 hx), .inr ⟨g, 0, rfl, fun i hi => ?_⟩, by simp⟩, (putRow_exc _ _ _ _ _ _).weak fun i _ hi => by subst hi; exact hb, fun z hz => by cases hz; exact hb⟩
      have hsz2 : (dedup l ++ List.replicate (n - (dedup l).length) 0).toArray.size = l.toArray.size := by simp; omega
      have := cell?_putRow (Value.int .u16) (Sort.ahead w q) g 0 l.toArray _ (holds_ahead _ _ _ _ _ _ hH) hsz2 i (by simp; omega)
      rw [this]
      simp [List.getD_eq_getElem?_getD, List.getElem?_append_left hi, hi]
/-- A list of codes without spare capacity, in memory of the call's own. -/
def NbOut (l : List Int) (w : World) (e : Ending) (w' : World) : Prop := ∃ a, e = .returned (.slice a l.length l.length) ∧ Row .u16 w' a l.length l.length l ∧ Below w.heap.size w w' ∧ ∀ z, a = some z → w.heap.size ≤ z.block
theorem oth_eq {l : Ln} (h : l.A < l.B) (c : Int) : (othB l.A l.B c = true ∧ othO l c = some (othL l.A l.B c)) ∨ (othB l.A l.B c = false ∧ othO l c = none) := by
  unfold othL othB othO
  by_cases h1 : l.A = c
  · have h2 : ¬ l.B = c := by omega
    left; simp [h1, h2]
  · by_cases h2 : l.B = c
    · left; simp [h1, h2]
    · right; simp [h1, h2]
theorem infoU16 : (Tryz.prog.info? 53).map (fun i => (i.zero, i.size, i.bytes)) = some (some (.int .u16 0), 1, 2) := by kernel_rfl
theorem othersL_wf {L : List Ln} {c : Int} (h : ∀ x ∈ L, (0 ≤ x.A ∧ x.A ≤ 65535) ∧ (0 ≤ x.B ∧ x.B ≤ 65535)) : ∀ y ∈ othersL L c, (Lit.int .u16 y).wf = true := fun y hy => by
  unfold othersL at hy
  obtain ⟨l, hl, e⟩ := List.mem_filterMap.1 hy
  have := h l hl
  rw [wf_u16]
  unfold othO at e
  split at e
  · cases e; exact this.2
  · split at e
    · cases e; exact this.1
    · cases e
set_option maxHeartbeats 4000000 in
theorem neighborsOf_any (p : Pn) (a : Option Addr) (n c : Nat) (a' : Option Addr) (n' c' : Nat) (code : Int) (w : World) (hL : LRow w a' n' c' p.L) (hv : ValidPl p) :
    Calls Tryz.prog 59 #[planV a n c a' n' c' p, .int .u16 code] w (NbOut (nbrs p code) w) := by
  unfold planV
  obtain ⟨W, hW⟩ : ∃ W, W = w.alloc (.cells (planCells a n c a' n' c' p).toArray 31) := ⟨_, rfl⟩
  have hB : Below w.heap.size w W := by rw [hW]; exact below_alloc _ _
  have hA : PlanAt W w.heap.size a n c a' n' c' p := by rw [hW]; exact PlanAt.new _ _ _ _ _ _ _ _
  have hmax := hL.max
  have hle := hL.le
  unfold maxLen at hmax
  have hn' : n' ≤ 1024 := by have := hv.nl; have := hL.len; omega
  have HLl := Lib.hid hL.len
  have HL := Lib.hid (hL.later hB)
  have HV := Lib.hid hv
  go_enter Tryz.func59, Tryz.ntmps59
  go_wp2_with fail
  show Code.wp _ _ _ _ (w.alloc (.cells (planCells a n c a' n' c' p).toArray 31))
  rw [← hW]
  obtain ⟨g0, g1, g2, g3, g4, g5, g6⟩ := hA.cells
  have HB := Lib.hid hB
  clear hA hB hW hL hv g0 g2 g3 g4 g5 g6
  go_wp2_with fail
  clear g1
  have HO := Lib.hid (fun (A B C : Int) (W : World) => other_any A B C code W)
  go_loopw [5, 13] (fun v i wr => ∃ k : Nat, k ≤ n' ∧ i = .int .i64 k ∧ Below W.heap.size W wr ∧ wr.ownsRow W.heap.size 53 1 v (othersL (p.L.take k) code).length (nums .u16 (othersL (p.L.take k) code))) (fun _ i _ => n' - (intOf i).toNat)
  case atStart => exact ⟨0, Nat.zero_le _, rfl, Below.refl _ _, by simpa [othersL, nums] using World.ownsRow_nil W W.heap.size 53 1⟩
  case round =>
    obtain ⟨k, hk, rfl, hb, hown⟩ := hrel
    have hsz : W.heap.size ≤ wr.heap.size := hb.size
    have HL2 := Lib.hid (HL.out.later hb)
    have hel := othersL_le (p.L.take k) code
    rw [List.length_take] at hel
    obtain ⟨N, hN⟩ : ∃ N, N = (othersL (p.L.take k) code).length := ⟨_, rfl⟩
    rw [← hN] at hown hel
    have hNk : N ≤ 1024 := by omega
    have HN := Lib.hid hN
    have HW := Lib.hid hown
    have HBr := Lib.hid hb
    clear hb hown hN hel
    by_cases hkn : k < n'
    · obtain ⟨b, off, rfl, hc⟩ := HL2.out.cells.resolve_left (by omega)
      obtain ⟨c0, c1, c2, c3⟩ := hc k hkn
      clear hc
      have hbl : b < wr.heap.size := World.block_lt_of_cell? _ _ c0
      have hkl : k < p.L.length := by have := HLl.out; omega
      have HT := Lib.hid (othersL_take p.L code k hkl)
      have hmem : lnAt p.L k ∈ p.L := by
        have : lnAt p.L k = p.L[k] := by simp [lnAt, List.getD_eq_getElem?_getD, hkl]
        rw [this]; exact List.getElem_mem _
      have HE := Lib.hid (oth_eq (line_of_valid HV.out hmem).1 code)
      clear hmem
      obtain ⟨l, hl⟩ : ∃ l, l = lnAt p.L k := ⟨_, rfl⟩
      rw [← hl] at c0 c1 c2 c3 HE HT
      clear hl
      obtain ⟨A, B, C, D⟩ := l
      simp only at c0 c1 c2 c3 HE
      go_wp2_with fail
      have HBa := Lib.hid (below_alloc wr (.cells #[.int .u16 A, .int .u16 B, .int .u8 C, .int .i64 D] 76))
      clear c0 c1 c2 c3
      with_reducible refine (HO.out A B C _).mono ?_
      rintro e w' ⟨rfl, hb⟩
      have hb2 : Below wr.heap.size wr w' := HBa.out.trans (hb.mono HBa.out.size)
      have HB2 := Lib.hid (HBr.out.trans (hb2.mono HBr.out.size))
      have HW2 := Lib.hid (ownsRow_below HW.out hb2)
      have hsz2 : W.heap.size ≤ w'.heap.size := HB2.out.size
      clear hb hb2
      rcases HE.out with ⟨e1, e2⟩ | ⟨e1, e2⟩
      · have HT2 := Lib.hid (show othersL (p.L.take (k + 1)) code = othersL (p.L.take k) code ++ [othL A B code] by rw [HT.out, e2]; rfl)
        rw [e1]
        clear e1 e2 HE
        generalize othL A B code = y at *
        go_wp2_with (at_builtin; refine wpList_append_one Tryz.underlying55 infoU16 (by decide) rfl _ _ rfl W.heap.size _ _ _ _ rfl (by exact HW2.out) rfl (by omega) hsz2 ?_)
        intro v1 w1 h1 h2 gx cx h3
        have H1 := Lib.hid h1
        have H2 := Lib.hid h2
        clear h1 h2 h3
        go_wp2
        refine ⟨⟨k + 1, by omega, by go_num, HB2.out.trans (H2.out.below hsz2 (fun j hj => (ownBlock_lt HW2.out hj).1)), ?_⟩, by simp [intOf]; omega⟩
        rw [HT2.out, List.length_append, ← HN.out]
        exact H1.out
      · have HT2 := Lib.hid (show othersL (p.L.take (k + 1)) code = othersL (p.L.take k) code by rw [HT.out, e2]; exact List.append_nil _)
        rw [e1]
        clear e1 e2 HE
        go_wp2
        refine ⟨⟨k + 1, by omega, by go_num, HB2.out, ?_⟩, by simp [intOf]; omega⟩
        rw [HT2.out, ← HN.out]
        exact HW2.out
    · obtain rfl : k = n' := by omega
      have hTk : p.L.take k = p.L := List.take_of_length_le (by rw [HLl.out]; exact Nat.le_refl _)
      have hown := HW.out
      rw [hTk] at hown
      have hNl := HN.out
      rw [hTk] at hNl
      have hcon := compact16_any W.heap.size _ _ N wr hown hNl.symm (othersL_asc (ord_of_valid HV.out) (fun _ hl => (line_of_valid HV.out hl).1) code) (othersL_wf fun x hx => ⟨(HL.out.wf x hx).1, (HL.out.wf x hx).2.1⟩) (by omega)
      have HC := Lib.hid hcon
      clear hcon hown hNl hTk
      go_wp2_with fail
      with_reducible refine HC.out.mono ?_
      rintro e w' ⟨a2, c2, rfl, hr, hx, hfr⟩
      have hcl := clip16_any a2 (dedup (othersL p.L code)).length c2 w' hr.le hr.max
      have HCl := Lib.hid hcl
      have HR := Lib.hid hr
      have HX := Lib.hid (HB.out.trans ((HBr.out.trans (hx.below hsz (fun i _ hi => hi))).mono HB.out.size))
      have HFr := Lib.hid (fun z hz => Nat.le_trans HB.out.size (hfr z hz))
      clear hcl hr hx HC hfr
      go_wp2_with fail
      with_reducible refine HCl.out.mono ?_
      rintro e w2 ⟨rfl, rfl⟩
      go_wp2
      go_ret
      exact ⟨a2, rfl, ⟨rfl, Nat.le_refl _, Nat.le_trans HR.out.le HR.out.max, HR.out.wf, HR.out.cells, fun e => by have h1 := HR.out.isNil e; have h2 := HR.out.le; show (dedup (othersL p.L code)).length = 0; omega⟩, HX.out, HFr.out⟩
end Go.Proofs.YthlckipcgogogaaGreatDoor
/- The library's Repeat at one number; a product of one. -/
namespace Go.Proofs.YthlckipcgogogaaGreatDoor
set_option linter.unusedVariables false
open Go.RowKit

theorem and_low : ∀ i : Fin 65, bits BinOp.and IntKind.u64 (i.val : Int) 4294967295 = (i.val : Int) := by decide +kernel
theorem and_one_low : bits BinOp.and IntKind.u64 1 4294967295 = 1 := by decide +kernel
theorem and_zero_low : bits BinOp.and IntKind.u64 0 4294967295 = 0 := by decide +kernel
set_option maxHeartbeats 1000000 in
theorem mul64_any (n : Nat) (w : World) (hn : n ≤ 64) :
    Calls Tryz.prog 133 #[.int .u64 1, .int .u64 (n : Int)] w fun e w' => e = .returned (.tuple #[.int .u64 0, .int .u64 (n : Int)]) ∧ w = w' := by
  have h1 := and_low ⟨n, by omega⟩
  simp only at h1
  have h2 := and_one_low
  have h3 := and_zero_low
  have h4 : (n : Int) / 4294967296 = 0 := by omega
  have h5 : (0 : Int) ≤ (n : Int) := by omega
  have h6 : (n : Int) ≤ 64 := by omega
  go_enter Tryz.func133, Tryz.ntmps133
  go_wp2
  go_ret2
  exact ⟨rfl, rfl⟩
theorem mul_any (n : Nat) (w : World) (hn : n ≤ 64) :
    Calls Tryz.prog 111 #[.int .u64 1, .int .u64 (n : Int)] w fun e w' => e = .returned (.tuple #[.int .u64 0, .int .u64 (n : Int)]) ∧ w = w' := by
  have H := Lib.hid (fun w => mul64_any n w hn)
  have h5 : (0 : Int) ≤ (n : Int) := by omega
  have h6 : (n : Int) ≤ 64 := by omega
  go_enter Tryz.func111, Tryz.ntmps111
  go_wp2_with fail
  with_reducible refine (H.out _).mono ?_
  rintro e w' ⟨rfl, rfl⟩
  go_wp2
  go_ret2
  exact ⟨rfl, rfl⟩
theorem infoI : (Tryz.prog.info? 3).map (fun i => (i.zero, i.size, i.bytes)) = some (some (.int .i64 0), 1, 8) := by kernel_rfl
theorem sizeI : (Tryz.prog.info? 3).map (·.size) = some 1 := by kernel_rfl
theorem makeI (n : Nat) (hn : n ≤ 35184372088832) (w : World) :
    (Instr.makeSlice 58 (.int .i64 (n : Int)) (.int .i64 (n : Int))).run Tryz.prog w = .ok (.slice (some ⟨w.heap.size, 0, none⟩) n n) (w.alloc (.cells (madeCells #[.int .i64 0] n) 3)) :=
  run_make_row' 58 3 (.int .i64 0) 8 Tryz.underlying58 infoI rfl .i64 .i64 n (by omega) (by omega) w
/-- The first k numbers of n are x. -/
def repL (x : Int) (n k : Nat) : List Int := List.replicate k x ++ List.replicate (n - k) 0
theorem repL_length {x : Int} {n k : Nat} (h : k ≤ n) : (repL x n k).length = n := by simp [repL]; omega
theorem repL_splice {x : Int} {n k m : Nat} (h : k + m ≤ n) : splice (nums .i64 (repL x n k)) k (nums .i64 (List.replicate m x)) = nums .i64 (repL x n (k + m)) := by
  have e : nums .i64 (repL x n k) = nums .i64 (List.replicate k x) ++ nums .i64 (List.replicate (n - k) 0) := by simp [repL, nums]
  have l1 : (nums .i64 (List.replicate k x)).length = k := by simp [nums]
  have l2 : (nums .i64 (List.replicate m x)).length = m := by simp [nums]
  unfold splice
  rw [l2, e, List.take_left' l1, List.drop_append, l1, List.drop_of_length_le (by rw [l1]; omega), List.nil_append]
  simp only [repL, nums, List.map_append, List.map_replicate, List.drop_replicate]
  rw [← List.append_assoc, List.replicate_append_replicate]
  congr 2
  omega
def RepOut (x : Int) (n : Nat) (w : World) (e : Ending) (w' : World) : Prop := ∃ g, e = .returned (.slice (some ⟨g, 0, none⟩) n n) ∧ Own w' g 3 (nums .i64 (List.replicate n x)) ∧ w.heap.size ≤ g ∧ Below w.heap.size w w'
theorem min_ints (a b : Nat) : min (a : Int) (b : Int) = ((min a b : Nat) : Int) := by omega
set_option maxRecDepth 100000 in
set_option maxHeartbeats 2000000 in
theorem repeat_any (g : Nat) (x : Int) (n : Nat) (w : World) (hn : n ≤ 64) (h1 : 1 ≤ n) (hg : Own w g 3 [.int .i64 x]) :
    Calls Tryz.prog 90 #[.slice (some ⟨g, 0, none⟩) 1 1, .int .i64 (n : Int)] w (RepOut x n w) := by
  have H := Lib.hid (fun w => mul_any n w hn)
  have h5 : ¬ (n : Int) < 0 := by omega
  have h6 : (n : Int) ≤ 64 := by omega
  have h7 : (0 : Int) ≤ (n : Int) := by omega
  have hM := makeI n (by omega)
  have HG := Lib.hid hg
  clear hg
  go_enter Tryz.func90, Tryz.ntmps90
  go_wp2_with fail
  with_reducible refine (H.out _).mono ?_
  rintro e w' ⟨rfl, rfl⟩
  have hm0 : Own (w.alloc (.cells (madeCells #[.int .i64 0] n) 3)) w.heap.size 3 (nums .i64 (repL x n 0)) := by
    have := own_made .i64 n 3 w
    have e : repL x n 0 = List.replicate n 0 := by simp [repL]
    rw [e]; exact this
  have hcs : ∀ j v, (nums .i64 [x])[j]? = some v → (w.alloc (.cells (madeCells #[.int .i64 0] n) 3)).cell? ⟨g, j, none⟩ = some v := fun j v hj => by
    have hj0 : j = 0 := by
      have := (List.getElem?_eq_some_iff.1 hj).1
      simpa [nums] using this
    subst hj0
    have e : v = .int .i64 x := by simpa [nums] using hj.symm
    subst e
    have := (HG.out.below (below_alloc w (.cells (madeCells #[.int .i64 0] n) 3)) HG.out.lt).cell 0 (by simp)
    simpa using this
  have HM := Lib.hid hm0
  have HCS := Lib.hid hcs
  have HBA := Lib.hid (below_alloc w (.cells (madeCells #[.int .i64 0] n) 3))
  have hmin : (1 : Nat) = Nat.min 1 n := by show 1 = min 1 n; omega
  have HMIN := Lib.hid hmin
  clear hm0 hcs hmin
  go_wp2_with (with_reducible refine wpList_copy_splice rfl (.tmp 31) (.tmp 32) 58 58 rfl 3 Tryz.underlying58 sizeI _ _ n n 1 1 rfl rfl w.heap.size 0 (nums .i64 (repL x n 0)) 3 ?_ (nums .i64 [x]) ?_ ?_ ?_ ?_ w.heap.size w ?_ (Nat.le_refl _) ?_)
  · exact HM.out
  · exact HMIN.out
  · exact fun _ => HCS.out
  · rw [nums_length, nums_length, repL_length (Nat.zero_le _)]; show 0 + 1 ≤ n; omega
  · intro v hv; simp [nums] at hv; subst hv; rfl
  · exact HBA.out
  intro w1 hg1 hb1
  have hg2 : Own w1 w.heap.size 3 (nums .i64 (repL x n 1)) := by
    have := hg1.out
    have e := repL_splice (x := x) (n := n) (k := 0) (m := 1) (by omega)
    rw [show nums .i64 [x] = nums .i64 (List.replicate 1 x) from rfl, e] at this
    exact this
  have HG1 := Lib.hid hg2
  have HB1 := Lib.hid hb1
  clear hg1 hb1 hg2 HM HCS HBA HMIN hM HG
  go_wp2_with fail
  go_loopw [8] (fun i wr => ∃ k : Nat, 1 ≤ k ∧ k ≤ n ∧ i = .int .i64 k ∧ Own wr w.heap.size 3 (nums .i64 (repL x n k)) ∧ Below w.heap.size w wr) (fun i _ => n - (intOf i).toNat)
  case atStart => exact ⟨1, Nat.le_refl _, h1, rfl, HG1.out, HB1.out⟩
  case round =>
    obtain ⟨k, hk1, hk, rfl, ho, hb⟩ := hrel
    have HO := Lib.hid ho
    have HB := Lib.hid hb
    clear ho hb
    by_cases hkn : k < n
    · have i1 : (0 : Int) ≤ (k : Int) := by omega
      have i2 : (k : Int) ≤ (n : Int) := by omega
      have hnk : ¬ n = k := by omega
      obtain ⟨m, hm⟩ : ∃ m, m = min k (n - k) := ⟨_, rfl⟩
      have hm1 : 1 ≤ m := by omega
      have hm2 : k + m ≤ n := by omega
      have i3 : IntKind.i64.wrap ((k : Int) + (m : Int)) = ((k + m : Nat) : Int) := by rw [IntWalk.i64_in _ (by omega)]; omega
      have hcs : ∀ j v, (nums .i64 (List.replicate m x))[j]? = some v → wr.drew.cell? ((⟨w.heap.size, 0, none⟩ : Addr).add j) = some v := fun j v hj => by
        have hj0 := (List.getElem?_eq_some_iff.1 hj).1
        have hjm : j < m := by simpa [nums] using hj0
        have e : v = .int .i64 x := by
          rw [nums, List.map_replicate, List.getElem?_replicate, if_pos hjm] at hj
          exact (Option.some.inj hj).symm
        subst e
        have := HO.out.cell j (by rw [nums_length, repL_length hk]; omega)
        rw [nums_getD _ _ _ (by rw [repL_length hk]; omega)] at this
        have e2 : (repL x n k).getD j 0 = x := by
          unfold repL
          rw [List.getD_eq_getElem?_getD, List.getElem?_append_left (by simp; omega), List.getElem?_replicate, if_pos (by omega)]; rfl
        rw [e2] at this
        have e3 : (⟨w.heap.size, 0, none⟩ : Addr).add j = ⟨w.heap.size, j, none⟩ := by unfold Addr.add; split <;> simp_all
        rw [e3]; exact this
      have HCS := Lib.hid hcs
      have HMin := Lib.hid (show (nums .i64 (List.replicate m x)).length = Nat.min k (n - k) by rw [nums_length, List.length_replicate]; exact hm)
      have HD : Hid (wr.drew.heap[w.heap.size]? = some (.cells (nums .i64 (repL x n k)).toArray 3 (0, 0))) := Lib.hid HO.out
      have HBD : Hid (Below w.heap.size w wr.drew) := Lib.hid (HB.out.trans ((below_draw wr 1).mono HB.out.size))
      have HFit := Lib.hid (show k + (nums .i64 (List.replicate m x)).length ≤ (nums .i64 (repL x n k)).length by rw [nums_length, nums_length, repL_length hk, List.length_replicate]; exact hm2)
      have HOne := Lib.hid (show ∀ v ∈ nums .i64 (List.replicate m x), v.oneCell' = true from fun v hv => by simp [nums] at hv; rw [hv.2]; rfl)
      clear hcs hm
      go_wp2_with fail
      go_region_law (refine step_copy_splice rfl (.tmp 41) (.tmp 44) 58 58 rfl 3 Tryz.underlying58 sizeI (some ⟨w.heap.size, k, none⟩) (some ⟨w.heap.size, 0, none⟩) (n - k) (n - k) k n (by simp [Act.eval, Act.put]) (by simp [Act.eval, Act.put]) w.heap.size k (nums .i64 (repL x n k)) 3 HD.out (nums .i64 (List.replicate m x)) HMin.out (fun _ => ⟨rfl, _, rfl, HCS.out⟩) HFit.out HOne.out w.heap.size w HBD.out (Nat.le_refl _) ?_; intro w4 hg4 hb4)
      all_goals
        have hg5 : Own w4 w.heap.size 3 (nums .i64 (repL x n (k + m))) := by
          have := hg4.out
          rw [repL_splice hm2] at this
          exact this
        have HG5 := Lib.hid hg5
        have HB5 := Lib.hid hb4
        have hnl : (nums .i64 (List.replicate m x)).length = m := by rw [nums_length, List.length_replicate]
        simp only [hnl, i3]
        clear hg4 hg5 hb4 HD HCS HBD HFit HOne HMin hnl
        go_simp
        go_wp2
        exact ⟨⟨k + m, by omega, hm2, rfl, HG5.out, HB5.out⟩, by simp [intOf]; omega⟩
    · have hkn' : k = n := by omega
      subst hkn'
      go_wp2
      go_ret
      refine ⟨w.heap.size, rfl, ?_, Nat.le_refl _, HB.out⟩
      have := HO.out
      rwa [show repL x k k = List.replicate k x by simp [repL]] at this
end Go.Proofs.YthlckipcgogogaaGreatDoor
