/- The walk of SumsFew. -/
import Derived.Test.YtkalpjccfknopaaDoorSumsLives
import Derived.Test.YtkalpjccfknopaaDoorSumsChanged
namespace Go.Proofs.YtkalpjccfknopaaDoor
open Go.RowKit

/-- The places of the first i positions, each once. -/
def ddp (xs : List Int) (N : Nat) : Nat → List Nat
  | 0 => []
  | i + 1 => if (xs.getD i 0).toNat % N ∈ ddp xs N i then ddp xs N i else ddp xs N i ++ [(xs.getD i 0).toNat % N]
theorem ddp_lt {N : Nat} (hN : 0 < N) (xs : List Int) (i : Nat) : ∀ j ∈ ddp xs N i, j < N := by
  induction i with
  | zero => intro j hj; simp [ddp] at hj
  | succ i ih =>
    intro j hj
    rw [ddp] at hj
    split at hj
    · exact ih j hj
    · rw [List.mem_append] at hj
      rcases hj with hj | hj
      · exact ih j hj
      · simp at hj
        rw [hj]; exact Nat.mod_lt _ hN
theorem ddp_nodup (xs : List Int) (N i : Nat) : (ddp xs N i).Nodup := by
  induction i with
  | zero => simp [ddp]
  | succ i ih =>
    rw [ddp]
    split
    · exact ih
    · rename_i h
      rw [List.nodup_append]
      refine ⟨ih, by simp, ?_⟩
      intro a ha b hb
      simp at hb
      rintro rfl
      exact h (hb ▸ ha)
theorem ddp_len (xs : List Int) (N i : Nat) : (ddp xs N i).length ≤ i := by
  induction i with
  | zero => simp [ddp]
  | succ i ih =>
    rw [ddp]
    split
    · omega
    · rw [List.length_append]; simp; omega
def boolsL (acc : List Nat) (N : Nat) : List Value := (List.range N).map (fun j => .bool (decide (j ∈ acc)))
theorem boolsL_length (acc : List Nat) (N : Nat) : (boolsL acc N).length = N := by simp [boolsL]
theorem boolsL_getD (acc : List Nat) (N j : Nat) (h : j < N) : (boolsL acc N).getD j undef = .bool (decide (j ∈ acc)) := by
  simp [boolsL, List.getD_eq_getElem?_getD, h]
theorem boolsL_set (acc : List Nat) (N K : Nat) : (boolsL acc N).set K (.bool true) = boolsL (acc ++ [K]) N := by
  apply List.ext_getElem
  · simp [boolsL]
  · intro i h1 h2
    rw [List.getElem_set]
    simp only [boolsL, List.getElem_map, List.getElem_range, List.mem_append, List.mem_singleton]
    by_cases h : K = i
    · subst h; simp
    · have : ¬ i = K := fun e => h e.symm
      simp [h, this]
theorem infoB : (Tryd.prog.info? 4).map (fun i => (i.zero, i.size, i.bytes)) = some (some (.bool false), 1, 1) := by kernel_rfl
theorem makeB (n : Nat) (hn : n ≤ 100000) (w : World) :
    (Instr.makeSlice 43 (.int .i64 (n : Int)) (.int .i64 (n : Int))).run Tryd.prog w = .ok (.slice (some ⟨w.heap.size, 0, none⟩) n n) (w.alloc (.cells (madeCells #[.bool false] n) 4)) :=
  run_make_row' 43 4 (.bool false) 1 Tryd.underlying43 infoB rfl .i64 .i64 n (by omega) (by omega) w
theorem own_bools (n : Nat) (w : World) : Own (w.alloc (.cells (madeCells #[.bool false] n) 4)) w.heap.size 4 (boolsL [] n) := by
  unfold Own
  rw [heap_alloc_new w _]
  congr 2
  apply Array.ext
  · simp [madeCells, boolsL]
  · intro i h1 h2
    simp [madeCells, boolsL, Nat.mod_one]
theorem ofN_wf64 {l : List Nat} (h : ∀ x ∈ l, x < 100000) : ∀ x ∈ ofN l, (Lit.int .i64 x).wf = true := by
  intro x hx
  simp only [ofN, List.mem_map] at hx
  obtain ⟨y, hy, rfl⟩ := hx
  have := h y hy
  exact wf_i64.2 (by simp; omega)
/-- append(v, y), the new element's block named by a number. -/
theorem wpList_append_one_at {k : IntKind} {t e : TypeId} {bytes : Nat} (ht : Tryd.prog.underlying t = some (.slice e)) (hin : (Tryd.prog.info? e).map (fun i => (i.zero, i.size, i.bytes)) = some (some (.int k 0), 1, bytes)) (hby8 : bytes ≤ 8)
    {ops : Array Oper} {rest : List Oper} {o : Oper} {a : Act} {Q : Exit → Act → World → Prop} {w0 : World} (hgd : o.guard = none) (s x : Operand)
    (ho : o.op = .call { callee := .builtin .append, args := #[s, x], argTypes := #[t, t] })
    (H : Nat) (hH : w0.heap.size = H) (B : Nat) (v : Value) (n : Nat) (xs : List Int) (y : Int) (hs : a.eval s = v) (hown : w0.ownsRow B e 1 v n (nums k xs)) (hx : a.eval x = .slice (some ⟨H, 0, none⟩) 1 1)
    (hn : n + 1 ≤ 2199023255552) (hB : B ≤ w0.heap.size)
    (h : ∀ v' w', w'.ownsRow B e 1 v' (n + 1) (nums k (xs ++ [y])) → Grow v w0 v' w' → (∃ g c, v' = .slice (some ⟨g, 0, none⟩) (n + 1) c) → wpList Tryd.prog ops Q rest (a.put o.dst v') w') :
    wpList Tryd.prog ops Q (o :: rest) a (w0.alloc (.cells #[.int k y] e)) := by
  subst hH
  exact wpList_append_one ht hin hby8 hgd s x ho B v n xs y hs hown hx hn hB h
set_option maxHeartbeats 4000000 in
set_option maxRecDepth 100000 in
theorem sumsFew_walk (a : Option Addr) (n c : Nat) (l : List Int) (ax : Option Addr) (nx cx : Nat) (lx : List Int) (w : World) (hbeh : BehindOk w) (h : Row .u8 w a n c l) (hx : Row .u16 w ax nx cx lx) :
    Calls Tryd.prog 8 #[.slice a n c, .slice ax nx cx] w fun e w' => e = .returned (.bool true) ∧ Below w.heap.size w w' := by
  have BB0 := Lib.hid (Below.refl w.heap.size w)
  have HB0 := Lib.hid hbeh
  have RX := Lib.hid h
  have hcm := h.max
  have hle := h.le
  have hcmx := hx.max
  have hlex := hx.le
  unfold maxLen at hcm hcmx
  by_cases hbig : 280 < n
  · clear h hx hbeh
    go_enter Tryd.func8, Tryd.ntmps8
    go_wp2_with fail
    refine (lives_any _ HB0.out).mono ?_
    rintro e w11 ⟨rfl, hb⟩
    have BB12 := Lib.hid (BB0.out.trans ((hb).mono BB0.out.size))
    clear hb BB0 HB0
    go_wp2
    go_ret
    exact ⟨rfl, BB12.out⟩
  · by_cases hbigx : 40 < nx
    · clear h hx hbeh
      go_enter Tryd.func8, Tryd.ntmps8
      go_wp2_with fail
      refine (lives_any _ HB0.out).mono ?_
      rintro e w11 ⟨rfl, hb⟩
      have BB12 := Lib.hid (BB0.out.trans ((hb).mono BB0.out.size))
      clear hb BB0 HB0
      go_wp2
      go_ret
      exact ⟨rfl, BB12.out⟩
    · have hoct := h.octs
      have hll := h.len
      have hxc := hx.cells
      have hxw := hx.wf
      have hxl := hx.len
      obtain ⟨N, hN⟩ : ∃ N, N = 8 * (n + 2) := ⟨_, rfl⟩
      have hN0 : 0 < N := by omega
      have hN1 : N ≤ 2256 := by omega
      have hNi : 8 * ((n : Int) + 2) = (N : Int) := by omega
      have hmk := makeB N (by omega) w
      have hob := own_bools N w
      obtain ⟨W1, hW1⟩ : ∃ W1, W1 = w.alloc (.cells (madeCells #[.bool false] N) 4) := ⟨_, rfl⟩
      have hb1 : Below w.heap.size w W1 := by rw [hW1]; exact below_alloc _ _
      have hs1 : W1.heap.size = w.heap.size + 1 := by rw [hW1]; simp
      rw [← hW1] at hmk hob
      clear hW1
      have HOct := Lib.hid hoct
      have HLL := Lib.hid hll
      have HN := Lib.hid hN
      have HXc := Lib.hid hxc
      have HXw := Lib.hid hxw
      have HXl := Lib.hid hxl
      have HOb := Lib.hid hob
      have HB1 := Lib.hid hb1
      have HS1 := Lib.hid hs1
      clear h hx hbeh hoct hll hN hxc hxw hxl hob hb1 hs1 BB0
      go_enter Tryd.func8, Tryd.ntmps8
      go_wp2
      go_loopw [6, 8] (fun u ii wr => ∃ i : Nat, i ≤ nx ∧ ii = .int .i64 i ∧ Below w.heap.size w wr ∧ w.heap.size + 1 ≤ wr.heap.size ∧ Own wr w.heap.size 4 (boolsL (ddp lx N i) N) ∧ wr.ownsRow (w.heap.size + 1) 3 1 u (ddp lx N i).length (nums .i64 (ofN (ddp lx N i)))) (fun _ ii _ => nx - (intOf ii).toNat)
      case atStart => exact ⟨0, Nat.zero_le _, rfl, HB1.out, Nat.le_of_eq HS1.out.symm, HOb.out, by simpa [nums, ofN, ddp] using World.ownsRow_nil _ (w.heap.size + 1) 3 1⟩
      case round =>
        obtain ⟨i, hin, rfl, hbel, hsz, hown, hrow⟩ := hrel
        have hdl := ddp_len lx N i
        have hdlt := ddp_lt hN0 lx i
        by_cases hlt : i < nx
        · obtain ⟨xb, xo, rfl, hcc⟩ : ∃ p q, ax = some ⟨p, q, none⟩ ∧ ∀ j, j < nx → w.cell? ⟨p, q + j, none⟩ = some (.int .u16 (lx.getD j 0)) := by
            rcases HXc.out with h0 | ⟨b, o, ha, hc⟩
            · omega
            · exact ⟨b, o, ha, hc⟩
          have g0 := hcc i hlt
          have hblk : xb < w.heap.size := World.block_lt_of_cell? w _ g0
          have hxr := wf_u16.1 (HXw.out (lx.getD i 0) (by rw [List.getD_eq_getElem?_getD, List.getElem?_eq_getElem (by rw [HXl.out]; exact hlt), Option.getD_some]; exact List.getElem_mem _))
          have hsucc : ddp lx N (i + 1) = if (lx.getD i 0).toNat % N ∈ ddp lx N i then ddp lx N i else ddp lx N i ++ [(lx.getD i 0).toNat % N] := rfl
          obtain ⟨x, hxe⟩ : ∃ x, x = lx.getD i 0 := ⟨_, rfl⟩
          rw [← hxe] at g0 hxr hsucc
          obtain ⟨hx0, hx1⟩ := hxr
          obtain ⟨X, rfl⟩ := Int.eq_ofNat_of_zero_le hx0
          rw [Int.toNat_natCast] at hsucc
          obtain ⟨K, hK⟩ : ∃ K, K = X % N := ⟨_, rfl⟩
          have hKN : K < N := by rw [hK]; exact Nat.mod_lt _ hN0
          have hKi : (X : Int) % (N : Int) = (K : Int) := by rw [hK]; omega
          rw [← hK] at hsucc
          have g1 : wr.cell? ⟨xb, xo + i, none⟩ = some (.int .u16 (X : Int)) := by rw [hbel.cell (p := ⟨xb, xo + i, none⟩) hblk]; exact g0
          obtain ⟨A, hA⟩ : ∃ A, A = ddp lx N i := ⟨_, rfl⟩
          rw [← hA] at hown hrow hsucc hdl
          obtain ⟨m, hm⟩ : ∃ m, m = A.length := ⟨_, rfl⟩
          rw [← hm] at hrow hdl
          have hcell := hown.cell K (by rw [boolsL_length]; exact hKN)
          rw [boolsL_getD _ _ _ hKN] at hcell
          have hfr := hown.frozen K
          by_cases hmem : K ∈ A
          · rw [if_pos hmem] at hsucc
            rw [decide_eq_true hmem] at hcell
            rw [← hsucc] at hown
            rw [hm, ← hsucc] at hrow
            have HBel := Lib.hid hbel
            have HOwn := Lib.hid hown
            have HRow := Lib.hid hrow
            clear hbel hown hrow hsucc hmem hm hA hxe hK hcc g0 hdlt hdl
            go_wp2
            exact ⟨⟨i + 1, by omega, by go_num, HBel.out, hsz, HOwn.out, HRow.out⟩, by simp [intOf]; omega⟩
          · rw [if_neg hmem] at hsucc
            rw [decide_eq_false hmem] at hcell
            have hown2 := hown.set K (.bool true)
            rw [boolsL_set, ← hsucc] at hown2
            have hbel2 := hbel.setCell (p := ⟨w.heap.size, K, none⟩) (Nat.le_refl _) (.bool true)
            have hrow2 : (wr.setCell ⟨w.heap.size, K, none⟩ (.bool true)).ownsRow (w.heap.size + 1) 3 1 u6 m (nums .i64 (ofN A)) := ownsRow_exc (S := fun j => j = w.heap.size) hrow (((Exc.refl (fun j => j = w.heap.size) wr).setCell ⟨w.heap.size, K, none⟩ (.inl rfl) (.bool true))) (fun j hj hh => by have := (World.ownsRow.lt hrow j hj).1; omega)
            have hsz2 : w.heap.size + 1 ≤ (wr.setCell ⟨w.heap.size, K, none⟩ (.bool true)).heap.size := by simp [World.setCell]; omega
            have HBel2 := Lib.hid hbel2
            have HOwn2 := Lib.hid hown2
            have HRow2 := Lib.hid hrow2
            have HSucc := Lib.hid hsucc
            have Hm := Lib.hid hm
            have HSz2 := Lib.hid hsz2
            clear hbel hown hrow hbel2 hown2 hrow2 hsucc hmem hm hA hxe hK hcc g0 hdlt hsz2
            have hm41 : m ≤ 41 := by omega
            clear hdl
            go_wp2_with (at_builtin; refine wpList_append_one_at Tryd.underlying39 info64 (by decide) rfl _ _ rfl wr.heap.size (by simp [World.setCell]) (w.heap.size + 1) _ _ _ _ rfl (by exact HRow2.out) rfl (by omega) (by exact HSz2.out) ?_)
            intro v1 W9 hown1 hgr gv1 cv1 hv1
            clear hv1
            have hb9 := HBel2.out.trans (hgr.below (B := w.heap.size) (by have := HSz2.out; omega) (fun j hj => by have := (World.ownsRow.lt HRow2.out j hj).1; omega))
            have ho9 : Own W9 w.heap.size 4 (boolsL (ddp lx N (i + 1)) N) := by
              unfold Own; rw [hgr.exc.block w.heap.size (by have := HSz2.out; omega) (fun hh => by have := (World.ownsRow.lt HRow2.out _ hh).1; omega)]; exact HOwn2.out
            have hs9 : w.heap.size + 1 ≤ W9.heap.size := Nat.le_trans HSz2.out hgr.exc.size
            have e1 : ofN A ++ [(K : Int)] = ofN (ddp lx N (i + 1)) := by rw [HSucc.out]; simp [ofN]
            have e2 : m + 1 = (ddp lx N (i + 1)).length := by rw [HSucc.out, List.length_append, ← Hm.out]; rfl
            rw [e1, e2] at hown1
            have HO1 := Lib.hid hown1
            have HB9 := Lib.hid hb9
            have HO9 := Lib.hid ho9
            clear hown1 hb9 ho9 hgr e1 e2
            go_wp2
            exact ⟨⟨i + 1, by omega, by go_num, HB9.out, hs9, HO9.out, HO1.out⟩, by simp [intOf]; omega⟩
        · have hfew := fun h0 h1 => Crc.marks_few (N := N) (by omega) (ddp lx N i) hdlt (ddp_nodup lx N i) h0 h1
          obtain ⟨B, hB⟩ : ∃ B, B = ddp lx N i := ⟨_, rfl⟩
          rw [← hB] at hrow hfew hdlt hdl
          clear hB hown
          obtain ⟨m, hm⟩ : ∃ m, m = B.length := ⟨_, rfl⟩
          rw [← hm] at hrow hdl hfew
          have hwf : ∀ x ∈ ofN B, (Lit.int .i64 x).wf = true := ofN_wf64 (fun j hj => Nat.lt_trans (hdlt j hj) (by omega))
          obtain ⟨aB, cB, rfl, rB, _⟩ := ownsRow_at .i64 hrow hwf
          have hlt8 : ∀ j ∈ B, j < 8 * (n + 2) := fun j hj => by have := hdlt j hj; rw [HN.out] at this; exact this
          have hchk := changed_check HOct.out HLL.out hlt8
          rw [← HN.out] at hchk
          have hRX := RX.out.later hbel
          have hHB := HB0.out.later hbel
          have hcon := changed_any a n c l aB m cB B wr hHB hRX rB (by omega) hlt8
          obtain ⟨F, hF⟩ : ∃ F, F = ofN (Crc.flips (toN (addL l)) B) := ⟨_, rfl⟩
          rw [← hF] at hcon hchk
          clear hF
          have HCon := Lib.hid hcon
          have HChk := Lib.hid hchk
          have HFew := Lib.hid hfew
          have Hm := Lib.hid hm
          have BB1 := Lib.hid hbel
          have HB1 := Lib.hid hHB
          clear hcon hchk hfew hdlt hlt8 hRX hHB hbel hrow hwf rB HB0 hm
          by_cases hnil : B = []
          · have hgood := HChk.out.2 (by rw [hnil]; rfl)
            have hm0 : m = 0 := by rw [Hm.out, hnil]; rfl
            clear hnil HFew
            subst hm0
            have HG := Lib.hid hgood
            clear hgood
            go_wp2_with fail
            refine (HCon.out).mono ?_
            rintro e w21 ⟨⟨aF, cF, rfl, rF⟩, hb⟩
            have BB22 := Lib.hid (BB1.out.trans ((hb).mono BB1.out.size))
            have HB23 := Lib.hid (HB1.out.later (hb))
            have RF24 := Lib.hid (rF)
            clear hb rF BB1 HB1
            go_wp2_with fail
            refine (check_ok _ (n + 2) cF n F _ _ HB23.out RF24.out rfl (by omega) HG.out rfl).mono ?_
            rintro e w25 ⟨⟨gK, rfl, rK, oK, hgK⟩, hb⟩
            have BB26 := Lib.hid (BB22.out.trans ((hb).mono BB22.out.size))
            have HB27 := Lib.hid (HB23.out.later (hb))
            have RF28 := Lib.hid (RF24.out.later (hb))
            clear hb rK oK hgK BB22 HB23 RF24
            go_wp2_with fail
            refine (lives_any _ HB27.out).mono ?_
            rintro e w29 ⟨rfl, hb⟩
            have BB30 := Lib.hid (BB26.out.trans ((hb).mono BB26.out.size))
            clear hb BB26 HB27 RF28
            go_wp2
            go_ret
            exact ⟨rfl, BB30.out⟩
          · have hmp : 0 < m := by rw [Hm.out]; exact List.length_pos_iff.2 hnil
            have hm1 : ((m : Int) == 0) = false := by simp; omega
            by_cases hz : Crc.marks N B = 0
            · have hgood := HChk.out.2 hz
              have h3 : 3 < m ∧ m % 2 = 0 := Classical.byContradiction fun hh => HFew.out hnil hh hz
              obtain ⟨h3, h4⟩ := h3
              have h4i : (m : Int) % 2 = 0 := by omega
              have HG := Lib.hid hgood
              clear hgood hz hnil HFew h4
              go_wp2_with fail
              refine (HCon.out).mono ?_
              rintro e w21 ⟨⟨aF, cF, rfl, rF⟩, hb⟩
              have BB22 := Lib.hid (BB1.out.trans ((hb).mono BB1.out.size))
              have HB23 := Lib.hid (HB1.out.later (hb))
              have RF24 := Lib.hid (rF)
              clear hb rF BB1 HB1
              go_wp2_with fail
              refine (check_ok _ (n + 2) cF n F _ _ HB23.out RF24.out rfl (by omega) HG.out rfl).mono ?_
              rintro e w25 ⟨⟨gK, rfl, rK, oK, hgK⟩, hb⟩
              have BB26 := Lib.hid (BB22.out.trans ((hb).mono BB22.out.size))
              have HB27 := Lib.hid (HB23.out.later (hb))
              have RF28 := Lib.hid (RF24.out.later (hb))
              clear hb rK oK hgK BB22 HB23 RF24
              go_wp2_with fail
              refine (lives_any _ HB27.out).mono ?_
              rintro e w29 ⟨rfl, hb⟩
              have BB30 := Lib.hid (BB26.out.trans ((hb).mono BB26.out.size))
              clear hb BB26 HB27 RF28
              go_wp2
              go_ret
              exact ⟨rfl, BB30.out⟩
            · have hbad := fun hh => hz (HChk.out.1 hh)
              have HG := Lib.hid hbad
              clear hbad hz hnil HFew
              go_wp2_with fail
              refine (HCon.out).mono ?_
              rintro e w21 ⟨⟨aF, cF, rfl, rF⟩, hb⟩
              have BB22 := Lib.hid (BB1.out.trans ((hb).mono BB1.out.size))
              have HB23 := Lib.hid (HB1.out.later (hb))
              have RF24 := Lib.hid (rF)
              clear hb rF BB1 HB1
              go_wp2_with fail
              refine (check_no _ (n + 2) cF n F _ HB23.out RF24.out rfl (by omega) HG.out).mono ?_
              rintro e w' ⟨rfl, q25, rfl⟩
              have hb := below_draw w21 q25
              obtain ⟨w25, hw⟩ : ∃ x, x = (w21).drewN q25 := ⟨_, rfl⟩
              rw [← hw] at hb ⊢
              have BB26 := Lib.hid (BB22.out.trans ((hb).mono BB22.out.size))
              have HB27 := Lib.hid (HB23.out.later (hb))
              have RF28 := Lib.hid (RF24.out.later (hb))
              clear hb hw BB22 HB23 RF24
              go_wp2_with fail
              refine (lives_any _ HB27.out).mono ?_
              rintro e w29 ⟨rfl, hb⟩
              have BB30 := Lib.hid (BB26.out.trans ((hb).mono BB26.out.size))
              clear hb BB26 HB27 RF28
              go_wp2
              go_ret
              exact ⟨rfl, BB30.out⟩
end Go.Proofs.YtkalpjccfknopaaDoor
