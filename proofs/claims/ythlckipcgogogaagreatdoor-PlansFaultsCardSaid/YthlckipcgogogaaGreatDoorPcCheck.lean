/- Joined: PcChk PcCheck. -/
import Derived.Test.YthlckipcgogogaaGreatDoorLbCmp
import Derived.Test.YthlckipcgogogaaGreatDoorPcLines
import Derived.BigQuiet
/- The code's hasPlaces, hasEnds, hasNumbers. -/
namespace Go.Proofs.YthlckipcgogogaaGreatDoor
set_option linter.unusedVariables false
open Go.RowKit

set_option maxHeartbeats 1000000 in
theorem hasPlaces_any (p : Pn) (a : Option Addr) (n c : Nat) (a' : Option Addr) (n' c' : Nat) (g : Nat) (l : List Int) (m : Nat) (hm : l.length = m) (hm2 : m ≤ 3) (w : World) (hP : PRow w a n c p.P) (hg : Own w g 53 (nums .u16 l)) :
    Calls Tryz.prog 82 #[planV a n c a' n' c' p, .slice (some ⟨g, 0, none⟩) m m] w fun e w' => e = .returned (.bool (!badI p.P l)) ∧ Below w.heap.size w w' := by
  unfold planV
  obtain ⟨W, hW⟩ : ∃ W, W = w.alloc (.cells (planCells a n c a' n' c' p).toArray 31) := ⟨_, rfl⟩
  have hB : Below w.heap.size w W := by rw [hW]; exact below_alloc _ _
  have hA : PlanAt W w.heap.size a n c a' n' c' p := by rw [hW]; exact PlanAt.new _ _ _ _ _ _ _ _
  have hC := contains_any p a n c a' n' c' w.heap.size g l m hm hm2 W hA (hP.later hB) (hg.below hB hg.lt)
  have HC := Lib.hid hC
  have HB := Lib.hid hB
  clear hC hA hB hP hg hm
  go_enter Tryz.func82, Tryz.ntmps82
  go_wp2_with fail
  show Calls _ _ _ (w.alloc (.cells (planCells a n c a' n' c' p).toArray 31)) _
  rw [← hW]
  clear hW
  with_reducible refine HC.out.mono ?_
  rintro e w' ⟨rfl, hb⟩
  have HB2 := Lib.hid hb
  clear hb
  go_wp2
  go_ret
  exact ⟨rfl, HB.out.trans (HB2.out.mono HB.out.size)⟩
def hasEn (p : Pn) : Bool := (List.range p.L.length).all (okEnd p.P p.L)
theorem hasEn_no {p : Pn} {k : Nat} (hk : k < p.L.length) (h : okEnd p.P p.L k = false) : hasEn p = false := by unfold hasEn; rw [all_range_no hk h]
theorem hasEn_ok {p : Pn} (h : ∀ i, i < p.L.length → okEnd p.P p.L i = true) : hasEn p = true := by unfold hasEn; rw [all_range.2 h]
theorem badI_two {P : List (Int × Bool)} {L : List Ln} {k : Nat} {A B C D : Int} (h : ⟨A, B, C, D⟩ = lnAt L k) : okEnd P L k = !badI P [A, B] := by
  have e : badI P [A, B] = (!isB P A || !isB P B) := by simp [badI]
  rw [e]
  unfold okEnd isB
  rw [← h]
  show ((fnd P A).isSome && (fnd P B).isSome) = !(!(fnd P A).isSome || !(fnd P B).isSome)
  generalize (fnd P A).isSome = x
  generalize (fnd P B).isSome = y
  cases x <;> cases y <;> rfl
set_option maxHeartbeats 2000000 in
theorem hasEnds_any (p : Pn) (a : Option Addr) (n c : Nat) (a' : Option Addr) (n' c' : Nat) (w : World) (hP : PRow w a n c p.P) (hL : LRow w a' n' c' p.L) :
    Calls Tryz.prog 52 #[planV a n c a' n' c' p] w fun e w' => e = .returned (.bool (hasEn p)) ∧ Below w.heap.size w w' := by
  unfold planV
  obtain ⟨W, hW⟩ : ∃ W, W = w.alloc (.cells (planCells a n c a' n' c' p).toArray 31) := ⟨_, rfl⟩
  have hB : Below w.heap.size w W := by rw [hW]; exact below_alloc _ _
  have hA : PlanAt W w.heap.size a n c a' n' c' p := by rw [hW]; exact PlanAt.new _ _ _ _ _ _ _ _
  have hmax := hL.max
  have hle := hL.le
  unfold maxLen at hmax
  have HLl := Lib.hid hL.len
  have HP := Lib.hid (hP.later hB)
  have HL := Lib.hid (hL.later hB)
  obtain ⟨B0, hB0⟩ : ∃ B0, B0 = hasEn p := ⟨_, rfl⟩
  rw [← hB0]
  have HR := Lib.hid hB0
  clear hB0
  go_enter Tryz.func52, Tryz.ntmps52
  go_wp2_with fail
  show Code.wp _ _ _ _ (w.alloc (.cells (planCells a n c a' n' c' p).toArray 31))
  rw [← hW]
  obtain ⟨g0, g1, _⟩ := hA.cells
  have HA := Lib.hid hA
  have HB := Lib.hid hB
  have hlt0 : w.heap.size < W.heap.size := hA.lt
  clear hA hB hW hP hL g0
  go_wp2_with fail
  clear g1
  have hC := fun (g : Nat) (A B : Int) (W : World) (hp : PRow W a n c p.P) (hg : Own W g 53 (nums .u16 [A, B])) => hasPlaces_any p a n c a' n' c' g [A, B] 2 rfl (by omega) W hp hg
  simp only [planV] at hC
  have HC := Lib.hid hC
  clear hC
  go_loopw [8] (fun i wr => ∃ k : Nat, k ≤ n' ∧ i = .int .i64 k ∧ (∀ j, j < k → okEnd p.P p.L j = true) ∧ Below W.heap.size W wr) (fun i _ => n' - (intOf i).toNat)
  case atStart => exact ⟨0, Nat.zero_le _, rfl, fun j hj => absurd hj (Nat.not_lt_zero _), Below.refl _ _⟩
  case round =>
    obtain ⟨k, hk, rfl, hno, hb⟩ := hrel
    have HN := Lib.hid hno
    have HB2 := Lib.hid hb
    obtain ⟨g0, g1, g2, g3, g4, g5, g6⟩ := (HA.out.later hb).cells
    have HL2 := Lib.hid (HL.out.later hb)
    have hlt1 : w.heap.size < wr.heap.size := Nat.lt_of_lt_of_le hlt0 hb.size
    clear hno hb
    by_cases hkn : k < n'
    · obtain ⟨b, off, rfl, hc⟩ := HL2.out.cells.resolve_left (by omega)
      obtain ⟨c0, c1, c2, c3⟩ := hc k hkn
      clear hc
      have hbl : b < wr.heap.size := World.block_lt_of_cell? _ _ c0
      obtain ⟨l, hl⟩ : ∃ l, l = lnAt p.L k := ⟨_, rfl⟩
      rw [← hl] at c0 c1 c2 c3
      have HX := Lib.hid hl
      clear hl
      obtain ⟨A, B, C, D⟩ := l
      simp only at c0 c1 c2 c3
      go_wp2_with fail
      have hbx : Below W.heap.size W ((wr.alloc (.cells #[.int .u16 A, .int .u16 B, .int .u8 C, .int .i64 D] 76)).alloc (.cells #[.int .u16 A, .int .u16 B] 53)) := HB2.out.trans ((below_two wr _ _).mono HB2.out.size)
      have ho : Own ((wr.alloc (.cells #[.int .u16 A, .int .u16 B, .int .u8 C, .int .i64 D] 76)).alloc (.cells #[.int .u16 A, .int .u16 B] 53)) (wr.heap.size + 1) 53 (nums .u16 [A, B]) := by
        have := own_alloc (wr.alloc (.cells #[.int .u16 A, .int .u16 B, .int .u8 C, .int .i64 D] 76)) (nums .u16 [A, B]) 53
        rwa [World.size_alloc] at this
      have hCx := HC.out _ A B _ (HP.out.later hbx) ho
      obtain ⟨R, hR⟩ : ∃ R, R = !badI p.P [A, B] := ⟨_, rfl⟩
      rw [← hR] at hCx
      have HRR := Lib.hid hR
      have HCx := Lib.hid hCx
      have HBx := Lib.hid hbx
      clear hCx hbx ho hR c0 c1 c2 c3 g0 g1 g2 g3 g4 g5 g6
      with_reducible refine HCx.out.mono ?_
      rintro e w' ⟨rfl, hb⟩
      have HB3 := Lib.hid (HBx.out.trans (hb.mono HBx.out.size))
      clear hb HCx
      have HK := Lib.hid (badI_two (P := p.P) HX.out)
      cases R
      · have HF := Lib.hid (hasEn_no (p := p) (k := k) (by have := HLl.out; omega) (by rw [HK.out]; exact HRR.out.symm))
        go_wp2
        go_ret
        exact ⟨ret_bool (by rw [HR.out, HF.out]), HB.out.trans (HB3.out.mono HB.out.size)⟩
      · have HF := Lib.hid (show okEnd p.P p.L k = true by rw [HK.out]; exact HRR.out.symm)
        go_wp2
        exact ⟨⟨k + 1, by omega, by go_num, upto_succ HN.out HF.out, HB3.out⟩, by simp [intOf]; omega⟩
    · have hkn' : k = n' := by omega
      subst hkn'
      have HF := Lib.hid (hasEn_ok (p := p) (by rw [HLl.out]; exact HN.out))
      go_wp2
      go_ret
      exact ⟨ret_bool (by rw [HR.out, HF.out]), HB.out.trans (HB2.out.mono HB.out.size)⟩
set_option maxHeartbeats 2000000 in
theorem hasNumbers_any (p : Pn) (a : Option Addr) (n c : Nat) (a' : Option Addr) (n' c' : Nat) (w : World) :
    Calls Tryz.prog 53 #[planV a n c a' n' c' p] w fun e w' => e = .returned (.bool (okNum p)) ∧ Below w.heap.size w w' := by
  unfold planV
  obtain ⟨ra, hra⟩ : ∃ x, x = p.rate := ⟨_, rfl⟩
  obtain ⟨ro, hro⟩ : ∃ x, x = p.room := ⟨_, rfl⟩
  obtain ⟨x0, h0⟩ : ∃ x, x = p.m0 := ⟨_, rfl⟩
  obtain ⟨x1, h1⟩ : ∃ x, x = p.m1 := ⟨_, rfl⟩
  obtain ⟨x2, h2⟩ : ∃ x, x = p.m2 := ⟨_, rfl⟩
  obtain ⟨R, hR⟩ : ∃ R, R = okNum p := ⟨_, rfl⟩
  rw [← hR]
  unfold okNum at hR
  rw [← hra, ← hro, ← h0, ← h1, ← h2] at hR ⊢
  clear hra hro h0 h1 h2
  have HR := Lib.hid hR
  clear hR
  have hb := below_two w (.cells #[.slice a n c, .slice a' n' c', .int .i64 ra, .int .i64 ro, .int .i64 x0, .int .i64 x1, .int .i64 x2] 31) (.cells #[.int .i64 x0, .int .i64 x1, .int .i64 x2] 29)
  have HB := Lib.hid hb
  clear hb
  by_cases h1 : 1 ≤ ra
  case neg =>
    go_enter Tryz.func53, Tryz.ntmps53
    go_wp2
    go_ret
    exact ⟨ret_bool (by rw [HR.out]; symm; simp only [Bool.and_eq_false_iff, decide_eq_false_iff_not]; omega), HB.out⟩
  by_cases h2 : ra ≤ 16
  case neg =>
    go_enter Tryz.func53, Tryz.ntmps53
    go_wp2
    go_ret
    exact ⟨ret_bool (by rw [HR.out]; symm; simp only [Bool.and_eq_false_iff, decide_eq_false_iff_not]; omega), HB.out⟩
  by_cases h3 : 1 ≤ ro
  case neg =>
    go_enter Tryz.func53, Tryz.ntmps53
    go_wp2
    go_ret
    exact ⟨ret_bool (by rw [HR.out]; symm; simp only [Bool.and_eq_false_iff, decide_eq_false_iff_not]; omega), HB.out⟩
  by_cases h4 : ro ≤ 64
  case neg =>
    go_enter Tryz.func53, Tryz.ntmps53
    go_wp2
    go_ret
    exact ⟨ret_bool (by rw [HR.out]; symm; simp only [Bool.and_eq_false_iff, decide_eq_false_iff_not]; omega), HB.out⟩
  by_cases h5 : 1 ≤ x0
  case neg =>
    go_enter Tryz.func53, Tryz.ntmps53
    go_wp2
    go_ret
    exact ⟨ret_bool (by rw [HR.out]; symm; simp only [Bool.and_eq_false_iff, decide_eq_false_iff_not]; omega), HB.out⟩
  by_cases h6 : x0 < x1
  case neg =>
    go_enter Tryz.func53, Tryz.ntmps53
    go_wp2
    go_ret
    exact ⟨ret_bool (by rw [HR.out]; symm; simp only [Bool.and_eq_false_iff, decide_eq_false_iff_not]; omega), HB.out⟩
  by_cases h7 : x1 < x2
  case neg =>
    go_enter Tryz.func53, Tryz.ntmps53
    go_wp2
    go_ret
    exact ⟨ret_bool (by rw [HR.out]; symm; simp only [Bool.and_eq_false_iff, decide_eq_false_iff_not]; omega), HB.out⟩
  by_cases h8 : x2 ≤ ro
  case neg =>
    go_enter Tryz.func53, Tryz.ntmps53
    go_wp2
    go_ret
    exact ⟨ret_bool (by rw [HR.out]; symm; simp only [Bool.and_eq_false_iff, decide_eq_false_iff_not]; omega), HB.out⟩
  go_enter Tryz.func53, Tryz.ntmps53
  go_wp2
  go_ret
  exact ⟨ret_bool (by rw [HR.out]; symm; simp only [Bool.and_eq_true, decide_eq_true_eq]; omega), HB.out⟩
end Go.Proofs.YthlckipcgogogaaGreatDoor
/- The code's Check and check. -/
namespace Go.Proofs.YthlckipcgogogaaGreatDoor
set_option linter.unusedVariables false
open Go.RowKit

theorem cc_arr {p : Pn} (h1 : ¬ (64 < p.P.length ∨ 1024 < p.L.length)) (h : arePl p.P = false) : 1 = chkPl p := by
  unfold arePl at h
  unfold chkPl
  rw [if_neg h1]
  by_cases h0 : p.P.length = 0
  · rw [if_pos h0]
  · rw [if_neg h0, if_neg]
    intro e
    rw [e, decide_eq_true (by omega)] at h; cases h
theorem cc_fits {p : Pn} (h1 : ¬ (64 < p.P.length ∨ 1024 < p.L.length)) (h : arePl p.P = true) : Fits p ∧ ∀ i, i < p.P.length → okPl p.P i = true := by
  unfold arePl at h
  simp only [Bool.and_eq_true, decide_eq_true_eq] at h
  exact ⟨⟨h1, by omega⟩, all_range.1 h.2⟩
theorem cc_lines {p : Pn} (h1 : ¬ (64 < p.P.length ∨ 1024 < p.L.length)) (h : arePl p.P = true) (hl : areLn p.L = false) : 1 = chkPl p := by
  obtain ⟨a, b⟩ := cc_fits h1 h
  unfold areLn at hl
  unfold chkPl
  rw [if_neg a.big, if_neg a.some, if_pos (all_range.2 b), if_neg (by rw [hl]; decide)]
theorem cc_ends {p : Pn} (h1 : ¬ (64 < p.P.length ∨ 1024 < p.L.length)) (h : arePl p.P = true) (hl : areLn p.L = true) (he : hasEn p = false) : 7 = chkPl p := by
  obtain ⟨a, b⟩ := cc_fits h1 h
  unfold areLn at hl
  unfold hasEn at he
  unfold chkPl
  rw [if_neg a.big, if_neg a.some, if_pos (all_range.2 b), if_pos hl, if_neg (by rw [he]; decide)]
theorem cc_num {p : Pn} (h1 : ¬ (64 < p.P.length ∨ 1024 < p.L.length)) (h : arePl p.P = true) (hl : areLn p.L = true) (he : hasEn p = true) : (if okNum p then 0 else 1) = chkPl p := by
  obtain ⟨a, b⟩ := cc_fits h1 h
  unfold areLn at hl
  unfold hasEn at he
  unfold chkPl
  rw [if_neg a.big, if_neg a.some, if_pos (all_range.2 b), if_pos hl, if_pos he]
theorem cc_no {p : Pn} (h : okNum p = false) {x : Int} (e : (if okNum p then 0 else 1) = x) : 1 = x := by rw [h] at e; exact e
theorem cc_yes {p : Pn} (h : okNum p = true) {x : Int} (e : (if okNum p then 0 else 1) = x) : 0 = x := by rw [h] at e; exact e
set_option maxHeartbeats 2000000 in
theorem ccheck_any (p : Pn) (a : Option Addr) (n c : Nat) (a' : Option Addr) (n' c' : Nat) (w : World) (hP : PRow w a n c p.P) (hL : LRow w a' n' c' p.L) :
    Calls Tryz.prog 14 #[planV a n c a' n' c' p] w fun e w' => e = .returned (.int .i64 (chkPl p)) ∧ Below w.heap.size w w' := by
  obtain ⟨W, hW⟩ : ∃ W, W = w.alloc (.cells (planCells a n c a' n' c' p).toArray 31) := ⟨_, rfl⟩
  have hB : Below w.heap.size w W := by rw [hW]; exact below_alloc _ _
  have hA : PlanAt W w.heap.size a n c a' n' c' p := by rw [hW]; exact PlanAt.new _ _ _ _ _ _ _ _
  have hmax := hP.max
  have hle := hP.le
  have hmax' := hL.max
  have hle' := hL.le
  have HPl := Lib.hid hP.len
  have HLl := Lib.hid hL.len
  unfold maxLen at hmax hmax'
  have hE := fun (W : World) (hp : PRow W a n c p.P) (hl : LRow W a' n' c' p.L) => hasEnds_any p a n c a' n' c' W hp hl
  have hN := fun (W : World) => hasNumbers_any p a n c a' n' c' W
  unfold planV at *
  have HE := Lib.hid hE
  have HN := Lib.hid hN
  have HA1 := Lib.hid (fun (W : World) (h : PRow W a n c p.P) => arePlaces_any p.P a n c W h)
  have HA2 := Lib.hid (fun (W : World) (h : LRow W a' n' c' p.L) => areLines_any p.L a' n' c' W h)
  have HP := Lib.hid (hP.later hB)
  have HL := Lib.hid (hL.later hB)
  have HB := Lib.hid hB
  obtain ⟨R, hR⟩ : ∃ R, R = chkPl p := ⟨_, rfl⟩
  rw [← hR]
  have HR := Lib.hid hR
  obtain ⟨g0, g1, g2, g3, g4, g5, g6⟩ := hA.cells
  have HA := Lib.hid hA
  clear hE hN hP hL hB hA hR
  by_cases h1 : 64 < n
  · have d1 : (64 : Int) < (n : Int) := by omega
    go_enter Tryz.func14, Tryz.ntmps14
    go_wp2_with fail
    go_ret
    exact ⟨ret_int (by rw [HR.out]; exact chk_big (.inl (by have := HPl.out; omega))), below_alloc _ _⟩
  have d1 : ¬ (64 : Int) < (n : Int) := by omega
  by_cases h2 : 1024 < n'
  · have d2 : (1024 : Int) < (n' : Int) := by omega
    go_enter Tryz.func14, Tryz.ntmps14
    go_wp2_with fail
    go_ret
    exact ⟨ret_int (by rw [HR.out]; exact chk_big (.inr (by have := HLl.out; omega))), below_alloc _ _⟩
  have d2 : ¬ (1024 : Int) < (n' : Int) := by omega
  have HF := Lib.hid (show ¬ (64 < p.P.length ∨ 1024 < p.L.length) by have := HPl.out; have := HLl.out; omega)
  clear HPl HLl
  go_enter Tryz.func14, Tryz.ntmps14
  go_wp2_with fail
  show Calls _ _ _ (w.alloc (.cells (planCells a n c a' n' c' p).toArray 31)) _
  rw [← hW]
  clear hW
  with_reducible refine (HA1.out _ HP.out).mono ?_
  rintro e W1 ⟨rfl, hb⟩
  obtain ⟨g0, g1, g2, g3, g4, g5, g6⟩ := (HA.out.later hb).cells
  have HB1 := Lib.hid (HB.out.trans (hb.mono HB.out.size))
  have HBW := Lib.hid hb
  clear hb HA1
  obtain ⟨b1, e1⟩ : ∃ b, b = arePl p.P := ⟨_, rfl⟩
  rw [← e1]
  have HE1 := Lib.hid e1
  clear e1
  cases b1
  · go_wp2
    go_ret
    exact ⟨ret_int (by rw [HR.out]; exact cc_arr HF.out HE1.out.symm), HB1.out⟩
  go_wp2_with fail
  with_reducible refine (HA2.out _ (HL.out.later HBW.out)).mono ?_
  rintro e W2 ⟨rfl, hb⟩
  clear g0 g1 g2 g3 g4 g5 g6
  have HBW2 := Lib.hid (HBW.out.trans (hb.mono HBW.out.size))
  obtain ⟨g0, g1, g2, g3, g4, g5, g6⟩ := (HA.out.later HBW2.out).cells
  have HB2 := Lib.hid (HB1.out.trans (hb.mono HB1.out.size))
  clear hb HA2
  obtain ⟨b2, e2⟩ : ∃ b, b = areLn p.L := ⟨_, rfl⟩
  rw [← e2]
  have HE2 := Lib.hid e2
  clear e2
  cases b2
  · go_wp2
    go_ret
    exact ⟨ret_int (by rw [HR.out]; exact cc_lines HF.out HE1.out.symm HE2.out.symm), HB2.out⟩
  go_wp2_with fail
  with_reducible refine (HE.out _ (HP.out.later HBW2.out) (HL.out.later HBW2.out)).mono ?_
  rintro e W3 ⟨rfl, hb⟩
  clear g0 g1 g2 g3 g4 g5 g6
  have HBW3 := Lib.hid (HBW2.out.trans (hb.mono HBW2.out.size))
  obtain ⟨g0, g1, g2, g3, g4, g5, g6⟩ := (HA.out.later HBW3.out).cells
  have HB3 := Lib.hid (HB2.out.trans (hb.mono HB2.out.size))
  clear hb HE
  obtain ⟨b3, e3⟩ : ∃ b, b = hasEn p := ⟨_, rfl⟩
  rw [← e3]
  have HE3 := Lib.hid e3
  clear e3
  cases b3
  · go_wp2
    go_ret
    exact ⟨ret_int (by rw [HR.out]; exact cc_ends HF.out HE1.out.symm HE2.out.symm HE3.out.symm), HB3.out⟩
  go_wp2_with fail
  with_reducible refine (HN.out _).mono ?_
  rintro e W4 ⟨rfl, hb⟩
  clear g0 g1 g2 g3 g4 g5 g6
  have HB4 := Lib.hid (HB3.out.trans (hb.mono HB3.out.size))
  clear hb HN
  obtain ⟨b4, e4⟩ : ∃ b, b = okNum p := ⟨_, rfl⟩
  rw [← e4]
  have HE4 := Lib.hid e4
  clear e4
  cases b4
  · go_wp2
    go_ret
    exact ⟨ret_int (by rw [HR.out]; exact cc_no HE4.out.symm (cc_num HF.out HE1.out.symm HE2.out.symm HE3.out.symm)), HB4.out⟩
  go_wp2
  go_ret
  exact ⟨ret_int (by rw [HR.out]; exact cc_yes HE4.out.symm (cc_num HF.out HE1.out.symm HE2.out.symm HE3.out.symm)), HB4.out⟩
/-- The error of a plan, or else of points that are no places. -/
def chkPts (p : Pn) (l : List Int) : Int := if chkPl p = 0 then (if badI p.P l then 7 else 0) else chkPl p
set_option maxHeartbeats 2000000 in
theorem cchk_any (p : Pn) (a : Option Addr) (n c : Nat) (a' : Option Addr) (n' c' : Nat) (g : Nat) (l : List Int) (m : Nat) (hm : l.length = m) (hm2 : m ≤ 3) (w : World) (hP : PRow w a n c p.P) (hL : LRow w a' n' c' p.L) (hg : Own w g 53 (nums .u16 l)) :
    Calls Tryz.prog 58 #[planV a n c a' n' c' p, .slice (some ⟨g, 0, none⟩) m m] w fun e w' => e = .returned (.int .i64 (chkPts p l)) ∧ Below w.heap.size w w' := by
  obtain ⟨W, hW⟩ : ∃ W, W = w.alloc (.cells (planCells a n c a' n' c' p).toArray 31) := ⟨_, rfl⟩
  have hB : Below w.heap.size w W := by rw [hW]; exact below_alloc _ _
  have hA : PlanAt W w.heap.size a n c a' n' c' p := by rw [hW]; exact PlanAt.new _ _ _ _ _ _ _ _
  have hC := fun (W : World) (hp : PRow W a n c p.P) (hl : LRow W a' n' c' p.L) => ccheck_any p a n c a' n' c' W hp hl
  have hH := fun (W : World) (hp : PRow W a n c p.P) (hg : Own W g 53 (nums .u16 l)) => hasPlaces_any p a n c a' n' c' g l m hm hm2 W hp hg
  unfold planV at *
  have HC := Lib.hid hC
  have HH := Lib.hid hH
  have HP := Lib.hid (hP.later hB)
  have HL := Lib.hid (hL.later hB)
  have HG := Lib.hid (hg.below hB hg.lt)
  have HB := Lib.hid hB
  obtain ⟨R, hR⟩ : ∃ R, R = chkPts p l := ⟨_, rfl⟩
  rw [← hR]
  unfold chkPts at hR
  obtain ⟨g0, g1, g2, g3, g4, g5, g6⟩ := hA.cells
  have HA := Lib.hid hA
  clear hC hH hP hL hB hA hg hm
  obtain ⟨x, hx⟩ : ∃ x, x = chkPl p := ⟨_, rfl⟩
  rw [← hx] at hR
  have hC2 := HC.out _ HP.out HL.out
  rw [← hx] at hC2
  have HC2 := Lib.hid hC2
  have HR := Lib.hid hR
  clear hC2 hx hR HC
  go_enter Tryz.func58, Tryz.ntmps58
  go_wp2_with fail
  show Calls _ _ _ (w.alloc (.cells (planCells a n c a' n' c' p).toArray 31)) _
  rw [← hW]
  clear hW
  with_reducible refine HC2.out.mono ?_
  rintro e W1 ⟨rfl, hb⟩
  clear g0 g1 g2 g3 g4 g5 g6
  obtain ⟨g0, g1, g2, g3, g4, g5, g6⟩ := (HA.out.later hb).cells
  have HB1 := Lib.hid (HB.out.trans (hb.mono HB.out.size))
  have HBW := Lib.hid hb
  clear hb HC2
  by_cases hx0 : x = 0
  · subst hx0
    go_wp2_with fail
    with_reducible refine (HH.out _ (HP.out.later HBW.out) (HG.out.below HBW.out HG.out.lt)).mono ?_
    rintro e W2 ⟨rfl, hb⟩
    have HB2 := Lib.hid (HB1.out.trans (hb.mono HB1.out.size))
    clear hb HH g0 g1 g2 g3 g4 g5 g6
    obtain ⟨b1, e1⟩ : ∃ b, b = badI p.P l := ⟨_, rfl⟩
    rw [← e1]
    have HE1 := Lib.hid e1
    clear e1
    cases b1
    · go_wp2
      go_ret
      exact ⟨ret_int (by rw [HR.out, if_pos trivial, ← HE1.out]; rfl), HB2.out⟩
    · go_wp2
      go_ret
      exact ⟨ret_int (by rw [HR.out, if_pos trivial, ← HE1.out]; rfl), HB2.out⟩
  · have hb : (x != 0) = true := by simpa using hx0
    have HX := Lib.hid (show R = x by rw [HR.out, if_neg hx0])
    go_wp2
    go_ret
    exact ⟨ret_int HX.out.symm, HB1.out⟩
theorem chkPts_ok {p : Pn} {l : List Int} : chkPts p l = 0 ↔ ValidPl p ∧ badI p.P l = false := by
  unfold chkPts
  by_cases h : chkPl p = 0
  · rw [if_pos h]
    have := chkPl_zero.1 h
    cases badI p.P l
    · exact ⟨fun _ => ⟨this, rfl⟩, fun _ => rfl⟩
    · exact ⟨fun e => (by cases e), fun e => (by cases e.2)⟩
  · rw [if_neg h]
    exact ⟨fun e => absurd e h, fun e => absurd (chkPl_zero.2 e.1) h⟩
end Go.Proofs.YthlckipcgogogaaGreatDoor
