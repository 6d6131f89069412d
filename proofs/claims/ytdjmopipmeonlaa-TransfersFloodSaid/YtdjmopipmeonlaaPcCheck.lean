import Derived.Test.YtdjmopipmeonlaaPcArr
import Derived.Test.YtdjmopipmeonlaaPcChk
/- The code's Check and check. -/
namespace Go.Proofs.Ytdjmopipmeonlaa
set_option linter.unusedVariables false
open Go.RowKit

theorem cc_arr {p : Pn} (h1 : ¬ (64 < p.P.length ∨ 1024 < p.L.length)) (h : arePl p.P = false) : 1 = chkPl p := by
  unfold arePl at h
  unfold chkPl
  rw [if_neg h1]
  by_cases h0 : p.P.length = 0
  · rw [if_pos h0]
  · rw [if_neg h0, if_neg]
    intro e
    rw [e, decide_eq_true (by omega)] at h; cases h
theorem cc_fits {p : Pn} (h1 : ¬ (64 < p.P.length ∨ 1024 < p.L.length)) (h : arePl p.P = true) : Fits p ∧ ∀ i, i < p.P.length → okPl p.P i = true := by
  unfold arePl at h
  simp only [Bool.and_eq_true, decide_eq_true_eq] at h
  exact ⟨⟨h1, by omega⟩, all_range.1 h.2⟩
theorem cc_lines {p : Pn} (h1 : ¬ (64 < p.P.length ∨ 1024 < p.L.length)) (h : arePl p.P = true) (hl : areLn p.L = false) : 1 = chkPl p := by
  obtain ⟨a, b⟩ := cc_fits h1 h
  unfold areLn at hl
  unfold chkPl
  rw [if_neg a.big, if_neg a.some, if_pos (all_range.2 b), if_neg (by rw [hl]; decide)]
theorem cc_ends {p : Pn} (h1 : ¬ (64 < p.P.length ∨ 1024 < p.L.length)) (h : arePl p.P = true) (hl : areLn p.L = true) (he : hasEn p = false) : 7 = chkPl p := by
  obtain ⟨a, b⟩ := cc_fits h1 h
  unfold areLn at hl
  unfold hasEn at he
  unfold chkPl
  rw [if_neg a.big, if_neg a.some, if_pos (all_range.2 b), if_pos hl, if_neg (by rw [he]; decide)]
theorem cc_num {p : Pn} (h1 : ¬ (64 < p.P.length ∨ 1024 < p.L.length)) (h : arePl p.P = true) (hl : areLn p.L = true) (he : hasEn p = true) : (if okNum p then 0 else 1) = chkPl p := by
  obtain ⟨a, b⟩ := cc_fits h1 h
  unfold areLn at hl
  unfold hasEn at he
  unfold chkPl
  rw [if_neg a.big, if_neg a.some, if_pos (all_range.2 b), if_pos hl, if_pos he]
theorem cc_no {p : Pn} (h : okNum p = false) {x : Int} (e : (if okNum p then 0 else 1) = x) : 1 = x := by rw [h] at e; exact e
theorem cc_yes {p : Pn} (h : okNum p = true) {x : Int} (e : (if okNum p then 0 else 1) = x) : 0 = x := by rw [h] at e; exact e
set_option maxHeartbeats 2000000 in
theorem ccheck_any (p : Pn) (a : Option Addr) (n c : Nat) (a' : Option Addr) (n' c' : Nat) (w : World) (hP : PRow w a n c p.P) (hL : LRow w a' n' c' p.L) :
    Calls Try.prog 55 #[planV a n c a' n' c' p] w fun e w' => e = .returned (.int .i64 (chkPl p)) ∧ Below w.heap.size w w' := by
  obtain ⟨W, hW⟩ : ∃ W, W = w.alloc (.cells (planCells a n c a' n' c' p).toArray 33) := ⟨_, rfl⟩
  have hB : Below w.heap.size w W := by rw [hW]; exact below_alloc _ _
  have hA : PlanAt W w.heap.size a n c a' n' c' p := by rw [hW]; exact PlanAt.new _ _ _ _ _ _ _ _
  have hmax := hP.max
  have hle := hP.le
  have hmax' := hL.max
  have hle' := hL.le
  have HPl := Lib.hid hP.len
  have HLl := Lib.hid hL.len
  unfold maxLen at hmax hmax'
  have hE := fun (W : World) (hp : PRow W a n c p.P) (hl : LRow W a' n' c' p.L) => hasEnds_any p a n c a' n' c' W hp hl
  have hN := fun (W : World) => hasNumbers_any p a n c a' n' c' W
  unfold planV at *
  have HE := Lib.hid hE
  have HN := Lib.hid hN
  have HA1 := Lib.hid (fun (W : World) (h : PRow W a n c p.P) => arePlaces_any p.P a n c W h)
  have HA2 := Lib.hid (fun (W : World) (h : LRow W a' n' c' p.L) => areLines_any p.L a' n' c' W h)
  have HP := Lib.hid (hP.later hB)
  have HL := Lib.hid (hL.later hB)
  have HB := Lib.hid hB
  obtain ⟨R, hR⟩ : ∃ R, R = chkPl p := ⟨_, rfl⟩
  rw [← hR]
  have HR := Lib.hid hR
  obtain ⟨g0, g1, g2, g3, g4, g5, g6⟩ := hA.cells
  have HA := Lib.hid hA
  clear hE hN hP hL hB hA hR
  by_cases h1 : 64 < n
  · have d1 : (64 : Int) < (n : Int) := by omega
    go_enter Try.func55, Try.ntmps55
    go_wp2_with fail
    go_ret
    exact ⟨ret_int (by rw [HR.out]; exact chk_big (.inl (by have := HPl.out; omega))), below_alloc _ _⟩
  have d1 : ¬ (64 : Int) < (n : Int) := by omega
  by_cases h2 : 1024 < n'
  · have d2 : (1024 : Int) < (n' : Int) := by omega
    go_enter Try.func55, Try.ntmps55
    go_wp2_with fail
    go_ret
    exact ⟨ret_int (by rw [HR.out]; exact chk_big (.inr (by have := HLl.out; omega))), below_alloc _ _⟩
  have d2 : ¬ (1024 : Int) < (n' : Int) := by omega
  have HF := Lib.hid (show ¬ (64 < p.P.length ∨ 1024 < p.L.length) by have := HPl.out; have := HLl.out; omega)
  clear HPl HLl
  go_enter Try.func55, Try.ntmps55
  go_wp2_with fail
  show Calls _ _ _ (w.alloc (.cells (planCells a n c a' n' c' p).toArray 33)) _
  rw [← hW]
  clear hW
  with_reducible refine (HA1.out _ HP.out).mono ?_
  rintro e W1 ⟨rfl, hb⟩
  obtain ⟨g0, g1, g2, g3, g4, g5, g6⟩ := (HA.out.later hb).cells
  have HB1 := Lib.hid (HB.out.trans (hb.mono HB.out.size))
  have HBW := Lib.hid hb
  clear hb HA1
  obtain ⟨b1, e1⟩ : ∃ b, b = arePl p.P := ⟨_, rfl⟩
  rw [← e1]
  have HE1 := Lib.hid e1
  clear e1
  cases b1
  · go_wp2
    go_ret
    exact ⟨ret_int (by rw [HR.out]; exact cc_arr HF.out HE1.out.symm), HB1.out⟩
  go_wp2_with fail
  with_reducible refine (HA2.out _ (HL.out.later HBW.out)).mono ?_
  rintro e W2 ⟨rfl, hb⟩
  clear g0 g1 g2 g3 g4 g5 g6
  have HBW2 := Lib.hid (HBW.out.trans (hb.mono HBW.out.size))
  obtain ⟨g0, g1, g2, g3, g4, g5, g6⟩ := (HA.out.later HBW2.out).cells
  have HB2 := Lib.hid (HB1.out.trans (hb.mono HB1.out.size))
  clear hb HA2
  obtain ⟨b2, e2⟩ : ∃ b, b = areLn p.L := ⟨_, rfl⟩
  rw [← e2]
  have HE2 := Lib.hid e2
  clear e2
  cases b2
  · go_wp2
    go_ret
    exact ⟨ret_int (by rw [HR.out]; exact cc_lines HF.out HE1.out.symm HE2.out.symm), HB2.out⟩
  go_wp2_with fail
  with_reducible refine (HE.out _ (HP.out.later HBW2.out) (HL.out.later HBW2.out)).mono ?_
  rintro e W3 ⟨rfl, hb⟩
  clear g0 g1 g2 g3 g4 g5 g6
  have HBW3 := Lib.hid (HBW2.out.trans (hb.mono HBW2.out.size))
  obtain ⟨g0, g1, g2, g3, g4, g5, g6⟩ := (HA.out.later HBW3.out).cells
  have HB3 := Lib.hid (HB2.out.trans (hb.mono HB2.out.size))
  clear hb HE
  obtain ⟨b3, e3⟩ : ∃ b, b = hasEn p := ⟨_, rfl⟩
  rw [← e3]
  have HE3 := Lib.hid e3
  clear e3
  cases b3
  · go_wp2
    go_ret
    exact ⟨ret_int (by rw [HR.out]; exact cc_ends HF.out HE1.out.symm HE2.out.symm HE3.out.symm), HB3.out⟩
  go_wp2_with fail
  with_reducible refine (HN.out _).mono ?_
  rintro e W4 ⟨rfl, hb⟩
  clear g0 g1 g2 g3 g4 g5 g6
  have HB4 := Lib.hid (HB3.out.trans (hb.mono HB3.out.size))
  clear hb HN
  obtain ⟨b4, e4⟩ : ∃ b, b = okNum p := ⟨_, rfl⟩
  rw [← e4]
  have HE4 := Lib.hid e4
  clear e4
  cases b4
  · go_wp2
    go_ret
    exact ⟨ret_int (by rw [HR.out]; exact cc_no HE4.out.symm (cc_num HF.out HE1.out.symm HE2.out.symm HE3.out.symm)), HB4.out⟩
  go_wp2
  go_ret
  exact ⟨ret_int (by rw [HR.out]; exact cc_yes HE4.out.symm (cc_num HF.out HE1.out.symm HE2.out.symm HE3.out.symm)), HB4.out⟩
/-- The error of a plan, or else of points that are no places. -/
def chkPts (p : Pn) (l : List Int) : Int := if chkPl p = 0 then (if badI p.P l then 7 else 0) else chkPl p
set_option maxHeartbeats 2000000 in
theorem cchk_any (p : Pn) (a : Option Addr) (n c : Nat) (a' : Option Addr) (n' c' : Nat) (g : Nat) (l : List Int) (m : Nat) (hm : l.length = m) (hm2 : m ≤ 3) (w : World) (hP : PRow w a n c p.P) (hL : LRow w a' n' c' p.L) (hg : Own w g 40 (nums .u16 l)) :
    Calls Try.prog 40 #[planV a n c a' n' c' p, .slice (some ⟨g, 0, none⟩) m m] w fun e w' => e = .returned (.int .i64 (chkPts p l)) ∧ Below w.heap.size w w' := by
  obtain ⟨W, hW⟩ : ∃ W, W = w.alloc (.cells (planCells a n c a' n' c' p).toArray 33) := ⟨_, rfl⟩
  have hB : Below w.heap.size w W := by rw [hW]; exact below_alloc _ _
  have hA : PlanAt W w.heap.size a n c a' n' c' p := by rw [hW]; exact PlanAt.new _ _ _ _ _ _ _ _
  have hC := fun (W : World) (hp : PRow W a n c p.P) (hl : LRow W a' n' c' p.L) => ccheck_any p a n c a' n' c' W hp hl
  have hH := fun (W : World) (hp : PRow W a n c p.P) (hg : Own W g 40 (nums .u16 l)) => hasPlaces_any p a n c a' n' c' g l m hm hm2 W hp hg
  unfold planV at *
  have HC := Lib.hid hC
  have HH := Lib.hid hH
  have HP := Lib.hid (hP.later hB)
  have HL := Lib.hid (hL.later hB)
  have HG := Lib.hid (hg.below hB hg.lt)
  have HB := Lib.hid hB
  obtain ⟨R, hR⟩ : ∃ R, R = chkPts p l := ⟨_, rfl⟩
  rw [← hR]
  unfold chkPts at hR
  obtain ⟨g0, g1, g2, g3, g4, g5, g6⟩ := hA.cells
  have HA := Lib.hid hA
  clear hC hH hP hL hB hA hg hm
  obtain ⟨x, hx⟩ : ∃ x, x = chkPl p := ⟨_, rfl⟩
  rw [← hx] at hR
  have hC2 := HC.out _ HP.out HL.out
  rw [← hx] at hC2
  have HC2 := Lib.hid hC2
  have HR := Lib.hid hR
  clear hC2 hx hR HC
  go_enter Try.func40, Try.ntmps40
  go_wp2_with fail
  show Calls _ _ _ (w.alloc (.cells (planCells a n c a' n' c' p).toArray 33)) _
  rw [← hW]
  clear hW
  with_reducible refine HC2.out.mono ?_
  rintro e W1 ⟨rfl, hb⟩
  clear g0 g1 g2 g3 g4 g5 g6
  obtain ⟨g0, g1, g2, g3, g4, g5, g6⟩ := (HA.out.later hb).cells
  have HB1 := Lib.hid (HB.out.trans (hb.mono HB.out.size))
  have HBW := Lib.hid hb
  clear hb HC2
  by_cases hx0 : x = 0
  · subst hx0
    go_wp2_with fail
    with_reducible refine (HH.out _ (HP.out.later HBW.out) (HG.out.below HBW.out HG.out.lt)).mono ?_
    rintro e W2 ⟨rfl, hb⟩
    have HB2 := Lib.hid (HB1.out.trans (hb.mono HB1.out.size))
    clear hb HH g0 g1 g2 g3 g4 g5 g6
    obtain ⟨b1, e1⟩ : ∃ b, b = badI p.P l := ⟨_, rfl⟩
    rw [← e1]
    have HE1 := Lib.hid e1
    clear e1
    cases b1
    · go_wp2
      go_ret
      exact ⟨ret_int (by rw [HR.out, if_pos trivial, ← HE1.out]; rfl), HB2.out⟩
    · go_wp2
      go_ret
      exact ⟨ret_int (by rw [HR.out, if_pos trivial, ← HE1.out]; rfl), HB2.out⟩
  · have hb : (x != 0) = true := by simpa using hx0
    have HX := Lib.hid (show R = x by rw [HR.out, if_neg hx0])
    go_wp2
    go_ret
    exact ⟨ret_int HX.out.symm, HB1.out⟩
theorem chkPts_ok {p : Pn} {l : List Int} : chkPts p l = 0 ↔ ValidPl p ∧ badI p.P l = false := by
  unfold chkPts
  by_cases h : chkPl p = 0
  · rw [if_pos h]
    have := chkPl_zero.1 h
    cases badI p.P l
    · exact ⟨fun _ => ⟨this, rfl⟩, fun _ => rfl⟩
    · exact ⟨fun e => (by cases e), fun e => (by cases e.2)⟩
  · rw [if_neg h]
    exact ⟨fun e => absurd e h, fun e => absurd (chkPl_zero.2 e.1) h⟩
end Go.Proofs.Ytdjmopipmeonlaa
