/- Joined: PeBase PeA PeB PeC PeD PeE PeF WkErrors -/
import Derived.Test.YtgklapjjofclcaaGreatDoorPcWriteB
import Derived.Test.YtgklapjjofclcaaGreatDoorPcStable
import Derived.Test.YtgklapjjofclcaaGreatDoorPlLives
import Derived.Test.YtgklapjjofclcaaGreatDoorPlOpen
import Derived.Test.YtgklapjjofclcaaGreatDoorPlChk
import Derived.Deep.Cut
import Derived.BigQuiet
/- The walk of PlansErrors. -/
namespace Go.Proofs.YtgklapjjofclcaaGreatDoor
open Go.RowKit

set_option maxHeartbeats 1000000 in
theorem write_err (p : Pn) (a : Option Addr) (n c : Nat) (a' : Option Addr) (n' c' : Nat) (w : World) (hP : PRow w a n c p.P) (hL : LRow w a' n' c' p.L) (E : Int) (hE : chkPl p = E) (h0 : E ≠ 0) :
    Calls Tryz.prog 7 #[planV a n c a' n' c' p] w fun e w' => e = .returned (.tuple #[.string ⟨#[]⟩, .int .i64 E]) ∧ Below w.heap.size w w' := by
  obtain ⟨W, hW⟩ : ∃ W, W = w.alloc (.cells (planCells a n c a' n' c' p).toArray 31) := ⟨_, rfl⟩
  have hB : Below w.heap.size w W := by rw [hW]; exact below_alloc _ _
  have hA : PlanAt W w.heap.size a n c a' n' c' p := by rw [hW]; exact PlanAt.new _ _ _ _ _ _ _ _
  have hC := ccheck_any p a n c a' n' c' W (hP.later hB) (hL.later hB)
  rw [hE] at hC
  unfold planV at *
  have HC := Lib.hid hC
  have HB1 := Lib.hid hB
  obtain ⟨g0, g1, g2, g3, g4, g5, g6⟩ := hA.cells
  clear hC hB hA
  go_enter Tryz.func7, Tryz.ntmps7
  go_wp2_with fail
  show Calls _ _ _ (w.alloc (.cells (planCells a n c a' n' c' p).toArray 31)) _
  rw [← hW]
  clear hW
  with_reducible refine HC.out.mono ?_
  rintro e w1 ⟨rfl, hb⟩
  have HB2 := Lib.hid (HB1.out.trans (hb.mono HB1.out.size))
  have hne : (E != 0) = true := by simpa using h0
  clear g0 g1 g2 g3 g4 g5 g6 hb HC
  go_wp2
  go_ret2
  exact ⟨rfl, HB2.out⟩
theorem one_pt {p : Pn} (h : chkPl p = 0) (x : Int) : chkPts p [x] = if (fnd p.P x).isSome then 0 else 7 := by
  unfold chkPts badI
  rw [if_pos h]
  simp only [List.any_cons, List.any_nil, Bool.or_false]
  unfold isB
  cases (fnd p.P x).isSome <;> rfl
theorem two_pt {p : Pn} (h : chkPl p = 0) (x y : Int) : chkPts p [x, y] = if (fnd p.P x).isSome && (fnd p.P y).isSome then 0 else 7 := by
  unfold chkPts badI
  rw [if_pos h]
  simp only [List.any_cons, List.any_nil, Bool.or_false]
  unfold isB
  cases (fnd p.P x).isSome <;> cases (fnd p.P y).isSome <;> rfl
theorem pts_err {p : Pn} {E : Int} (h : chkPl p = E) (h0 : E ≠ 0) (l : List Int) : chkPts p l = E := by
  unfold chkPts
  rw [if_neg (by rw [h]; exact h0)]; exact h
theorem idx_yes {P : List (Int × Bool)} {c : Int} {k : Nat} (h : fnd P c = some k) : idxI P c = (k : Int) := by unfold idxI; rw [h]
theorem idx_no {P : List (Int × Bool)} {c : Int} (h : fnd P c = none) : idxI P c = -1 := by unfold idxI; rw [h]
theorem text_some {s : ByteArray} (h : s.size ≠ 0) : (s == (⟨#[]⟩ : ByteArray)) = false ∧ (s != (⟨#[]⟩ : ByteArray)) = true ∧ ¬ s.data = #[] ∧ ¬ s.toList = [] ∧ (s.toList == []) = false := by
  have h1 : (s == (⟨#[]⟩ : ByteArray)) = false := by
    obtain ⟨d⟩ := s
    show (d == #[]) = false
    have : d ≠ #[] := by rintro rfl; exact h rfl
    simpa using this
  have h2 : ¬ s.data = #[] := fun e => h (show s.data.size = 0 by rw [e]; rfl)
  have h3 : ¬ s.toList = [] := fun e => h2 (by
    obtain ⟨d⟩ := s
    have := ByteArray.toList_mk d.toList
    simp at this
    rw [this] at e
    simpa using e)
  refine ⟨h1, by unfold bne; rw [h1]; rfl, h2, h3, by simpa using h3⟩
end Go.Proofs.YtgklapjjofclcaaGreatDoor
/- PlansErrors, one case: errors_plan -/
namespace Go.Proofs.YtgklapjjofclcaaGreatDoor
open Go.RowKit

set_option maxRecDepth 100000 in
set_option maxHeartbeats 4000000 in
theorem errors_plan (p : Pn) (a : Option Addr) (n c : Nat) (a' : Option Addr) (n' c' : Nat) (x y : Int) (w : World) (_hw : PowOk w) (hP : PRow w a n c p.P) (hL : LRow w a' n' c' p.L) (hn1 : n ≤ 80) (hn2 : n' ≤ 40) (E : Int) (hE : chkPl p = E) (h0 : E ≠ 0) :
    Calls Tryz.prog 5 #[planV a n c a' n' c' p, .int .u16 x, .int .u16 y] w fun e w' => e = .returned (.bool true) ∧ Below w.heap.size w w' := by
  obtain ⟨W, hW⟩ : ∃ W, W = w.alloc (.cells (planCells a n c a' n' c' p).toArray 31) := ⟨_, rfl⟩
  have hB : Below w.heap.size w W := by rw [hW]; exact below_alloc _ _
  have hA : PlanAt W w.heap.size a n c a' n' c' p := by rw [hW]; exact PlanAt.new _ _ _ _ _ _ _ _
  have hi1 : ¬ (80 : Int) < (n : Int) := by omega
  have hi2 : ¬ (40 : Int) < (n' : Int) := by omega
  have hp := pts_err hE h0
  have hne : (E != 0) = true := by simpa using h0
  have hne2 : (E == 0) = false := by simpa using h0
  have q0 := fun (V : World) (h : Below w.heap.size w V) => (check_any p a n c a' n' c' V (hP.later h) (hL.later h)).mono (fun e w' hh => (show e = .returned (.int .i64 E) ∧ Below V.heap.size V w' by rw [← hE]; exact hh))
  have q1 := fun (V : World) (h : Below w.heap.size w V) => neighbors_err p a n c a' n' c' x V (hP.later h) (hL.later h) E (hp _) h0
  have q2 := fun (V : World) (h : Below w.heap.size w V) => distances_err p a n c a' n' c' x V (hP.later h) (hL.later h) E (hp _) h0
  have q3 := fun (V : World) (h : Below w.heap.size w V) => heights_err p a n c a' n' c' x V (hP.later h) (hL.later h) E (hp _) h0
  have q4 := fun (V : World) (h : Below w.heap.size w V) => base_err p a n c a' n' c' V (hP.later h) (hL.later h) E hE h0
  have q5 := fun (V : World) (h : Below w.heap.size w V) => gap_err p a n c a' n' c' V (hP.later h) (hL.later h) E hE h0
  have q6 := fun (V : World) (h : Below w.heap.size w V) => write_err p a n c a' n' c' V (hP.later h) (hL.later h) E hE h0
  have q7 := fun (V : World) (h : Below w.heap.size w V) => links_err p a n c a' n' c' x y V (hP.later h) (hL.later h) E (hp _) h0
  have q8 := fun (V : World) (h : Below w.heap.size w V) => choices_err p a n c a' n' c' x y V (hP.later h) (hL.later h) E (hp _) h0
  have q9 := fun (V : World) (h : Below w.heap.size w V) => hold_err p a n c a' n' c' x y V (hP.later h) (hL.later h) E (hp _) h0
  have hl := fun (V : World) => lives_any V
  unfold planV at *
  have H0 := Lib.hid q0
  have H1 := Lib.hid q1
  have H2 := Lib.hid q2
  have H3 := Lib.hid q3
  have H4 := Lib.hid q4
  have H5 := Lib.hid q5
  have H6 := Lib.hid q6
  have H7 := Lib.hid q7
  have H8 := Lib.hid q8
  have H9 := Lib.hid q9
  have HL := Lib.hid hl
  have HA := Lib.hid hA
  have HB := Lib.hid hB
  have HW := Lib.hid hW
  clear hP hL _hw hA hB hW hl q0 q1 q2 q3 q4 q5 q6 q7 q8 q9
  go_enter Tryz.func5, Tryz.ntmps5
  go_upto_region 1 with fail
  show Code.wp _ _ _ _ (w.alloc (.cells (planCells a n c a' n' c' p).toArray 31))
  rw [← HW.out]
  obtain ⟨g0, g1, g2, g3, g4, g5, g6⟩ := HA.out.cells
  go_wp2_with fail
  with_reducible refine (H0.out W HB.out).mono ?_
  rintro e w1 ⟨rfl, hb⟩
  have HA := Lib.hid (HA.out.later hb)
  have HB := Lib.hid (HB.out.trans (hb.mono HB.out.size))
  clear g0 g1 g2 g3 g4 g5 g6 hb H0
  obtain ⟨g0, g1, g2, g3, g4, g5, g6⟩ := HA.out.cells
  go_wp2_with fail
  with_reducible refine (H1.out w1 HB.out).mono ?_
  rintro e w2 ⟨rfl, hb⟩
  have HA := Lib.hid (HA.out.later hb)
  have HB := Lib.hid (HB.out.trans (hb.mono HB.out.size))
  clear g0 g1 g2 g3 g4 g5 g6 hb H1
  obtain ⟨g0, g1, g2, g3, g4, g5, g6⟩ := HA.out.cells
  go_wp2_with fail
  with_reducible refine (H2.out w2 HB.out).mono ?_
  rintro e w3 ⟨rfl, hb⟩
  have HA := Lib.hid (HA.out.later hb)
  have HB := Lib.hid (HB.out.trans (hb.mono HB.out.size))
  clear g0 g1 g2 g3 g4 g5 g6 hb H2
  obtain ⟨g0, g1, g2, g3, g4, g5, g6⟩ := HA.out.cells
  go_wp2_with fail
  with_reducible refine (H3.out w3 HB.out).mono ?_
  rintro e w4 ⟨rfl, hb⟩
  have HA := Lib.hid (HA.out.later hb)
  have HB := Lib.hid (HB.out.trans (hb.mono HB.out.size))
  clear g0 g1 g2 g3 g4 g5 g6 hb H3
  obtain ⟨g0, g1, g2, g3, g4, g5, g6⟩ := HA.out.cells
  go_wp2_with fail
  with_reducible refine (H4.out w4 HB.out).mono ?_
  rintro e w5 ⟨rfl, hb⟩
  have HA := Lib.hid (HA.out.later hb)
  have HB := Lib.hid (HB.out.trans (hb.mono HB.out.size))
  clear g0 g1 g2 g3 g4 g5 g6 hb H4
  obtain ⟨g0, g1, g2, g3, g4, g5, g6⟩ := HA.out.cells
  go_wp2_with fail
  with_reducible refine (H5.out w5 HB.out).mono ?_
  rintro e w6 ⟨rfl, hb⟩
  have HA := Lib.hid (HA.out.later hb)
  have HB := Lib.hid (HB.out.trans (hb.mono HB.out.size))
  clear g0 g1 g2 g3 g4 g5 g6 hb H5
  obtain ⟨g0, g1, g2, g3, g4, g5, g6⟩ := HA.out.cells
  go_wp2_with fail
  with_reducible refine (H6.out w6 HB.out).mono ?_
  rintro e w7 ⟨rfl, hb⟩
  have HA := Lib.hid (HA.out.later hb)
  have HB := Lib.hid (HB.out.trans (hb.mono HB.out.size))
  clear g0 g1 g2 g3 g4 g5 g6 hb H6
  obtain ⟨g0, g1, g2, g3, g4, g5, g6⟩ := HA.out.cells
  go_wp2_with fail
  with_reducible refine (H7.out w7 HB.out).mono ?_
  rintro e w8 ⟨rfl, hb⟩
  have HA := Lib.hid (HA.out.later hb)
  have HB := Lib.hid (HB.out.trans (hb.mono HB.out.size))
  clear g0 g1 g2 g3 g4 g5 g6 hb H7
  obtain ⟨g0, g1, g2, g3, g4, g5, g6⟩ := HA.out.cells
  go_wp2_with fail
  with_reducible refine (H8.out w8 HB.out).mono ?_
  rintro e w9 ⟨rfl, hb⟩
  have HA := Lib.hid (HA.out.later hb)
  have HB := Lib.hid (HB.out.trans (hb.mono HB.out.size))
  clear g0 g1 g2 g3 g4 g5 g6 hb H8
  obtain ⟨g0, g1, g2, g3, g4, g5, g6⟩ := HA.out.cells
  go_wp2_with fail
  with_reducible refine (H9.out w9 HB.out).mono ?_
  rintro e w10 ⟨rfl, hb⟩
  have HA := Lib.hid (HA.out.later hb)
  have HB := Lib.hid (HB.out.trans (hb.mono HB.out.size))
  clear g0 g1 g2 g3 g4 g5 g6 hb H9
  go_wp2_with fail
  with_reducible refine (HL.out _).mono ?_
  rintro e wz ⟨rfl, hb⟩
  have HZ := Lib.hid (HB.out.trans (hb.mono HB.out.size))
  clear hb
  go_wp2
  go_ret
  exact ⟨rfl, HZ.out⟩
end Go.Proofs.YtgklapjjofclcaaGreatDoor
/- PlansErrors, one case: errors_x -/
namespace Go.Proofs.YtgklapjjofclcaaGreatDoor
open Go.RowKit

set_option maxRecDepth 100000 in
set_option maxHeartbeats 4000000 in
theorem errors_x (p : Pn) (a : Option Addr) (n c : Nat) (a' : Option Addr) (n' c' : Nat) (x y : Int) (w : World) (hw : PowOk w) (hP : PRow w a n c p.P) (hL : LRow w a' n' c' p.L) (hn1 : n ≤ 80) (hn2 : n' ≤ 40) (hE : chkPl p = 0) (hx : fnd p.P x = none) :
    Calls Tryz.prog 5 #[planV a n c a' n' c' p, .int .u16 x, .int .u16 y] w fun e w' => e = .returned (.bool true) ∧ Below w.heap.size w w' := by
  obtain ⟨W, hW⟩ : ∃ W, W = w.alloc (.cells (planCells a n c a' n' c' p).toArray 31) := ⟨_, rfl⟩
  have hB : Below w.heap.size w W := by rw [hW]; exact below_alloc _ _
  have hA : PlanAt W w.heap.size a n c a' n' c' p := by rw [hW]; exact PlanAt.new _ _ _ _ _ _ _ _
  have hi1 : ¬ (80 : Int) < (n : Int) := by omega
  have hi2 : ¬ (40 : Int) < (n' : Int) := by omega
  have hv := chkPl_zero.1 hE
  have hx1 : chkPts p [x] = 7 := by rw [one_pt hE, hx]; rfl
  have hx2 : chkPts p [x, y] = 7 := by rw [two_pt hE, hx]; rfl
  have h7 : (7 : Int) ≠ 0 := by decide
  have q0 := fun (V : World) (h : Below w.heap.size w V) => (check_any p a n c a' n' c' V (hP.later h) (hL.later h)).mono (fun e w' hh => (show e = .returned (.int .i64 0) ∧ Below V.heap.size V w' by rw [← hE]; exact hh))
  have q1 := fun (V : World) (h : Below w.heap.size w V) => (index_any p a n c a' n' c' x V (hP.later h)).mono (fun e w' hh => (show e = .returned (.int .i64 (-1)) ∧ Below V.heap.size V w' by rw [← idx_no hx]; exact hh))
  have q2 := fun (V : World) (h : Below w.heap.size w V) => neighbors_err p a n c a' n' c' x V (hP.later h) (hL.later h) 7 hx1 h7
  have q3 := fun (V : World) (h : Below w.heap.size w V) => distances_err p a n c a' n' c' x V (hP.later h) (hL.later h) 7 hx1 h7
  have q4 := fun (V : World) (h : Below w.heap.size w V) => heights_err p a n c a' n' c' x V (hP.later h) (hL.later h) 7 hx1 h7
  have q5 := fun (V : World) (h : Below w.heap.size w V) => base_ok p a n c a' n' c' V (hP.later h) (hL.later h) hE hv
  have q6 := fun (V : World) (h : Below w.heap.size w V) => gap_ok p a n c a' n' c' V (hP.later h) (hL.later h) hE hv
  have q7 := fun (V : World) (h : Below w.heap.size w V) => write_any p a n c a' n' c' V (hP.later h) (hL.later h) hv (hw.later h)
  have q8 := fun (V : World) (h : Below w.heap.size w V) => links_err p a n c a' n' c' x y V (hP.later h) (hL.later h) 7 hx2 h7
  have q9 := fun (V : World) (h : Below w.heap.size w V) => choices_err p a n c a' n' c' x y V (hP.later h) (hL.later h) 7 hx2 h7
  have q10 := fun (V : World) (h : Below w.heap.size w V) => hold_err p a n c a' n' c' x y V (hP.later h) (hL.later h) 7 hx2 h7
  have hl := fun (V : World) => lives_any V
  unfold planV at *
  have H0 := Lib.hid q0
  have H1 := Lib.hid q1
  have H2 := Lib.hid q2
  have H3 := Lib.hid q3
  have H4 := Lib.hid q4
  have H5 := Lib.hid q5
  have H6 := Lib.hid q6
  have H7 := Lib.hid q7
  have H8 := Lib.hid q8
  have H9 := Lib.hid q9
  have H10 := Lib.hid q10
  have HL := Lib.hid hl
  have HA := Lib.hid hA
  have HB := Lib.hid hB
  have HW := Lib.hid hW
  clear hP hL hw hA hB hW hl q0 q1 q2 q3 q4 q5 q6 q7 q8 q9 q10
  go_enter Tryz.func5, Tryz.ntmps5
  go_upto_region 1 with fail
  show Code.wp _ _ _ _ (w.alloc (.cells (planCells a n c a' n' c' p).toArray 31))
  rw [← HW.out]
  obtain ⟨g0, g1, g2, g3, g4, g5, g6⟩ := HA.out.cells
  go_wp2_with fail
  with_reducible refine (H0.out W HB.out).mono ?_
  rintro e w1 ⟨rfl, hb⟩
  have HA := Lib.hid (HA.out.later hb)
  have HB := Lib.hid (HB.out.trans (hb.mono HB.out.size))
  clear g0 g1 g2 g3 g4 g5 g6 hb H0
  obtain ⟨g0, g1, g2, g3, g4, g5, g6⟩ := HA.out.cells
  go_wp2_with fail
  with_reducible refine (H1.out w1 HB.out).mono ?_
  rintro e w2 ⟨rfl, hb⟩
  have HA := Lib.hid (HA.out.later hb)
  have HB := Lib.hid (HB.out.trans (hb.mono HB.out.size))
  clear g0 g1 g2 g3 g4 g5 g6 hb H1
  obtain ⟨g0, g1, g2, g3, g4, g5, g6⟩ := HA.out.cells
  go_wp2_with fail
  with_reducible refine (H2.out w2 HB.out).mono ?_
  rintro e w3 ⟨rfl, hb⟩
  have HA := Lib.hid (HA.out.later hb)
  have HB := Lib.hid (HB.out.trans (hb.mono HB.out.size))
  clear g0 g1 g2 g3 g4 g5 g6 hb H2
  obtain ⟨g0, g1, g2, g3, g4, g5, g6⟩ := HA.out.cells
  go_wp2_with fail
  with_reducible refine (H3.out w3 HB.out).mono ?_
  rintro e w4 ⟨rfl, hb⟩
  have HA := Lib.hid (HA.out.later hb)
  have HB := Lib.hid (HB.out.trans (hb.mono HB.out.size))
  clear g0 g1 g2 g3 g4 g5 g6 hb H3
  obtain ⟨g0, g1, g2, g3, g4, g5, g6⟩ := HA.out.cells
  go_wp2_with fail
  with_reducible refine (H4.out w4 HB.out).mono ?_
  rintro e w5 ⟨rfl, hb⟩
  have HA := Lib.hid (HA.out.later hb)
  have HB := Lib.hid (HB.out.trans (hb.mono HB.out.size))
  clear g0 g1 g2 g3 g4 g5 g6 hb H4
  obtain ⟨g0, g1, g2, g3, g4, g5, g6⟩ := HA.out.cells
  go_wp2_with fail
  with_reducible refine (H5.out w5 HB.out).mono ?_
  rintro e w6 ⟨rfl, hb⟩
  have HA := Lib.hid (HA.out.later hb)
  have HB := Lib.hid (HB.out.trans (hb.mono HB.out.size))
  clear g0 g1 g2 g3 g4 g5 g6 hb H5
  obtain ⟨g0, g1, g2, g3, g4, g5, g6⟩ := HA.out.cells
  go_wp2_with fail
  with_reducible refine (H6.out w6 HB.out).mono ?_
  rintro e w7 ⟨rfl, hb⟩
  have HA := Lib.hid (HA.out.later hb)
  have HB := Lib.hid (HB.out.trans (hb.mono HB.out.size))
  clear g0 g1 g2 g3 g4 g5 g6 hb H6
  obtain ⟨g0, g1, g2, g3, g4, g5, g6⟩ := HA.out.cells
  go_wp2_with fail
  with_reducible refine (H7.out w7 HB.out).mono ?_
  rintro e w8 ⟨s, hs, rfl, hb⟩
  have HA := Lib.hid (HA.out.later hb)
  have HB := Lib.hid (HB.out.trans (hb.mono HB.out.size))
  clear g0 g1 g2 g3 g4 g5 g6 hb H7
  obtain ⟨s1, s2, s3, s4, s5⟩ := text_some hs
  clear hs
  obtain ⟨g0, g1, g2, g3, g4, g5, g6⟩ := HA.out.cells
  go_wp2_with fail
  with_reducible refine (H8.out w8 HB.out).mono ?_
  rintro e w9 ⟨rfl, hb⟩
  have HA := Lib.hid (HA.out.later hb)
  have HB := Lib.hid (HB.out.trans (hb.mono HB.out.size))
  clear g0 g1 g2 g3 g4 g5 g6 hb H8
  obtain ⟨g0, g1, g2, g3, g4, g5, g6⟩ := HA.out.cells
  go_wp2_with fail
  with_reducible refine (H9.out w9 HB.out).mono ?_
  rintro e w10 ⟨rfl, hb⟩
  have HA := Lib.hid (HA.out.later hb)
  have HB := Lib.hid (HB.out.trans (hb.mono HB.out.size))
  clear g0 g1 g2 g3 g4 g5 g6 hb H9
  obtain ⟨g0, g1, g2, g3, g4, g5, g6⟩ := HA.out.cells
  go_wp2_with fail
  with_reducible refine (H10.out w10 HB.out).mono ?_
  rintro e w11 ⟨rfl, hb⟩
  have HA := Lib.hid (HA.out.later hb)
  have HB := Lib.hid (HB.out.trans (hb.mono HB.out.size))
  clear g0 g1 g2 g3 g4 g5 g6 hb H10
  go_wp2_with fail
  with_reducible refine (HL.out _).mono ?_
  rintro e wz ⟨rfl, hb⟩
  have HZ := Lib.hid (HB.out.trans (hb.mono HB.out.size))
  clear hb
  go_wp2
  go_ret
  exact ⟨rfl, HZ.out⟩
end Go.Proofs.YtgklapjjofclcaaGreatDoor
/- PlansErrors, one case: errors_y -/
namespace Go.Proofs.YtgklapjjofclcaaGreatDoor
open Go.RowKit

set_option maxRecDepth 100000 in
set_option maxHeartbeats 4000000 in
theorem errors_y (p : Pn) (a : Option Addr) (n c : Nat) (a' : Option Addr) (n' c' : Nat) (x y : Int) (w : World) (hw : PowOk w) (hP : PRow w a n c p.P) (hL : LRow w a' n' c' p.L) (hn1 : n ≤ 80) (hn2 : n' ≤ 40) (i : Nat) (hE : chkPl p = 0) (hx : fnd p.P x = some i) (hy : fnd p.P y = none) :
    Calls Tryz.prog 5 #[planV a n c a' n' c' p, .int .u16 x, .int .u16 y] w fun e w' => e = .returned (.bool true) ∧ Below w.heap.size w w' := by
  obtain ⟨W, hW⟩ : ∃ W, W = w.alloc (.cells (planCells a n c a' n' c' p).toArray 31) := ⟨_, rfl⟩
  have hB : Below w.heap.size w W := by rw [hW]; exact below_alloc _ _
  have hA : PlanAt W w.heap.size a n c a' n' c' p := by rw [hW]; exact PlanAt.new _ _ _ _ _ _ _ _
  have hi1 : ¬ (80 : Int) < (n : Int) := by omega
  have hi2 : ¬ (40 : Int) < (n' : Int) := by omega
  have hv := chkPl_zero.1 hE
  have hx1 : chkPts p [x] = 0 := by rw [one_pt hE, hx]; rfl
  have hx2 : chkPts p [x, y] = 7 := by rw [two_pt hE, hx, hy]; rfl
  have h7 : (7 : Int) ≠ 0 := by decide
  have q0 := fun (V : World) (h : Below w.heap.size w V) => (check_any p a n c a' n' c' V (hP.later h) (hL.later h)).mono (fun e w' hh => (show e = .returned (.int .i64 0) ∧ Below V.heap.size V w' by rw [← hE]; exact hh))
  have q1 := fun (V : World) (h : Below w.heap.size w V) => (index_any p a n c a' n' c' x V (hP.later h)).mono (fun e w' hh => (show e = .returned (.int .i64 (i : Int)) ∧ Below V.heap.size V w' by rw [← idx_yes hx]; exact hh))
  have q2 := fun (V : World) (h : Below w.heap.size w V) => (index_any p a n c a' n' c' y V (hP.later h)).mono (fun e w' hh => (show e = .returned (.int .i64 (-1)) ∧ Below V.heap.size V w' by rw [← idx_no hy]; exact hh))
  have q3 := fun (V : World) (h : Below w.heap.size w V) => neighbors_ok p a n c a' n' c' x V (hP.later h) (hL.later h) hx1 hv
  have q4 := fun (V : World) (h : Below w.heap.size w V) => distances_ok p a n c a' n' c' x V (hP.later h) (hL.later h) hx1 i hx hv
  have q5 := fun (V : World) (h : Below w.heap.size w V) => heights_all p a n c a' n' c' x V (hP.later h) (hL.later h) hx1 i hx hv
  have q6 := fun (V : World) (h : Below w.heap.size w V) => base_ok p a n c a' n' c' V (hP.later h) (hL.later h) hE hv
  have q7 := fun (V : World) (h : Below w.heap.size w V) => gap_ok p a n c a' n' c' V (hP.later h) (hL.later h) hE hv
  have q8 := fun (V : World) (h : Below w.heap.size w V) => write_any p a n c a' n' c' V (hP.later h) (hL.later h) hv (hw.later h)
  have q9 := fun (V : World) (h : Below w.heap.size w V) => links_err p a n c a' n' c' x y V (hP.later h) (hL.later h) 7 hx2 h7
  have q10 := fun (V : World) (h : Below w.heap.size w V) => choices_err p a n c a' n' c' x y V (hP.later h) (hL.later h) 7 hx2 h7
  have q11 := fun (V : World) (h : Below w.heap.size w V) => hold_err p a n c a' n' c' x y V (hP.later h) (hL.later h) 7 hx2 h7
  have hl := fun (V : World) => lives_any V
  unfold planV at *
  have H0 := Lib.hid q0
  have H1 := Lib.hid q1
  have H2 := Lib.hid q2
  have H3 := Lib.hid q3
  have H4 := Lib.hid q4
  have H5 := Lib.hid q5
  have H6 := Lib.hid q6
  have H7 := Lib.hid q7
  have H8 := Lib.hid q8
  have H9 := Lib.hid q9
  have H10 := Lib.hid q10
  have H11 := Lib.hid q11
  have HL := Lib.hid hl
  have HA := Lib.hid hA
  have HB := Lib.hid hB
  have HW := Lib.hid hW
  clear hP hL hw hA hB hW hl q0 q1 q2 q3 q4 q5 q6 q7 q8 q9 q10 q11
  go_enter Tryz.func5, Tryz.ntmps5
  go_upto_region 1 with fail
  show Code.wp _ _ _ _ (w.alloc (.cells (planCells a n c a' n' c' p).toArray 31))
  rw [← HW.out]
  obtain ⟨g0, g1, g2, g3, g4, g5, g6⟩ := HA.out.cells
  go_wp2_with fail
  with_reducible refine (H0.out W HB.out).mono ?_
  rintro e w1 ⟨rfl, hb⟩
  have HA := Lib.hid (HA.out.later hb)
  have HB := Lib.hid (HB.out.trans (hb.mono HB.out.size))
  clear g0 g1 g2 g3 g4 g5 g6 hb H0
  obtain ⟨g0, g1, g2, g3, g4, g5, g6⟩ := HA.out.cells
  go_wp2_with fail
  with_reducible refine (H1.out w1 HB.out).mono ?_
  rintro e w2 ⟨rfl, hb⟩
  have HA := Lib.hid (HA.out.later hb)
  have HB := Lib.hid (HB.out.trans (hb.mono HB.out.size))
  clear g0 g1 g2 g3 g4 g5 g6 hb H1
  obtain ⟨g0, g1, g2, g3, g4, g5, g6⟩ := HA.out.cells
  go_wp2_with fail
  with_reducible refine (H2.out w2 HB.out).mono ?_
  rintro e w3 ⟨rfl, hb⟩
  have HA := Lib.hid (HA.out.later hb)
  have HB := Lib.hid (HB.out.trans (hb.mono HB.out.size))
  clear g0 g1 g2 g3 g4 g5 g6 hb H2
  obtain ⟨g0, g1, g2, g3, g4, g5, g6⟩ := HA.out.cells
  go_wp2_with fail
  with_reducible refine (H3.out w3 HB.out).mono ?_
  rintro e w4 ⟨b1, rfl, _, hb⟩
  have HA := Lib.hid (HA.out.later hb)
  have HB := Lib.hid (HB.out.trans (hb.mono HB.out.size))
  clear g0 g1 g2 g3 g4 g5 g6 hb H3
  obtain ⟨g0, g1, g2, g3, g4, g5, g6⟩ := HA.out.cells
  go_wp2_with fail
  with_reducible refine (H4.out w4 HB.out).mono ?_
  rintro e w5 ⟨b2, l2, m2, _, _, rfl, _, _, hb⟩
  have HA := Lib.hid (HA.out.later hb)
  have HB := Lib.hid (HB.out.trans (hb.mono HB.out.size))
  clear g0 g1 g2 g3 g4 g5 g6 hb H4
  obtain ⟨g0, g1, g2, g3, g4, g5, g6⟩ := HA.out.cells
  go_wp2_with fail
  with_reducible refine (H5.out w5 HB.out).mono ?_
  rintro e w6 ⟨b3, m3, rfl, hb⟩
  have HA := Lib.hid (HA.out.later hb)
  have HB := Lib.hid (HB.out.trans (hb.mono HB.out.size))
  clear g0 g1 g2 g3 g4 g5 g6 hb H5
  obtain ⟨g0, g1, g2, g3, g4, g5, g6⟩ := HA.out.cells
  go_wp2_with fail
  with_reducible refine (H6.out w6 HB.out).mono ?_
  rintro e w7 ⟨rfl, hb⟩
  have HA := Lib.hid (HA.out.later hb)
  have HB := Lib.hid (HB.out.trans (hb.mono HB.out.size))
  clear g0 g1 g2 g3 g4 g5 g6 hb H6
  obtain ⟨g0, g1, g2, g3, g4, g5, g6⟩ := HA.out.cells
  go_wp2_with fail
  with_reducible refine (H7.out w7 HB.out).mono ?_
  rintro e w8 ⟨rfl, hb⟩
  have HA := Lib.hid (HA.out.later hb)
  have HB := Lib.hid (HB.out.trans (hb.mono HB.out.size))
  clear g0 g1 g2 g3 g4 g5 g6 hb H7
  obtain ⟨g0, g1, g2, g3, g4, g5, g6⟩ := HA.out.cells
  go_wp2_with fail
  with_reducible refine (H8.out w8 HB.out).mono ?_
  rintro e w9 ⟨s, hs, rfl, hb⟩
  have HA := Lib.hid (HA.out.later hb)
  have HB := Lib.hid (HB.out.trans (hb.mono HB.out.size))
  clear g0 g1 g2 g3 g4 g5 g6 hb H8
  obtain ⟨s1, s2, s3, s4, s5⟩ := text_some hs
  clear hs
  obtain ⟨g0, g1, g2, g3, g4, g5, g6⟩ := HA.out.cells
  go_wp2_with fail
  with_reducible refine (H9.out w9 HB.out).mono ?_
  rintro e w10 ⟨rfl, hb⟩
  have HA := Lib.hid (HA.out.later hb)
  have HB := Lib.hid (HB.out.trans (hb.mono HB.out.size))
  clear g0 g1 g2 g3 g4 g5 g6 hb H9
  obtain ⟨g0, g1, g2, g3, g4, g5, g6⟩ := HA.out.cells
  go_wp2_with fail
  with_reducible refine (H10.out w10 HB.out).mono ?_
  rintro e w11 ⟨rfl, hb⟩
  have HA := Lib.hid (HA.out.later hb)
  have HB := Lib.hid (HB.out.trans (hb.mono HB.out.size))
  clear g0 g1 g2 g3 g4 g5 g6 hb H10
  obtain ⟨g0, g1, g2, g3, g4, g5, g6⟩ := HA.out.cells
  go_wp2_with fail
  with_reducible refine (H11.out w11 HB.out).mono ?_
  rintro e w12 ⟨rfl, hb⟩
  have HA := Lib.hid (HA.out.later hb)
  have HB := Lib.hid (HB.out.trans (hb.mono HB.out.size))
  clear g0 g1 g2 g3 g4 g5 g6 hb H11
  go_wp2_with fail
  with_reducible refine (HL.out _).mono ?_
  rintro e wz ⟨rfl, hb⟩
  have HZ := Lib.hid (HB.out.trans (hb.mono HB.out.size))
  clear hb
  go_wp2
  go_ret
  exact ⟨rfl, HZ.out⟩
end Go.Proofs.YtgklapjjofclcaaGreatDoor
/- PlansErrors, one case: errors_lt -/
namespace Go.Proofs.YtgklapjjofclcaaGreatDoor
open Go.RowKit

set_option maxRecDepth 100000 in
set_option maxHeartbeats 4000000 in
theorem errors_lt (p : Pn) (a : Option Addr) (n c : Nat) (a' : Option Addr) (n' c' : Nat) (x y : Int) (w : World) (hw : PowOk w) (hP : PRow w a n c p.P) (hL : LRow w a' n' c' p.L) (hn1 : n ≤ 80) (hn2 : n' ≤ 40) (i j : Nat) (hE : chkPl p = 0) (hx : fnd p.P x = some i) (hy : fnd p.P y = some j) (hxy : x < y) :
    Calls Tryz.prog 5 #[planV a n c a' n' c' p, .int .u16 x, .int .u16 y] w fun e w' => e = .returned (.bool true) ∧ Below w.heap.size w w' := by
  obtain ⟨W, hW⟩ : ∃ W, W = w.alloc (.cells (planCells a n c a' n' c' p).toArray 31) := ⟨_, rfl⟩
  have hB : Below w.heap.size w W := by rw [hW]; exact below_alloc _ _
  have hA : PlanAt W w.heap.size a n c a' n' c' p := by rw [hW]; exact PlanAt.new _ _ _ _ _ _ _ _
  have hi1 : ¬ (80 : Int) < (n : Int) := by omega
  have hi2 : ¬ (40 : Int) < (n' : Int) := by omega
  have hv := chkPl_zero.1 hE
  have hx1 : chkPts p [x] = 0 := by rw [one_pt hE, hx]; rfl
  have hx2 : chkPts p [x, y] = 0 := by rw [two_pt hE, hx, hy]; rfl
  have hne : (x == y) = false := by simp; omega
  have hne2 : x ≠ y := by omega
  have q0 := fun (V : World) (h : Below w.heap.size w V) => (check_any p a n c a' n' c' V (hP.later h) (hL.later h)).mono (fun e w' hh => (show e = .returned (.int .i64 0) ∧ Below V.heap.size V w' by rw [← hE]; exact hh))
  have q1 := fun (V : World) (h : Below w.heap.size w V) => (index_any p a n c a' n' c' x V (hP.later h)).mono (fun e w' hh => (show e = .returned (.int .i64 (i : Int)) ∧ Below V.heap.size V w' by rw [← idx_yes hx]; exact hh))
  have q2 := fun (V : World) (h : Below w.heap.size w V) => (index_any p a n c a' n' c' y V (hP.later h)).mono (fun e w' hh => (show e = .returned (.int .i64 (j : Int)) ∧ Below V.heap.size V w' by rw [← idx_yes hy]; exact hh))
  have q3 := fun (V : World) (h : Below w.heap.size w V) => neighbors_ok p a n c a' n' c' x V (hP.later h) (hL.later h) hx1 hv
  have q4 := fun (V : World) (h : Below w.heap.size w V) => distances_ok p a n c a' n' c' x V (hP.later h) (hL.later h) hx1 i hx hv
  have q5 := fun (V : World) (h : Below w.heap.size w V) => heights_all p a n c a' n' c' x V (hP.later h) (hL.later h) hx1 i hx hv
  have q6 := fun (V : World) (h : Below w.heap.size w V) => base_ok p a n c a' n' c' V (hP.later h) (hL.later h) hE hv
  have q7 := fun (V : World) (h : Below w.heap.size w V) => gap_ok p a n c a' n' c' V (hP.later h) (hL.later h) hE hv
  have q8 := fun (V : World) (h : Below w.heap.size w V) => write_any p a n c a' n' c' V (hP.later h) (hL.later h) hv (hw.later h)
  have q9 := fun (V : World) (h : Below w.heap.size w V) => links_lt p a n c a' n' c' x y V (hP.later h) (hL.later h) hx2 (by omega) hxy
  have q10 := fun (V : World) (h : Below w.heap.size w V) => choices_all p a n c a' n' c' x y V (hP.later h) (hL.later h) hx2 hne2 i j hx hy hv
  have q11 := fun (V : World) (h : Below w.heap.size w V) => hold_all p a n c a' n' c' x y V (hP.later h) (hL.later h) hx2 i j hx hy hv
  have hl := fun (V : World) => lives_any V
  unfold planV at *
  have H0 := Lib.hid q0
  have H1 := Lib.hid q1
  have H2 := Lib.hid q2
  have H3 := Lib.hid q3
  have H4 := Lib.hid q4
  have H5 := Lib.hid q5
  have H6 := Lib.hid q6
  have H7 := Lib.hid q7
  have H8 := Lib.hid q8
  have H9 := Lib.hid q9
  have H10 := Lib.hid q10
  have H11 := Lib.hid q11
  have HL := Lib.hid hl
  have HA := Lib.hid hA
  have HB := Lib.hid hB
  have HW := Lib.hid hW
  clear hP hL hw hA hB hW hl q0 q1 q2 q3 q4 q5 q6 q7 q8 q9 q10 q11
  go_enter Tryz.func5, Tryz.ntmps5
  go_upto_region 1 with fail
  show Code.wp _ _ _ _ (w.alloc (.cells (planCells a n c a' n' c' p).toArray 31))
  rw [← HW.out]
  obtain ⟨g0, g1, g2, g3, g4, g5, g6⟩ := HA.out.cells
  go_wp2_with fail
  with_reducible refine (H0.out W HB.out).mono ?_
  rintro e w1 ⟨rfl, hb⟩
  have HA := Lib.hid (HA.out.later hb)
  have HB := Lib.hid (HB.out.trans (hb.mono HB.out.size))
  clear g0 g1 g2 g3 g4 g5 g6 hb H0
  obtain ⟨g0, g1, g2, g3, g4, g5, g6⟩ := HA.out.cells
  go_wp2_with fail
  with_reducible refine (H1.out w1 HB.out).mono ?_
  rintro e w2 ⟨rfl, hb⟩
  have HA := Lib.hid (HA.out.later hb)
  have HB := Lib.hid (HB.out.trans (hb.mono HB.out.size))
  clear g0 g1 g2 g3 g4 g5 g6 hb H1
  obtain ⟨g0, g1, g2, g3, g4, g5, g6⟩ := HA.out.cells
  go_wp2_with fail
  with_reducible refine (H2.out w2 HB.out).mono ?_
  rintro e w3 ⟨rfl, hb⟩
  have HA := Lib.hid (HA.out.later hb)
  have HB := Lib.hid (HB.out.trans (hb.mono HB.out.size))
  clear g0 g1 g2 g3 g4 g5 g6 hb H2
  obtain ⟨g0, g1, g2, g3, g4, g5, g6⟩ := HA.out.cells
  go_wp2_with fail
  with_reducible refine (H3.out w3 HB.out).mono ?_
  rintro e w4 ⟨b1, rfl, _, hb⟩
  have HA := Lib.hid (HA.out.later hb)
  have HB := Lib.hid (HB.out.trans (hb.mono HB.out.size))
  clear g0 g1 g2 g3 g4 g5 g6 hb H3
  obtain ⟨g0, g1, g2, g3, g4, g5, g6⟩ := HA.out.cells
  go_wp2_with fail
  with_reducible refine (H4.out w4 HB.out).mono ?_
  rintro e w5 ⟨b2, l2, m2, _, _, rfl, _, _, hb⟩
  have HA := Lib.hid (HA.out.later hb)
  have HB := Lib.hid (HB.out.trans (hb.mono HB.out.size))
  clear g0 g1 g2 g3 g4 g5 g6 hb H4
  obtain ⟨g0, g1, g2, g3, g4, g5, g6⟩ := HA.out.cells
  go_wp2_with fail
  with_reducible refine (H5.out w5 HB.out).mono ?_
  rintro e w6 ⟨b3, m3, rfl, hb⟩
  have HA := Lib.hid (HA.out.later hb)
  have HB := Lib.hid (HB.out.trans (hb.mono HB.out.size))
  clear g0 g1 g2 g3 g4 g5 g6 hb H5
  obtain ⟨g0, g1, g2, g3, g4, g5, g6⟩ := HA.out.cells
  go_wp2_with fail
  with_reducible refine (H6.out w6 HB.out).mono ?_
  rintro e w7 ⟨rfl, hb⟩
  have HA := Lib.hid (HA.out.later hb)
  have HB := Lib.hid (HB.out.trans (hb.mono HB.out.size))
  clear g0 g1 g2 g3 g4 g5 g6 hb H6
  obtain ⟨g0, g1, g2, g3, g4, g5, g6⟩ := HA.out.cells
  go_wp2_with fail
  with_reducible refine (H7.out w7 HB.out).mono ?_
  rintro e w8 ⟨rfl, hb⟩
  have HA := Lib.hid (HA.out.later hb)
  have HB := Lib.hid (HB.out.trans (hb.mono HB.out.size))
  clear g0 g1 g2 g3 g4 g5 g6 hb H7
  obtain ⟨g0, g1, g2, g3, g4, g5, g6⟩ := HA.out.cells
  go_wp2_with fail
  with_reducible refine (H8.out w8 HB.out).mono ?_
  rintro e w9 ⟨s, hs, rfl, hb⟩
  have HA := Lib.hid (HA.out.later hb)
  have HB := Lib.hid (HB.out.trans (hb.mono HB.out.size))
  clear g0 g1 g2 g3 g4 g5 g6 hb H8
  obtain ⟨s1, s2, s3, s4, s5⟩ := text_some hs
  clear hs
  obtain ⟨g0, g1, g2, g3, g4, g5, g6⟩ := HA.out.cells
  go_wp2_with fail
  with_reducible refine (H9.out w9 HB.out).mono ?_
  rintro e w10 ⟨b4, rfl, _, hb⟩
  have HA := Lib.hid (HA.out.later hb)
  have HB := Lib.hid (HB.out.trans (hb.mono HB.out.size))
  clear g0 g1 g2 g3 g4 g5 g6 hb H9
  obtain ⟨g0, g1, g2, g3, g4, g5, g6⟩ := HA.out.cells
  go_wp2_with fail
  with_reducible refine (H10.out w10 HB.out).mono ?_
  rintro e w11 ⟨b5, m5, rfl, hb⟩
  have HA := Lib.hid (HA.out.later hb)
  have HB := Lib.hid (HB.out.trans (hb.mono HB.out.size))
  clear g0 g1 g2 g3 g4 g5 g6 hb H10
  obtain ⟨g0, g1, g2, g3, g4, g5, g6⟩ := HA.out.cells
  go_wp2_with fail
  with_reducible refine (H11.out w11 HB.out).mono ?_
  rintro e w12 ⟨X9, E9, rfl, h9, hb⟩
  have HA := Lib.hid (HA.out.later hb)
  have HB := Lib.hid (HB.out.trans (hb.mono HB.out.size))
  clear g0 g1 g2 g3 g4 g5 g6 hb H11
  rcases h9 with rfl | rfl
  all_goals go_wp2_with fail
  all_goals with_reducible refine (HL.out _).mono ?_
  all_goals rintro e wz ⟨rfl, hb⟩
  all_goals have HZ := Lib.hid (HB.out.trans (hb.mono HB.out.size))
  all_goals clear hb
  all_goals go_wp2
  all_goals go_ret
  all_goals exact ⟨rfl, HZ.out⟩
end Go.Proofs.YtgklapjjofclcaaGreatDoor
/- PlansErrors, one case: errors_gt -/
namespace Go.Proofs.YtgklapjjofclcaaGreatDoor
open Go.RowKit

set_option maxRecDepth 100000 in
set_option maxHeartbeats 4000000 in
theorem errors_gt (p : Pn) (a : Option Addr) (n c : Nat) (a' : Option Addr) (n' c' : Nat) (x y : Int) (w : World) (hw : PowOk w) (hP : PRow w a n c p.P) (hL : LRow w a' n' c' p.L) (hn1 : n ≤ 80) (hn2 : n' ≤ 40) (i j : Nat) (hE : chkPl p = 0) (hx : fnd p.P x = some i) (hy : fnd p.P y = some j) (hxy : y < x) :
    Calls Tryz.prog 5 #[planV a n c a' n' c' p, .int .u16 x, .int .u16 y] w fun e w' => e = .returned (.bool true) ∧ Below w.heap.size w w' := by
  obtain ⟨W, hW⟩ : ∃ W, W = w.alloc (.cells (planCells a n c a' n' c' p).toArray 31) := ⟨_, rfl⟩
  have hB : Below w.heap.size w W := by rw [hW]; exact below_alloc _ _
  have hA : PlanAt W w.heap.size a n c a' n' c' p := by rw [hW]; exact PlanAt.new _ _ _ _ _ _ _ _
  have hi1 : ¬ (80 : Int) < (n : Int) := by omega
  have hi2 : ¬ (40 : Int) < (n' : Int) := by omega
  have hv := chkPl_zero.1 hE
  have hx1 : chkPts p [x] = 0 := by rw [one_pt hE, hx]; rfl
  have hx2 : chkPts p [x, y] = 0 := by rw [two_pt hE, hx, hy]; rfl
  have hne : (x == y) = false := by simp; omega
  have hne2 : x ≠ y := by omega
  have q0 := fun (V : World) (h : Below w.heap.size w V) => (check_any p a n c a' n' c' V (hP.later h) (hL.later h)).mono (fun e w' hh => (show e = .returned (.int .i64 0) ∧ Below V.heap.size V w' by rw [← hE]; exact hh))
  have q1 := fun (V : World) (h : Below w.heap.size w V) => (index_any p a n c a' n' c' x V (hP.later h)).mono (fun e w' hh => (show e = .returned (.int .i64 (i : Int)) ∧ Below V.heap.size V w' by rw [← idx_yes hx]; exact hh))
  have q2 := fun (V : World) (h : Below w.heap.size w V) => (index_any p a n c a' n' c' y V (hP.later h)).mono (fun e w' hh => (show e = .returned (.int .i64 (j : Int)) ∧ Below V.heap.size V w' by rw [← idx_yes hy]; exact hh))
  have q3 := fun (V : World) (h : Below w.heap.size w V) => neighbors_ok p a n c a' n' c' x V (hP.later h) (hL.later h) hx1 hv
  have q4 := fun (V : World) (h : Below w.heap.size w V) => distances_ok p a n c a' n' c' x V (hP.later h) (hL.later h) hx1 i hx hv
  have q5 := fun (V : World) (h : Below w.heap.size w V) => heights_all p a n c a' n' c' x V (hP.later h) (hL.later h) hx1 i hx hv
  have q6 := fun (V : World) (h : Below w.heap.size w V) => base_ok p a n c a' n' c' V (hP.later h) (hL.later h) hE hv
  have q7 := fun (V : World) (h : Below w.heap.size w V) => gap_ok p a n c a' n' c' V (hP.later h) (hL.later h) hE hv
  have q8 := fun (V : World) (h : Below w.heap.size w V) => write_any p a n c a' n' c' V (hP.later h) (hL.later h) hv (hw.later h)
  have q9 := fun (V : World) (h : Below w.heap.size w V) => links_gt p a n c a' n' c' x y V (hP.later h) (hL.later h) hx2 (by omega) hxy
  have q10 := fun (V : World) (h : Below w.heap.size w V) => choices_all p a n c a' n' c' x y V (hP.later h) (hL.later h) hx2 hne2 i j hx hy hv
  have q11 := fun (V : World) (h : Below w.heap.size w V) => hold_all p a n c a' n' c' x y V (hP.later h) (hL.later h) hx2 i j hx hy hv
  have hl := fun (V : World) => lives_any V
  unfold planV at *
  have H0 := Lib.hid q0
  have H1 := Lib.hid q1
  have H2 := Lib.hid q2
  have H3 := Lib.hid q3
  have H4 := Lib.hid q4
  have H5 := Lib.hid q5
  have H6 := Lib.hid q6
  have H7 := Lib.hid q7
  have H8 := Lib.hid q8
  have H9 := Lib.hid q9
  have H10 := Lib.hid q10
  have H11 := Lib.hid q11
  have HL := Lib.hid hl
  have HA := Lib.hid hA
  have HB := Lib.hid hB
  have HW := Lib.hid hW
  clear hP hL hw hA hB hW hl q0 q1 q2 q3 q4 q5 q6 q7 q8 q9 q10 q11
  go_enter Tryz.func5, Tryz.ntmps5
  go_upto_region 1 with fail
  show Code.wp _ _ _ _ (w.alloc (.cells (planCells a n c a' n' c' p).toArray 31))
  rw [← HW.out]
  obtain ⟨g0, g1, g2, g3, g4, g5, g6⟩ := HA.out.cells
  go_wp2_with fail
  with_reducible refine (H0.out W HB.out).mono ?_
  rintro e w1 ⟨rfl, hb⟩
  have HA := Lib.hid (HA.out.later hb)
  have HB := Lib.hid (HB.out.trans (hb.mono HB.out.size))
  clear g0 g1 g2 g3 g4 g5 g6 hb H0
  obtain ⟨g0, g1, g2, g3, g4, g5, g6⟩ := HA.out.cells
  go_wp2_with fail
  with_reducible refine (H1.out w1 HB.out).mono ?_
  rintro e w2 ⟨rfl, hb⟩
  have HA := Lib.hid (HA.out.later hb)
  have HB := Lib.hid (HB.out.trans (hb.mono HB.out.size))
  clear g0 g1 g2 g3 g4 g5 g6 hb H1
  obtain ⟨g0, g1, g2, g3, g4, g5, g6⟩ := HA.out.cells
  go_wp2_with fail
  with_reducible refine (H2.out w2 HB.out).mono ?_
  rintro e w3 ⟨rfl, hb⟩
  have HA := Lib.hid (HA.out.later hb)
  have HB := Lib.hid (HB.out.trans (hb.mono HB.out.size))
  clear g0 g1 g2 g3 g4 g5 g6 hb H2
  obtain ⟨g0, g1, g2, g3, g4, g5, g6⟩ := HA.out.cells
  go_wp2_with fail
  with_reducible refine (H3.out w3 HB.out).mono ?_
  rintro e w4 ⟨b1, rfl, _, hb⟩
  have HA := Lib.hid (HA.out.later hb)
  have HB := Lib.hid (HB.out.trans (hb.mono HB.out.size))
  clear g0 g1 g2 g3 g4 g5 g6 hb H3
  obtain ⟨g0, g1, g2, g3, g4, g5, g6⟩ := HA.out.cells
  go_wp2_with fail
  with_reducible refine (H4.out w4 HB.out).mono ?_
  rintro e w5 ⟨b2, l2, m2, _, _, rfl, _, _, hb⟩
  have HA := Lib.hid (HA.out.later hb)
  have HB := Lib.hid (HB.out.trans (hb.mono HB.out.size))
  clear g0 g1 g2 g3 g4 g5 g6 hb H4
  obtain ⟨g0, g1, g2, g3, g4, g5, g6⟩ := HA.out.cells
  go_wp2_with fail
  with_reducible refine (H5.out w5 HB.out).mono ?_
  rintro e w6 ⟨b3, m3, rfl, hb⟩
  have HA := Lib.hid (HA.out.later hb)
  have HB := Lib.hid (HB.out.trans (hb.mono HB.out.size))
  clear g0 g1 g2 g3 g4 g5 g6 hb H5
  obtain ⟨g0, g1, g2, g3, g4, g5, g6⟩ := HA.out.cells
  go_wp2_with fail
  with_reducible refine (H6.out w6 HB.out).mono ?_
  rintro e w7 ⟨rfl, hb⟩
  have HA := Lib.hid (HA.out.later hb)
  have HB := Lib.hid (HB.out.trans (hb.mono HB.out.size))
  clear g0 g1 g2 g3 g4 g5 g6 hb H6
  obtain ⟨g0, g1, g2, g3, g4, g5, g6⟩ := HA.out.cells
  go_wp2_with fail
  with_reducible refine (H7.out w7 HB.out).mono ?_
  rintro e w8 ⟨rfl, hb⟩
  have HA := Lib.hid (HA.out.later hb)
  have HB := Lib.hid (HB.out.trans (hb.mono HB.out.size))
  clear g0 g1 g2 g3 g4 g5 g6 hb H7
  obtain ⟨g0, g1, g2, g3, g4, g5, g6⟩ := HA.out.cells
  go_wp2_with fail
  with_reducible refine (H8.out w8 HB.out).mono ?_
  rintro e w9 ⟨s, hs, rfl, hb⟩
  have HA := Lib.hid (HA.out.later hb)
  have HB := Lib.hid (HB.out.trans (hb.mono HB.out.size))
  clear g0 g1 g2 g3 g4 g5 g6 hb H8
  obtain ⟨s1, s2, s3, s4, s5⟩ := text_some hs
  clear hs
  obtain ⟨g0, g1, g2, g3, g4, g5, g6⟩ := HA.out.cells
  go_wp2_with fail
  with_reducible refine (H9.out w9 HB.out).mono ?_
  rintro e w10 ⟨b4, rfl, _, hb⟩
  have HA := Lib.hid (HA.out.later hb)
  have HB := Lib.hid (HB.out.trans (hb.mono HB.out.size))
  clear g0 g1 g2 g3 g4 g5 g6 hb H9
  obtain ⟨g0, g1, g2, g3, g4, g5, g6⟩ := HA.out.cells
  go_wp2_with fail
  with_reducible refine (H10.out w10 HB.out).mono ?_
  rintro e w11 ⟨b5, m5, rfl, hb⟩
  have HA := Lib.hid (HA.out.later hb)
  have HB := Lib.hid (HB.out.trans (hb.mono HB.out.size))
  clear g0 g1 g2 g3 g4 g5 g6 hb H10
  obtain ⟨g0, g1, g2, g3, g4, g5, g6⟩ := HA.out.cells
  go_wp2_with fail
  with_reducible refine (H11.out w11 HB.out).mono ?_
  rintro e w12 ⟨X9, E9, rfl, h9, hb⟩
  have HA := Lib.hid (HA.out.later hb)
  have HB := Lib.hid (HB.out.trans (hb.mono HB.out.size))
  clear g0 g1 g2 g3 g4 g5 g6 hb H11
  rcases h9 with rfl | rfl
  all_goals go_wp2_with fail
  all_goals with_reducible refine (HL.out _).mono ?_
  all_goals rintro e wz ⟨rfl, hb⟩
  all_goals have HZ := Lib.hid (HB.out.trans (hb.mono HB.out.size))
  all_goals clear hb
  all_goals go_wp2
  all_goals go_ret
  all_goals exact ⟨rfl, HZ.out⟩
end Go.Proofs.YtgklapjjofclcaaGreatDoor
/- PlansErrors, one case: errors_eq -/
namespace Go.Proofs.YtgklapjjofclcaaGreatDoor
open Go.RowKit

set_option maxRecDepth 100000 in
set_option maxHeartbeats 4000000 in
theorem errors_eq (p : Pn) (a : Option Addr) (n c : Nat) (a' : Option Addr) (n' c' : Nat) (x y : Int) (w : World) (hw : PowOk w) (hP : PRow w a n c p.P) (hL : LRow w a' n' c' p.L) (hn1 : n ≤ 80) (hn2 : n' ≤ 40) (i : Nat) (hE : chkPl p = 0) (hx : fnd p.P x = some i) (hxy : y = x) :
    Calls Tryz.prog 5 #[planV a n c a' n' c' p, .int .u16 x, .int .u16 y] w fun e w' => e = .returned (.bool true) ∧ Below w.heap.size w w' := by
  obtain ⟨W, hW⟩ : ∃ W, W = w.alloc (.cells (planCells a n c a' n' c' p).toArray 31) := ⟨_, rfl⟩
  have hB : Below w.heap.size w W := by rw [hW]; exact below_alloc _ _
  have hA : PlanAt W w.heap.size a n c a' n' c' p := by rw [hW]; exact PlanAt.new _ _ _ _ _ _ _ _
  have hi1 : ¬ (80 : Int) < (n : Int) := by omega
  have hi2 : ¬ (40 : Int) < (n' : Int) := by omega
  subst hxy
  have hv := chkPl_zero.1 hE
  have hx1 : chkPts p [y] = 0 := by rw [one_pt hE, hx]; rfl
  have hx2 : chkPts p [y, y] = 0 := by rw [two_pt hE, hx]; rfl
  have q0 := fun (V : World) (h : Below w.heap.size w V) => (check_any p a n c a' n' c' V (hP.later h) (hL.later h)).mono (fun e w' hh => (show e = .returned (.int .i64 0) ∧ Below V.heap.size V w' by rw [← hE]; exact hh))
  have q1 := fun (V : World) (h : Below w.heap.size w V) => (index_any p a n c a' n' c' y V (hP.later h)).mono (fun e w' hh => (show e = .returned (.int .i64 (i : Int)) ∧ Below V.heap.size V w' by rw [← idx_yes hx]; exact hh))
  have q2 := fun (V : World) (h : Below w.heap.size w V) => (index_any p a n c a' n' c' y V (hP.later h)).mono (fun e w' hh => (show e = .returned (.int .i64 (i : Int)) ∧ Below V.heap.size V w' by rw [← idx_yes hx]; exact hh))
  have q3 := fun (V : World) (h : Below w.heap.size w V) => neighbors_ok p a n c a' n' c' y V (hP.later h) (hL.later h) hx1 hv
  have q4 := fun (V : World) (h : Below w.heap.size w V) => distances_ok p a n c a' n' c' y V (hP.later h) (hL.later h) hx1 i hx hv
  have q5 := fun (V : World) (h : Below w.heap.size w V) => heights_all p a n c a' n' c' y V (hP.later h) (hL.later h) hx1 i hx hv
  have q6 := fun (V : World) (h : Below w.heap.size w V) => base_ok p a n c a' n' c' V (hP.later h) (hL.later h) hE hv
  have q7 := fun (V : World) (h : Below w.heap.size w V) => gap_ok p a n c a' n' c' V (hP.later h) (hL.later h) hE hv
  have q8 := fun (V : World) (h : Below w.heap.size w V) => write_any p a n c a' n' c' V (hP.later h) (hL.later h) hv (hw.later h)
  have q9 := fun (V : World) (h : Below w.heap.size w V) => links_same p a n c a' n' c' y V (hP.later h) (hL.later h) hx2
  have q10 := fun (V : World) (h : Below w.heap.size w V) => choices_same p a n c a' n' c' y V (hP.later h) (hL.later h) hx2
  have q11 := fun (V : World) (h : Below w.heap.size w V) => hold_all p a n c a' n' c' y y V (hP.later h) (hL.later h) hx2 i i hx hx hv
  have hl := fun (V : World) => lives_any V
  unfold planV at *
  have H0 := Lib.hid q0
  have H1 := Lib.hid q1
  have H2 := Lib.hid q2
  have H3 := Lib.hid q3
  have H4 := Lib.hid q4
  have H5 := Lib.hid q5
  have H6 := Lib.hid q6
  have H7 := Lib.hid q7
  have H8 := Lib.hid q8
  have H9 := Lib.hid q9
  have H10 := Lib.hid q10
  have H11 := Lib.hid q11
  have HL := Lib.hid hl
  have HA := Lib.hid hA
  have HB := Lib.hid hB
  have HW := Lib.hid hW
  clear hP hL hw hA hB hW hl q0 q1 q2 q3 q4 q5 q6 q7 q8 q9 q10 q11
  go_enter Tryz.func5, Tryz.ntmps5
  go_upto_region 1 with fail
  show Code.wp _ _ _ _ (w.alloc (.cells (planCells a n c a' n' c' p).toArray 31))
  rw [← HW.out]
  obtain ⟨g0, g1, g2, g3, g4, g5, g6⟩ := HA.out.cells
  go_wp2_with fail
  with_reducible refine (H0.out W HB.out).mono ?_
  rintro e w1 ⟨rfl, hb⟩
  have HA := Lib.hid (HA.out.later hb)
  have HB := Lib.hid (HB.out.trans (hb.mono HB.out.size))
  clear g0 g1 g2 g3 g4 g5 g6 hb H0
  obtain ⟨g0, g1, g2, g3, g4, g5, g6⟩ := HA.out.cells
  go_wp2_with fail
  with_reducible refine (H1.out w1 HB.out).mono ?_
  rintro e w2 ⟨rfl, hb⟩
  have HA := Lib.hid (HA.out.later hb)
  have HB := Lib.hid (HB.out.trans (hb.mono HB.out.size))
  clear g0 g1 g2 g3 g4 g5 g6 hb H1
  obtain ⟨g0, g1, g2, g3, g4, g5, g6⟩ := HA.out.cells
  go_wp2_with fail
  with_reducible refine (H2.out w2 HB.out).mono ?_
  rintro e w3 ⟨rfl, hb⟩
  have HA := Lib.hid (HA.out.later hb)
  have HB := Lib.hid (HB.out.trans (hb.mono HB.out.size))
  clear g0 g1 g2 g3 g4 g5 g6 hb H2
  obtain ⟨g0, g1, g2, g3, g4, g5, g6⟩ := HA.out.cells
  go_wp2_with fail
  with_reducible refine (H3.out w3 HB.out).mono ?_
  rintro e w4 ⟨b1, rfl, _, hb⟩
  have HA := Lib.hid (HA.out.later hb)
  have HB := Lib.hid (HB.out.trans (hb.mono HB.out.size))
  clear g0 g1 g2 g3 g4 g5 g6 hb H3
  obtain ⟨g0, g1, g2, g3, g4, g5, g6⟩ := HA.out.cells
  go_wp2_with fail
  with_reducible refine (H4.out w4 HB.out).mono ?_
  rintro e w5 ⟨b2, l2, m2, _, _, rfl, _, _, hb⟩
  have HA := Lib.hid (HA.out.later hb)
  have HB := Lib.hid (HB.out.trans (hb.mono HB.out.size))
  clear g0 g1 g2 g3 g4 g5 g6 hb H4
  obtain ⟨g0, g1, g2, g3, g4, g5, g6⟩ := HA.out.cells
  go_wp2_with fail
  with_reducible refine (H5.out w5 HB.out).mono ?_
  rintro e w6 ⟨b3, m3, rfl, hb⟩
  have HA := Lib.hid (HA.out.later hb)
  have HB := Lib.hid (HB.out.trans (hb.mono HB.out.size))
  clear g0 g1 g2 g3 g4 g5 g6 hb H5
  obtain ⟨g0, g1, g2, g3, g4, g5, g6⟩ := HA.out.cells
  go_wp2_with fail
  with_reducible refine (H6.out w6 HB.out).mono ?_
  rintro e w7 ⟨rfl, hb⟩
  have HA := Lib.hid (HA.out.later hb)
  have HB := Lib.hid (HB.out.trans (hb.mono HB.out.size))
  clear g0 g1 g2 g3 g4 g5 g6 hb H6
  obtain ⟨g0, g1, g2, g3, g4, g5, g6⟩ := HA.out.cells
  go_wp2_with fail
  with_reducible refine (H7.out w7 HB.out).mono ?_
  rintro e w8 ⟨rfl, hb⟩
  have HA := Lib.hid (HA.out.later hb)
  have HB := Lib.hid (HB.out.trans (hb.mono HB.out.size))
  clear g0 g1 g2 g3 g4 g5 g6 hb H7
  obtain ⟨g0, g1, g2, g3, g4, g5, g6⟩ := HA.out.cells
  go_wp2_with fail
  with_reducible refine (H8.out w8 HB.out).mono ?_
  rintro e w9 ⟨s, hs, rfl, hb⟩
  have HA := Lib.hid (HA.out.later hb)
  have HB := Lib.hid (HB.out.trans (hb.mono HB.out.size))
  clear g0 g1 g2 g3 g4 g5 g6 hb H8
  obtain ⟨s1, s2, s3, s4, s5⟩ := text_some hs
  clear hs
  obtain ⟨g0, g1, g2, g3, g4, g5, g6⟩ := HA.out.cells
  go_wp2_with fail
  with_reducible refine (H9.out w9 HB.out).mono ?_
  rintro e w10 ⟨rfl, hb⟩
  have HA := Lib.hid (HA.out.later hb)
  have HB := Lib.hid (HB.out.trans (hb.mono HB.out.size))
  clear g0 g1 g2 g3 g4 g5 g6 hb H9
  obtain ⟨g0, g1, g2, g3, g4, g5, g6⟩ := HA.out.cells
  go_wp2_with fail
  with_reducible refine (H10.out w10 HB.out).mono ?_
  rintro e w11 ⟨rfl, hb⟩
  have HA := Lib.hid (HA.out.later hb)
  have HB := Lib.hid (HB.out.trans (hb.mono HB.out.size))
  clear g0 g1 g2 g3 g4 g5 g6 hb H10
  obtain ⟨g0, g1, g2, g3, g4, g5, g6⟩ := HA.out.cells
  go_wp2_with fail
  with_reducible refine (H11.out w11 HB.out).mono ?_
  rintro e w12 ⟨X9, E9, rfl, h9, hb⟩
  have HA := Lib.hid (HA.out.later hb)
  have HB := Lib.hid (HB.out.trans (hb.mono HB.out.size))
  clear g0 g1 g2 g3 g4 g5 g6 hb H11
  rcases h9 with rfl | rfl
  all_goals go_wp2_with fail
  all_goals with_reducible refine (HL.out _).mono ?_
  all_goals rintro e wz ⟨rfl, hb⟩
  all_goals have HZ := Lib.hid (HB.out.trans (hb.mono HB.out.size))
  all_goals clear hb
  all_goals go_wp2
  all_goals go_ret
  all_goals exact ⟨rfl, HZ.out⟩
end Go.Proofs.YtgklapjjofclcaaGreatDoor
/- The walk of PlansErrors. -/
namespace Go.Proofs.YtgklapjjofclcaaGreatDoor
open Go.RowKit

set_option maxRecDepth 100000 in
set_option maxHeartbeats 4000000 in
theorem errors_big (p : Pn) (a : Option Addr) (n c : Nat) (a' : Option Addr) (n' c' : Nat) (x y : Int) (w : World) (_hw : PowOk w) (_hP : PRow w a n c p.P) (_hL : LRow w a' n' c' p.L) (hbig : 80 < n ∨ 40 < n') :
    Calls Tryz.prog 5 #[planV a n c a' n' c' p, .int .u16 x, .int .u16 y] w fun e w' => e = .returned (.bool true) ∧ Below w.heap.size w w' := by
  obtain ⟨W, hW⟩ : ∃ W, W = w.alloc (.cells (planCells a n c a' n' c' p).toArray 31) := ⟨_, rfl⟩
  have hB : Below w.heap.size w W := by rw [hW]; exact below_alloc _ _
  have hA : PlanAt W w.heap.size a n c a' n' c' p := by rw [hW]; exact PlanAt.new _ _ _ _ _ _ _ _
  have hd : decide ((80 : Int) < (n : Int)) = true ∨ (decide ((80 : Int) < (n : Int)) = false ∧ decide ((40 : Int) < (n' : Int)) = true) := by
    simp only [decide_eq_true_eq, decide_eq_false_iff_not]; omega
  have HL := Lib.hid (fun (V : World) => lives_any V)
  have HB := Lib.hid hB
  have HW := Lib.hid hW
  have HA := Lib.hid hA
  unfold planV at *
  clear _hP _hL _hw hA hB hW hbig
  rcases hd with h1 | ⟨h1, h2⟩
  all_goals go_enter Tryz.func5, Tryz.ntmps5
  all_goals go_upto_region 1 with fail
  all_goals show Code.wp _ _ _ _ (w.alloc (.cells (planCells a n c a' n' c' p).toArray 31))
  all_goals rw [← HW.out]
  all_goals obtain ⟨g0, g1, g2, g3, g4, g5, g6⟩ := HA.out.cells
  all_goals go_wp2_with fail
  all_goals with_reducible refine (HL.out _).mono ?_
  all_goals rintro e wz ⟨rfl, hb⟩
  all_goals have HZ := Lib.hid (HB.out.trans (hb.mono HB.out.size))
  all_goals clear hb
  all_goals go_wp2
  all_goals go_ret
  all_goals exact ⟨rfl, HZ.out⟩
theorem errors_walk (a : Option Addr) (n c : Nat) (a' : Option Addr) (n' c' : Nat) (p : Pn) (x y : Int) (w : World) (hw : PowOk w) (hP : PRow w a n c p.P) (hL : LRow w a' n' c' p.L) (_hN : NumOk p) (_hx : (Lit.int .u16 x).wf = true) (_hy : (Lit.int .u16 y).wf = true) :
    Calls Tryz.prog 5 #[planV a n c a' n' c' p, .int .u16 x, .int .u16 y] w fun e w' => e = .returned (.bool true) ∧ Below w.heap.size w w' := by
  by_cases hbig : 80 < n ∨ 40 < n'
  · exact errors_big p a n c a' n' c' x y w hw hP hL hbig
  · have hn1 : n ≤ 80 := by omega
    have hn2 : n' ≤ 40 := by omega
    by_cases hE : chkPl p = 0
    · cases hx : fnd p.P x with
      | none => exact errors_x p a n c a' n' c' x y w hw hP hL hn1 hn2 hE hx
      | some i =>
        cases hy : fnd p.P y with
        | none => exact errors_y p a n c a' n' c' x y w hw hP hL hn1 hn2 i hE hx hy
        | some j =>
          rcases Int.lt_trichotomy x y with h | h | h
          · exact errors_lt p a n c a' n' c' x y w hw hP hL hn1 hn2 i j hE hx hy h
          · exact errors_eq p a n c a' n' c' x y w hw hP hL hn1 hn2 i hE hx h.symm
          · exact errors_gt p a n c a' n' c' x y w hw hP hL hn1 hn2 i j hE hx hy h
    · exact errors_plan p a n c a' n' c' x y w hw hP hL hn1 hn2 _ rfl hE
end Go.Proofs.YtgklapjjofclcaaGreatDoor
