import Derived.Test.YthlckipcgogogaaGreatDoorPcDist
import Derived.Test.YthlckipcgogogaaGreatDoorPcHt
import Derived.Deep.RegionHeld3
/- The code's exported functions over a plan: errors first; Neighbors, Distances, Base, Gap. -/
namespace Go.Proofs.YthlckipcgogogaaGreatDoor
set_option linter.unusedVariables false
open Go.RowKit

set_option maxHeartbeats 1000000 in
theorem neighbors_err (p : Pn) (a : Option Addr) (n c : Nat) (a' : Option Addr) (n' c' : Nat) (t : Int) (w : World) (hP : PRow w a n c p.P) (hL : LRow w a' n' c' p.L) (E : Int) (hE : chkPts p [t] = E) (h0 : E ≠ 0) :
    Calls Tryz.prog 21 #[planV a n c a' n' c' p, .int .u16 t] w fun e w' => e = .returned (.tuple #[.slice none 0 0, .int .i64 E]) ∧ Below w.heap.size w w' := by
  obtain ⟨W, hW⟩ : ∃ W, W = w.alloc (.cells (planCells a n c a' n' c' p).toArray 31) := ⟨_, rfl⟩
  have hB : Below w.heap.size w W := by rw [hW]; exact below_alloc _ _
  have hA : PlanAt W w.heap.size a n c a' n' c' p := by rw [hW]; exact PlanAt.new _ _ _ _ _ _ _ _
  have hlt : w.heap.size < W.heap.size := hA.lt
  have hB1 : Below w.heap.size w (W.alloc (.cells #[.int .u16 t] 53)) := hB.trans ((below_alloc W _).mono hB.size)
  have hsz : W.heap.size = w.heap.size + 1 := by rw [hW]; simp
  have ho := own_alloc W (nums .u16 [t]) 53
  rw [hsz] at ho
  have hC := cchk_any p a n c a' n' c' (w.heap.size + 1) [t] 1 rfl (by decide) (W.alloc (.cells #[.int .u16 t] 53)) (hP.later hB1) (hL.later hB1) ho
  clear ho hsz
  rw [hE] at hC
  unfold planV at *
  have HC := Lib.hid hC
  have HB1 := Lib.hid hB1
  have HA := Lib.hid hA
  obtain ⟨g0, g1, g2, g3, g4, g5, g6⟩ := hA.cells
  clear hC hB hA hB1
  go_enter Tryz.func21, Tryz.ntmps21
  go_wp2_with fail
  show Calls _ _ _ ((w.alloc (.cells (planCells a n c a' n' c' p).toArray 31)).alloc _) _
  rw [← hW]
  clear hW
  with_reducible refine HC.out.mono ?_
  rintro e w1 ⟨rfl, hb⟩
  have HB2 := Lib.hid (HB1.out.trans (hb.mono HB1.out.size))
  clear g0 g1 g2 g3 g4 g5 g6
  obtain ⟨g0, g1, g2, g3, g4, g5, g6⟩ := (HA.out.later (by exact (below_alloc W _).trans (hb.mono (below_alloc W _).size))).cells
  have HA2 := Lib.hid (HA.out.later (by exact (below_alloc W _).trans (hb.mono (below_alloc W _).size)))
  clear hb HC
  have hne : (E != 0) = true := by simpa using h0
  clear g0 g1 g2 g3 g4 g5 g6
  go_wp2
  go_ret2
  exact ⟨rfl, HB2.out⟩
set_option maxHeartbeats 1000000 in
theorem links_err (p : Pn) (a : Option Addr) (n c : Nat) (a' : Option Addr) (n' c' : Nat) (t : Int) (u : Int) (w : World) (hP : PRow w a n c p.P) (hL : LRow w a' n' c' p.L) (E : Int) (hE : chkPts p [t, u] = E) (h0 : E ≠ 0) :
    Calls Tryz.prog 26 #[planV a n c a' n' c' p, .int .u16 t, .int .u16 u] w fun e w' => e = .returned (.tuple #[.slice none 0 0, .int .i64 E]) ∧ Below w.heap.size w w' := by
  obtain ⟨W, hW⟩ : ∃ W, W = w.alloc (.cells (planCells a n c a' n' c' p).toArray 31) := ⟨_, rfl⟩
  have hB : Below w.heap.size w W := by rw [hW]; exact below_alloc _ _
  have hA : PlanAt W w.heap.size a n c a' n' c' p := by rw [hW]; exact PlanAt.new _ _ _ _ _ _ _ _
  have hlt : w.heap.size < W.heap.size := hA.lt
  have hB1 : Below w.heap.size w (W.alloc (.cells #[.int .u16 t, .int .u16 u] 53)) := hB.trans ((below_alloc W _).mono hB.size)
  have hsz : W.heap.size = w.heap.size + 1 := by rw [hW]; simp
  have ho := own_alloc W (nums .u16 [t, u]) 53
  rw [hsz] at ho
  have hC := cchk_any p a n c a' n' c' (w.heap.size + 1) [t, u] 2 rfl (by decide) (W.alloc (.cells #[.int .u16 t, .int .u16 u] 53)) (hP.later hB1) (hL.later hB1) ho
  clear ho hsz
  rw [hE] at hC
  unfold planV at *
  have HC := Lib.hid hC
  have HB1 := Lib.hid hB1
  have HA := Lib.hid hA
  obtain ⟨g0, g1, g2, g3, g4, g5, g6⟩ := hA.cells
  clear hC hB hA hB1
  go_enter Tryz.func26, Tryz.ntmps26
  go_wp2_with fail
  show Calls _ _ _ ((w.alloc (.cells (planCells a n c a' n' c' p).toArray 31)).alloc _) _
  rw [← hW]
  clear hW
  with_reducible refine HC.out.mono ?_
  rintro e w1 ⟨rfl, hb⟩
  have HB2 := Lib.hid (HB1.out.trans (hb.mono HB1.out.size))
  clear g0 g1 g2 g3 g4 g5 g6
  obtain ⟨g0, g1, g2, g3, g4, g5, g6⟩ := (HA.out.later (by exact (below_alloc W _).trans (hb.mono (below_alloc W _).size))).cells
  have HA2 := Lib.hid (HA.out.later (by exact (below_alloc W _).trans (hb.mono (below_alloc W _).size)))
  clear hb HC
  have hne : (E != 0) = true := by simpa using h0
  clear g0 g1 g2 g3 g4 g5 g6
  go_wp2
  go_ret2
  exact ⟨rfl, HB2.out⟩
set_option maxHeartbeats 1000000 in
theorem distances_err (p : Pn) (a : Option Addr) (n c : Nat) (a' : Option Addr) (n' c' : Nat) (t : Int) (w : World) (hP : PRow w a n c p.P) (hL : LRow w a' n' c' p.L) (E : Int) (hE : chkPts p [t] = E) (h0 : E ≠ 0) :
    Calls Tryz.prog 22 #[planV a n c a' n' c' p, .int .u16 t] w fun e w' => e = .returned (.tuple #[.slice none 0 0, .int .i64 E]) ∧ Below w.heap.size w w' := by
  obtain ⟨W, hW⟩ : ∃ W, W = w.alloc (.cells (planCells a n c a' n' c' p).toArray 31) := ⟨_, rfl⟩
  have hB : Below w.heap.size w W := by rw [hW]; exact below_alloc _ _
  have hA : PlanAt W w.heap.size a n c a' n' c' p := by rw [hW]; exact PlanAt.new _ _ _ _ _ _ _ _
  have hlt : w.heap.size < W.heap.size := hA.lt
  have hB1 : Below w.heap.size w (W.alloc (.cells #[.int .u16 t] 53)) := hB.trans ((below_alloc W _).mono hB.size)
  have hsz : W.heap.size = w.heap.size + 1 := by rw [hW]; simp
  have ho := own_alloc W (nums .u16 [t]) 53
  rw [hsz] at ho
  have hC := cchk_any p a n c a' n' c' (w.heap.size + 1) [t] 1 rfl (by decide) (W.alloc (.cells #[.int .u16 t] 53)) (hP.later hB1) (hL.later hB1) ho
  clear ho hsz
  rw [hE] at hC
  unfold planV at *
  have HC := Lib.hid hC
  have HB1 := Lib.hid hB1
  have HA := Lib.hid hA
  obtain ⟨g0, g1, g2, g3, g4, g5, g6⟩ := hA.cells
  clear hC hB hA hB1
  go_enter Tryz.func22, Tryz.ntmps22
  go_wp2_with fail
  show Calls _ _ _ ((w.alloc (.cells (planCells a n c a' n' c' p).toArray 31)).alloc _) _
  rw [← hW]
  clear hW
  with_reducible refine HC.out.mono ?_
  rintro e w1 ⟨rfl, hb⟩
  have HB2 := Lib.hid (HB1.out.trans (hb.mono HB1.out.size))
  clear g0 g1 g2 g3 g4 g5 g6
  obtain ⟨g0, g1, g2, g3, g4, g5, g6⟩ := (HA.out.later (by exact (below_alloc W _).trans (hb.mono (below_alloc W _).size))).cells
  have HA2 := Lib.hid (HA.out.later (by exact (below_alloc W _).trans (hb.mono (below_alloc W _).size)))
  clear hb HC
  have hne : (E != 0) = true := by simpa using h0
  clear g0 g1 g2 g3 g4 g5 g6
  go_wp2
  go_ret2
  exact ⟨rfl, HB2.out⟩
set_option maxHeartbeats 1000000 in
theorem heights_err (p : Pn) (a : Option Addr) (n c : Nat) (a' : Option Addr) (n' c' : Nat) (t : Int) (w : World) (hP : PRow w a n c p.P) (hL : LRow w a' n' c' p.L) (E : Int) (hE : chkPts p [t] = E) (h0 : E ≠ 0) :
    Calls Tryz.prog 23 #[planV a n c a' n' c' p, .int .u16 t] w fun e w' => e = .returned (.tuple #[.slice none 0 0, .int .i64 E]) ∧ Below w.heap.size w w' := by
  obtain ⟨W, hW⟩ : ∃ W, W = w.alloc (.cells (planCells a n c a' n' c' p).toArray 31) := ⟨_, rfl⟩
  have hB : Below w.heap.size w W := by rw [hW]; exact below_alloc _ _
  have hA : PlanAt W w.heap.size a n c a' n' c' p := by rw [hW]; exact PlanAt.new _ _ _ _ _ _ _ _
  have hlt : w.heap.size < W.heap.size := hA.lt
  have hB1 : Below w.heap.size w (W.alloc (.cells #[.int .u16 t] 53)) := hB.trans ((below_alloc W _).mono hB.size)
  have hsz : W.heap.size = w.heap.size + 1 := by rw [hW]; simp
  have ho := own_alloc W (nums .u16 [t]) 53
  rw [hsz] at ho
  have hC := cchk_any p a n c a' n' c' (w.heap.size + 1) [t] 1 rfl (by decide) (W.alloc (.cells #[.int .u16 t] 53)) (hP.later hB1) (hL.later hB1) ho
  clear ho hsz
  rw [hE] at hC
  unfold planV at *
  have HC := Lib.hid hC
  have HB1 := Lib.hid hB1
  have HA := Lib.hid hA
  obtain ⟨g0, g1, g2, g3, g4, g5, g6⟩ := hA.cells
  clear hC hB hA hB1
  go_enter Tryz.func23, Tryz.ntmps23
  go_wp2_with fail
  show Calls _ _ _ ((w.alloc (.cells (planCells a n c a' n' c' p).toArray 31)).alloc _) _
  rw [← hW]
  clear hW
  with_reducible refine HC.out.mono ?_
  rintro e w1 ⟨rfl, hb⟩
  have HB2 := Lib.hid (HB1.out.trans (hb.mono HB1.out.size))
  clear g0 g1 g2 g3 g4 g5 g6
  obtain ⟨g0, g1, g2, g3, g4, g5, g6⟩ := (HA.out.later (by exact (below_alloc W _).trans (hb.mono (below_alloc W _).size))).cells
  have HA2 := Lib.hid (HA.out.later (by exact (below_alloc W _).trans (hb.mono (below_alloc W _).size)))
  clear hb HC
  have hne : (E != 0) = true := by simpa using h0
  clear g0 g1 g2 g3 g4 g5 g6
  go_wp2
  go_ret2
  exact ⟨rfl, HB2.out⟩
set_option maxHeartbeats 1000000 in
theorem choices_err (p : Pn) (a : Option Addr) (n c : Nat) (a' : Option Addr) (n' c' : Nat) (t : Int) (u : Int) (w : World) (hP : PRow w a n c p.P) (hL : LRow w a' n' c' p.L) (E : Int) (hE : chkPts p [t, u] = E) (h0 : E ≠ 0) :
    Calls Tryz.prog 27 #[planV a n c a' n' c' p, .int .u16 t, .int .u16 u] w fun e w' => e = .returned (.tuple #[.slice none 0 0, .int .i64 E]) ∧ Below w.heap.size w w' := by
  obtain ⟨W, hW⟩ : ∃ W, W = w.alloc (.cells (planCells a n c a' n' c' p).toArray 31) := ⟨_, rfl⟩
  have hB : Below w.heap.size w W := by rw [hW]; exact below_alloc _ _
  have hA : PlanAt W w.heap.size a n c a' n' c' p := by rw [hW]; exact PlanAt.new _ _ _ _ _ _ _ _
  have hlt : w.heap.size < W.heap.size := hA.lt
  have hB1 : Below w.heap.size w (W.alloc (.cells #[.int .u16 t, .int .u16 u] 53)) := hB.trans ((below_alloc W _).mono hB.size)
  have hsz : W.heap.size = w.heap.size + 1 := by rw [hW]; simp
  have ho := own_alloc W (nums .u16 [t, u]) 53
  rw [hsz] at ho
  have hC := cchk_any p a n c a' n' c' (w.heap.size + 1) [t, u] 2 rfl (by decide) (W.alloc (.cells #[.int .u16 t, .int .u16 u] 53)) (hP.later hB1) (hL.later hB1) ho
  clear ho hsz
  rw [hE] at hC
  unfold planV at *
  have HC := Lib.hid hC
  have HB1 := Lib.hid hB1
  have HA := Lib.hid hA
  obtain ⟨g0, g1, g2, g3, g4, g5, g6⟩ := hA.cells
  clear hC hB hA hB1
  go_enter Tryz.func27, Tryz.ntmps27
  go_wp2_with fail
  show Calls _ _ _ ((w.alloc (.cells (planCells a n c a' n' c' p).toArray 31)).alloc _) _
  rw [← hW]
  clear hW
  with_reducible refine HC.out.mono ?_
  rintro e w1 ⟨rfl, hb⟩
  have HB2 := Lib.hid (HB1.out.trans (hb.mono HB1.out.size))
  clear g0 g1 g2 g3 g4 g5 g6
  obtain ⟨g0, g1, g2, g3, g4, g5, g6⟩ := (HA.out.later (by exact (below_alloc W _).trans (hb.mono (below_alloc W _).size))).cells
  have HA2 := Lib.hid (HA.out.later (by exact (below_alloc W _).trans (hb.mono (below_alloc W _).size)))
  clear hb HC
  have hne : (E != 0) = true := by simpa using h0
  clear g0 g1 g2 g3 g4 g5 g6
  go_wp2
  go_ret2
  exact ⟨rfl, HB2.out⟩
set_option maxHeartbeats 1000000 in
theorem base_err (p : Pn) (a : Option Addr) (n c : Nat) (a' : Option Addr) (n' c' : Nat) (w : World) (hP : PRow w a n c p.P) (hL : LRow w a' n' c' p.L) (E : Int) (hE : chkPl p = E) (h0 : E ≠ 0) :
    Calls Tryz.prog 24 #[planV a n c a' n' c' p] w fun e w' => e = .returned (.tuple #[.int .i64 0, .int .i64 E]) ∧ Below w.heap.size w w' := by
  obtain ⟨W, hW⟩ : ∃ W, W = w.alloc (.cells (planCells a n c a' n' c' p).toArray 31) := ⟨_, rfl⟩
  have hB : Below w.heap.size w W := by rw [hW]; exact below_alloc _ _
  have hA : PlanAt W w.heap.size a n c a' n' c' p := by rw [hW]; exact PlanAt.new _ _ _ _ _ _ _ _
  have hlt : w.heap.size < W.heap.size := hA.lt
  have hB1 : Below w.heap.size w W := hB
  have hC := ccheck_any p a n c a' n' c' W (hP.later hB1) (hL.later hB1)
  rw [hE] at hC
  unfold planV at *
  have HC := Lib.hid hC
  have HB1 := Lib.hid hB1
  have HA := Lib.hid hA
  obtain ⟨g0, g1, g2, g3, g4, g5, g6⟩ := hA.cells
  clear hC hB hA hB1
  go_enter Tryz.func24, Tryz.ntmps24
  go_wp2_with fail
  show Calls _ _ _ (w.alloc (.cells (planCells a n c a' n' c' p).toArray 31)) _
  rw [← hW]
  clear hW
  with_reducible refine HC.out.mono ?_
  rintro e w1 ⟨rfl, hb⟩
  have HB2 := Lib.hid (HB1.out.trans (hb.mono HB1.out.size))
  clear g0 g1 g2 g3 g4 g5 g6
  obtain ⟨g0, g1, g2, g3, g4, g5, g6⟩ := (HA.out.later (by exact hb)).cells
  have HA2 := Lib.hid (HA.out.later (by exact hb))
  clear hb HC
  have hne : (E != 0) = true := by simpa using h0
  clear g0 g1 g2 g3 g4 g5 g6
  go_wp2
  go_ret2
  exact ⟨rfl, HB2.out⟩
set_option maxHeartbeats 1000000 in
theorem gap_err (p : Pn) (a : Option Addr) (n c : Nat) (a' : Option Addr) (n' c' : Nat) (w : World) (hP : PRow w a n c p.P) (hL : LRow w a' n' c' p.L) (E : Int) (hE : chkPl p = E) (h0 : E ≠ 0) :
    Calls Tryz.prog 25 #[planV a n c a' n' c' p] w fun e w' => e = .returned (.tuple #[.int .i64 0, .int .i64 E]) ∧ Below w.heap.size w w' := by
  obtain ⟨W, hW⟩ : ∃ W, W = w.alloc (.cells (planCells a n c a' n' c' p).toArray 31) := ⟨_, rfl⟩
  have hB : Below w.heap.size w W := by rw [hW]; exact below_alloc _ _
  have hA : PlanAt W w.heap.size a n c a' n' c' p := by rw [hW]; exact PlanAt.new _ _ _ _ _ _ _ _
  have hlt : w.heap.size < W.heap.size := hA.lt
  have hB1 : Below w.heap.size w W := hB
  have hC := ccheck_any p a n c a' n' c' W (hP.later hB1) (hL.later hB1)
  rw [hE] at hC
  unfold planV at *
  have HC := Lib.hid hC
  have HB1 := Lib.hid hB1
  have HA := Lib.hid hA
  obtain ⟨g0, g1, g2, g3, g4, g5, g6⟩ := hA.cells
  clear hC hB hA hB1
  go_enter Tryz.func25, Tryz.ntmps25
  go_wp2_with fail
  show Calls _ _ _ (w.alloc (.cells (planCells a n c a' n' c' p).toArray 31)) _
  rw [← hW]
  clear hW
  with_reducible refine HC.out.mono ?_
  rintro e w1 ⟨rfl, hb⟩
  have HB2 := Lib.hid (HB1.out.trans (hb.mono HB1.out.size))
  clear g0 g1 g2 g3 g4 g5 g6
  obtain ⟨g0, g1, g2, g3, g4, g5, g6⟩ := (HA.out.later (by exact hb)).cells
  have HA2 := Lib.hid (HA.out.later (by exact hb))
  clear hb HC
  have hne : (E != 0) = true := by simpa using h0
  clear g0 g1 g2 g3 g4 g5 g6
  go_wp2
  go_ret2
  exact ⟨rfl, HB2.out⟩
set_option maxHeartbeats 1000000 in
theorem hold_err (p : Pn) (a : Option Addr) (n c : Nat) (a' : Option Addr) (n' c' : Nat) (t : Int) (u : Int) (w : World) (hP : PRow w a n c p.P) (hL : LRow w a' n' c' p.L) (E : Int) (hE : chkPts p [t, u] = E) (h0 : E ≠ 0) :
    Calls Tryz.prog 28 #[planV a n c a' n' c' p, .int .u16 t, .int .u16 u] w fun e w' => e = .returned (.tuple #[.int .i64 0, .int .i64 E]) ∧ Below w.heap.size w w' := by
  obtain ⟨W, hW⟩ : ∃ W, W = w.alloc (.cells (planCells a n c a' n' c' p).toArray 31) := ⟨_, rfl⟩
  have hB : Below w.heap.size w W := by rw [hW]; exact below_alloc _ _
  have hA : PlanAt W w.heap.size a n c a' n' c' p := by rw [hW]; exact PlanAt.new _ _ _ _ _ _ _ _
  have hlt : w.heap.size < W.heap.size := hA.lt
  have hB1 : Below w.heap.size w (W.alloc (.cells #[.int .u16 t, .int .u16 u] 53)) := hB.trans ((below_alloc W _).mono hB.size)
  have hsz : W.heap.size = w.heap.size + 1 := by rw [hW]; simp
  have ho := own_alloc W (nums .u16 [t, u]) 53
  rw [hsz] at ho
  have hC := cchk_any p a n c a' n' c' (w.heap.size + 1) [t, u] 2 rfl (by decide) (W.alloc (.cells #[.int .u16 t, .int .u16 u] 53)) (hP.later hB1) (hL.later hB1) ho
  clear ho hsz
  rw [hE] at hC
  unfold planV at *
  have HC := Lib.hid hC
  have HB1 := Lib.hid hB1
  have HA := Lib.hid hA
  obtain ⟨g0, g1, g2, g3, g4, g5, g6⟩ := hA.cells
  clear hC hB hA hB1
  go_enter Tryz.func28, Tryz.ntmps28
  go_wp2_with fail
  show Calls _ _ _ ((w.alloc (.cells (planCells a n c a' n' c' p).toArray 31)).alloc _) _
  rw [← hW]
  clear hW
  with_reducible refine HC.out.mono ?_
  rintro e w1 ⟨rfl, hb⟩
  have HB2 := Lib.hid (HB1.out.trans (hb.mono HB1.out.size))
  clear g0 g1 g2 g3 g4 g5 g6
  obtain ⟨g0, g1, g2, g3, g4, g5, g6⟩ := (HA.out.later (by exact (below_alloc W _).trans (hb.mono (below_alloc W _).size))).cells
  have HA2 := Lib.hid (HA.out.later (by exact (below_alloc W _).trans (hb.mono (below_alloc W _).size)))
  clear hb HC
  have hne : (E != 0) = true := by simpa using h0
  clear g0 g1 g2 g3 g4 g5 g6
  go_wp2
  go_ret2
  exact ⟨rfl, HB2.out⟩
set_option maxHeartbeats 1000000 in
theorem links_same (p : Pn) (a : Option Addr) (n c : Nat) (a' : Option Addr) (n' c' : Nat) (t : Int) (w : World) (hP : PRow w a n c p.P) (hL : LRow w a' n' c' p.L) (hE : chkPts p [t, t] = 0) :
    Calls Tryz.prog 26 #[planV a n c a' n' c' p, .int .u16 t, .int .u16 t] w fun e w' => e = .returned (.tuple #[.slice none 0 0, .int .i64 1]) ∧ Below w.heap.size w w' := by
  obtain ⟨W, hW⟩ : ∃ W, W = w.alloc (.cells (planCells a n c a' n' c' p).toArray 31) := ⟨_, rfl⟩
  have hB : Below w.heap.size w W := by rw [hW]; exact below_alloc _ _
  have hA : PlanAt W w.heap.size a n c a' n' c' p := by rw [hW]; exact PlanAt.new _ _ _ _ _ _ _ _
  have hlt : w.heap.size < W.heap.size := hA.lt
  have hB1 : Below w.heap.size w (W.alloc (.cells #[.int .u16 t, .int .u16 t] 53)) := hB.trans ((below_alloc W _).mono hB.size)
  have hsz : W.heap.size = w.heap.size + 1 := by rw [hW]; simp
  have ho := own_alloc W (nums .u16 [t, t]) 53
  rw [hsz] at ho
  have hC := cchk_any p a n c a' n' c' (w.heap.size + 1) [t, t] 2 rfl (by decide) (W.alloc (.cells #[.int .u16 t, .int .u16 t] 53)) (hP.later hB1) (hL.later hB1) ho
  clear ho hsz
  rw [hE] at hC
  unfold planV at *
  have HC := Lib.hid hC
  have HB1 := Lib.hid hB1
  have HA := Lib.hid hA
  obtain ⟨g0, g1, g2, g3, g4, g5, g6⟩ := hA.cells
  clear hC hB hA hB1
  go_enter Tryz.func26, Tryz.ntmps26
  go_wp2_with fail
  show Calls _ _ _ ((w.alloc (.cells (planCells a n c a' n' c' p).toArray 31)).alloc _) _
  rw [← hW]
  clear hW
  with_reducible refine HC.out.mono ?_
  rintro e w1 ⟨rfl, hb⟩
  have HB2 := Lib.hid (HB1.out.trans (hb.mono HB1.out.size))
  clear g0 g1 g2 g3 g4 g5 g6
  obtain ⟨g0, g1, g2, g3, g4, g5, g6⟩ := (HA.out.later (by exact (below_alloc W _).trans (hb.mono (below_alloc W _).size))).cells
  have HA2 := Lib.hid (HA.out.later (by exact (below_alloc W _).trans (hb.mono (below_alloc W _).size)))
  clear hb HC
  clear g0 g1 g2 g3 g4 g5 g6
  go_wp2
  go_ret2
  exact ⟨rfl, HB2.out⟩
set_option maxHeartbeats 1000000 in
theorem choices_same (p : Pn) (a : Option Addr) (n c : Nat) (a' : Option Addr) (n' c' : Nat) (t : Int) (w : World) (hP : PRow w a n c p.P) (hL : LRow w a' n' c' p.L) (hE : chkPts p [t, t] = 0) :
    Calls Tryz.prog 27 #[planV a n c a' n' c' p, .int .u16 t, .int .u16 t] w fun e w' => e = .returned (.tuple #[.slice none 0 0, .int .i64 1]) ∧ Below w.heap.size w w' := by
  obtain ⟨W, hW⟩ : ∃ W, W = w.alloc (.cells (planCells a n c a' n' c' p).toArray 31) := ⟨_, rfl⟩
  have hB : Below w.heap.size w W := by rw [hW]; exact below_alloc _ _
  have hA : PlanAt W w.heap.size a n c a' n' c' p := by rw [hW]; exact PlanAt.new _ _ _ _ _ _ _ _
  have hlt : w.heap.size < W.heap.size := hA.lt
  have hB1 : Below w.heap.size w (W.alloc (.cells #[.int .u16 t, .int .u16 t] 53)) := hB.trans ((below_alloc W _).mono hB.size)
  have hsz : W.heap.size = w.heap.size + 1 := by rw [hW]; simp
  have ho := own_alloc W (nums .u16 [t, t]) 53
  rw [hsz] at ho
  have hC := cchk_any p a n c a' n' c' (w.heap.size + 1) [t, t] 2 rfl (by decide) (W.alloc (.cells #[.int .u16 t, .int .u16 t] 53)) (hP.later hB1) (hL.later hB1) ho
  clear ho hsz
  rw [hE] at hC
  unfold planV at *
  have HC := Lib.hid hC
  have HB1 := Lib.hid hB1
  have HA := Lib.hid hA
  obtain ⟨g0, g1, g2, g3, g4, g5, g6⟩ := hA.cells
  clear hC hB hA hB1
  go_enter Tryz.func27, Tryz.ntmps27
  go_wp2_with fail
  show Calls _ _ _ ((w.alloc (.cells (planCells a n c a' n' c' p).toArray 31)).alloc _) _
  rw [← hW]
  clear hW
  with_reducible refine HC.out.mono ?_
  rintro e w1 ⟨rfl, hb⟩
  have HB2 := Lib.hid (HB1.out.trans (hb.mono HB1.out.size))
  clear g0 g1 g2 g3 g4 g5 g6
  obtain ⟨g0, g1, g2, g3, g4, g5, g6⟩ := (HA.out.later (by exact (below_alloc W _).trans (hb.mono (below_alloc W _).size))).cells
  have HA2 := Lib.hid (HA.out.later (by exact (below_alloc W _).trans (hb.mono (below_alloc W _).size)))
  clear hb HC
  clear g0 g1 g2 g3 g4 g5 g6
  go_wp2
  go_ret2
  exact ⟨rfl, HB2.out⟩
def NbV (p : Pn) (t : Int) (w : World) (e : Ending) (w' : World) : Prop := ∃ a, e = .returned (.tuple #[.slice a (nbrs p t).length (nbrs p t).length, .int .i64 0]) ∧ Row .u16 w' a (nbrs p t).length (nbrs p t).length (nbrs p t) ∧ Below w.heap.size w w'
set_option maxHeartbeats 1000000 in
theorem neighbors_ok (p : Pn) (a : Option Addr) (n c : Nat) (a' : Option Addr) (n' c' : Nat) (t : Int) (w : World) (hP : PRow w a n c p.P) (hL : LRow w a' n' c' p.L) (hE : chkPts p [t] = 0) (hv : ValidPl p) :
    Calls Tryz.prog 21 #[planV a n c a' n' c' p, .int .u16 t] w (NbV p t w) := by
  have hN := fun (W : World) (h : LRow W a' n' c' p.L) => neighborsOf_any p a n c a' n' c' t W h hv
  obtain ⟨W, hW⟩ : ∃ W, W = w.alloc (.cells (planCells a n c a' n' c' p).toArray 31) := ⟨_, rfl⟩
  have hB : Below w.heap.size w W := by rw [hW]; exact below_alloc _ _
  have hA : PlanAt W w.heap.size a n c a' n' c' p := by rw [hW]; exact PlanAt.new _ _ _ _ _ _ _ _
  have hlt : w.heap.size < W.heap.size := hA.lt
  have hB1 : Below w.heap.size w (W.alloc (.cells #[.int .u16 t] 53)) := hB.trans ((below_alloc W _).mono hB.size)
  have hsz : W.heap.size = w.heap.size + 1 := by rw [hW]; simp
  have ho := own_alloc W (nums .u16 [t]) 53
  rw [hsz] at ho
  have hC := cchk_any p a n c a' n' c' (w.heap.size + 1) [t] 1 rfl (by decide) (W.alloc (.cells #[.int .u16 t] 53)) (hP.later hB1) (hL.later hB1) ho
  clear ho hsz
  rw [hE] at hC
  unfold planV at *
  have HC := Lib.hid hC
  have HB1 := Lib.hid hB1
  have HA := Lib.hid hA
  obtain ⟨g0, g1, g2, g3, g4, g5, g6⟩ := hA.cells
  clear hC hB hA hB1
  go_enter Tryz.func21, Tryz.ntmps21
  go_wp2_with fail
  show Calls _ _ _ ((w.alloc (.cells (planCells a n c a' n' c' p).toArray 31)).alloc _) _
  rw [← hW]
  clear hW
  with_reducible refine HC.out.mono ?_
  rintro e w1 ⟨rfl, hb⟩
  have HB2 := Lib.hid (HB1.out.trans (hb.mono HB1.out.size))
  clear g0 g1 g2 g3 g4 g5 g6
  obtain ⟨g0, g1, g2, g3, g4, g5, g6⟩ := (HA.out.later (by exact (below_alloc W _).trans (hb.mono (below_alloc W _).size))).cells
  have HA2 := Lib.hid (HA.out.later (by exact (below_alloc W _).trans (hb.mono (below_alloc W _).size)))
  clear hb HC
  have HN := Lib.hid (hN w1 (hL.later HB2.out))
  clear hN
  go_wp2_with fail
  with_reducible refine HN.out.mono ?_
  rintro e w2 ⟨a2, rfl, hr, hb, _⟩
  have HR := Lib.hid hr
  have HB3 := Lib.hid (HB2.out.trans (hb.mono HB2.out.size))
  clear hr hb HN g0 g1 g2 g3 g4 g5 g6
  go_wp2
  go_ret2
  exact ⟨a2, rfl, HR.out, HB3.out⟩
def DisV (p : Pn) (t : Int) (w : World) (e : Ending) (w' : World) : Prop := ∃ g l n, p.P.length = n ∧ DisOk p t l ∧ e = .returned (.tuple #[.slice (some ⟨g, 0, none⟩) n n, .int .i64 0]) ∧ Own w' g 3 (nums .i64 l) ∧ w.heap.size ≤ g ∧ Below w.heap.size w w'
set_option maxHeartbeats 1000000 in
theorem distances_ok (p : Pn) (a : Option Addr) (n c : Nat) (a' : Option Addr) (n' c' : Nat) (t : Int) (w : World) (hP : PRow w a n c p.P) (hL : LRow w a' n' c' p.L) (hE : chkPts p [t] = 0) (s : Nat) (hs : fnd p.P t = some s) (hv : ValidPl p) :
    Calls Tryz.prog 22 #[planV a n c a' n' c' p, .int .u16 t] w (DisV p t w) := by
  have hN := fun (W : World) (hp : PRow W a n c p.P) (h : LRow W a' n' c' p.L) => distancesOf_any p a n c a' n' c' t s W hp h hv hs
  obtain ⟨W, hW⟩ : ∃ W, W = w.alloc (.cells (planCells a n c a' n' c' p).toArray 31) := ⟨_, rfl⟩
  have hB : Below w.heap.size w W := by rw [hW]; exact below_alloc _ _
  have hA : PlanAt W w.heap.size a n c a' n' c' p := by rw [hW]; exact PlanAt.new _ _ _ _ _ _ _ _
  have hlt : w.heap.size < W.heap.size := hA.lt
  have hB1 : Below w.heap.size w (W.alloc (.cells #[.int .u16 t] 53)) := hB.trans ((below_alloc W _).mono hB.size)
  have hsz : W.heap.size = w.heap.size + 1 := by rw [hW]; simp
  have ho := own_alloc W (nums .u16 [t]) 53
  rw [hsz] at ho
  have hC := cchk_any p a n c a' n' c' (w.heap.size + 1) [t] 1 rfl (by decide) (W.alloc (.cells #[.int .u16 t] 53)) (hP.later hB1) (hL.later hB1) ho
  clear ho hsz
  rw [hE] at hC
  unfold planV at *
  have HC := Lib.hid hC
  have HB1 := Lib.hid hB1
  have HA := Lib.hid hA
  obtain ⟨g0, g1, g2, g3, g4, g5, g6⟩ := hA.cells
  clear hC hB hA hB1
  go_enter Tryz.func22, Tryz.ntmps22
  go_wp2_with fail
  show Calls _ _ _ ((w.alloc (.cells (planCells a n c a' n' c' p).toArray 31)).alloc _) _
  rw [← hW]
  clear hW
  with_reducible refine HC.out.mono ?_
  rintro e w1 ⟨rfl, hb⟩
  have HB2 := Lib.hid (HB1.out.trans (hb.mono HB1.out.size))
  clear g0 g1 g2 g3 g4 g5 g6
  obtain ⟨g0, g1, g2, g3, g4, g5, g6⟩ := (HA.out.later (by exact (below_alloc W _).trans (hb.mono (below_alloc W _).size))).cells
  have HA2 := Lib.hid (HA.out.later (by exact (below_alloc W _).trans (hb.mono (below_alloc W _).size)))
  clear hb HC
  have HN := Lib.hid (hN w1 (hP.later HB2.out) (hL.later HB2.out))
  clear hN
  go_wp2_with fail
  with_reducible refine HN.out.mono ?_
  rintro e w2 ⟨g, l, n9, hn9, hok, rfl, ho, hg, hb⟩
  have HR := Lib.hid (And.intro hn9 (And.intro hok (And.intro ho (Nat.le_trans HB2.out.size hg))))
  have HB3 := Lib.hid (HB2.out.trans (hb.mono HB2.out.size))
  clear hb HN hn9 hok ho hg g0 g1 g2 g3 g4 g5 g6
  go_wp2
  go_ret2
  exact ⟨g, l, n9, HR.out.1, HR.out.2.1, rfl, HR.out.2.2.1, HR.out.2.2.2, HB3.out⟩
theorem way_some {p : Pn} {t : Int} {l : List Int} {s : Nat} (h : DisOk p t l) (hs : fnd p.P t = some s) : 0 < (wayL p.P.length l).length := by
  obtain ⟨h1, h2, _⟩ := fnd_some_iff.1 hs
  have h3 := h.dist.zero s h1 h2
  refine List.length_pos_of_mem (a := s) (List.mem_filter.2 ⟨List.mem_range.2 h1, ?_⟩)
  simp only [decide_eq_true_eq]
  intro e
  simp only [d99, e, if_true] at h3
  omega
/-- What the stable sort is asked for, whatever the distances. -/
def StAll (p : Pn) (t : Int) (Q : List Int → List Nat → Prop) : Prop := ∀ [Inhabited (Fin p.P.length)] (l : List Int) (g : Nat), DisOk p t l → StAsk p.P.length l g (Q l)
def HtV (p : Pn) (t : Int) (Q : List Int → List Nat → Prop) (w : World) (e : Ending) (w' : World) : Prop :=
  ∃ g l o n, p.P.length = n ∧ DisOk p t l ∧ OrdOk n (wayL n l).length o ∧ Q l o ∧ e = .returned (.tuple #[.slice (some ⟨g, 0, none⟩) n n, .int .i64 0]) ∧ Row .i64 w' (some ⟨g, 0, none⟩) n n (putPos l o o.length) ∧ Below w.heap.size w w'
set_option maxHeartbeats 1000000 in
theorem heights_ok (p : Pn) (a : Option Addr) (n c : Nat) (a' : Option Addr) (n' c' : Nat) (t : Int) (w : World) (hP : PRow w a n c p.P) (hL : LRow w a' n' c' p.L) (hE : chkPts p [t] = 0) (s : Nat) (hs : fnd p.P t = some s) (hv : ValidPl p) (Q : List Int → List Nat → Prop) (hst : StAll p t Q) :
    Calls Tryz.prog 23 #[planV a n c a' n' c' p, .int .u16 t] w (HtV p t Q w) := by
  have hN := fun (W : World) (hp : PRow W a n c p.P) (h : LRow W a' n' c' p.L) => distancesOf_any p a n c a' n' c' t s W hp h hv hs
  have h0 := hv.n0
  have h64 := hv.np
  have HIn : Inhabited (Fin p.P.length) := ⟨⟨0, h0⟩⟩
  have HSt := Lib.hid (fun (l : List Int) (g : Nat) (h : DisOk p t l) => hst l g h)
  clear hst
  have HH := Lib.hid (fun (l : List Int) (g : Nat) (W : World) (hok : DisOk p t l) (ho : Own W g 3 (nums .i64 l)) => heightsOf_gen p.P.length l g (Q l) W h64 h0 hok.len hok.small (way_some hok hs) ho (HSt.out l g hok))
  obtain ⟨W, hW⟩ : ∃ W, W = w.alloc (.cells (planCells a n c a' n' c' p).toArray 31) := ⟨_, rfl⟩
  have hB : Below w.heap.size w W := by rw [hW]; exact below_alloc _ _
  have hA : PlanAt W w.heap.size a n c a' n' c' p := by rw [hW]; exact PlanAt.new _ _ _ _ _ _ _ _
  have hlt : w.heap.size < W.heap.size := hA.lt
  have hB1 : Below w.heap.size w (W.alloc (.cells #[.int .u16 t] 53)) := hB.trans ((below_alloc W _).mono hB.size)
  have hsz : W.heap.size = w.heap.size + 1 := by rw [hW]; simp
  have ho := own_alloc W (nums .u16 [t]) 53
  rw [hsz] at ho
  have hC := cchk_any p a n c a' n' c' (w.heap.size + 1) [t] 1 rfl (by decide) (W.alloc (.cells #[.int .u16 t] 53)) (hP.later hB1) (hL.later hB1) ho
  clear ho hsz
  rw [hE] at hC
  unfold planV at *
  have HC := Lib.hid hC
  have HB1 := Lib.hid hB1
  have HA := Lib.hid hA
  obtain ⟨g0, g1, g2, g3, g4, g5, g6⟩ := hA.cells
  clear hC hB hA hB1
  go_enter Tryz.func23, Tryz.ntmps23
  go_wp2_with fail
  show Calls _ _ _ ((w.alloc (.cells (planCells a n c a' n' c' p).toArray 31)).alloc _) _
  rw [← hW]
  clear hW
  with_reducible refine HC.out.mono ?_
  rintro e w1 ⟨rfl, hb⟩
  have HB2 := Lib.hid (HB1.out.trans (hb.mono HB1.out.size))
  clear g0 g1 g2 g3 g4 g5 g6
  obtain ⟨g0, g1, g2, g3, g4, g5, g6⟩ := (HA.out.later (by exact (below_alloc W _).trans (hb.mono (below_alloc W _).size))).cells
  have HA2 := Lib.hid (HA.out.later (by exact (below_alloc W _).trans (hb.mono (below_alloc W _).size)))
  clear hb HC
  have HN := Lib.hid (hN w1 (hP.later HB2.out) (hL.later HB2.out))
  clear hN
  go_wp2_with fail
  with_reducible refine HN.out.mono ?_
  rintro e w2 ⟨g, l, n9, hn9, hok, rfl, ho, hg, hb⟩
  have hcon := HH.out l g w2 hok ho
  rw [hn9] at hcon
  have HCon := Lib.hid hcon
  have HR := Lib.hid (And.intro hn9 hok)
  have HB3 := Lib.hid (HB2.out.trans (hb.mono HB2.out.size))
  clear hb HN hn9 hok ho hg hcon HH HSt g0 g1 g2 g3 g4 g5 g6 h0 h64
  go_wp2_with fail
  with_reducible refine HCon.out.mono ?_
  rintro e w3 ⟨gh, o, hord, hq, rfl, hr, _, hb⟩
  have HR2 := Lib.hid (And.intro hord (And.intro hq hr))
  have HB4 := Lib.hid (HB3.out.trans (hb.mono HB3.out.size))
  clear hb hord hq hr HCon
  go_wp2
  go_ret2
  exact ⟨gh, l, o, n9, HR.out.1, HR.out.2, HR2.out.1, HR2.out.2.1, rfl, HR2.out.2.2, HB4.out⟩
/-- The greatest delay. -/
def mxD (L : List Ln) : Int := L.foldl (fun m l => max m l.D) 0
theorem mxD_take (L : List Ln) (k : Nat) (hk : k < L.length) : mxD (L.take (k + 1)) = max (mxD (L.take k)) (lnAt L k).D := by
  unfold mxD lnAt
  rw [List.take_succ_eq_append_getElem hk, List.foldl_append]
  simp [List.getD_eq_getElem?_getD, hk]
def baseI (p : Pn) : Int := 4 * (p.P.length : Int) * (mxD p.L + p.room + 1)
theorem mxD_range {L : List Ln} (h : ∀ i, i < L.length → (lnAt L i).D ≤ 64) : ∀ k, k ≤ L.length → 0 ≤ mxD (L.take k) ∧ mxD (L.take k) ≤ 64
  | 0, _ => by simp [mxD]
  | k + 1, hk => by
    have h1 := mxD_range h k (by omega)
    have h2 := h k (by omega)
    rw [mxD_take L k (by omega)]; omega
theorem room_range {p : Pn} (h : ValidPl p) : 1 ≤ p.room ∧ p.room ≤ 64 := by
  have := h.nu
  unfold okNum at this
  simp only [Bool.and_eq_true, decide_eq_true_eq] at this
  omega
set_option maxHeartbeats 2000000 in
theorem baseOf_any (p : Pn) (a : Option Addr) (n c : Nat) (a' : Option Addr) (n' c' : Nat) (w : World) (hP : PRow w a n c p.P) (hL : LRow w a' n' c' p.L) (hv : ValidPl p) :
    Calls Tryz.prog 62 #[planV a n c a' n' c' p] w fun e w' => e = .returned (.int .i64 (baseI p)) ∧ Below w.heap.size w w' := by
  obtain ⟨W, hW⟩ : ∃ W, W = w.alloc (.cells (planCells a n c a' n' c' p).toArray 31) := ⟨_, rfl⟩
  have hB : Below w.heap.size w W := by rw [hW]; exact below_alloc _ _
  have hA : PlanAt W w.heap.size a n c a' n' c' p := by rw [hW]; exact PlanAt.new _ _ _ _ _ _ _ _
  have hmax := hL.max
  have hle := hL.le
  unfold maxLen at hmax
  have hD : ∀ i, i < p.L.length → (lnAt p.L i).D ≤ 64 := fun i hi => (line_of_valid hv (by
    have : lnAt p.L i = p.L[i] := by simp [lnAt, List.getD_eq_getElem?_getD, hi]
    rw [this]; exact List.getElem_mem _)).2.2.2.2.1
  have HD := Lib.hid (mxD_range hD)
  have hroom := room_range hv
  have hn64 : n ≤ 64 := by have := hv.np; have := hP.len; omega
  have HPl := Lib.hid hP.len
  have HLl := Lib.hid hL.len
  have HL := Lib.hid (hL.later hB)
  have hlt0 : w.heap.size < W.heap.size := hA.lt
  unfold planV
  obtain ⟨R, hR⟩ : ∃ R, R = baseI p := ⟨_, rfl⟩
  rw [← hR]
  have HR := Lib.hid hR
  obtain ⟨ro, hro⟩ : ∃ x, x = p.room := ⟨_, rfl⟩
  obtain ⟨g0, g1, g2, g3, g4, g5, g6⟩ := hA.cells
  rw [← hro] at hroom
  have HRo := Lib.hid hro
  have HA := Lib.hid hA
  have HB := Lib.hid hB
  clear hA hB hL hP hv hD hR hro
  go_enter Tryz.func62, Tryz.ntmps62
  go_wp2_with fail
  show Code.wp _ _ _ _ (w.alloc (.cells (planCells a n c a' n' c' p).toArray 31))
  rw [← hW]
  clear hW
  go_wp2_with fail
  clear g0 g1 g2 g3 g4 g5 g6
  go_loopw [3, 9] (fun dv iv wr => ∃ k : Nat, k ≤ n' ∧ iv = .int .i64 k ∧ dv = .int .i64 (mxD (p.L.take k)) ∧ Below W.heap.size W wr) (fun _ iv _ => n' - (intOf iv).toNat)
  case atStart => exact ⟨0, Nat.zero_le _, rfl, by simp [mxD], Below.refl _ _⟩
  case round =>
    obtain ⟨k, hk, rfl, rfl, hb⟩ := hrel
    obtain ⟨g0, g1, g2, g3, g4, g5, g6⟩ := (HA.out.later hb).cells
    have hdr := HD.out k (by have := HLl.out; omega)
    obtain ⟨M, hM⟩ : ∃ M, M = mxD (p.L.take k) := ⟨_, rfl⟩
    rw [← hM] at hdr ⊢
    have HM := Lib.hid hM
    have HL2 := Lib.hid (HL.out.later hb)
    have HBr := Lib.hid hb
    clear hb hM
    by_cases hkn : k < n'
    · obtain ⟨b, off, rfl, hc⟩ := HL2.out.cells.resolve_left (by omega)
      obtain ⟨c0, c1, c2, c3⟩ := hc k hkn
      clear hc
      have hbl : b < wr.heap.size := World.block_lt_of_cell? _ _ c0
      have hmx := mxD_take p.L k (by have := HLl.out; omega)
      obtain ⟨l, hl⟩ : ∃ l, l = lnAt p.L k := ⟨_, rfl⟩
      rw [← hl] at c0 c1 c2 c3 hmx
      clear hl
      obtain ⟨A, B, C, D⟩ := l
      simp only at c0 c1 c2 c3 hmx
      rw [← HM.out] at hmx
      have HMx := Lib.hid hmx
      clear hmx g0 g1 g2 g3 g4 g5 g6
      have HBW := Lib.hid (HBr.out.trans ((below_alloc wr (.cells #[.int .u16 A, .int .u16 B, .int .u8 C, .int .i64 D] 76)).mono HBr.out.size))
      by_cases hMD : M ≤ D
      · have e1 : max M D = D := by omega
        go_wp2
        exact ⟨⟨k + 1, by omega, by go_num, by rw [HMx.out, show max M D = D by omega], HBW.out⟩, by simp [intOf]; omega⟩
      · have e1 : max M D = M := by omega
        go_wp2
        exact ⟨⟨k + 1, by omega, by go_num, by rw [HMx.out, show max M D = M by omega], HBW.out⟩, by simp [intOf]; omega⟩
    · have hkn' : k = n' := by omega
      subst hkn'
      have HE := Lib.hid (show R = 4 * (n : Int) * (M + ro + 1) by
        rw [HR.out]
        unfold baseI
        rw [HPl.out, HM.out, HRo.out, List.take_of_length_le (by rw [HLl.out]; exact Nat.le_refl _)])
      have hb1 : (M + ro + 1) ≤ 129 := by omega
      have hb2 : 0 ≤ (M + ro + 1) := by omega
      have hm1 : 4 * (n : Int) * (M + ro + 1) ≤ 4 * 64 * 129 := Int.mul_le_mul (by omega) hb1 hb2 (by omega)
      have hm0 : 0 ≤ 4 * (n : Int) * (M + ro + 1) := Int.mul_nonneg (by omega) hb2
      have w1 : IntKind.i64.wrap (4 * (n : Int) * (M + ro + 1)) = 4 * (n : Int) * (M + ro + 1) := IntWalk.i64_in _ (by omega)
      have w2 : IntKind.i64.wrap (4 * (n : Int)) = 4 * (n : Int) := IntWalk.i64_in _ (by omega)
      have w3 : IntKind.i64.wrap (M + ro + 1) = M + ro + 1 := IntWalk.i64_in _ (by omega)
      have w4 : IntKind.i64.wrap (M + ro) = M + ro := IntWalk.i64_in _ (by omega)
      rw [HRo.out] at *
      go_wp2
      go_ret
      exact ⟨ret_int HE.out.symm, HB.out.trans (HBr.out.mono HB.out.size)⟩
theorem baseI_range {p : Pn} (hv : ValidPl p) : 0 ≤ baseI p ∧ baseI p ≤ 33024 := by
  have hD : ∀ i, i < p.L.length → (lnAt p.L i).D ≤ 64 := fun i hi => (line_of_valid hv (by
    have : lnAt p.L i = p.L[i] := by simp [lnAt, List.getD_eq_getElem?_getD, hi]
    rw [this]; exact List.getElem_mem _)).2.2.2.2.1
  have h1 := mxD_range hD p.L.length (Nat.le_refl _)
  rw [List.take_length] at h1
  have h2 := room_range hv
  have h3 := hv.np
  unfold baseI
  exact ⟨Int.mul_nonneg (by omega) (by omega), Int.mul_le_mul (show 4 * (p.P.length : Int) ≤ 256 by omega) (show mxD p.L + p.room + 1 ≤ 129 by omega) (by omega) (by omega)⟩
set_option maxHeartbeats 1000000 in
theorem base_ok (p : Pn) (a : Option Addr) (n c : Nat) (a' : Option Addr) (n' c' : Nat) (w : World) (hP : PRow w a n c p.P) (hL : LRow w a' n' c' p.L) (hE : chkPl p = 0) (hv : ValidPl p) :
    Calls Tryz.prog 24 #[planV a n c a' n' c' p] w fun e w' => e = .returned (.tuple #[.int .i64 (baseI p), .int .i64 0]) ∧ Below w.heap.size w w' := by
  have hN := fun (W : World) (hp : PRow W a n c p.P) (h : LRow W a' n' c' p.L) => baseOf_any p a n c a' n' c' W hp h hv
  have hbr := baseI_range hv
  have hn64 := hv.np
  have hmn := hP.len
  rw [hmn] at hn64
  try rw [hmn]
  obtain ⟨R, hR⟩ : ∃ R, R = baseI p := ⟨_, rfl⟩
  rw [← hR] at hbr ⊢
  simp only [← hR] at hN
  clear hR hmn
  have hm0 : 0 ≤ ((n : Int) + 2) * R := Int.mul_nonneg (by omega) hbr.1
  have hm1 : ((n : Int) + 2) * R ≤ 66 * 33024 := Int.mul_le_mul (by omega) hbr.2 hbr.1 (by omega)
  have w1 : IntKind.i64.wrap (((n : Int) + 2) * R) = ((n : Int) + 2) * R := IntWalk.i64_in _ (by omega)
  obtain ⟨W, hW⟩ : ∃ W, W = w.alloc (.cells (planCells a n c a' n' c' p).toArray 31) := ⟨_, rfl⟩
  have hB : Below w.heap.size w W := by rw [hW]; exact below_alloc _ _
  have hA : PlanAt W w.heap.size a n c a' n' c' p := by rw [hW]; exact PlanAt.new _ _ _ _ _ _ _ _
  have hlt : w.heap.size < W.heap.size := hA.lt
  have hB1 : Below w.heap.size w W := hB
  have hC := ccheck_any p a n c a' n' c' W (hP.later hB1) (hL.later hB1)
  rw [hE] at hC
  unfold planV at *
  have HC := Lib.hid hC
  have HB1 := Lib.hid hB1
  have HA := Lib.hid hA
  obtain ⟨g0, g1, g2, g3, g4, g5, g6⟩ := hA.cells
  clear hC hB hA hB1
  go_enter Tryz.func24, Tryz.ntmps24
  go_wp2_with fail
  show Calls _ _ _ (w.alloc (.cells (planCells a n c a' n' c' p).toArray 31)) _
  rw [← hW]
  clear hW
  with_reducible refine HC.out.mono ?_
  rintro e w1 ⟨rfl, hb⟩
  have HB2 := Lib.hid (HB1.out.trans (hb.mono HB1.out.size))
  clear g0 g1 g2 g3 g4 g5 g6
  obtain ⟨g0, g1, g2, g3, g4, g5, g6⟩ := (HA.out.later (by exact hb)).cells
  have HA2 := Lib.hid (HA.out.later (by exact hb))
  clear hb HC
  have HN := Lib.hid (hN w1 (hP.later HB2.out) (hL.later HB2.out))
  clear hN
  go_wp2_with fail
  with_reducible refine HN.out.mono ?_
  rintro e w2 ⟨rfl, hb⟩
  have HB3 := Lib.hid (HB2.out.trans (hb.mono HB2.out.size))
  clear hb HN
  go_wp2
  go_ret2
  exact ⟨rfl, HB3.out⟩
set_option maxHeartbeats 1000000 in
theorem gap_ok (p : Pn) (a : Option Addr) (n c : Nat) (a' : Option Addr) (n' c' : Nat) (w : World) (hP : PRow w a n c p.P) (hL : LRow w a' n' c' p.L) (hE : chkPl p = 0) (hv : ValidPl p) :
    Calls Tryz.prog 25 #[planV a n c a' n' c' p] w fun e w' => e = .returned (.tuple #[.int .i64 (((p.P.length : Int) + 2) * baseI p), .int .i64 0]) ∧ Below w.heap.size w w' := by
  have hN := fun (W : World) (hp : PRow W a n c p.P) (h : LRow W a' n' c' p.L) => baseOf_any p a n c a' n' c' W hp h hv
  have hbr := baseI_range hv
  have hn64 := hv.np
  have hmn := hP.len
  rw [hmn] at hn64
  try rw [hmn]
  obtain ⟨R, hR⟩ : ∃ R, R = baseI p := ⟨_, rfl⟩
  rw [← hR] at hbr ⊢
  simp only [← hR] at hN
  clear hR hmn
  have hm0 : 0 ≤ ((n : Int) + 2) * R := Int.mul_nonneg (by omega) hbr.1
  have hm1 : ((n : Int) + 2) * R ≤ 66 * 33024 := Int.mul_le_mul (by omega) hbr.2 hbr.1 (by omega)
  have w1 : IntKind.i64.wrap (((n : Int) + 2) * R) = ((n : Int) + 2) * R := IntWalk.i64_in _ (by omega)
  obtain ⟨W, hW⟩ : ∃ W, W = w.alloc (.cells (planCells a n c a' n' c' p).toArray 31) := ⟨_, rfl⟩
  have hB : Below w.heap.size w W := by rw [hW]; exact below_alloc _ _
  have hA : PlanAt W w.heap.size a n c a' n' c' p := by rw [hW]; exact PlanAt.new _ _ _ _ _ _ _ _
  have hlt : w.heap.size < W.heap.size := hA.lt
  have hB1 : Below w.heap.size w W := hB
  have hC := ccheck_any p a n c a' n' c' W (hP.later hB1) (hL.later hB1)
  rw [hE] at hC
  unfold planV at *
  have HC := Lib.hid hC
  have HB1 := Lib.hid hB1
  have HA := Lib.hid hA
  obtain ⟨g0, g1, g2, g3, g4, g5, g6⟩ := hA.cells
  clear hC hB hA hB1
  go_enter Tryz.func25, Tryz.ntmps25
  go_wp2_with fail
  show Calls _ _ _ (w.alloc (.cells (planCells a n c a' n' c' p).toArray 31)) _
  rw [← hW]
  clear hW
  with_reducible refine HC.out.mono ?_
  rintro e w1 ⟨rfl, hb⟩
  have HB2 := Lib.hid (HB1.out.trans (hb.mono HB1.out.size))
  clear g0 g1 g2 g3 g4 g5 g6
  obtain ⟨g0, g1, g2, g3, g4, g5, g6⟩ := (HA.out.later (by exact hb)).cells
  have HA2 := Lib.hid (HA.out.later (by exact hb))
  clear hb HC
  have HN := Lib.hid (hN w1 (hP.later HB2.out) (hL.later HB2.out))
  have hN9 := hN
  clear hN
  clear HN
  have hbw := World.block_lt_of_cell? w1 _ g0
  have w2' : IntKind.i64.wrap ((n : Int) + 2) = (n : Int) + 2 := IntWalk.i64_in _ (by omega)
  have hB9 : Below w.heap.size w w1.drew := HB2.out.trans ((below_draw w1 1).mono HB2.out.size)
  have HNc := Lib.hid ((hN9 w1.drew (hP.later hB9) (hL.later hB9)).mono (R' := fun e w' => e = .returned (.int .i64 R) ∧ Below w1.heap.size w1 w' ∧ w'.cell? ⟨w.heap.size, 0, none⟩ = some (.slice a n c) ∧ w'.cell? ⟨w.heap.size, 1, none⟩ = some (.slice a' n' c') ∧ w'.cell? ⟨w.heap.size, 2, none⟩ = some (.int .i64 p.rate) ∧ w'.cell? ⟨w.heap.size, 3, none⟩ = some (.int .i64 p.room) ∧ w'.cell? ⟨w.heap.size, 4, none⟩ = some (.int .i64 p.m0) ∧ w'.cell? ⟨w.heap.size, 5, none⟩ = some (.int .i64 p.m1) ∧ w'.cell? ⟨w.heap.size, 6, none⟩ = some (.int .i64 p.m2)) fun e w' h => by
    have hb9 : Below w1.heap.size w1 w' := (below_draw w1 1).trans h.2
    exact ⟨h.1, hb9, (hb9.cell (p := ⟨w.heap.size, 0, none⟩) hbw).trans g0, (hb9.cell (p := ⟨w.heap.size, 1, none⟩) hbw).trans g1, (hb9.cell (p := ⟨w.heap.size, 2, none⟩) hbw).trans g2, (hb9.cell (p := ⟨w.heap.size, 3, none⟩) hbw).trans g3, (hb9.cell (p := ⟨w.heap.size, 4, none⟩) hbw).trans g4, (hb9.cell (p := ⟨w.heap.size, 5, none⟩) hbw).trans g5, (hb9.cell (p := ⟨w.heap.size, 6, none⟩) hbw).trans g6⟩)
  clear hN9 hB9
  go_wp2_with fail
  go_region_held3 (fun W' => W'.cell? ⟨w.heap.size, 0, none⟩ = some (.slice a n c) ∧ W'.cell? ⟨w.heap.size, 1, none⟩ = some (.slice a' n' c') ∧ W'.cell? ⟨w.heap.size, 2, none⟩ = some (.int .i64 p.rate) ∧ W'.cell? ⟨w.heap.size, 3, none⟩ = some (.int .i64 p.room) ∧ W'.cell? ⟨w.heap.size, 4, none⟩ = some (.int .i64 p.m0) ∧ W'.cell? ⟨w.heap.size, 5, none⟩ = some (.int .i64 p.m1) ∧ W'.cell? ⟨w.heap.size, 6, none⟩ = some (.int .i64 p.m2)) (first | go_keep | assumption)
    (first
      | (go_at_call 62; ((with_reducible refine HNc.out.mono ?_); rintro e w2 ⟨rfl, hb1, s0, s1, s2, s3, s4, s5, s6⟩); have HB3 := Lib.hid (HB2.out.trans (hb1.mono HB2.out.size)); clear hb1)
      | fail)
  go_wp2
  go_ret2
  exact ⟨rfl, HB3.out⟩
end Go.Proofs.YthlckipcgogogaaGreatDoor
