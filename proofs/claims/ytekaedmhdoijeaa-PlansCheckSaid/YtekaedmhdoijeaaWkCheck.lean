/- The walk of PlansCheck. -/
import Derived.Test.YtekaedmhdoijeaaPlLives
import Derived.Test.YtekaedmhdoijeaaPlChk
import Derived.Test.YtekaedmhdoijeaaPlOpen
namespace Go.Proofs.Ytekaedmhdoijeaa
open Go.RowKit

theorem idx_case (P : List (Int × Bool)) (code : Int) : (∃ k : Nat, k < P.length ∧ idN P code = k ∧ isB P code = true ∧ idxI P code = k) ∨ (idN P code = 0 ∧ isB P code = false ∧ idxI P code = -1) := by
  cases h : fnd P code with
  | some k =>
    left
    obtain ⟨h1, _, _⟩ := fnd_some_iff.1 h
    exact ⟨k, h1, (idN_some h).1, (idN_some h).2, by unfold idxI; rw [h]⟩
  | none =>
    right
    exact ⟨(idN_none h).1, (idN_none h).2, by unfold idxI; rw [h]⟩
set_option maxRecDepth 100000 in
set_option maxHeartbeats 8000000 in
theorem check_walk (a : Option Addr) (n c : Nat) (a' : Option Addr) (n' c' : Nat) (p : Pn) (code : Int) (w : World) (hP : PRow w a n c p.P) (hL : LRow w a' n' c' p.L) (_hN : NumOk p) (_hc : (Lit.int .u16 code).wf = true) :
    Calls Try.prog 3 #[planV a n c a' n' c' p, .int .u16 code] w fun e w' => e = .returned (.bool true) ∧ Below w.heap.size w w' := by
  obtain ⟨W, hW⟩ : ∃ W, W = w.alloc (.cells (planCells a n c a' n' c' p).toArray 26) := ⟨_, rfl⟩
  have hB : Below w.heap.size w W := by rw [hW]; exact below_alloc _ _
  have hA : PlanAt W w.heap.size a n c a' n' c' p := by rw [hW]; exact PlanAt.new _ _ _ _ _ _ _ _
  have hlt : w.heap.size < W.heap.size := hA.lt
  have hmax := hP.max
  have hle := hP.le
  have hmax' := hL.max
  have hle' := hL.le
  unfold maxLen at hmax hmax'
  have hI := fun (W : World) (h : PRow W a n c p.P) => cindex_any p a n c a' n' c' code W h
  have hC := fun (W : World) (h : PRow W a n c p.P) (h' : LRow W a' n' c' p.L) => ccheck_any p a n c a' n' c' W h h'
  have hC2 := fun (W : World) (h : PRow W a n c p.P) (h' : LRow W a' n' c' p.L) => check_any p a n c a' n' c' W h h'
  have hI2 := fun (W : World) (h : PRow W a n c p.P) => index_any p a n c a' n' c' code W h
  unfold planV at *
  have HI := Lib.hid hI
  have HL := Lib.hid lives_any
  have HB := Lib.hid hB
  have HA := Lib.hid hA
  have HPw := Lib.hid (hP.later hB)
  have HLw := Lib.hid (hL.later hB)
  obtain ⟨g0, g1, g2, g3, g4, g5, g6⟩ := hA.cells
  clear hI hB hA
  by_cases h1 : 80 < n
  · have d1 : (80 : Int) < (n : Int) := by omega
    clear hC hC2 hI2
    go_enter Try.func3, Try.ntmps3
    go_wp2_with fail
    show Calls _ _ _ (w.alloc (.cells (planCells a n c a' n' c' p).toArray 26)) _
    rw [← hW]
    clear hW
    with_reducible refine (HL.out _).mono ?_
    rintro e w1 ⟨rfl, hb⟩
    have HB2 := Lib.hid (HB.out.trans (hb.mono HB.out.size))
    clear hb
    go_wp2
    go_ret
    exact ⟨rfl, HB2.out⟩
  have d1 : ¬ (80 : Int) < (n : Int) := by omega
  by_cases h2 : 40 < n'
  · have d2 : (40 : Int) < (n' : Int) := by omega
    clear hC hC2 hI2
    go_enter Try.func3, Try.ntmps3
    go_wp2_with fail
    show Calls _ _ _ (w.alloc (.cells (planCells a n c a' n' c' p).toArray 26)) _
    rw [← hW]
    clear hW
    with_reducible refine (HL.out _).mono ?_
    rintro e w1 ⟨rfl, hb⟩
    have HB2 := Lib.hid (HB.out.trans (hb.mono HB.out.size))
    clear hb
    go_wp2
    go_ret
    exact ⟨rfl, HB2.out⟩
  have d2 : ¬ (40 : Int) < (n' : Int) := by omega
  obtain ⟨X, hX⟩ : ∃ X, X = chkPl p := ⟨_, rfl⟩
  rw [← hX] at hC hC2
  clear hX
  have hI1 := HI.out W HPw.out
  have mm : ∃ (r : Int) (s : Nat) (b : Bool), idN p.P code = s ∧ isB p.P code = b ∧ idxI p.P code = r ∧ decide (0 ≤ r) = b ∧ max r 0 = (s : Int) := by
    rcases idx_case p.P code with ⟨k, hk, e1, e2, e3⟩ | ⟨e1, e2, e3⟩
    · exact ⟨k, k, true, e1, e2, e3, by simp, by omega⟩
    · exact ⟨-1, 0, false, e1, e2, e3, by decide, by decide⟩
  obtain ⟨r, s, b, e1, e2, e3, e4, e5⟩ := mm
  have e6 : (b == b) = true := by simp
  have e7 : ((s : Int) == (s : Int)) = true := by simp
  all_goals
    rw [e1, e2] at hI1
    rw [e3] at hI2
    have HI1 := Lib.hid hI1
    clear hI1 e1 e2 e3 HI
    go_enter Try.func3, Try.ntmps3
    go_wp2_with fail
    show Calls _ _ _ (w.alloc (.cells (planCells a n c a' n' c' p).toArray 26)) _
    rw [← hW]
    clear hW
    with_reducible refine HI1.out.mono ?_
    rintro e v ⟨rfl, hb⟩
    have HB2 := Lib.hid (HB.out.trans (hb.mono HB.out.size))
    have HPv := Lib.hid (HPw.out.later hb)
    have HLv := Lib.hid (HLw.out.later hb)
    clear g0 g1 g2 g3 g4 g5 g6
    obtain ⟨g0, g1, g2, g3, g4, g5, g6⟩ := (HA.out.later hb).cells
    have hbx := World.block_lt_of_cell? v _ g0
    have HK := Lib.hid (fun (W' : World) (hb : Below v.heap.size v W') => And.intro hb (show W'.cell? ⟨w.heap.size, 0, none⟩ = some (.slice a n c) ∧ W'.cell? ⟨w.heap.size, 1, none⟩ = some (.slice a' n' c') ∧ W'.cell? ⟨w.heap.size, 2, none⟩ = some (.int .i64 p.rate) ∧ W'.cell? ⟨w.heap.size, 3, none⟩ = some (.int .i64 p.room) ∧ W'.cell? ⟨w.heap.size, 4, none⟩ = some (.int .i64 p.m0) ∧ W'.cell? ⟨w.heap.size, 5, none⟩ = some (.int .i64 p.m1) ∧ W'.cell? ⟨w.heap.size, 6, none⟩ = some (.int .i64 p.m2) from ⟨(hb.cell (p := ⟨w.heap.size, 0, none⟩) hbx).trans g0, (hb.cell (p := ⟨w.heap.size, 1, none⟩) hbx).trans g1, (hb.cell (p := ⟨w.heap.size, 2, none⟩) hbx).trans g2, (hb.cell (p := ⟨w.heap.size, 3, none⟩) hbx).trans g3, (hb.cell (p := ⟨w.heap.size, 4, none⟩) hbx).trans g4, (hb.cell (p := ⟨w.heap.size, 5, none⟩) hbx).trans g5, (hb.cell (p := ⟨w.heap.size, 6, none⟩) hbx).trans g6⟩))
    have HC := Lib.hid (fun (W' : World) (hb : Below v.heap.size v W') => (hC W' (HPv.out.later hb) (HLv.out.later hb)).mono (R' := fun e w' => e = .returned (.int .i64 X) ∧ Below v.heap.size v w') fun e w' h => ⟨h.1, hb.trans (h.2.mono hb.size)⟩)
    have HC2 := Lib.hid (fun (W' : World) (hb : Below v.heap.size v W') => (hC2 W' (HPv.out.later hb) (HLv.out.later hb)).mono (R' := fun e w' => e = .returned (.int .i64 X) ∧ Below v.heap.size v w') fun e w' h => ⟨h.1, hb.trans (h.2.mono hb.size)⟩)
    have HI2 := Lib.hid (fun (W' : World) (hb : Below v.heap.size v W') => (hI2 W' (HPv.out.later hb)).mono fun e w' h => show e = _ ∧ Below v.heap.size v w' from ⟨h.1, hb.trans (h.2.mono hb.size)⟩)
    have HL2 := Lib.hid (fun (W' : World) (hb : Below v.heap.size v W') => (HL.out W').mono fun e w' h => show e = _ ∧ Below v.heap.size v w' from ⟨h.1, hb.trans (h.2.mono hb.size)⟩)
    have b0 : Below v.heap.size v v.drew := below_draw v 1
    clear hb hC hC2 hI2 HI1 hbx HL
    go_wp2_with fail
    go_region_held3 (fun W' => Below v.heap.size v W' ∧ W'.cell? ⟨w.heap.size, 0, none⟩ = some (.slice a n c) ∧ W'.cell? ⟨w.heap.size, 1, none⟩ = some (.slice a' n' c') ∧ W'.cell? ⟨w.heap.size, 2, none⟩ = some (.int .i64 p.rate) ∧ W'.cell? ⟨w.heap.size, 3, none⟩ = some (.int .i64 p.room) ∧ W'.cell? ⟨w.heap.size, 4, none⟩ = some (.int .i64 p.m0) ∧ W'.cell? ⟨w.heap.size, 5, none⟩ = some (.int .i64 p.m1) ∧ W'.cell? ⟨w.heap.size, 6, none⟩ = some (.int .i64 p.m2)) (first | exact HK.out _ b0 | exact HK.out _ b1 | exact HK.out _ b2 | exact HK.out _ b3 | exact HK.out _ b4 | exact HK.out _ b5 | assumption | go_keep)
      (first
        | (go_at_call 12; ((with_reducible refine (HC.out _ b0).mono ?_); rintro e u1 ⟨rfl, b1⟩))
        | (go_at_call 13; ((with_reducible refine (HC2.out _ b1).mono ?_); rintro e u2 ⟨rfl, b2⟩))
        | (go_at_call 14; ((with_reducible refine (HI2.out _ b2).mono ?_); rintro e u3 ⟨rfl, b3⟩))
        | (go_at_call 14; ((with_reducible refine (HI2.out _ b3).mono ?_); rintro e u4 ⟨rfl, b4⟩))
        | (go_at_call 10; ((with_reducible refine (HL2.out _ b4).mono ?_); rintro e u5 ⟨rfl, b5⟩))
        | fail)
    go_wp2
    go_ret
    exact ⟨rfl, HB2.out.trans (b5.mono HB2.out.size)⟩
end Go.Proofs.Ytekaedmhdoijeaa
