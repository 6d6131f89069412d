/- Monitors: contracts of NewRate and NewSpan. -/
import Derived.Test.YtblhfdkopnaobaaMoNew
namespace Go.Proofs.Ytblhfdkopnaobaa
open Go.RowKit

set_option maxHeartbeats 1000000 in
set_option maxRecDepth 100000 in
theorem newRate_ok (lim size : Nat) (w : World) (h0 : 1 ≤ lim) (k0 : lim ≤ 1048576) (h1 : 1 ≤ size) (k1 : size ≤ 1048576) :
    Calls Try.prog 16 #[.int .i64 (lim : Int), .int .i64 (size : Int)] w (MadeBy .rate lim size 1 1 w) := by
  have hr := row_args w [(lim : Int), (size : Int)] 2 rfl (by omega) (fun x hx => by
    simp only [List.mem_cons, List.not_mem_nil, or_false] at hx
    rcases hx with rfl | rfl
    all_goals exact wf_small (by omega) (by omega))
  obtain ⟨W, hW⟩ : ∃ W, W = w.alloc (.cells #[.int .i64 (lim : Int), .int .i64 (size : Int)] 3) := ⟨_, rfl⟩
  have hb : Below w.heap.size w W := by rw [hW]; exact below_alloc _ _
  have hr' : Row .i64 W (some ⟨w.heap.size, 0, none⟩) 2 2 [(lim : Int), (size : Int)] := by rw [hW]; exact hr
  have hc := areInvalid_any _ 2 2 _ W hr' (by omega) (by omega)
  rw [show ([(lim : Int), (size : Int)].all okArg) = true by simp [okArg_nat h0 k0, okArg_nat h1 k1]] at hc
  have hfit : (Mo.new .rate lim size 1 1).Fit := Mo.Fit.new (by omega) (by omega) (by omega) (by omega) (by omega) (by omega)
  have HW := Lib.hid hW
  have HC := Lib.hid hc
  have HB := Lib.hid hb
  have HF := Lib.hid hfit
  clear hr hr' hc hb hW hfit
  go_enter Try.func16, Try.ntmps16
  go_wp2_with fail
  rw [← HW.out]
  with_reducible refine HC.out.mono ?_
  rintro e w' ⟨rfl, rfl⟩
  clear HC HW
  go_wp2
  go_ret2
  exact ⟨w'.heap.size, rfl, HB.out.size, ⟨own_new w' _ _ _ rfl, HF.out⟩, HB.out.alloc HB.out.size _⟩
set_option maxHeartbeats 1000000 in
set_option maxRecDepth 100000 in
theorem newRate_bad (x0 x1 : Int) (w : World) (h : [x0, x1].all okArg = false) (hw0 : (Lit.int .i64 x0).wf = true) (hw1 : (Lit.int .i64 x1).wf = true) :
    Calls Try.prog 16 #[.int .i64 x0, .int .i64 x1] w fun e w' => e = .returned (.tuple #[.nilIface, .int .i64 1]) ∧ Below w.heap.size w w' := by
  have hr := row_args w [x0, x1] 2 rfl (by omega) (fun y hy => by
    simp only [List.mem_cons, List.not_mem_nil, or_false] at hy
    rcases hy with rfl | rfl
    all_goals assumption)
  obtain ⟨W, hW⟩ : ∃ W, W = w.alloc (.cells #[.int .i64 x0, .int .i64 x1] 3) := ⟨_, rfl⟩
  have hb : Below w.heap.size w W := by rw [hW]; exact below_alloc _ _
  have hr' : Row .i64 W (some ⟨w.heap.size, 0, none⟩) 2 2 [x0, x1] := by rw [hW]; exact hr
  have hc := areInvalid_any _ 2 2 _ W hr' (by omega) (by omega)
  rw [h] at hc
  have HW := Lib.hid hW
  have HC := Lib.hid hc
  have HB := Lib.hid hb
  clear hr hr' hc hb hW h hw0 hw1
  go_enter Try.func16, Try.ntmps16
  go_wp2_with fail
  rw [← HW.out]
  with_reducible refine HC.out.mono ?_
  rintro e w' ⟨rfl, rfl⟩
  clear HC HW
  go_wp2
  go_ret2
  exact ⟨rfl, HB.out⟩
set_option maxHeartbeats 1000000 in
set_option maxRecDepth 100000 in
theorem newSpan_ok (lim size up down : Nat) (w : World) (h0 : 1 ≤ lim) (k0 : lim ≤ 1048576) (h1 : 1 ≤ size) (k1 : size ≤ 1048576) (h2 : 1 ≤ up) (k2 : up ≤ 1048576) (h3 : 1 ≤ down) (k3 : down ≤ 1048576) :
    Calls Try.prog 17 #[.int .i64 (lim : Int), .int .i64 (size : Int), .int .i64 (up : Int), .int .i64 (down : Int)] w (MadeBy .span lim size up down w) := by
  have hr := row_args w [(lim : Int), (size : Int), (up : Int), (down : Int)] 4 rfl (by omega) (fun x hx => by
    simp only [List.mem_cons, List.not_mem_nil, or_false] at hx
    rcases hx with rfl | rfl | rfl | rfl
    all_goals exact wf_small (by omega) (by omega))
  obtain ⟨W, hW⟩ : ∃ W, W = w.alloc (.cells #[.int .i64 (lim : Int), .int .i64 (size : Int), .int .i64 (up : Int), .int .i64 (down : Int)] 3) := ⟨_, rfl⟩
  have hb : Below w.heap.size w W := by rw [hW]; exact below_alloc _ _
  have hr' : Row .i64 W (some ⟨w.heap.size, 0, none⟩) 4 4 [(lim : Int), (size : Int), (up : Int), (down : Int)] := by rw [hW]; exact hr
  have hc := areInvalid_any _ 4 4 _ W hr' (by omega) (by omega)
  rw [show ([(lim : Int), (size : Int), (up : Int), (down : Int)].all okArg) = true by simp [okArg_nat h0 k0, okArg_nat h1 k1, okArg_nat h2 k2, okArg_nat h3 k3]] at hc
  have hfit : (Mo.new .span lim size up down).Fit := Mo.Fit.new (by omega) (by omega) (by omega) (by omega) (by omega) (by omega)
  have HW := Lib.hid hW
  have HC := Lib.hid hc
  have HB := Lib.hid hb
  have HF := Lib.hid hfit
  clear hr hr' hc hb hW hfit
  go_enter Try.func17, Try.ntmps17
  go_wp2_with fail
  rw [← HW.out]
  with_reducible refine HC.out.mono ?_
  rintro e w' ⟨rfl, rfl⟩
  clear HC HW
  go_wp2
  go_ret2
  exact ⟨w'.heap.size, rfl, HB.out.size, ⟨own_new w' _ _ _ rfl, HF.out⟩, HB.out.alloc HB.out.size _⟩
set_option maxHeartbeats 1000000 in
set_option maxRecDepth 100000 in
theorem newSpan_bad (x0 x1 x2 x3 : Int) (w : World) (h : [x0, x1, x2, x3].all okArg = false) (hw0 : (Lit.int .i64 x0).wf = true) (hw1 : (Lit.int .i64 x1).wf = true) (hw2 : (Lit.int .i64 x2).wf = true) (hw3 : (Lit.int .i64 x3).wf = true) :
    Calls Try.prog 17 #[.int .i64 x0, .int .i64 x1, .int .i64 x2, .int .i64 x3] w fun e w' => e = .returned (.tuple #[.nilIface, .int .i64 1]) ∧ Below w.heap.size w w' := by
  have hr := row_args w [x0, x1, x2, x3] 4 rfl (by omega) (fun y hy => by
    simp only [List.mem_cons, List.not_mem_nil, or_false] at hy
    rcases hy with rfl | rfl | rfl | rfl
    all_goals assumption)
  obtain ⟨W, hW⟩ : ∃ W, W = w.alloc (.cells #[.int .i64 x0, .int .i64 x1, .int .i64 x2, .int .i64 x3] 3) := ⟨_, rfl⟩
  have hb : Below w.heap.size w W := by rw [hW]; exact below_alloc _ _
  have hr' : Row .i64 W (some ⟨w.heap.size, 0, none⟩) 4 4 [x0, x1, x2, x3] := by rw [hW]; exact hr
  have hc := areInvalid_any _ 4 4 _ W hr' (by omega) (by omega)
  rw [h] at hc
  have HW := Lib.hid hW
  have HC := Lib.hid hc
  have HB := Lib.hid hb
  clear hr hr' hc hb hW h hw0 hw1 hw2 hw3
  go_enter Try.func17, Try.ntmps17
  go_wp2_with fail
  rw [← HW.out]
  with_reducible refine HC.out.mono ?_
  rintro e w' ⟨rfl, rfl⟩
  clear HC HW
  go_wp2
  go_ret2
  exact ⟨rfl, HB.out⟩
end Go.Proofs.Ytblhfdkopnaobaa
