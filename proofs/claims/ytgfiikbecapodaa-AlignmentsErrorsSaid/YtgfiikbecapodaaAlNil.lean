/- Statements of layer 9: an alignment that is nil or zero. -/
import Derived.Test.YtgfiikbecapodaaAlWalk
namespace Go.Proofs.Ytgfiikbecapodaa
open Go.RowKit

/-- A nil alignment, or a zero one. -/
def NoneAt (w : World) (v : Value) : Prop := v = .pointer none ∨ ∃ b, v = .pointer (some ⟨b, 0, none⟩) ∧ Own w b 58 [.int .i64 0, .int .i64 0, .int .i64 0, .int .i64 0, .int .i64 0, .int .i64 0, .int .i64 0, .int .u8 0, .int .i64 0, .bool false, .bool false, .int .i64 0, .nilIface]
theorem NoneAt.later {w w' : World} {v : Value} (h : NoneAt w v) (hb : Below w.heap.size w w') : NoneAt w' v := by
  rcases h with h | ⟨b, hv, ho⟩
  · exact .inl h
  · exact .inr ⟨b, hv, ho.below hb ho.lt⟩
set_option maxHeartbeats 1000000 in
set_option maxRecDepth 100000 in
theorem isNone_none (v : Value) (w : World) (h : NoneAt w v) :
    Calls Try.prog 32 #[v] w fun e w' => e = .returned (.bool true) ∧ w' = w := by
  rcases h with rfl | ⟨b, rfl, ho⟩
  · go_enter Try.func32, Try.ntmps32
    go_wp2
    go_ret
    exact ⟨rfl, rfl⟩
  · have c0 := ho.cell 0 (by simp)
    have c1 := ho.cell 1 (by simp)
    have c2 := ho.cell 2 (by simp)
    have c3 := ho.cell 3 (by simp)
    have c4 := ho.cell 4 (by simp)
    have c5 := ho.cell 5 (by simp)
    have c6 := ho.cell 6 (by simp)
    simp only [List.getD_cons_succ, List.getD_cons_zero] at c0 c1 c2 c3 c4 c5 c6
    clear ho
    go_enter Try.func32, Try.ntmps32
    go_wp2
    go_ret
    exact ⟨rfl, rfl⟩
set_option maxHeartbeats 1000000 in
set_option maxRecDepth 100000 in
theorem start_none (v : Value) (u : Bool) (w : World) (h : NoneAt w v) :
    Calls Try.prog 19 #[v, .bool u] w fun e w' => e = .returned (.int .i64 2) ∧ w' = w := by
  have HN := Lib.hid (isNone_none v w h)
  clear h
  go_enter Try.func19, Try.ntmps19
  go_wp2_with fail
  with_reducible refine HN.out.mono ?_
  rintro e w' ⟨rfl, rfl⟩
  clear HN
  go_wp2
  go_ret
  exact ⟨rfl, rfl⟩
set_option maxHeartbeats 1000000 in
set_option maxRecDepth 100000 in
theorem stop_none (v : Value) (w : World) (h : NoneAt w v) :
    Calls Try.prog 23 #[v] w fun e w' => e = .returned (.int .i64 2) ∧ w' = w := by
  have HN := Lib.hid (isNone_none v w h)
  clear h
  go_enter Try.func23, Try.ntmps23
  go_wp2_with fail
  with_reducible refine HN.out.mono ?_
  rintro e w' ⟨rfl, rfl⟩
  clear HN
  go_wp2
  go_ret
  exact ⟨rfl, rfl⟩
set_option maxHeartbeats 1000000 in
set_option maxRecDepth 100000 in
theorem tick_none (v : Value) (w : World) (h : NoneAt w v) :
    Calls Try.prog 20 #[v] w fun e w' => e = .returned (.int .i64 2) ∧ w' = w := by
  have HN := Lib.hid (isNone_none v w h)
  clear h
  go_enter Try.func20, Try.ntmps20
  go_wp2_with fail
  with_reducible refine HN.out.mono ?_
  rintro e w' ⟨rfl, rfl⟩
  clear HN
  go_wp2
  go_ret
  exact ⟨rfl, rfl⟩
set_option maxHeartbeats 1000000 in
set_option maxRecDepth 100000 in
theorem wrong_none (v : Value) (w : World) (h : NoneAt w v) :
    Calls Try.prog 22 #[v] w fun e w' => e = .returned (.int .i64 2) ∧ w' = w := by
  have HN := Lib.hid (isNone_none v w h)
  clear h
  go_enter Try.func22, Try.ntmps22
  go_wp2_with fail
  with_reducible refine HN.out.mono ?_
  rintro e w' ⟨rfl, rfl⟩
  clear HN
  go_wp2
  go_ret
  exact ⟨rfl, rfl⟩
set_option maxHeartbeats 1000000 in
set_option maxRecDepth 100000 in
theorem hear_none (v : Value) (s : Int) (w : World) (h : NoneAt w v) :
    Calls Try.prog 24 #[v, .int .u8 s] w fun e w' => e = .returned (.int .i64 2) ∧ w' = w := by
  have HN := Lib.hid (isNone_none v w h)
  clear h
  go_enter Try.func24, Try.ntmps24
  go_wp2_with fail
  with_reducible refine HN.out.mono ?_
  rintro e w' ⟨rfl, rfl⟩
  clear HN
  go_wp2
  go_ret
  exact ⟨rfl, rfl⟩
set_option maxHeartbeats 1000000 in
set_option maxRecDepth 100000 in
theorem phase_none (v : Value) (w : World) (h : NoneAt w v) :
    Calls Try.prog 14 #[v] w fun e w' => e = .returned (.int .u8 0) ∧ w' = w := by
  have HN := Lib.hid (isNone_none v w h)
  clear h
  go_enter Try.func14, Try.ntmps14
  go_wp2_with fail
  with_reducible refine HN.out.mono ?_
  rintro e w' ⟨rfl, rfl⟩
  clear HN
  go_wp2
  go_ret
  exact ⟨rfl, rfl⟩
set_option maxHeartbeats 1000000 in
set_option maxRecDepth 100000 in
theorem left_none (v : Value) (w : World) (h : NoneAt w v) :
    Calls Try.prog 15 #[v] w fun e w' => e = .returned (.int .i64 0) ∧ w' = w := by
  have HN := Lib.hid (isNone_none v w h)
  clear h
  go_enter Try.func15, Try.ntmps15
  go_wp2_with fail
  with_reducible refine HN.out.mono ?_
  rintro e w' ⟨rfl, rfl⟩
  clear HN
  go_wp2
  go_ret
  exact ⟨rfl, rfl⟩
set_option maxHeartbeats 1000000 in
set_option maxRecDepth 100000 in
theorem provings_none (v : Value) (w : World) (h : NoneAt w v) :
    Calls Try.prog 16 #[v] w fun e w' => e = .returned (.int .i64 0) ∧ w' = w := by
  have HN := Lib.hid (isNone_none v w h)
  clear h
  go_enter Try.func16, Try.ntmps16
  go_wp2_with fail
  with_reducible refine HN.out.mono ?_
  rintro e w' ⟨rfl, rfl⟩
  clear HN
  go_wp2
  go_ret
  exact ⟨rfl, rfl⟩
set_option maxHeartbeats 1000000 in
set_option maxRecDepth 100000 in
theorem sends_none (v : Value) (w : World) (h : NoneAt w v) :
    Calls Try.prog 26 #[v] w fun e w' => e = .returned (.tuple #[.int .u8 0, .bool false]) ∧ w' = w := by
  have HN := Lib.hid (phase_none v w h)
  clear h
  go_enter Try.func26, Try.ntmps26
  go_wp2_with fail
  with_reducible refine HN.out.mono ?_
  rintro e w' ⟨rfl, rfl⟩
  clear HN
  go_wp2
  go_ret2
  exact ⟨rfl, rfl⟩
set_option maxHeartbeats 1000000 in
set_option maxRecDepth 100000 in
theorem status_none (v : Value) (w : World) (h : NoneAt w v) :
    Calls Try.prog 17 #[v] w fun e w' => e = .returned (.int .u8 9) ∧ w' = w := by
  have HN := Lib.hid (sends_none v w h)
  clear h
  go_enter Try.func17, Try.ntmps17
  go_wp2_with fail
  with_reducible refine HN.out.mono ?_
  rintro e w' ⟨rfl, rfl⟩
  clear HN
  go_wp2
  go_ret
  exact ⟨rfl, rfl⟩
set_option maxHeartbeats 1000000 in
set_option maxRecDepth 100000 in
theorem perform_none (v : Value) (a : Nat) (w : World) (h : NoneAt w v) (ha : a < 12) :
    Calls Try.prog 12 #[v, .int .u8 (a : Int)] w fun e w' => e = .returned (.int .i64 2) ∧ w' = w := by
  have hcases : a = 0 ∨ a = 1 ∨ a = 2 ∨ a = 3 ∨ a = 4 ∨ a = 5 ∨ a = 6 ∨ a = 7 ∨ a = 8 ∨ a = 9 ∨ a = 10 ∨ a = 11 := by omega
  clear ha
  rcases hcases with rfl | rfl | rfl | rfl | rfl | rfl | rfl | rfl | rfl | rfl | rfl | rfl
  · have HC := Lib.hid (start_none v false w h)
    clear h
    go_enter Try.func12, Try.ntmps12
    go_wp2_with fail
    with_reducible refine HC.out.mono ?_
    rintro e w' ⟨rfl, rfl⟩
    clear HC
    go_wp2
    go_ret
    exact ⟨rfl, rfl⟩
  · have HC := Lib.hid (start_none v true w h)
    clear h
    go_enter Try.func12, Try.ntmps12
    go_wp2_with fail
    with_reducible refine HC.out.mono ?_
    rintro e w' ⟨rfl, rfl⟩
    clear HC
    go_wp2
    go_ret
    exact ⟨rfl, rfl⟩
  · have HC := Lib.hid (stop_none v w h)
    clear h
    go_enter Try.func12, Try.ntmps12
    go_wp2_with fail
    with_reducible refine HC.out.mono ?_
    rintro e w' ⟨rfl, rfl⟩
    clear HC
    go_wp2
    go_ret
    exact ⟨rfl, rfl⟩
  · have HC := Lib.hid (wrong_none v w h)
    clear h
    go_enter Try.func12, Try.ntmps12
    go_wp2_with fail
    with_reducible refine HC.out.mono ?_
    rintro e w' ⟨rfl, rfl⟩
    clear HC
    go_wp2
    go_ret
    exact ⟨rfl, rfl⟩
  · have HC := Lib.hid (tick_none v w h)
    clear h
    go_enter Try.func12, Try.ntmps12
    go_wp2_with fail
    with_reducible refine HC.out.mono ?_
    rintro e w' ⟨rfl, rfl⟩
    clear HC
    go_wp2
    go_ret
    exact ⟨rfl, rfl⟩
  · have HC := Lib.hid (tick_none v w h)
    clear h
    go_enter Try.func12, Try.ntmps12
    go_wp2_with fail
    with_reducible refine HC.out.mono ?_
    rintro e w' ⟨rfl, rfl⟩
    clear HC
    go_wp2
    go_ret
    exact ⟨rfl, rfl⟩
  · have HC := Lib.hid (tick_none v w h)
    clear h
    go_enter Try.func12, Try.ntmps12
    go_wp2_with fail
    with_reducible refine HC.out.mono ?_
    rintro e w' ⟨rfl, rfl⟩
    clear HC
    go_wp2
    go_ret
    exact ⟨rfl, rfl⟩
  · have HC := Lib.hid (tick_none v w h)
    clear h
    go_enter Try.func12, Try.ntmps12
    go_wp2_with fail
    with_reducible refine HC.out.mono ?_
    rintro e w' ⟨rfl, rfl⟩
    clear HC
    go_wp2
    go_ret
    exact ⟨rfl, rfl⟩
  · have HC := Lib.hid (hear_none v 0 w h)
    clear h
    go_enter Try.func12, Try.ntmps12
    go_wp2_with fail
    with_reducible refine HC.out.mono ?_
    rintro e w' ⟨rfl, rfl⟩
    clear HC
    go_wp2
    go_ret
    exact ⟨rfl, rfl⟩
  · have HC := Lib.hid (hear_none v 1 w h)
    clear h
    go_enter Try.func12, Try.ntmps12
    go_wp2_with fail
    with_reducible refine HC.out.mono ?_
    rintro e w' ⟨rfl, rfl⟩
    clear HC
    go_wp2
    go_ret
    exact ⟨rfl, rfl⟩
  · have HC := Lib.hid (hear_none v 2 w h)
    clear h
    go_enter Try.func12, Try.ntmps12
    go_wp2_with fail
    with_reducible refine HC.out.mono ?_
    rintro e w' ⟨rfl, rfl⟩
    clear HC
    go_wp2
    go_ret
    exact ⟨rfl, rfl⟩
  · have HC := Lib.hid (hear_none v 3 w h)
    clear h
    go_enter Try.func12, Try.ntmps12
    go_wp2_with fail
    with_reducible refine HC.out.mono ?_
    rintro e w' ⟨rfl, rfl⟩
    clear HC
    go_wp2
    go_ret
    exact ⟨rfl, rfl⟩
end Go.Proofs.Ytgfiikbecapodaa
