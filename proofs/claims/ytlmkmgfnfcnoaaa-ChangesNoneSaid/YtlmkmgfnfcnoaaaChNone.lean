/- Ends of layer 16: what a nil end and the zero end do. -/
import Derived.Test.YtlmkmgfnfcnoaaaChGet
namespace Go.Proofs.Ytlmkmgfnfcnoaaa
open Go.RowKit

set_option maxHeartbeats 1000000 in
set_option maxRecDepth 100000 in
theorem arrive_no (v : Option Addr) (n : Int) (w : World) (h : NoEnd w v) : Calls Try.prog 10 #[.pointer v, .int .i64 n] w fun e w' => e = .returned (.int .i64 2) ∧ ∃ q, w' = w.drewN q := by
  have HC := Lib.hid (fun i => check_no v i w h)
  clear h
  go_enter Try.func10, Try.ntmps10
  go_wp2_with fail
  refine (HC.out _).mono ?_
  rintro e w' ⟨rfl, q, rfl⟩
  go_wp2
  go_ret
  exact ⟨rfl, q, rfl⟩
set_option maxHeartbeats 1000000 in
set_option maxRecDepth 100000 in
theorem acked_no (v : Option Addr) (n : Int) (w : World) (h : NoEnd w v) : Calls Try.prog 11 #[.pointer v, .int .i64 n] w fun e w' => e = .returned (.int .i64 2) ∧ ∃ q, w' = w.drewN q := by
  have HC := Lib.hid (fun i => check_no v i w h)
  clear h
  go_enter Try.func11, Try.ntmps11
  go_wp2_with fail
  refine (HC.out _).mono ?_
  rintro e w' ⟨rfl, q, rfl⟩
  go_wp2
  go_ret
  exact ⟨rfl, q, rfl⟩
set_option maxHeartbeats 1000000 in
set_option maxRecDepth 100000 in
theorem fail_no (v : Option Addr) (n : Int) (w : World) (h : NoEnd w v) : Calls Try.prog 12 #[.pointer v, .int .i64 n] w fun e w' => e = .returned (.tuple #[.int .i64 0, .int .i64 2]) ∧ ∃ q, w' = w.drewN q := by
  have HC := Lib.hid (fun i => check_no v i w h)
  clear h
  go_enter Try.func12, Try.ntmps12
  go_wp2_with fail
  refine (HC.out _).mono ?_
  rintro e w' ⟨rfl, q, rfl⟩
  go_wp2
  go_ret2
  exact ⟨rfl, q, rfl⟩
set_option maxHeartbeats 1000000 in
set_option maxRecDepth 100000 in
theorem told_no (v : Option Addr) (n : Int) (w : World) (h : NoEnd w v) : Calls Try.prog 13 #[.pointer v, .int .i64 n] w fun e w' => e = .returned (.tuple #[.slice none 0 0, .int .i64 2]) ∧ ∃ q, w' = w.drewN q := by
  have HC := Lib.hid (fun i => check_no v i w h)
  clear h
  go_enter Try.func13, Try.ntmps13
  go_wp2_with fail
  refine (HC.out _).mono ?_
  rintro e w' ⟨rfl, q, rfl⟩
  go_wp2
  go_ret2
  exact ⟨rfl, q, rfl⟩
set_option maxHeartbeats 1000000 in
set_option maxRecDepth 100000 in
theorem tick_no (v : Option Addr) (n m : Int) (w : World) (h : NoEnd w v) : Calls Try.prog 20 #[.pointer v, .int .i64 n, .int .i64 m] w fun e w' => e = .returned (.tuple #[.slice none 0 0, .bool false]) ∧ ∃ q, w' = w.drewN q := by
  have HC := Lib.hid (fun i => check_no v i w h)
  clear h
  go_enter Try.func20, Try.ntmps20
  go_wp2_with fail
  refine (HC.out _).mono ?_
  rintro e w' ⟨rfl, q, rfl⟩
  go_wp2
  go_ret2
  exact ⟨rfl, q, rfl⟩
set_option maxHeartbeats 1000000 in
set_option maxRecDepth 100000 in
theorem restore_no (v : Option Addr)  (w : World) (h : NoEnd w v) : Calls Try.prog 15 #[.pointer v] w fun e w' => e = .returned (.int .i64 2) ∧ ∃ q, w' = w.drewN q := by
  have HC := Lib.hid (fun i => check_no v i w h)
  clear h
  go_enter Try.func15, Try.ntmps15
  go_wp2_with fail
  refine (HC.out _).mono ?_
  rintro e w' ⟨rfl, q, rfl⟩
  go_wp2
  go_ret
  exact ⟨rfl, q, rfl⟩
set_option maxHeartbeats 1000000 in
set_option maxRecDepth 100000 in
theorem send_no (v : Option Addr) (num sv nw pr tp fr sl : Int) (a : Option Addr) (n c : Nat) (w : World) (h : NoEnd w v) :
    Calls Try.prog 8 #[.pointer v, .agg #[.int .i64 num, .int .u8 sv, .int .u8 nw, .int .u8 pr, .int .u16 tp, .int .u16 fr, .int .u8 sl, .slice a n c]] w fun e w' => e = .returned (.tuple #[.int .i64 0, .int .i64 2]) ∧ Below w.heap.size w w' := by
  have HC := Lib.hid (fun i => check_no v i _ (h.later (below_alloc w (.cells #[.int .i64 num, .int .u8 sv, .int .u8 nw, .int .u8 pr, .int .u16 tp, .int .u16 fr, .int .u8 sl, .slice a n c] 38))))
  clear h
  go_enter Try.func8, Try.ntmps8
  go_wp2_with fail
  refine (HC.out _).mono ?_
  rintro e w' ⟨rfl, q, rfl⟩
  go_wp2
  go_ret2
  exact ⟨rfl, below_drewN (below_alloc _ _) q⟩
end Go.Proofs.Ytlmkmgfnfcnoaaa
