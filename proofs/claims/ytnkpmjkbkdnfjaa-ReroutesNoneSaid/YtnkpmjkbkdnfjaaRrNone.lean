/- Gates of layer 17: what a nil gate and the zero gate do. -/
import Derived.Test.YtnkpmjkbkdnfjaaRrGet
namespace Go.Proofs.Ytnkpmjkbkdnfjaa
open Go.RowKit

set_option maxHeartbeats 1000000 in
set_option maxRecDepth 100000 in
theorem offer_no (v : Option Addr) (num sv nw pr tp fr sl : Int) (a : Option Addr) (n c : Nat) (w : World) (h : NoGt w v) :
    Calls Try.prog 17 #[.pointer v, .agg #[.int .i64 num, .int .u8 sv, .int .u8 nw, .int .u8 pr, .int .u16 tp, .int .u16 fr, .int .u8 sl, .slice a n c]] w fun e w' => e = .returned (.int .i64 2) ∧ Below w.heap.size w w' := by
  have HC := Lib.hid (isNone_no v _ (h.later (below_alloc w (.cells #[.int .i64 num, .int .u8 sv, .int .u8 nw, .int .u8 pr, .int .u16 tp, .int .u16 fr, .int .u8 sl, .slice a n c] 56))))
  clear h
  go_enter Try.func17, Try.ntmps17
  go_wp2_with fail
  refine HC.out.mono ?_
  rintro e w' ⟨rfl, q, rfl⟩
  go_wp2
  go_ret
  exact ⟨rfl, below_drewN (below_alloc _ _) q⟩
set_option maxHeartbeats 1000000 in
set_option maxRecDepth 100000 in
theorem pass_zero (v : Option Addr) (now nx la lb lc : Int) (w : World) (h : NoGt w v) :
    Calls Try.prog 20 #[.pointer v, .int .i64 now, .agg #[.int .u16 nx, .int .u16 la, .int .u16 lb, .int .u8 lc]] w fun e w' => e = .returned (.slice none 0 0) ∧ Below w.heap.size w w' := by
  have HC := Lib.hid (len_no v _ (h.later (below_alloc w (.cells #[.int .u16 nx, .int .u16 la, .int .u16 lb, .int .u8 lc] 34))))
  clear h
  go_enter Try.func20, Try.ntmps20
  go_wp2_with fail
  refine HC.out.mono ?_
  rintro e w' ⟨rfl, q, rfl⟩
  go_wp2
  go_ret
  exact ⟨rfl, below_drewN (below_alloc _ _) _⟩
end Go.Proofs.Ytnkpmjkbkdnfjaa
