/- Contracts of package units: Check. -/
import Derived.Test.YtnecdmihnndebaaDoorBaseEx
import Derived.Test.YtnecdmihnndebaaDoorUnMath
namespace Go.Proofs.YtnecdmihnndebaaDoor
open Go.RowKit

set_option maxHeartbeats 1000000 in
set_option maxRecDepth 100000 in
theorem ucheck_any (a0 : Int) (b1 : Bool) (a2 : Int) (b3 : Bool) (a4 a5 : Int) (s : Option Addr) (n c : Nat) (w : World) (h0 : 0 ≤ a0) (h0' : a0 ≤ 255) (h2 : 0 ≤ a2) (h2' : a2 ≤ 255) (h4 : 0 ≤ a4) (h4' : a4 ≤ 255) (h5 : 0 ≤ a5) (h5' : a5 ≤ 255) (hn : n ≤ 9223372036854775807) :
    Calls Tryd.prog 14 #[.agg #[.int .u8 a0, .bool b1, .int .u8 a2, .bool b3, .int .u8 a4, .int .u8 a5, .slice s n c]] w fun e w' => e = .returned (.int .i64 (chk a0 a2 a4 a5 n)) ∧ Below w.heap.size w w' := by
  go_enter Tryd.func14, Tryd.ntmps14
  go_wp2
  all_goals
    go_ret
    refine ⟨ret_int ?_, below_alloc _ _⟩
    try simp only [Bool.not_eq_eq_eq_not, Bool.not_false, Bool.not_true, decide_eq_true_eq, decide_eq_false_iff_not, beq_iff_eq, bne_iff_ne, beq_eq_false_iff_ne, bne_eq_false_iff_eq, ne_eq] at *
    unfold chk
    (repeat' split) <;> omega
end Go.Proofs.YtnecdmihnndebaaDoor
