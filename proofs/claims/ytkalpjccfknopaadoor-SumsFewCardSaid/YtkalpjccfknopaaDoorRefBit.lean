/- Contracts: RefBit. -/
import Derived.Test.YtkalpjccfknopaaDoorBase
namespace Go.Proofs.YtkalpjccfknopaaDoor
open Go.RowKit

set_option maxHeartbeats 400000 in
theorem bit_any (v : Int) (k : Nat) (w : World) (hv0 : 0 ≤ v) (hv : v ≤ 18446744073709551615) (hk : k ≤ 1048576) :
    Calls Tryd.prog 23 #[.int .u64 v, .int .i64 k] w fun e w' => e = .returned (.int .u8 (v / 2 ^ k % 2)) ∧ w = w' := by
  go_enter Tryd.func23, Tryd.ntmps23
  go_wp2
  go_loop [0, 5] (fun x i => ∃ j : Nat, ∃ y : Int, j ≤ k ∧ i = .int .i64 j ∧ x = .int .u64 y ∧ 0 ≤ y ∧ y ≤ 18446744073709551615 ∧ y = v / 2 ^ j) (fun _ i => k - (intOf i).toNat)
  case atStart => exact ⟨0, v, Nat.zero_le _, rfl, rfl, hv0, hv, by simp⟩
  case round =>
    obtain ⟨j, y, hj, rfl, rfl, hy0, hy1, hy⟩ := hrel
    have HY := Lib.hid hy
    clear hy
    by_cases hlt : j < k
    · go_wp2
      go_round
      case rel => exact ⟨j + 1, y / 2, by omega, by go_num, rfl, by omega, by omega, by rw [HY.out, Int.ediv_ediv_of_nonneg (Int.pow_nonneg (by decide)), Int.pow_succ]⟩
      case measure => simp [intOf]; omega
    · go_wp2
      go_ret
      obtain rfl : j = k := by omega
      exact ⟨ret_int (by rw [HY.out]), rfl⟩
end Go.Proofs.YtkalpjccfknopaaDoor
