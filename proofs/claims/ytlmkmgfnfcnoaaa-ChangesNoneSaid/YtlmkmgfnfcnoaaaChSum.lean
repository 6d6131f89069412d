/- Layer 16: the sum of two numbers, kept in the range. -/
import Derived.Test.YtlmkmgfnfcnoaaaChAt
namespace Go.Proofs.Ytlmkmgfnfcnoaaa
open Go.RowKit

/-- The sum, or the end of the range that is nearest to it. -/
def satI (a b : Int) : Int := if 9223372036854775807 < a + b then 9223372036854775807 else if a + b < -9223372036854775808 then -9223372036854775808 else a + b
set_option maxHeartbeats 1000000 in
set_option maxRecDepth 100000 in
theorem sum_any (a b : Int) (w : World) (ha : -9223372036854775808 ≤ a ∧ a ≤ 9223372036854775807) (hb : -9223372036854775808 ≤ b ∧ b ≤ 9223372036854775807) :
    Calls Try.prog 30 #[.int .i64 a, .int .i64 b] w fun e w' => e = .returned (.int .i64 (satI a b)) ∧ w = w' := by
  obtain ⟨S, hS⟩ : ∃ S, S = satI a b := ⟨_, rfl⟩
  rw [← hS]
  unfold satI at hS
  obtain ⟨a1, a2⟩ := ha
  obtain ⟨b1, b2⟩ := hb
  by_cases h1 : 0 < b
  · have h2 : ¬ b < 0 := by omega
    have hw : IntKind.i64.wrap (9223372036854775807 - b) = 9223372036854775807 - b := IntWalk.i64_in _ (by omega)
    by_cases h3 : 9223372036854775807 - b < a
    · rw [if_pos (by omega)] at hS
      subst hS
      clear a1 a2 b1 b2
      go_enter Try.func30, Try.ntmps30
      go_wp2
      go_ret
      exact ⟨rfl, rfl⟩
    · rw [if_neg (by omega), if_neg (by omega)] at hS
      have hw2 : IntKind.i64.wrap (a + b) = S := by rw [hS]; exact IntWalk.i64_in _ (by omega)
      clear a1 a2 b1 b2 hS
      go_enter Try.func30, Try.ntmps30
      go_wp2
      go_ret
      exact ⟨rfl, rfl⟩
  · by_cases h2 : b < 0
    · have hw : IntKind.i64.wrap (-9223372036854775808 - b) = -9223372036854775808 - b := IntWalk.i64_in _ (by omega)
      by_cases h3 : a < -9223372036854775808 - b
      · rw [if_neg (by omega), if_pos (by omega)] at hS
        subst hS
        clear a1 a2 b1 b2
        go_enter Try.func30, Try.ntmps30
        go_wp2
        go_ret
        exact ⟨rfl, rfl⟩
      · rw [if_neg (by omega), if_neg (by omega)] at hS
        have hw2 : IntKind.i64.wrap (a + b) = S := by rw [hS]; exact IntWalk.i64_in _ (by omega)
        clear a1 a2 b1 b2 hS
        go_enter Try.func30, Try.ntmps30
        go_wp2
        go_ret
        exact ⟨rfl, rfl⟩
    · rw [if_neg (by omega), if_neg (by omega)] at hS
      have hw2 : IntKind.i64.wrap (a + b) = S := by rw [hS]; exact IntWalk.i64_in _ (by omega)
      clear a1 a2 b1 b2 hS
      go_enter Try.func30, Try.ntmps30
      go_wp2
      go_ret
      exact ⟨rfl, rfl⟩
end Go.Proofs.Ytlmkmgfnfcnoaaa
