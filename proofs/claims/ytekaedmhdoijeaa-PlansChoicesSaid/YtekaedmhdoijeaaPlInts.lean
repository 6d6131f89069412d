/- The statements' own function ints, at equal numbers. -/
import Derived.Test.YtekaedmhdoijeaaBaseEx
import Derived.BigQuiet
import Derived.IntWalk
namespace Go.Proofs.Ytekaedmhdoijeaa
open Go.RowKit

set_option maxHeartbeats 1000000 in
theorem ints_yes (a b : Option Addr) (n m : Nat) (xs : List Int) (w : World) (ha : Row .i64 w a n n xs) (hb : Row .i64 w b n m xs) :
    Calls Try.prog 27 #[.slice a n n, .slice b n m] w fun e w' => e = .returned (.bool true) ∧ ∃ q, w' = w.drewN q := by
  have hmax := ha.max
  unfold maxLen at hmax
  have HA := Lib.hid ha
  have HB := Lib.hid hb
  clear ha hb
  go_enter Try.func27, Try.ntmps27
  go_wp2_with fail
  go_loopw [5] (fun i wr => ∃ k q : Nat, k ≤ n ∧ i = .int .i64 k ∧ wr = w.drewN q) (fun i _ => n - (intOf i).toNat)
  case atStart => exact ⟨0, 0, Nat.zero_le _, rfl, rfl⟩
  case round =>
    obtain ⟨k, q, hk, rfl, rfl⟩ := hrel
    by_cases hkn : k < n
    · obtain ⟨b1, o1, rfl, hc1⟩ := HA.out.cells.resolve_left (by omega)
      obtain ⟨b2, o2, rfl, hc2⟩ := HB.out.cells.resolve_left (by omega)
      have c1 : (w.drewN q).cell? ⟨b1, o1 + k, none⟩ = some (.int .i64 (xs.getD k 0)) := hc1 k hkn
      have c2 : (w.drewN q).cell? ⟨b2, o2 + k, none⟩ = some (.int .i64 (xs.getD k 0)) := hc2 k hkn
      have k1 : (k : Int) < (n : Int) := by omega
      have k2 : (0 : Int) ≤ (k : Int) := by omega
      have HQ := Lib.hid (fun q2 => show (w.drewN q).drewN q2 = w.drewN (q + q2) by simp [World.drewN, Nat.add_assoc])
      generalize w.drewN q = W at *
      generalize xs.getD k 0 = x at c1 c2
      clear hc1 hc2
      go_wp2_with fail
      go_quiet (fail)
      go_wp2
      exact ⟨⟨k + 1, _, by omega, by go_num, HQ.out _⟩, by simp [intOf]; omega⟩
    · obtain rfl : k = n := by omega
      go_wp2
      go_ret
      exact ⟨rfl, q, rfl⟩
end Go.Proofs.Ytekaedmhdoijeaa
