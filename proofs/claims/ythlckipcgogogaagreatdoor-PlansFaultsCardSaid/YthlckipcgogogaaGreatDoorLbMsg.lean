import Derived.Test.YthlckipcgogogaaGreatDoorLbCmp
import Derived.Laws.BitsAllLaws
/- Contracts of package labels: isLabel, Check, numberOf, labelOf. -/
namespace Go.Proofs.YthlckipcgogogaaGreatDoor
set_option linter.unusedVariables false
open Go.RowKit

theorem or_shift {a : Nat} (b i : Nat) (h : a < 2 ^ i) : a ||| (b * 2 ^ i) = a + b * 2 ^ i := by
  have h2 := Nat.two_pow_add_eq_or_of_lt h b
  rw [Nat.or_comm, Nat.mul_comm b, ← h2]; omega
theorem u32_add {a b : Int} (x i : Nat) (h0 : 0 ≤ a) (h1 : a < ((2 ^ i : Nat) : Int)) (hb : b = ((x * 2 ^ i : Nat) : Int)) (hs : a < 4294967296) (ht : b < 4294967296) : bits .or .u32 a b = a + b := by
  rw [u32_or a b h0 hs (by omega) ht]
  have e : b.toNat = x * 2 ^ i := by omega
  rw [e, or_shift x i (by omega)]
  omega
/-- The fields of a message but Data are as the document says. -/
def fieldsB (sv nw pr to fr sl : Int) : Bool := decide (sv ≤ 15) && decide (nw ≤ 3) && decide (pr ≤ 3) && decide (to ≤ 16383) && decide (fr ≤ 16383) && decide (sl ≤ 15)
/-- The error of a message with n bytes of Data. -/
def chkM (sv nw pr to fr sl : Int) (n : Nat) : Int := if fieldsB sv nw pr to fr sl then (if 268 < n then 3 else 0) else 1
theorem mask14 (n : Int) (h0 : 0 ≤ n) (h1 : n ≤ 4294967295) : IntKind.u16.wrap (bits .and .u32 n 16383) = n % 16384 := by
  rw [u32_and n 16383 h0 (by omega) (by decide) (by decide)]
  have e : n.toNat &&& (16383 : Int).toNat = n.toNat % 16384 := Nat.and_two_pow_sub_one_eq_mod n.toNat 14
  rw [e]
  have e2 : ((n.toNat % 16384 : Nat) : Int) = n % 16384 := by omega
  rw [e2]
  exact IntWalk.u16_in _ (by omega)
theorem chkM_bad {sv nw pr to fr sl : Int} {n : Nat} (h : fieldsB sv nw pr to fr sl = false) : chkM sv nw pr to fr sl n = 1 := by unfold chkM; rw [h]; rfl
theorem chkM_cases (sv nw pr to fr sl : Int) (n : Nat) : chkM sv nw pr to fr sl n = 1 ∧ fieldsB sv nw pr to fr sl = false ∨ chkM sv nw pr to fr sl n = 3 ∧ fieldsB sv nw pr to fr sl = true ∧ 268 < n ∨ chkM sv nw pr to fr sl n = 0 ∧ fieldsB sv nw pr to fr sl = true ∧ n ≤ 268 := by
  unfold chkM
  cases fieldsB sv nw pr to fr sl
  · simp
  · by_cases h : 268 < n
    · simp [h]
    · simp [h]; omega
theorem fieldsB_iff {sv nw pr to fr sl : Int} : fieldsB sv nw pr to fr sl = true ↔ sv ≤ 15 ∧ nw ≤ 3 ∧ pr ≤ 3 ∧ to ≤ 16383 ∧ fr ≤ 16383 ∧ sl ≤ 15 := by
  simp [fieldsB, and_assoc]
end Go.Proofs.YthlckipcgogogaaGreatDoor
