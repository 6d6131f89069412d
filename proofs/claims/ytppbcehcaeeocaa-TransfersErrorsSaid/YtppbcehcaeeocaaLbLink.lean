/- Contracts of package labels: Other. -/
import Derived.Test.YtppbcehcaeeocaaBaseEx
namespace Go.Proofs.Ytppbcehcaeeocaa
open Go.RowKit

theorem wf_u16 {x : Int} : (Lit.int .u16 x).wf = true ↔ 0 ≤ x ∧ x ≤ 65535 := by
  simp [Lit.wf, IntKind.min, IntKind.max, IntKind.bits, IntKind.signed]
/-- The other end of a link, and whether there is one. -/
def othB (A B P : Int) : Bool := decide (A = P) != decide (B = P)
def othL (A B P : Int) : Int := if othB A B P then (if A = P then B else A) else 0
theorem other_any (A B C P : Int) (w : World) :
    Calls Try.prog 57 #[.agg #[.int .u16 A, .int .u16 B, .int .u8 C], .int .u16 P] w fun e w' => e = .returned (.tuple #[.int .u16 (othL A B P), .bool (othB A B P)]) ∧ Below w.heap.size w w' := by
  by_cases h1 : A = P
  · by_cases h2 : B = P
    · have r1 : othB A B P = false := by simp [othB, h1, h2]
      have r2 : othL A B P = 0 := by simp [othL, r1]
      rw [r1, r2]
      clear r1 r2
      subst h1; subst h2
      go_enter Try.func57, Try.ntmps57
      go_wp2
      go_ret2
      exact ⟨rfl, below_alloc _ _⟩
    · have r1 : othB A B P = true := by simp [othB, h1, h2]
      have r2 : othL A B P = B := by rw [othL, r1, if_pos rfl, if_pos h1]
      rw [r1, r2]
      clear r1 r2
      subst h1
      have h3 : (B == A) = false := by simpa using h2
      go_enter Try.func57, Try.ntmps57
      go_wp2
      go_ret2
      exact ⟨rfl, below_alloc _ _⟩
  · have h3 : (A == P) = false := by simpa using h1
    by_cases h2 : B = P
    · have r1 : othB A B P = true := by simp [othB, h1, h2]
      have r2 : othL A B P = A := by rw [othL, r1, if_pos rfl, if_neg h1]
      rw [r1, r2]
      clear r1 r2
      subst h2
      go_enter Try.func57, Try.ntmps57
      go_wp2
      go_ret2
      exact ⟨rfl, below_alloc _ _⟩
    · have r1 : othB A B P = false := by simp [othB, h1, h2]
      have r2 : othL A B P = 0 := by simp [othL, r1]
      rw [r1, r2]
      clear r1 r2
      have h4 : (B == P) = false := by simpa using h2
      go_enter Try.func57, Try.ntmps57
      go_wp2
      go_ret2
      exact ⟨rfl, below_alloc _ _⟩
end Go.Proofs.Ytppbcehcaeeocaa
