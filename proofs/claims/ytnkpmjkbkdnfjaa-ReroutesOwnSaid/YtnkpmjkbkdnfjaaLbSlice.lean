/- b[k:], whatever address b has: one equation of the run with letters, and its reading. -/
import Derived.Test.YtnkpmjkbkdnfjaaFrCut
namespace Go.Proofs.Ytnkpmjkbkdnfjaa
open Go.RowKit

theorem cut_low (a : Option Addr) (n c k : Nat) (hk : k ≤ n) (hle : n ≤ c) :
    ∃ A : Option Addr, (∀ W, (Instr.slice 52 (.slice a n c) (some (.int .i64 (k : Int))) none none).run Try.prog W = .ok (.slice A (n - k) (c - k)) W) ∧
      (∀ W, (Instr.sliceAt 52 (.slice a n c) (some (.int .i64 (k : Int))) none none).run Try.prog W = .ok (.slice A (n - k) (c - k)) W) ∧
      (k < n → ∀ b o, a = some ⟨b, o, none⟩ → A = some ⟨b, o + k, none⟩) ∧
      (∀ W l, Row .u8 W a n c l → Row .u8 W A (n - k) (c - k) (l.drop k)) := by
  have key : ∀ W, (Instr.slice 52 (.slice a n c) (some (.int .i64 (k : Int))) none none).run Try.prog W = .ok (.slice (if c = k then a else a.map (·.add (k * 1))) (n - k) (c - k)) W := by
    intro W
    rw [run_slice_l W 52 a n c und8 .i64 (k : Int) (by omega) (by omega), elem8, size8_run]
    simp [sliced, Result.andThen]
  have hA : k < n → ∀ b o, a = some ⟨b, o, none⟩ → (if c = k then a else a.map (·.add (k * 1))) = some ⟨b, o + k, none⟩ := by
    intro hlt b o ha
    rw [if_neg (by omega), ha]
    simp [Addr.add]
  refine ⟨_, key, fun W => by rw [run_sliceAt_slice _ _ _ _ _ _ und8]; exact key W, hA, fun W l h => ?_⟩
  refine h.cut k hk _ hA ?_
  intro hN
  by_cases hc : c = k
  · exact hc
  · rw [if_neg hc] at hN
    have ha : a = none := by cases a <;> simp at hN ⊢
    have := h.isNil ha
    omega
end Go.Proofs.Ytnkpmjkbkdnfjaa
