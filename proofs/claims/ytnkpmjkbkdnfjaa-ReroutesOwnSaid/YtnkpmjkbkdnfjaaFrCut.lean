/- b[min(i, len(b)):], whatever address b has: one equation of the run, one reading. -/
import Derived.Test.YtnkpmjkbkdnfjaaBase
namespace Go.Proofs.Ytnkpmjkbkdnfjaa
open Go.RowKit

theorem elem8 : Try.prog.elem 52 = 5 := by kernel_rfl
theorem und8 : Try.prog.underlying 52 = some (.slice (Try.prog.elem 52)) := by rw [elem8]; exact Try.underlying52
theorem size8_run (w : World) : (sizeOf 5).run Try.prog w = .ok 1 w := by
  obtain ⟨i, hi, _, hs, _⟩ := info_parts info8
  simp [sizeOf, typeInfo, hi, hs]
theorem cut_min (a : Option Addr) (n c k : Nat) (b : List Int) (w0 : World) (h : Row .u8 w0 a n c b) :
    ∃ (mn : Nat) (A : Option Addr) (N C : Nat), (if n < k then (n : Int) else (k : Int)) = (mn : Int) ∧
      (∀ W, (Instr.slice 52 (.slice a n c) (some (.int .i64 (mn : Int))) none none).run Try.prog W = .ok (.slice A N C) W) ∧
      (∀ W, (Instr.sliceAt 52 (.slice a n c) (some (.int .i64 (mn : Int))) none none).run Try.prog W = .ok (.slice A N C) W) ∧
      (∀ W, Row .u8 W a n c b → Row .u8 W A N C (b.drop k)) := by
  have hle := h.le
  have hb := h.len
  have key : ∀ mn : Nat, mn ≤ n → ∀ W, (Instr.slice 52 (.slice a n c) (some (.int .i64 (mn : Int))) none none).run Try.prog W = .ok (.slice (if c = mn then a else a.map (·.add (mn * 1))) (n - mn) (c - mn)) W := by
    intro mn hmn W
    rw [run_slice_l W 52 a n c und8 .i64 (mn : Int) (by omega) (by omega), elem8, size8_run]
    simp [sliced, Result.andThen]
  have rowk : ∀ mn : Nat, mn ≤ n → ∀ W, Row .u8 W a n c b → Row .u8 W (if c = mn then a else a.map (·.add (mn * 1))) (n - mn) (c - mn) (b.drop mn) := by
    intro mn hmn W hW
    refine hW.cut mn hmn _ ?_ ?_
    · intro hlt bb o ha
      rw [if_neg (by omega), ha]
      simp [Addr.add]
    · intro hA
      by_cases hc : c = mn
      · exact hc
      · rw [if_neg hc] at hA
        have ha : a = none := by cases a <;> simp at hA ⊢
        have := h.isNil ha
        omega
  by_cases hk : n < k
  · have hd : b.drop k = b.drop n := by rw [List.drop_of_length_le (by omega), List.drop_of_length_le (by omega)]
    refine ⟨n, _, _, _, by rw [if_pos hk], key n (Nat.le_refl _), fun W => by rw [run_sliceAt_slice _ _ _ _ _ _ und8]; exact key n (Nat.le_refl _) W, fun W hW => ?_⟩
    rw [hd]; exact rowk n (Nat.le_refl _) W hW
  · refine ⟨k, _, _, _, by rw [if_neg hk], key k (by omega), fun W => by rw [run_sliceAt_slice _ _ _ _ _ _ und8]; exact key k (by omega) W, fun W hW => rowk k (by omega) W hW⟩
end Go.Proofs.Ytnkpmjkbkdnfjaa
