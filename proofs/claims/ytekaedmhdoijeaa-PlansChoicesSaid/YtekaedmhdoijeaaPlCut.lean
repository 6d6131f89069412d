/- Lines cut at a place: one equation of the run for each of the two halves. -/
import Derived.Test.YtekaedmhdoijeaaAggApp
namespace Go.Proofs.Ytekaedmhdoijeaa
open Go.RowKit

theorem elemLn : Try.prog.elem 23 = 68 := by kernel_rfl
theorem undLn : Try.prog.underlying 23 = some (.slice (Try.prog.elem 23)) := by rw [elemLn]; exact Try.underlying23
theorem sizeLn_run (w : World) : (sizeOf 68).run Try.prog w = .ok 4 w := by
  obtain ⟨i, hi, _, hs, _⟩ := info_parts infoLn
  simp [sizeOf, typeInfo, hi, hs]
theorem cut_back (a : Option Addr) (n c k : Nat) (hk : k ≤ n) (hle : n ≤ c) :
    ∃ A : Option Addr, (∀ W, (Instr.slice 23 (.slice a n c) (some (.int .i64 (k : Int))) none none).run Try.prog W = .ok (.slice A (n - k) (c - k)) W) ∧
      (∀ W, (Instr.sliceAt 23 (.slice a n c) (some (.int .i64 (k : Int))) none none).run Try.prog W = .ok (.slice A (n - k) (c - k)) W) ∧
      (∀ W L, LRow W a n c L → LRow W A (n - k) (c - k) (L.drop k)) := by
  have key : ∀ W, (Instr.slice 23 (.slice a n c) (some (.int .i64 (k : Int))) none none).run Try.prog W = .ok (.slice (if c = k then a else a.map (·.add (k * 4))) (n - k) (c - k)) W := by
    intro W
    rw [run_slice_l W 23 a n c undLn .i64 (k : Int) (by omega) (by omega), elemLn, sizeLn_run]
    simp [sliced, Result.andThen]
  refine ⟨_, key, fun W => by rw [run_sliceAt_slice _ _ _ _ _ _ undLn]; exact key W, fun W L h => ?_⟩
  obtain ⟨hl, hle', hmx, hw, hc, hnil⟩ := h
  by_cases e : c = k
  · rw [if_pos e]
    exact ⟨by rw [List.length_drop]; omega, by omega, by omega, fun x hx => hw x (List.mem_of_mem_drop hx), .inl (by omega), fun ha => by have := hnil ha; omega⟩
  · rw [if_neg e]
    rcases a with _ | ⟨b, o, s⟩
    · exact absurd (hnil rfl) (by omega)
    · have hs : s = none ∨ n = 0 := by
        rcases hc with h0 | ⟨b', o', ha, _⟩
        · exact .inr h0
        · cases ha; exact .inl rfl
      refine ⟨by rw [List.length_drop]; omega, by omega, by omega, fun x hx => hw x (List.mem_of_mem_drop hx), ?_, by simp⟩
      rcases hc with h0 | ⟨b', o', ha, hc⟩
      · exact .inl (by omega)
      · cases ha
        have hadd : (⟨b, o, none⟩ : Addr).add (k * 4) = ⟨b, o + k * 4, none⟩ := by unfold Addr.add; split <;> simp_all
        refine .inr ⟨b, o + k * 4, by simp [hadd], fun i hi => ?_⟩
        have := hc (k + i) (by omega)
        have e1 : lnAt (L.drop k) i = lnAt L (k + i) := by simp [lnAt, List.getD_eq_getElem?_getD]
        rw [e1, show o + k * 4 + i * 4 = o + (k + i) * 4 by omega]
        exact this
theorem cut_front (a : Option Addr) (n c k : Nat) (hk : k ≤ n) (hle : n ≤ c) :
    (∀ W, (Instr.slice 23 (.slice a n c) none (some (.int .i64 (k : Int))) none).run Try.prog W = .ok (.slice a k c) W) ∧
      (∀ W, (Instr.sliceAt 23 (.slice a n c) none (some (.int .i64 (k : Int))) none).run Try.prog W = .ok (.slice a k c) W) := by
  have key : ∀ W, (Instr.slice 23 (.slice a n c) none (some (.int .i64 (k : Int))) none).run Try.prog W = .ok (.slice a k c) W := by
    intro W
    rw [run_slice_h W 23 a n c undLn .i64 (k : Int) (by omega) (by omega), elemLn, sizeLn_run]
    simp [sliced, Result.andThen]
    intro _
    rcases a with _ | ⟨b, o, s⟩ <;> simp [Addr.add]
  exact ⟨key, fun W => by rw [run_sliceAt_slice _ _ _ _ _ _ undLn]; exact key W⟩
end Go.Proofs.Ytekaedmhdoijeaa
