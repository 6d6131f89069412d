/- Layer 17: what every act keeps, at the statements' numbers; the gate's way. -/
import Derived.Test.YtnkpmjkbkdnfjaaRrPlay
namespace Go.Proofs.Ytnkpmjkbkdnfjaa
open Go.RowKit

/-- After k acts, at the tick N. -/
structure Pn.Inv (s : Pn) (H : Int) (k : Nat) (N : Int) : Prop where
  hold : s.hold = H
  l0 : 0 ≤ s.last
  l1 : s.last ≤ N
  few : s.ns.length ≤ 2 * k
  nums : ∀ j ∈ s.ns, 1 ≤ j ∧ j ≤ 2 * k
  way0 : s.ph = 1 → s.wy = ⟨0, 0, 0, 0⟩
theorem Pn.Inv.fresh (H : Int) : (Pn.fresh H).Inv H 0 0 := ⟨rfl, Int.le_refl _, Int.le_refl _, Nat.le_refl _, fun j hj => (by cases hj), fun _ => rfl⟩
theorem Pn.Inv.act {s : Pn} {H N N' q : Int} {k : Nat} {y : Wy} (h : s.Inv H k N) (h0 : 0 ≤ N) (h1 : N ≤ N') : (s.act q y N' (2 * k + 1)).2.2.Inv H (k + 1) N' ∧ (∀ j ∈ (s.act q y N' (2 * k + 1)).1, 1 ≤ j ∧ j ≤ 2 * k) ∧ (s.act q y N' (2 * k + 1)).1.length ≤ 2 * k ∧ ((s.act q y N' (2 * k + 1)).2.1 = 0 ∨ (s.act q y N' (2 * k + 1)).2.1 = 6) := by
  obtain ⟨a1, a2, a3, a4, a5, a6⟩ := h
  have nil : ∀ j ∈ ([] : List Nat), 1 ≤ j ∧ j ≤ 2 * k := fun j hj => by cases hj
  have keep : s.Inv H (k + 1) N' := ⟨a1, a2, by omega, by omega, fun j hj => (by have := a5 j hj; omega), a6⟩
  unfold Pn.act
  by_cases q3 : q < 3
  · rw [if_pos q3]
    refine ⟨⟨a1, a2, by show s.last ≤ N'; omega, ?_, fun j hj => ?_, a6⟩, nil, Nat.zero_le _, .inl rfl⟩
    · show (s.ns ++ [2 * k + 1]).length ≤ 2 * (k + 1)
      rw [List.length_append, List.length_singleton]; omega
    · rcases List.mem_append.1 (show j ∈ s.ns ++ [2 * k + 1] from hj) with hm | hm
      · have := a5 j hm; omega
      · have := List.mem_singleton.1 hm; omega
  rw [if_neg q3]
  by_cases q5 : q < 5
  · rw [if_pos q5]
    by_cases hc : s.ns ≠ [] ∧ s.free N' y
    · rw [if_pos hc]
      exact ⟨⟨a1, by show 0 ≤ N'; omega, Int.le_refl _, Nat.zero_le _, fun j hj => (by cases hj), fun hp => (by cases hp)⟩, a5, a4, .inl rfl⟩
    · rw [if_neg hc]
      exact ⟨keep, nil, Nat.zero_le _, .inl rfl⟩
  rw [if_neg q5]
  by_cases q6 : q = 5
  · rw [if_pos q6]
    by_cases hc : s.ph = 1 ∨ s.ph = 3
    · rw [if_pos hc]
      exact ⟨keep, nil, Nat.zero_le _, .inr rfl⟩
    · rw [if_neg hc]
      exact ⟨⟨a1, a2, by show s.last ≤ N'; omega, by show s.ns.length ≤ 2 * (k + 1); omega, fun j hj => (by have := a5 j hj; omega), fun hp => (by cases hp)⟩, nil, Nat.zero_le _, .inl rfl⟩
  rw [if_neg q6]
  by_cases q7 : q = 6
  · rw [if_pos q7]
    by_cases hc : s.ph = 3
    · rw [if_pos hc]
      refine ⟨⟨a1, a2, by show s.last ≤ N'; omega, ?_, fun j hj => ?_, fun hp => (by cases hp)⟩, nil, Nat.zero_le _, .inl rfl⟩
      · show ([2 * k + 1, 2 * k + 1 + 1] ++ s.ns).length ≤ 2 * (k + 1)
        rw [List.length_append]
        show 2 + s.ns.length ≤ 2 * (k + 1)
        omega
      · rcases List.mem_append.1 (show j ∈ [2 * k + 1, 2 * k + 1 + 1] ++ s.ns from hj) with hm | hm
        · simp only [List.mem_cons, List.not_mem_nil, or_false] at hm
          omega
        · have := a5 j hm; omega
    · rw [if_neg hc]
      exact ⟨keep, nil, Nat.zero_le _, .inr rfl⟩
  rw [if_neg q7]
  exact ⟨⟨a1, a2, by show s.last ≤ N'; omega, Nat.zero_le _, fun j hj => (by cases hj), a6⟩, a5, a4, .inl rfl⟩
theorem wayG (w0 w : World) (b : Nat) (x : Gt) (s : Pn) (h : GN w0 w b x s) (h0 : s.ph = 1 → s.wy = ⟨0, 0, 0, 0⟩) :
    Calls Try.prog 13 #[.pointer (some ⟨b, 0, none⟩)] w fun e w' => e = .returned (.tuple #[.agg #[.int .u16 s.wy.nx, .int .u16 s.wy.la, .int .u16 s.wy.lb, .int .u8 s.wy.lc], .bool (decide (s.ph ≠ 1))]) ∧ Below w.heap.size w w' := by
  have hw := way_any b x w h.here
  have e : wyV x = .agg #[.int .u16 s.wy.nx, .int .u16 s.wy.la, .int .u16 s.wy.lb, .int .u8 s.wy.lc] := by
    unfold wyV
    rw [h.is.ph, h.is.wy]
    by_cases hp : s.ph = 1
    · rw [if_pos hp, h0 hp]
    · rw [if_neg hp]
  rw [e, h.is.ph] at hw
  exact hw
end Go.Proofs.Ytnkpmjkbkdnfjaa
