/- Statements of layer 8: what First must say (mathematics). -/
import Derived.Test.YtblhfdkopnaobaaMoLevel
namespace Go.Proofs.Ytblhfdkopnaobaa

theorem lv_take (k a b c d : Nat) (l : List Bool) (i : Nat) (hi : i ≤ l.length) : lv k a b c d (l.take i) i = lv k a b c d l i := by
  rw [← run_lv k a b c d l i hi, ← run_lv k a b c d (l.take i) i (by rw [List.length_take]; omega), List.take_take, Nat.min_self]
/-- What the law's loop has found in (i, n]. -/
def Want (f : Nat → Nat) (A n i : Nat) (x : Int) : Prop :=
  (x = -1 ∧ ∀ j, i < j → j ≤ n → f j ≠ A) ∨ (∃ m : Nat, x = (m : Int) ∧ i < m ∧ m ≤ n ∧ f m = A ∧ ∀ j, i < j → j < m → f j ≠ A)
theorem Want.start (f : Nat → Nat) (A n : Nat) : Want f A n n (-1) := .inl ⟨rfl, fun j h1 h2 => by omega⟩
theorem Want.hit {f : Nat → Nat} {A n i : Nat} {x : Int} (_ : Want f A n (i + 1) x) (hi : i + 1 ≤ n) (h : f (i + 1) = A) : Want f A n i ((i + 1 : Nat) : Int) :=
  .inr ⟨i + 1, rfl, by omega, hi, h, fun j h1 h2 => by omega⟩
theorem Want.miss {f : Nat → Nat} {A n i : Nat} {x : Int} (w : Want f A n (i + 1) x) (h : f (i + 1) ≠ A) : Want f A n i x := by
  rcases w with ⟨rfl, h1⟩ | ⟨m, rfl, h1, h2, h3, h4⟩
  · refine .inl ⟨rfl, fun j a b => ?_⟩
    by_cases e : j = i + 1
    · rw [e]; exact h
    · exact h1 j (by omega) b
  · refine .inr ⟨m, rfl, by omega, h2, h3, fun j a b => ?_⟩
    by_cases e : j = i + 1
    · rw [e]; exact h
    · exact h4 j (by omega) b
theorem Want.first {k a b c d : Nat} {l : List Bool} {x : Int} (w : Want (lv k a b c d l) (1 + a % 40) l.length 0 x) : (moOf k a b c d).firstI l = x := by
  have hr := fun i hi => run_lv k a b c d l i hi
  have hl := moOf_lim k a b c d
  have h0 : lv k a b c d l 0 ≠ 1 + a % 40 := by show 0 ≠ _; omega
  unfold Mo.firstI
  rcases w with ⟨rfl, h1⟩ | ⟨m, rfl, h1, h2, h3, h4⟩
  · rw [(Mo.first_none_iff _ _).2 (fun i hi => by
      rw [hr i hi, hl]
      by_cases e : i = 0
      · rw [e]; exact h0
      · exact h1 i (by omega) hi)]
  · rw [Mo.first_eq_some (k := m) h2 (by rw [hr m h2, hl]; exact h3) (fun i hi => by
      rw [hr i (by omega), hl]
      by_cases e : i = 0
      · rw [e]; exact h0
      · exact h4 i (by omega) hi)]
theorem after_lvl (m : Mo) (l : List Bool) : (m.after l).lvl = (m.run l).lvl := by
  cases h : m.first l with
  | none => rw [Mo.after_none h]
  | some k =>
    obtain ⟨_, h1, _⟩ := Mo.first_some h
    rw [Mo.after_some h, h1]
    have h2 : m.run l = (m.run (l.take k)).run (l.drop k) := by rw [← Mo.run_append, List.take_append_drop]
    rw [h2, Mo.over_run (by rw [h1, Mo.run_lim]), Mo.run_lim]
theorem after_lv (k a b c d : Nat) (l : List Bool) : ((moOf k a b c d).after l).lvl = lv k a b c d l l.length := by
  rw [after_lvl, ← run_lv k a b c d l l.length (Nat.le_refl _), List.take_length]
theorem after_kd (m : Mo) (l : List Bool) : (m.after l).kd = m.kd := by
  cases h : m.first l with
  | none => rw [Mo.after_none h, Mo.run_kd]
  | some k => rw [Mo.after_some h, Mo.run_kd]
theorem after_over {m : Mo} {l : List Bool} (h : 0 ≤ m.firstI l) (k : List Bool) : (m.after l).firstI k = 0 := by
  unfold Mo.firstI at h
  cases hf : m.first l with
  | none => rw [hf] at h; exact absurd h (by decide)
  | some j =>
    obtain ⟨_, h1, _⟩ := Mo.first_some hf
    rw [Mo.after_some hf]
    unfold Mo.firstI
    have ho : (m.run (l.take j)).over = true := by unfold Mo.over; rw [h1, Mo.run_lim]; simp
    have : (m.run (l.take j)).first k = some 0 := by cases k <;> (unfold Mo.first; rw [ho]; rfl)
    rw [this]; rfl
end Go.Proofs.Ytblhfdkopnaobaa
