import Derived.Test.YthlckipcgogogaaGreatDoorPlN
/- Distances that are lowered until nothing changes: mathematics. -/
namespace Go.Proofs.YthlckipcgogogaaGreatDoor
set_option linter.unusedVariables false

/-- What holds while distances are lowered. -/
structure Rx (P : List (Int × Bool)) (L : List Ln) (t : Int) (l : List Int) : Prop where
  len : l.length = P.length
  zero : ∀ i, i < P.length → pc P i = t → l.getD i 0 = 0
  pos : ∀ i, i < P.length → pc P i ≠ t → 0 < l.getD i 0
  top : ∀ i, i < P.length → l.getD i 0 ≤ 99
  att : ∀ i, i < P.length → l.getD i 0 < 99 → pc P i ≠ t → ∃ k, k < P.length ∧ stepB P L t i k = true ∧ l.getD k 0 + 1 ≤ l.getD i 0
def LowAt (P : List (Int × Bool)) (L : List Ln) (t : Int) (l : List Int) (i k : Nat) : Prop := stepB P L t i k = true → l.getD i 0 ≤ l.getD k 0 + 1
theorem Rx.nonneg {P : List (Int × Bool)} {L : List Ln} {t : Int} {l : List Int} (h : Rx P L t l) {i : Nat} (hi : i < P.length) : 0 ≤ l.getD i 0 := by
  by_cases e : pc P i = t
  · rw [h.zero i hi e]; decide
  · have := h.pos i hi e; omega
theorem Rx.dist {P : List (Int × Bool)} {L : List Ln} {t : Int} {l : List Int} (h : Rx P L t l) (hl : ∀ i k, i < P.length → k < P.length → LowAt P L t l i k) : Dist P L t (fun i => l.getD i 0) := by
  refine ⟨h.zero, h.pos, fun i k hi hk hs => hl i k hi hk hs, fun i hi hd hne => ?_, h.top⟩
  obtain ⟨k, hk, hs, h1⟩ := h.att i hi hd hne
  have h2 := hl i k hi hk hs
  exact ⟨k, hk, hs, by show l.getD i 0 = l.getD k 0 + 1; omega⟩
theorem getD_set_eq {l : List Int} {i : Nat} (x : Int) (h : i < l.length) : (l.set i x).getD i 0 = x := by
  simp [List.getD_eq_getElem?_getD, h]
theorem getD_set_ne {l : List Int} {i j : Nat} (x : Int) (h : i ≠ j) : (l.set i x).getD j 0 = l.getD j 0 := by
  simp [List.getD_eq_getElem?_getD, List.getElem?_set_ne h]
theorem Rx.set {P : List (Int × Bool)} {L : List Ln} {t : Int} {l : List Int} (h : Rx P L t l) {i k : Nat} (hi : i < P.length) (hk : k < P.length) (hs : stepB P L t i k = true) (hlt : l.getD k 0 + 1 < l.getD i 0) : Rx P L t (l.set i (l.getD k 0 + 1)) := by
  have hki := h.nonneg hk
  have hil : i < l.length := by rw [h.len]; exact hi
  have hit : pc P i ≠ t := fun e => by have := h.zero i hi e; omega
  have hne : i ≠ k := fun e => by subst e; omega
  refine ⟨by rw [List.length_set]; exact h.len, fun j hj e => ?_, fun j hj e => ?_, fun j hj => ?_, fun j hj hd e => ?_⟩
  · by_cases q : i = j
    · subst q; exact absurd e hit
    · rw [getD_set_ne _ q]; exact h.zero j hj e
  · by_cases q : i = j
    · subst q; rw [getD_set_eq _ hil]; omega
    · rw [getD_set_ne _ q]; exact h.pos j hj e
  · by_cases q : i = j
    · subst q; rw [getD_set_eq _ hil]; have := h.top i hi; omega
    · rw [getD_set_ne _ q]; exact h.top j hj
  · by_cases q : i = j
    · subst q
      exact ⟨k, hk, hs, by rw [getD_set_eq _ hil, getD_set_ne _ hne]; omega⟩
    · rw [getD_set_ne _ q] at hd ⊢
      obtain ⟨m, hm, hms, hml⟩ := h.att j hj hd e
      refine ⟨m, hm, hms, ?_⟩
      by_cases r : i = m
      · subst r; rw [getD_set_eq _ hil]; omega
      · rw [getD_set_ne _ r]; exact hml
/-- How far the distances may still be lowered. -/
def msr (l : List Int) : Nat := (l.map Int.toNat).sum
theorem msr_set : ∀ (l : List Int) (i : Nat) (x : Int), i < l.length → 0 ≤ x → x < l.getD i 0 → msr (l.set i x) < msr l
  | [], _, _, h, _, _ => absurd h (Nat.not_lt_zero _)
  | y :: l, 0, x, _, h0, h1 => by
    simp only [List.getD_cons_zero] at h1
    simp only [msr, List.set_cons_zero, List.map_cons, List.sum_cons]; omega
  | y :: l, i + 1, x, h, h0, h1 => by
    have := msr_set l i x (by simpa using h) h0 (by simpa using h1)
    simp only [msr, List.set_cons_succ, List.map_cons, List.sum_cons] at *; omega
/-- A pass that began with l0 stands before the pair (i, k), with l; c: something has changed. -/
structure Pass (P : List (Int × Bool)) (L : List Ln) (t : Int) (l0 : List Int) (i k : Nat) (c : Bool) (l : List Int) : Prop where
  rx : Rx P L t l
  le : msr l ≤ msr l0
  yes : c = true → msr l < msr l0
  no : c = false → l = l0 ∧ (∀ i', i' < i → ∀ k', k' < P.length → LowAt P L t l0 i' k') ∧ (∀ k', k' < k → LowAt P L t l0 i k')
theorem Pass.start {P : List (Int × Bool)} {L : List Ln} {t : Int} {l0 : List Int} (h : Rx P L t l0) : Pass P L t l0 0 0 false l0 :=
  ⟨h, Nat.le_refl _, by simp, fun _ => ⟨rfl, fun _ h => absurd h (Nat.not_lt_zero _), fun _ h => absurd h (Nat.not_lt_zero _)⟩⟩
theorem Pass.row {P : List (Int × Bool)} {L : List Ln} {t : Int} {l0 : List Int} {i : Nat} {c : Bool} {l : List Int} (h : Pass P L t l0 i P.length c l) : Pass P L t l0 (i + 1) 0 c l :=
  ⟨h.rx, h.le, h.yes, fun hc => ⟨(h.no hc).1, fun i' hi' k' hk' => by
    by_cases e : i' = i
    · subst e; exact (h.no hc).2.2 k' hk'
    · exact (h.no hc).2.1 i' (by omega) k' hk', fun _ h => absurd h (Nat.not_lt_zero _)⟩⟩
theorem Pass.keep {P : List (Int × Bool)} {L : List Ln} {t : Int} {l0 : List Int} {i k : Nat} {c : Bool} {l : List Int} (h : Pass P L t l0 i k c l) (hl : LowAt P L t l i k) : Pass P L t l0 i (k + 1) c l :=
  ⟨h.rx, h.le, h.yes, fun hc => ⟨(h.no hc).1, (h.no hc).2.1, fun k' hk' => by
    by_cases e : k' = k
    · rw [e, ← (h.no hc).1]; exact hl
    · exact (h.no hc).2.2 k' (by omega)⟩⟩
theorem Pass.put {P : List (Int × Bool)} {L : List Ln} {t : Int} {l0 : List Int} {i k : Nat} {c : Bool} {l : List Int} (h : Pass P L t l0 i k c l) (hi : i < P.length) (hk : k < P.length) (hs : stepB P L t i k = true) (hlt : l.getD k 0 + 1 < l.getD i 0) : Pass P L t l0 i (k + 1) true (l.set i (l.getD k 0 + 1)) := by
  have hm := msr_set l i (l.getD k 0 + 1) (by rw [h.rx.len]; exact hi) (by have := h.rx.nonneg hk; omega) hlt
  have := h.le
  exact ⟨h.rx.set hi hk hs hlt, by omega, fun _ => by omega, fun e => by cases e⟩
theorem Pass.low {P : List (Int × Bool)} {L : List Ln} {t : Int} {l0 : List Int} {l : List Int} (h : Pass P L t l0 P.length 0 false l) : ∀ i k, i < P.length → k < P.length → LowAt P L t l i k := by
  obtain ⟨e, h1, _⟩ := h.no rfl
  intro i k hi hk
  rw [e]; exact h1 i hi k hk
/-- The first distances. -/
def startL (P : List (Int × Bool)) (t : Int) : List Int := P.map fun x => if x.1 = t then 0 else 99
theorem startL_getD {P : List (Int × Bool)} {t : Int} {i : Nat} (hi : i < P.length) : (startL P t).getD i 0 = if pc P i = t then 0 else 99 := by
  simp [startL, pc, List.getD_eq_getElem?_getD, hi]
theorem startL_rx (P : List (Int × Bool)) (L : List Ln) (t : Int) : Rx P L t (startL P t) := by
  refine ⟨by simp [startL], fun i hi e => ?_, fun i hi e => ?_, fun i hi => ?_, fun i hi hd e => ?_⟩
  · rw [startL_getD hi, if_pos e]
  · rw [startL_getD hi, if_neg e]; decide
  · rw [startL_getD hi]; split <;> decide
  · rw [startL_getD hi, if_neg e] at hd; omega
end Go.Proofs.YthlckipcgogogaaGreatDoor
