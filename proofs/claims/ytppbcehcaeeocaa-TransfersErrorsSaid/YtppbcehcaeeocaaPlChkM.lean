/- The error of a plan, step by step: mathematics. -/
import Derived.Test.YtppbcehcaeeocaaPlWay
namespace Go.Proofs.Ytppbcehcaeeocaa

theorem chk_big {p : Pn} (h : 64 < p.P.length ∨ 1024 < p.L.length) : 3 = chkPl p := by unfold chkPl; rw [if_pos h]
theorem chk_empty {p : Pn} (h : ¬ (64 < p.P.length ∨ 1024 < p.L.length)) (h0 : p.P.length = 0) : 1 = chkPl p := by unfold chkPl; rw [if_neg h, if_pos h0]
/-- Not too many places and lines, and a place. -/
structure Fits (p : Pn) : Prop where
  big : ¬ (64 < p.P.length ∨ 1024 < p.L.length)
  some : ¬ p.P.length = 0
theorem chk_place {p : Pn} (h : Fits p) {i : Nat} (hi : i < p.P.length) (hf : okPl p.P i = false) : 1 = chkPl p := by
  unfold chkPl
  rw [if_neg h.big, if_neg h.some, all_range_no hi hf, if_neg Bool.false_ne_true]
theorem chk_line {p : Pn} (h : Fits p) (hp : ∀ i, i < p.P.length → okPl p.P i = true) {i : Nat} (hi : i < p.L.length) (hf : okLn p.L i = false) : 1 = chkPl p := by
  unfold chkPl
  rw [if_neg h.big, if_neg h.some, if_pos (all_range.2 hp), all_range_no hi hf, if_neg Bool.false_ne_true]
theorem chk_end {p : Pn} (h : Fits p) (hp : ∀ i, i < p.P.length → okPl p.P i = true) (hl : ∀ i, i < p.L.length → okLn p.L i = true) {i : Nat} (hi : i < p.L.length) (hf : okEnd p.P p.L i = false) : 7 = chkPl p := by
  unfold chkPl
  rw [if_neg h.big, if_neg h.some, if_pos (all_range.2 hp), if_pos (all_range.2 hl), all_range_no hi hf, if_neg Bool.false_ne_true]
theorem chk_num {p : Pn} (h : Fits p) (hp : ∀ i, i < p.P.length → okPl p.P i = true) (hl : ∀ i, i < p.L.length → okLn p.L i = true) (he : ∀ i, i < p.L.length → okEnd p.P p.L i = true) : (if okNum p then 0 else 1) = chkPl p := by
  unfold chkPl
  rw [if_neg h.big, if_neg h.some, if_pos (all_range.2 hp), if_pos (all_range.2 hl), if_pos (all_range.2 he)]
theorem upto_succ {f : Nat → Bool} {k : Nat} (h : ∀ i, i < k → f i = true) (hk : f k = true) : ∀ i, i < k + 1 → f i = true := fun i hi => by
  by_cases e : i = k
  · rw [e]; exact hk
  · exact h i (by omega)
theorem okPl_big {P : List (Int × Bool)} {k : Nat} {x : Int} (h : x = pc P k) (hx : 16383 < x) : okPl P k = false := by
  unfold okPl; rw [← h, decide_eq_false (by omega), Bool.false_and]
theorem okPl_first {P : List (Int × Bool)} {k : Nat} {x : Int} (h : x = pc P k) (hx : ¬ 16383 < x) (h0 : k = 0) : okPl P k = true := by
  unfold okPl; rw [← h, decide_eq_true (show x ≤ 16383 by omega), decide_eq_true h0]; rfl
theorem okPl_next {P : List (Int × Bool)} {k m : Nat} {x y : Int} (h : x = pc P k) (hx : ¬ 16383 < x) (hm : m = k - 1) (g : y = pc P m) (hy : y < x) : okPl P k = true := by
  unfold okPl; rw [← h, ← hm, ← g, decide_eq_true (show x ≤ 16383 by omega), decide_eq_true hy, Bool.or_true]; rfl
theorem okPl_not {P : List (Int × Bool)} {k m : Nat} {x y : Int} (h : x = pc P k) (hm : m = k - 1) (g : y = pc P m) (h0 : ¬ k = 0) (hy : ¬ y < x) : okPl P k = false := by
  unfold okPl; rw [← h, ← hm, ← g, decide_eq_false h0, decide_eq_false hy, Bool.or_self, Bool.and_false]
theorem okLn_bad {L : List Ln} {k : Nat} {A B C D : Int} (h : ⟨A, B, C, D⟩ = lnAt L k) (hb : ¬ (A < B ∧ C ≤ 15 ∧ 1 ≤ D ∧ D ≤ 64)) : okLn L k = false := by
  cases e : okLn L k
  · rfl
  · unfold okLn at e
    rw [← h] at e
    simp only [Bool.and_eq_true, decide_eq_true_eq] at e
    exact absurd ⟨e.1.1.1.1, e.1.1.1.2, e.1.1.2, e.1.2⟩ hb
theorem okLn_first {L : List Ln} {k : Nat} {A B C D : Int} (h : ⟨A, B, C, D⟩ = lnAt L k) (h1 : A < B) (h2 : C ≤ 15) (h3 : 1 ≤ D) (h4 : D ≤ 64) (h0 : k = 0) : okLn L k = true := by
  unfold okLn
  rw [← h]
  simp only [Bool.and_eq_true, Bool.or_eq_true, decide_eq_true_eq]
  exact ⟨⟨⟨⟨h1, h2⟩, h3⟩, h4⟩, .inl h0⟩
theorem okLn_next {L : List Ln} {k m : Nat} {A B C D A2 B2 C2 D2 : Int} (h : ⟨A, B, C, D⟩ = lnAt L k) (h1 : A < B) (h2 : C ≤ 15) (h3 : 1 ≤ D) (h4 : D ≤ 64) (hm : m = k - 1) (g : ⟨A2, B2, C2, D2⟩ = lnAt L m) (hl : A2 < A ∨ A2 = A ∧ (B2 < B ∨ B2 = B ∧ C2 < C)) : okLn L k = true := by
  unfold okLn
  rw [← hm, ← h, ← g]
  simp only [Bool.and_eq_true, Bool.or_eq_true, decide_eq_true_eq]
  exact ⟨⟨⟨⟨h1, h2⟩, h3⟩, h4⟩, .inr (lt3B_iff.2 hl)⟩
theorem okLn_not {L : List Ln} {k m : Nat} {A B C D A2 B2 C2 D2 : Int} (h : ⟨A, B, C, D⟩ = lnAt L k) (hm : m = k - 1) (g : ⟨A2, B2, C2, D2⟩ = lnAt L m) (h0 : ¬ k = 0) (hl : ¬ (A2 < A ∨ A2 = A ∧ (B2 < B ∨ B2 = B ∧ C2 < C))) : okLn L k = false := by
  cases e : okLn L k
  · rfl
  · unfold okLn at e
    rw [← hm, ← h, ← g] at e
    simp only [Bool.and_eq_true, Bool.or_eq_true, decide_eq_true_eq] at e
    rcases e.2 with e | e
    · exact absurd e h0
    · exact absurd (lt3B_iff.1 e) hl
theorem idx_neg {P : List (Int × Bool)} {c : Int} : idxI P c < 0 ↔ fnd P c = none := by
  unfold idxI
  cases fnd P c <;> simp <;> omega
theorem okEnd_a {P : List (Int × Bool)} {L : List Ln} {k : Nat} {A B C D : Int} (h : ⟨A, B, C, D⟩ = lnAt L k) (ha : idxI P A < 0) : okEnd P L k = false := by
  unfold okEnd; rw [← h, idx_neg.1 ha]; rfl
theorem okEnd_b {P : List (Int × Bool)} {L : List Ln} {k : Nat} {A B C D : Int} (h : ⟨A, B, C, D⟩ = lnAt L k) (ha : idxI P B < 0) : okEnd P L k = false := by
  unfold okEnd; rw [← h, idx_neg.1 ha]; exact Bool.and_false _
theorem okEnd_t {P : List (Int × Bool)} {L : List Ln} {k : Nat} {A B C D : Int} (h : ⟨A, B, C, D⟩ = lnAt L k) (ha : ¬ idxI P A < 0) (hb : ¬ idxI P B < 0) : okEnd P L k = true := by
  unfold okEnd
  rw [← h]
  rw [idx_neg, Option.eq_none_iff_forall_ne_some] at ha hb
  have e1 : (fnd P A).isSome = true := by cases e : fnd P A; · exact absurd (idx_neg.2 e) (by rw [idx_neg, Option.eq_none_iff_forall_ne_some]; exact ha)
                                          · rfl
  have e2 : (fnd P B).isSome = true := by cases e : fnd P B; · exact absurd (idx_neg.2 e) (by rw [idx_neg, Option.eq_none_iff_forall_ne_some]; exact hb)
                                          · rfl
  simp only [e1, e2, Bool.and_self]
theorem num_bad {p : Pn} (h : Fits p) (hp : ∀ i, i < p.P.length → okPl p.P i = true) (hl : ∀ i, i < p.L.length → okLn p.L i = true) (he : ∀ i, i < p.L.length → okEnd p.P p.L i = true)
    (hb : ¬ (1 ≤ p.rate ∧ p.rate ≤ 16 ∧ 1 ≤ p.room ∧ p.room ≤ 64 ∧ 1 ≤ p.m0 ∧ p.m0 < p.m1 ∧ p.m1 < p.m2 ∧ p.m2 ≤ p.room)) : 1 = chkPl p := by
  rw [← chk_num h hp hl he, if_neg]
  intro e
  unfold okNum at e
  simp only [Bool.and_eq_true, decide_eq_true_eq] at e
  omega
theorem num_ok {p : Pn} (h : Fits p) (hp : ∀ i, i < p.P.length → okPl p.P i = true) (hl : ∀ i, i < p.L.length → okLn p.L i = true) (he : ∀ i, i < p.L.length → okEnd p.P p.L i = true)
    (hb : 1 ≤ p.rate ∧ p.rate ≤ 16 ∧ 1 ≤ p.room ∧ p.room ≤ 64 ∧ 1 ≤ p.m0 ∧ p.m0 < p.m1 ∧ p.m1 < p.m2 ∧ p.m2 ≤ p.room) : 0 = chkPl p := by
  rw [← chk_num h hp hl he, if_pos]
  unfold okNum
  simp only [Bool.and_eq_true, decide_eq_true_eq]
  omega
end Go.Proofs.Ytppbcehcaeeocaa
