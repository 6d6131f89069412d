/- Plans as plain data; distances as a relation with one solution; heights. -/
import Derived.Test.YtppbcehcaeeocaaMath
namespace Go.Proofs.Ytppbcehcaeeocaa

/-- A line: its ends, its code, its delay. -/
structure Ln where
  A : Int
  B : Int
  C : Int
  D : Int
  deriving DecidableEq
/-- A plan as plain data. -/
structure Pn where
  P : List (Int × Bool)
  L : List Ln
  rate : Int
  room : Int
  m0 : Int
  m1 : Int
  m2 : Int
  deriving DecidableEq
def Ln.zero : Ln := ⟨0, 0, 0, 0⟩
def pc (P : List (Int × Bool)) (i : Nat) : Int := (P.getD i (0, false)).1
def pt (P : List (Int × Bool)) (i : Nat) : Bool := (P.getD i (0, false)).2
def lnAt (L : List Ln) (i : Nat) : Ln := L.getD i Ln.zero
/-- A line joins two codes. -/
def joins (l : Ln) (a b : Int) : Bool := decide (l.A = a) && decide (l.B = b) || decide (l.A = b) && decide (l.B = a)
theorem joins_comm (l : Ln) (a b : Int) : joins l a b = joins l b a := by unfold joins; exact Bool.or_comm _ _
/-- The number of lines between two codes. -/
def nearN (L : List Ln) (a b : Int) : Nat := L.countP (fun l => joins l a b)
theorem nearN_comm (L : List Ln) (a b : Int) : nearN L a b = nearN L b a := by
  unfold nearN; congr 1; funext l; exact joins_comm l a b
theorem nearN_take (L : List Ln) (a b : Int) (k : Nat) (hk : k < L.length) : nearN (L.take (k + 1)) a b = nearN (L.take k) a b + (if joins (lnAt L k) a b then 1 else 0) := by
  unfold nearN lnAt
  rw [List.take_succ_eq_append_getElem hk, List.countP_append]
  simp [List.getD_eq_getElem?_getD, hk, List.countP_cons]
theorem nearN_le (L : List Ln) (a b : Int) : nearN L a b ≤ L.length := List.countP_le_length
/-- The first place with a code. -/
def fnd (P : List (Int × Bool)) (c : Int) : Option Nat := P.findIdx? (fun x => x.1 == c)
def idxI (P : List (Int × Bool)) (c : Int) : Int := match fnd P c with | some i => i | none => -1
theorem fnd_some {P : List (Int × Bool)} {c : Int} {k : Nat} (hk : k < P.length) (h : pc P k = c) (hb : ∀ j, j < k → pc P j ≠ c) : fnd P c = some k := by
  unfold fnd
  rw [List.findIdx?_eq_some_iff_getElem]
  refine ⟨hk, ?_, fun j hj => ?_⟩
  · simpa [pc, List.getD_eq_getElem?_getD, hk] using h
  · have := hb j hj
    simpa [pc, List.getD_eq_getElem?_getD, show j < P.length by omega] using this
theorem fnd_none {P : List (Int × Bool)} {c : Int} (hb : ∀ j, j < P.length → pc P j ≠ c) : fnd P c = none := by
  unfold fnd
  rw [List.findIdx?_eq_none_iff]
  intro x hx
  obtain ⟨j, hj, rfl⟩ := List.getElem_of_mem hx
  have := hb j hj
  simpa [pc, List.getD_eq_getElem?_getD, hj] using this
theorem fnd_some_iff {P : List (Int × Bool)} {c : Int} {k : Nat} : fnd P c = some k ↔ k < P.length ∧ pc P k = c ∧ ∀ j, j < k → pc P j ≠ c := by
  constructor
  · intro h
    unfold fnd at h
    rw [List.findIdx?_eq_some_iff_getElem] at h
    obtain ⟨hk, h1, h2⟩ := h
    refine ⟨hk, by simpa [pc, List.getD_eq_getElem?_getD, hk] using h1, fun j hj => ?_⟩
    have := h2 j hj
    simpa [pc, List.getD_eq_getElem?_getD, show j < P.length by omega] using this
  · rintro ⟨h1, h2, h3⟩; exact fnd_some h1 h2 h3
/-- Strictly ascending codes. -/
def Asc (P : List (Int × Bool)) : Prop := ∀ i j, i < j → j < P.length → pc P i < pc P j
theorem Asc.fnd {P : List (Int × Bool)} (h : Asc P) {k : Nat} (hk : k < P.length) : fnd P (pc P k) = some k :=
  fnd_some hk rfl fun j hj => by have := h j k hj hk; omega
theorem Asc.inj {P : List (Int × Bool)} (h : Asc P) {i j : Nat} (hi : i < P.length) (hj : j < P.length) (e : pc P i = pc P j) : i = j := by
  rcases Nat.lt_trichotomy i j with h1 | h1 | h1
  · have := h i j h1 hj; omega
  · exact h1
  · have := h j i h1 hi; omega
/-- From place i one may step to place k on a way to code t. -/
def stepB (P : List (Int × Bool)) (L : List Ln) (t : Int) (i k : Nat) : Bool := decide (0 < nearN L (pc P i) (pc P k)) && (pt P k || decide (pc P k = t))
/-- D holds the distances from t; 99: no way. -/
structure Dist (P : List (Int × Bool)) (L : List Ln) (t : Int) (D : Nat → Int) : Prop where
  zero : ∀ i, i < P.length → pc P i = t → D i = 0
  pos : ∀ i, i < P.length → pc P i ≠ t → 0 < D i
  low : ∀ i k, i < P.length → k < P.length → stepB P L t i k = true → D i ≤ D k + 1
  att : ∀ i, i < P.length → D i < 99 → pc P i ≠ t → ∃ k, k < P.length ∧ stepB P L t i k = true ∧ D i = D k + 1
  top : ∀ i, i < P.length → D i ≤ 99
theorem Dist.nonneg {P : List (Int × Bool)} {L : List Ln} {t : Int} {D : Nat → Int} (h : Dist P L t D) {i : Nat} (hi : i < P.length) : 0 ≤ D i := by
  by_cases e : pc P i = t
  · rw [h.zero i hi e]; decide
  · have := h.pos i hi e; omega
/-- What attains lies above whatever is low. -/
theorem Dist.le {P : List (Int × Bool)} {L : List Ln} {t : Int} {D E : Nat → Int} (h : Dist P L t D) (hz : ∀ i, i < P.length → pc P i = t → E i = 0)
    (hl : ∀ i k, i < P.length → k < P.length → stepB P L t i k = true → E i ≤ E k + 1) : ∀ n : Nat, ∀ i, i < P.length → D i = n → n < 99 → E i ≤ n := by
  intro n
  induction n with
  | zero =>
    intro i hi hd _
    by_cases e : pc P i = t
    · rw [hz i hi e]; decide
    · have := h.pos i hi e; omega
  | succ n ih =>
    intro i hi hd hn
    have e : pc P i ≠ t := fun e => by have := h.zero i hi e; omega
    obtain ⟨k, hk, hs, hD⟩ := h.att i hi (by omega) e
    have h1 := ih k hk (by omega) (by omega)
    have h2 := hl i k hi hk hs
    omega
theorem Dist.uniq {P : List (Int × Bool)} {L : List Ln} {t : Int} {D E : Nat → Int} (h : Dist P L t D) (g : Dist P L t E) {i : Nat} (hi : i < P.length) : D i = E i := by
  have h0 := h.nonneg hi
  have g0 := g.nonneg hi
  have h9 := h.top i hi
  have g9 := g.top i hi
  have a1 : D i < 99 → E i ≤ D i := fun hlt => by
    have := h.le g.zero g.low (D i).toNat i hi (by omega) (by omega); omega
  have a2 : E i < 99 → D i ≤ E i := fun hlt => by
    have := g.le h.zero h.low (E i).toNat i hi (by omega) (by omega); omega
  by_cases x : D i < 99 <;> by_cases y : E i < 99
  · have := a1 x; have := a2 y; omega
  · have := a1 x; omega
  · have := a2 y; omega
  · omega
/-- The place with index k has a smaller distance than i, or the same and a lower index. -/
def lowerB (D : Nat → Int) (k i : Nat) : Bool := decide (D k < D i) || decide (D k = D i) && decide (k < i)
/-- The height: how many places lie lower; only for a place with a way. -/
def htN (n : Nat) (D : Nat → Int) (i : Nat) : Nat := (List.range n).countP (fun k => lowerB D k i)
theorem lowerB_trans {D : Nat → Int} {a b c : Nat} (h : lowerB D a b = true) (g : lowerB D b c = true) : lowerB D a c = true := by
  simp only [lowerB, Bool.or_eq_true, Bool.and_eq_true, decide_eq_true_eq] at *; omega
theorem lowerB_irrefl {D : Nat → Int} {a : Nat} : lowerB D a a = false := by simp [lowerB]
theorem lowerB_total {D : Nat → Int} {a b : Nat} (h : a ≠ b) : lowerB D a b = true ∨ lowerB D b a = true := by
  simp only [lowerB, Bool.or_eq_true, Bool.and_eq_true, decide_eq_true_eq]; omega
theorem countP_lt {p q : Nat → Bool} : ∀ {l : List Nat}, (∀ x ∈ l, p x = true → q x = true) → (∃ x ∈ l, q x = true ∧ p x = false) → l.countP p < l.countP q
  | [], _, h => by obtain ⟨x, hx, _⟩ := h; simp at hx
  | y :: l, h, g => by
    have hle : l.countP p ≤ l.countP q := List.countP_mono_left fun x hx => h x (List.mem_cons_of_mem _ hx)
    obtain ⟨x, hx, h1, h2⟩ := g
    rcases List.mem_cons.1 hx with rfl | hx
    · simp only [List.countP_cons, h1, h2, Bool.false_eq_true, if_false, if_true]; omega
    · have := countP_lt (fun x hx => h x (List.mem_cons_of_mem _ hx)) ⟨x, hx, h1, h2⟩
      have hy := h y (List.mem_cons_self)
      simp only [List.countP_cons]
      cases hp : p y
      · simp only [Bool.false_eq_true, if_false]
        split <;> omega
      · simp only [hy hp, if_true]
        omega
theorem htN_lt {n : Nat} {D : Nat → Int} {a b : Nat} (ha : a < n) (h : lowerB D a b = true) : htN n D a < htN n D b := by
  refine countP_lt (fun x _ hx => lowerB_trans hx h) ⟨a, List.mem_range.2 ha, h, lowerB_irrefl⟩
theorem htN_lt_iff {n : Nat} {D : Nat → Int} {a b : Nat} (ha : a < n) (hb : b < n) : htN n D a < htN n D b ↔ lowerB D a b = true := by
  constructor
  · intro h
    by_cases e : a = b
    · subst e; omega
    · rcases lowerB_total (D := D) e with h1 | h1
      · exact h1
      · have := htN_lt hb h1; omega
  · exact htN_lt ha
theorem htN_le {n : Nat} {D : Nat → Int} {i : Nat} : htN n D i ≤ n := by
  have := List.countP_le_length (p := fun k => lowerB D k i) (l := List.range n); simpa [htN] using this
theorem htN_lt_n {n : Nat} {D : Nat → Int} {i : Nat} (hi : i < n) : htN n D i < n := by
  have : (List.range n).countP (fun k => lowerB D k i) < (List.range n).countP (fun _ => true) := countP_lt (fun _ _ _ => rfl) ⟨i, List.mem_range.2 hi, rfl, lowerB_irrefl⟩
  simpa [htN] using this
theorem htN_succ (n : Nat) (D : Nat → Int) (i : Nat) : htN (n + 1) D i = htN n D i + (if lowerB D n i then 1 else 0) := by
  simp [htN, List.range_succ, List.countP_append, List.countP_cons]
end Go.Proofs.Ytppbcehcaeeocaa
