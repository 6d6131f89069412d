/- Joined: Math PlMath PlOf. -/

/- Plain mathematics: bits of integers, and lists of numbers. -/
namespace Go.Proofs.YthlckipcgogogaaGreatDoor
set_option linter.unusedVariables false

def bitOf (v : Int) (k : Nat) : Int := v / 2 ^ k % 2
def bitsOf (v : Int) (n : Nat) : List Int := (List.range n).map (bitOf v)
def ofL (l : List Int) : List Int := l.flatMap fun v => bitsOf v 8
def val (l : List Int) : Int := l.foldr (fun b acc => b + 2 * acc) 0
def octs (l : List Int) : List Int := (List.range (l.length / 8)).map fun i => val ((l.drop (8 * i)).take 8)
def isBits (l : List Int) : Bool := l.all fun x => decide (x ≤ 1)
def errOf (l : List Int) : Int := if 1048576 < l.length then 3 else if isBits l then 0 else 1
def lowBits (l : List Int) : List Int := l.map (· % 2)
theorem bitOf_range (v : Int) (k : Nat) : 0 ≤ bitOf v k ∧ bitOf v k ≤ 1 := by unfold bitOf; omega
theorem bitsOf_length (v : Int) (n : Nat) : (bitsOf v n).length = n := by simp [bitsOf]
theorem bitsOf_succ (v : Int) (n : Nat) : bitsOf v (n + 1) = bitsOf v n ++ [bitOf v n] := by simp [bitsOf, List.range_succ]
theorem bitsOf_mem {v : Int} {n : Nat} {x : Int} (h : x ∈ bitsOf v n) : 0 ≤ x ∧ x ≤ 1 := by
  simp only [bitsOf, List.mem_map, List.mem_range] at h
  obtain ⟨k, _, rfl⟩ := h
  exact bitOf_range v k
theorem ofL_nil : ofL [] = [] := rfl
theorem ofL_append (a b : List Int) : ofL (a ++ b) = ofL a ++ ofL b := by simp [ofL]
theorem ofL_snoc (a : List Int) (x : Int) : ofL (a ++ [x]) = ofL a ++ bitsOf x 8 := by simp [ofL]
theorem ofL_length (a : List Int) : (ofL a).length = 8 * a.length := by
  induction a with
  | nil => rfl
  | cons x a ih =>
    have : ofL (x :: a) = bitsOf x 8 ++ ofL a := by simp [ofL]
    rw [this, List.length_append, ih, bitsOf_length, List.length_cons]; omega
theorem ofL_mem {a : List Int} {x : Int} (h : x ∈ ofL a) : 0 ≤ x ∧ x ≤ 1 := by
  simp only [ofL, List.mem_flatMap] at h
  obtain ⟨v, _, h⟩ := h
  exact bitsOf_mem h
theorem isBits_iff (l : List Int) : isBits l = true ↔ ∀ x ∈ l, x ≤ 1 := by simp [isBits]
theorem isBits_false {l : List Int} {k : Nat} (hk : k < l.length) (h : 1 < l.getD k 0) : isBits l = false := by
  rw [Bool.eq_false_iff, Ne, isBits_iff]
  intro hh
  have := hh (l[k]) (List.getElem_mem hk)
  simp [List.getD_eq_getElem?_getD, hk] at h
  omega
theorem isBits_true {l : List Int} (h : ∀ j, j < l.length → l.getD j 0 ≤ 1) : isBits l = true := by
  rw [isBits_iff]
  intro x hx
  obtain ⟨j, hj, rfl⟩ := List.mem_iff_getElem.1 hx
  have := h j hj
  simpa [List.getD_eq_getElem?_getD, hj] using this
theorem val_nil : val [] = 0 := rfl
theorem val_cons (x : Int) (l : List Int) : val (x :: l) = x + 2 * val l := rfl
theorem val_bound (l : List Int) (h : ∀ x ∈ l, 0 ≤ x ∧ x ≤ 1) : 0 ≤ val l ∧ val l < 2 ^ l.length := by
  induction l with
  | nil => simp [val]
  | cons x l ih =>
    have h1 := ih fun y hy => h y (List.mem_cons_of_mem _ hy)
    have h2 := h x (List.mem_cons_self)
    rw [val_cons, List.length_cons, Int.pow_succ]
    omega
theorem pow_le64 {n : Nat} (h : n ≤ 64) : (2 : Int) ^ n ≤ 2 ^ 64 := by
  exact_mod_cast Nat.pow_le_pow_right (by decide : 0 < 2) h
theorem val_64 (l : List Int) (h : ∀ x ∈ l, 0 ≤ x ∧ x ≤ 1) (hl : l.length ≤ 64) : 0 ≤ val l ∧ val l ≤ 18446744073709551615 := by
  have := val_bound l h
  have := pow_le64 hl
  omega
theorem drop_pred {l : List Int} {m : Nat} (h : m < l.length) : l.drop m = l.getD m 0 :: l.drop (m + 1) := by
  rw [List.drop_eq_getElem_cons h]
  simp [List.getD_eq_getElem?_getD, h]
theorem val_append (a b : List Int) : val (a ++ b) = val a + 2 ^ a.length * val b := by
  induction a with
  | nil => simp [val]
  | cons x a ih =>
    rw [List.cons_append, val_cons, ih, val_cons, List.length_cons, Int.pow_succ, Int.mul_add, ← Int.mul_assoc, Int.add_assoc]
    congr 2
    rw [Int.mul_comm 2]
theorem val_bitsOf (v : Int) (n : Nat) : val (bitsOf v n) = v % 2 ^ n := by
  induction n with
  | zero => simp [bitsOf, val]
  | succ n ih =>
    rw [bitsOf_succ, val_append, ih, bitsOf_length]
    have e : val [bitOf v n] = bitOf v n := by simp [val]
    rw [e, bitOf]
    have hp : (0 : Int) < 2 ^ n := Int.pow_pos (by decide)
    have h1 := Int.mul_ediv_add_emod v (2 ^ n)
    have h2 := Int.mul_ediv_add_emod v (2 ^ (n + 1))
    have h3 : v / 2 ^ (n + 1) = v / 2 ^ n / 2 := by rw [Int.pow_succ, Int.ediv_ediv_of_nonneg (Int.le_of_lt hp)]
    have h4 := Int.mul_ediv_add_emod (v / 2 ^ n) 2
    rw [h3] at h2
    have h5 : (2 : Int) ^ (n + 1) * (v / 2 ^ n / 2) = 2 ^ n * (2 * (v / 2 ^ n / 2)) := by rw [Int.pow_succ, Int.mul_assoc]
    have h6 : (2 : Int) ^ n * (v / 2 ^ n) = 2 ^ n * (2 * (v / 2 ^ n / 2)) + 2 ^ n * (v / 2 ^ n % 2) := by rw [← Int.mul_add, h4]
    omega
/-- The bits of octets, in groups of eight, are the octets. -/
theorem take_drop_ofL (a : List Int) (i : Nat) (hi : i < a.length) : ((ofL a).drop (8 * i)).take 8 = bitsOf (a.getD i 0) 8 := by
  have e : a = a.take i ++ a.getD i 0 :: a.drop (i + 1) := by
    rw [← drop_pred hi, List.take_append_drop]
  conv => lhs; rw [e]
  rw [ofL_append]
  have hlen : (ofL (a.take i)).length = 8 * i := by rw [ofL_length, List.length_take]; omega
  rw [List.drop_append, hlen, Nat.sub_self, List.drop_of_length_le (by omega), List.nil_append, List.drop_zero]
  have e2 : ofL (a.getD i 0 :: a.drop (i + 1)) = bitsOf (a.getD i 0) 8 ++ ofL (a.drop (i + 1)) := by simp [ofL]
  rw [e2, List.take_left' (bitsOf_length _ _)]
theorem octs_ofL (a : List Int) (h : ∀ x ∈ a, 0 ≤ x ∧ x ≤ 255) : octs (ofL a) = a := by
  apply List.ext_getElem
  · simp [octs, ofL_length]
  · intro i h1 h2
    simp only [octs, List.getElem_map, List.getElem_range]
    rw [take_drop_ofL a i h2, val_bitsOf]
    have := h a[i] (List.getElem_mem h2)
    simp only [List.getD_eq_getElem?_getD, List.getElem?_eq_getElem h2, Option.getD_some]
    omega
theorem errOf_big {l : List Int} (h : 1048576 < l.length) : errOf l = 3 := by simp [errOf, h]
theorem errOf_ok {l : List Int} (h : l.length ≤ 1048576) (hb : isBits l = true) : errOf l = 0 := by simp [errOf, hb]; omega
theorem errOf_bad {l : List Int} (h : l.length ≤ 1048576) (hb : isBits l = false) : errOf l = 1 := by simp [errOf, hb]; omega
theorem take_succ' {l : List Int} {k : Nat} (h : k < l.length) : l.take (k + 1) = l.take k ++ [l.getD k 0] := by
  rw [List.take_succ_eq_append_getElem h]
  simp [List.getD_eq_getElem?_getD, h]
theorem set_bits {l : List Int} {off k : Nat} (v : Int) (h : off + k < l.length) :
    (l.take off ++ bitsOf v k ++ l.drop (off + k)).set (off + k) (bitOf v k) = l.take off ++ bitsOf v (k + 1) ++ l.drop (off + (k + 1)) := by
  have hlen : (l.take off ++ bitsOf v k).length = off + k := by rw [List.length_append, bitsOf_length, List.length_take]; omega
  rw [List.set_append_right _ _ (by omega), hlen, Nat.sub_self, drop_pred h, List.set_cons_zero, bitsOf_succ]
  simp [Nat.add_assoc]
theorem set_at {A : List Int} {n k : Nat} (x : Int) (hA : A.length = k) (h : k < n) :
    (A ++ List.replicate (n - k) 0).set k x = A ++ [x] ++ List.replicate (n - (k + 1)) 0 := by
  rw [List.set_append_right _ _ (by omega), hA, Nat.sub_self]
  obtain ⟨m, hm⟩ : ∃ m, n - k = m + 1 := ⟨n - k - 1, by omega⟩
  have : n - (k + 1) = m := by omega
  rw [hm, this, List.replicate_succ, List.set_cons_zero]
  simp
theorem errOf_zero {l : List Int} (h : errOf l = 0) : l.length ≤ 1048576 ∧ isBits l = true := by
  unfold errOf at h
  split at h
  · omega
  · split at h
    · rename_i h1 h2; exact ⟨by omega, h2⟩
    · omega
theorem errOf_cases (l : List Int) : errOf l = 0 ∨ errOf l = 1 ∨ errOf l = 3 := by
  unfold errOf
  split
  · simp
  · split <;> simp
theorem isBits_drop {l : List Int} (h : isBits l = true) (k : Nat) : isBits (l.drop k) = true := by
  rw [isBits_iff] at h ⊢
  intro x hx
  exact h x (List.mem_of_mem_drop hx)
theorem isBits_append {a b : List Int} (ha : isBits a = true) (hb : isBits b = true) : isBits (a ++ b) = true := by
  rw [isBits_iff] at ha hb ⊢
  intro x hx
  rcases List.mem_append.1 hx with h | h
  · exact ha x h
  · exact hb x h
theorem isBits_ofL (a : List Int) : isBits (ofL a) = true := (isBits_iff _).2 fun _ hx => (ofL_mem hx).2
theorem isBits_bitsOf (v : Int) (n : Nat) : isBits (bitsOf v n) = true := (isBits_iff _).2 fun _ hx => (bitsOf_mem hx).2
theorem octs_snoc {l : List Int} {k : Nat} :
    (List.range (k + 1)).map (fun i => val ((l.drop (8 * i)).take 8)) = (List.range k).map (fun i => val ((l.drop (8 * i)).take 8)) ++ [val ((l.drop (8 * k)).take 8)] := by
  simp [List.range_succ]
theorem val_oct {l : List Int} (h : ∀ x ∈ l, 0 ≤ x ∧ x ≤ 1) (k : Nat) : 0 ≤ val ((l.drop k).take 8) ∧ val ((l.drop k).take 8) ≤ 255 := by
  have h1 := val_bound ((l.drop k).take 8) fun x hx => h x (List.mem_of_mem_drop (List.mem_of_mem_take hx))
  have h2 : (2 : Int) ^ ((l.drop k).take 8).length ≤ 2 ^ 8 := by
    exact_mod_cast Nat.pow_le_pow_right (by decide : 0 < 2) (by rw [List.length_take]; omega)
  omega
end Go.Proofs.YthlckipcgogogaaGreatDoor
/- Plans as plain data; distances as a relation with one solution; heights. -/
namespace Go.Proofs.YthlckipcgogogaaGreatDoor
set_option linter.unusedVariables false

/-- A line: its ends, its code, its delay. -/
structure Ln where
  A : Int
  B : Int
  C : Int
  D : Int
  deriving DecidableEq
/-- A plan as plain data. -/
structure Pn where
  P : List (Int × Bool)
  L : List Ln
  rate : Int
  room : Int
  m0 : Int
  m1 : Int
  m2 : Int
  deriving DecidableEq
def Ln.zero : Ln := ⟨0, 0, 0, 0⟩
def pc (P : List (Int × Bool)) (i : Nat) : Int := (P.getD i (0, false)).1
def pt (P : List (Int × Bool)) (i : Nat) : Bool := (P.getD i (0, false)).2
def lnAt (L : List Ln) (i : Nat) : Ln := L.getD i Ln.zero
/-- A line joins two codes. -/
def joins (l : Ln) (a b : Int) : Bool := decide (l.A = a) && decide (l.B = b) || decide (l.A = b) && decide (l.B = a)
theorem joins_comm (l : Ln) (a b : Int) : joins l a b = joins l b a := by unfold joins; exact Bool.or_comm _ _
/-- The number of lines between two codes. -/
def nearN (L : List Ln) (a b : Int) : Nat := L.countP (fun l => joins l a b)
theorem nearN_comm (L : List Ln) (a b : Int) : nearN L a b = nearN L b a := by
  unfold nearN; congr 1; funext l; exact joins_comm l a b
theorem nearN_take (L : List Ln) (a b : Int) (k : Nat) (hk : k < L.length) : nearN (L.take (k + 1)) a b = nearN (L.take k) a b + (if joins (lnAt L k) a b then 1 else 0) := by
  unfold nearN lnAt
  rw [List.take_succ_eq_append_getElem hk, List.countP_append]
  simp [List.getD_eq_getElem?_getD, hk, List.countP_cons]
theorem nearN_le (L : List Ln) (a b : Int) : nearN L a b ≤ L.length := List.countP_le_length
/-- The first place with a code. -/
def fnd (P : List (Int × Bool)) (c : Int) : Option Nat := P.findIdx? (fun x => x.1 == c)
def idxI (P : List (Int × Bool)) (c : Int) : Int := match fnd P c with | some i => i | none => -1
theorem fnd_some {P : List (Int × Bool)} {c : Int} {k : Nat} (hk : k < P.length) (h : pc P k = c) (hb : ∀ j, j < k → pc P j ≠ c) : fnd P c = some k := by
  unfold fnd
  rw [List.findIdx?_eq_some_iff_getElem]
  refine ⟨hk, ?_, fun j hj => ?_⟩
  · simpa [pc, List.getD_eq_getElem?_getD, hk] using h
  · have := hb j hj
    simpa [pc, List.getD_eq_getElem?_getD, show j < P.length by omega] using this
theorem fnd_none {P : List (Int × Bool)} {c : Int} (hb : ∀ j, j < P.length → pc P j ≠ c) : fnd P c = none := by
  unfold fnd
  rw [List.findIdx?_eq_none_iff]
  intro x hx
  obtain ⟨j, hj, rfl⟩ := List.getElem_of_mem hx
  have := hb j hj
  simpa [pc, List.getD_eq_getElem?_getD, hj] using this
theorem fnd_some_iff {P : List (Int × Bool)} {c : Int} {k : Nat} : fnd P c = some k ↔ k < P.length ∧ pc P k = c ∧ ∀ j, j < k → pc P j ≠ c := by
  constructor
  · intro h
    unfold fnd at h
    rw [List.findIdx?_eq_some_iff_getElem] at h
    obtain ⟨hk, h1, h2⟩ := h
    refine ⟨hk, by simpa [pc, List.getD_eq_getElem?_getD, hk] using h1, fun j hj => ?_⟩
    have := h2 j hj
    simpa [pc, List.getD_eq_getElem?_getD, show j < P.length by omega] using this
  · rintro ⟨h1, h2, h3⟩; exact fnd_some h1 h2 h3
/-- Strictly ascending codes. -/
def Asc (P : List (Int × Bool)) : Prop := ∀ i j, i < j → j < P.length → pc P i < pc P j
theorem Asc.fnd {P : List (Int × Bool)} (h : Asc P) {k : Nat} (hk : k < P.length) : fnd P (pc P k) = some k :=
  fnd_some hk rfl fun j hj => by have := h j k hj hk; omega
theorem Asc.inj {P : List (Int × Bool)} (h : Asc P) {i j : Nat} (hi : i < P.length) (hj : j < P.length) (e : pc P i = pc P j) : i = j := by
  rcases Nat.lt_trichotomy i j with h1 | h1 | h1
  · have := h i j h1 hj; omega
  · exact h1
  · have := h j i h1 hi; omega
/-- From place i one may step to place k on a way to code t. -/
def stepB (P : List (Int × Bool)) (L : List Ln) (t : Int) (i k : Nat) : Bool := decide (0 < nearN L (pc P i) (pc P k)) && (pt P k || decide (pc P k = t))
/-- D holds the distances from t; 99: no way. -/
structure Dist (P : List (Int × Bool)) (L : List Ln) (t : Int) (D : Nat → Int) : Prop where
  zero : ∀ i, i < P.length → pc P i = t → D i = 0
  pos : ∀ i, i < P.length → pc P i ≠ t → 0 < D i
  low : ∀ i k, i < P.length → k < P.length → stepB P L t i k = true → D i ≤ D k + 1
  att : ∀ i, i < P.length → D i < 99 → pc P i ≠ t → ∃ k, k < P.length ∧ stepB P L t i k = true ∧ D i = D k + 1
  top : ∀ i, i < P.length → D i ≤ 99
theorem Dist.nonneg {P : List (Int × Bool)} {L : List Ln} {t : Int} {D : Nat → Int} (h : Dist P L t D) {i : Nat} (hi : i < P.length) : 0 ≤ D i := by
  by_cases e : pc P i = t
  · rw [h.zero i hi e]; decide
  · have := h.pos i hi e; omega
/-- What attains lies above whatever is low. -/
theorem Dist.le {P : List (Int × Bool)} {L : List Ln} {t : Int} {D E : Nat → Int} (h : Dist P L t D) (hz : ∀ i, i < P.length → pc P i = t → E i = 0)
    (hl : ∀ i k, i < P.length → k < P.length → stepB P L t i k = true → E i ≤ E k + 1) : ∀ n : Nat, ∀ i, i < P.length → D i = n → n < 99 → E i ≤ n := by
  intro n
  induction n with
  | zero =>
    intro i hi hd _
    by_cases e : pc P i = t
    · rw [hz i hi e]; decide
    · have := h.pos i hi e; omega
  | succ n ih =>
    intro i hi hd hn
    have e : pc P i ≠ t := fun e => by have := h.zero i hi e; omega
    obtain ⟨k, hk, hs, hD⟩ := h.att i hi (by omega) e
    have h1 := ih k hk (by omega) (by omega)
    have h2 := hl i k hi hk hs
    omega
theorem Dist.uniq {P : List (Int × Bool)} {L : List Ln} {t : Int} {D E : Nat → Int} (h : Dist P L t D) (g : Dist P L t E) {i : Nat} (hi : i < P.length) : D i = E i := by
  have h0 := h.nonneg hi
  have g0 := g.nonneg hi
  have h9 := h.top i hi
  have g9 := g.top i hi
  have a1 : D i < 99 → E i ≤ D i := fun hlt => by
    have := h.le g.zero g.low (D i).toNat i hi (by omega) (by omega); omega
  have a2 : E i < 99 → D i ≤ E i := fun hlt => by
    have := g.le h.zero h.low (E i).toNat i hi (by omega) (by omega); omega
  by_cases x : D i < 99 <;> by_cases y : E i < 99
  · have := a1 x; have := a2 y; omega
  · have := a1 x; omega
  · have := a2 y; omega
  · omega
/-- The place with index k has a smaller distance than i, or the same and a lower index. -/
def lowerB (D : Nat → Int) (k i : Nat) : Bool := decide (D k < D i) || decide (D k = D i) && decide (k < i)
/-- The height: how many places lie lower; only for a place with a way. -/
def htN (n : Nat) (D : Nat → Int) (i : Nat) : Nat := (List.range n).countP (fun k => lowerB D k i)
theorem lowerB_trans {D : Nat → Int} {a b c : Nat} (h : lowerB D a b = true) (g : lowerB D b c = true) : lowerB D a c = true := by
  simp only [lowerB, Bool.or_eq_true, Bool.and_eq_true, decide_eq_true_eq] at *; omega
theorem lowerB_irrefl {D : Nat → Int} {a : Nat} : lowerB D a a = false := by simp [lowerB]
theorem lowerB_total {D : Nat → Int} {a b : Nat} (h : a ≠ b) : lowerB D a b = true ∨ lowerB D b a = true := by
  simp only [lowerB, Bool.or_eq_true, Bool.and_eq_true, decide_eq_true_eq]; omega
theorem countP_lt {p q : Nat → Bool} : ∀ {l : List Nat}, (∀ x ∈ l, p x = true → q x = true) → (∃ x ∈ l, q x = true ∧ p x = false) → l.countP p < l.countP q
  | [], _, h => by obtain ⟨x, hx, _⟩ := h; simp at hx
  | y :: l, h, g => by
    have hle : l.countP p ≤ l.countP q := List.countP_mono_left fun x hx => h x (List.mem_cons_of_mem _ hx)
    obtain ⟨x, hx, h1, h2⟩ := g
    rcases List.mem_cons.1 hx with rfl | hx
    · simp only [List.countP_cons, h1, h2, Bool.false_eq_true, if_false, if_true]; omega
    · have := countP_lt (fun x hx => h x (List.mem_cons_of_mem _ hx)) ⟨x, hx, h1, h2⟩
      have hy := h y (List.mem_cons_self)
      simp only [List.countP_cons]
      cases hp : p y
      · simp only [Bool.false_eq_true, if_false]
        split <;> omega
      · simp only [hy hp, if_true]
        omega
theorem htN_lt {n : Nat} {D : Nat → Int} {a b : Nat} (ha : a < n) (h : lowerB D a b = true) : htN n D a < htN n D b := by
  refine countP_lt (fun x _ hx => lowerB_trans hx h) ⟨a, List.mem_range.2 ha, h, lowerB_irrefl⟩
theorem htN_lt_iff {n : Nat} {D : Nat → Int} {a b : Nat} (ha : a < n) (hb : b < n) : htN n D a < htN n D b ↔ lowerB D a b = true := by
  constructor
  · intro h
    by_cases e : a = b
    · subst e; omega
    · rcases lowerB_total (D := D) e with h1 | h1
      · exact h1
      · have := htN_lt hb h1; omega
  · exact htN_lt ha
theorem htN_le {n : Nat} {D : Nat → Int} {i : Nat} : htN n D i ≤ n := by
  have := List.countP_le_length (p := fun k => lowerB D k i) (l := List.range n); simpa [htN] using this
theorem htN_lt_n {n : Nat} {D : Nat → Int} {i : Nat} (hi : i < n) : htN n D i < n := by
  have : (List.range n).countP (fun k => lowerB D k i) < (List.range n).countP (fun _ => true) := countP_lt (fun _ _ _ => rfl) ⟨i, List.mem_range.2 hi, rfl, lowerB_irrefl⟩
  simpa [htN] using this
theorem htN_succ (n : Nat) (D : Nat → Int) (i : Nat) : htN (n + 1) D i = htN n D i + (if lowerB D n i then 1 else 0) := by
  simp [htN, List.range_succ, List.countP_append, List.countP_cons]
end Go.Proofs.YthlckipcgogogaaGreatDoor
/- The statements' plans as plain data: lines that are put in order. -/
namespace Go.Proofs.YthlckipcgogogaaGreatDoor
set_option linter.unusedVariables false

/-- A line does not come behind those from A to B. -/
def le2 (A B : Int) (l : Ln) : Bool := decide (l.A < A) || decide (l.A = A) && decide (l.B ≤ B)
def pairB (A B : Int) (l : Ln) : Bool := decide (l.A = A) && decide (l.B = B)
theorem le2_of_pair {A B : Int} {l : Ln} (h : pairB A B l = true) : le2 A B l = true := by
  simp only [pairB, le2, Bool.or_eq_true, Bool.and_eq_true, decide_eq_true_eq] at *; omega
/-- Lines in order: by the lower code, the higher one, and the link's. -/
def lt3 (x y : Ln) : Prop := x.A < y.A ∨ x.A = y.A ∧ (x.B < y.B ∨ x.B = y.B ∧ x.C < y.C)
/-- Where a line from A to B is put, when k lines have been looked at. -/
def atK (L : List Ln) (A B : Int) : Nat → Nat
  | 0 => 0
  | k + 1 => if le2 A B (lnAt L k) then k + 1 else atK L A B k
theorem atK_le (L : List Ln) (A B : Int) : ∀ k, atK L A B k ≤ k
  | 0 => Nat.le_refl _
  | k + 1 => by unfold atK; split; · exact Nat.le_refl _
                · exact Nat.le_succ_of_le (atK_le L A B k)
theorem atK_above (L : List Ln) (A B : Int) : ∀ k i, atK L A B k ≤ i → i < k → le2 A B (lnAt L i) = false
  | 0, _, _, h => absurd h (Nat.not_lt_zero _)
  | k + 1, i, h, hi => by
    unfold atK at h
    split at h
    · omega
    · rename_i hn
      rcases Nat.lt_succ_iff_lt_or_eq.1 hi with h1 | rfl
      · exact atK_above L A B k i h h1
      · simpa using hn
/-- The lines in order. -/
def Ord (L : List Ln) : Prop := L.Pairwise lt3
theorem Ord.at {L : List Ln} (h : Ord L) {i j : Nat} (hij : i < j) (hj : j < L.length) : lt3 (lnAt L i) (lnAt L j) := by
  have := List.pairwise_iff_getElem.1 h i j (by omega) hj hij
  simpa [lnAt, List.getD_eq_getElem?_getD, hj, show i < L.length by omega] using this
theorem atK_below {L : List Ln} (h : Ord L) (A B : Int) : ∀ k, k ≤ L.length → ∀ i, i < atK L A B k → le2 A B (lnAt L i) = true
  | 0, _, _, h => absurd h (Nat.not_lt_zero _)
  | k + 1, hk, i, hi => by
    unfold atK at hi
    split at hi
    · rename_i hl
      rcases Nat.lt_succ_iff_lt_or_eq.1 hi with h1 | rfl
      · have := h.at h1 (by omega)
        simp only [le2, lt3, Bool.or_eq_true, Bool.and_eq_true, decide_eq_true_eq] at *; omega
      · exact hl
    · exact atK_below h A B k (by omega) i hi
/-- The code of a further line from A to B, when k lines have been looked at. -/
def cntK (L : List Ln) (A B : Int) (k : Nat) : Nat := (L.take k).countP (pairB A B)
theorem cntK_zero (L : List Ln) (A B : Int) : cntK L A B 0 = 0 := by simp [cntK]
theorem cntK_succ (L : List Ln) (A B : Int) (k : Nat) (hk : k < L.length) : cntK L A B (k + 1) = cntK L A B k + (if pairB A B (lnAt L k) then 1 else 0) := by
  unfold cntK lnAt
  rw [List.take_succ_eq_append_getElem hk, List.countP_append]
  simp [List.getD_eq_getElem?_getD, hk, List.countP_cons]
theorem cntK_le (L : List Ln) (A B : Int) (k : Nat) : cntK L A B k ≤ k := by
  have := List.countP_le_length (p := pairB A B) (l := L.take k)
  simp at this; unfold cntK; omega
/-- A line is put in order. -/
def addL (L : List Ln) (A B d : Int) : List Ln := L.take (atK L A B L.length) ++ ⟨A, B, cntK L A B L.length, d⟩ :: L.drop (atK L A B L.length)
theorem addL_length (L : List Ln) (A B d : Int) : (addL L A B d).length = L.length + 1 := by
  have := atK_le L A B L.length
  simp [addL]; omega
theorem mem_addL {L : List Ln} {A B d : Int} {x : Ln} (h : x ∈ addL L A B d) : x ∈ L ∨ x = ⟨A, B, cntK L A B L.length, d⟩ := by
  unfold addL at h
  rcases List.mem_append.1 h with h | h
  · exact .inl (List.mem_of_mem_take h)
  · rcases List.mem_cons.1 h with h | h
    · exact .inr h
    · exact .inl (List.mem_of_mem_drop h)
/-- In order, and the links of each pair have the codes 0, 1, .. in order. -/
structure Fine (L : List Ln) : Prop where
  ord : Ord L
  codes : ∀ A B, (L.filter (pairB A B)).map (·.C) = (List.range (L.countP (pairB A B))).map (fun (k : Nat) => (k : Int))
theorem Fine.nil : Fine [] := ⟨List.Pairwise.nil, fun _ _ => by simp⟩
theorem lnAt_mem {L : List Ln} {x : Ln} (h : x ∈ L) : ∃ i, i < L.length ∧ x = lnAt L i := by
  obtain ⟨i, hi, rfl⟩ := List.getElem_of_mem h
  exact ⟨i, hi, by simp [lnAt, List.getD_eq_getElem?_getD, hi]⟩
theorem take_le2 {L : List Ln} (h : Ord L) (A B : Int) {x : Ln} (hx : x ∈ L.take (atK L A B L.length)) : le2 A B x = true := by
  obtain ⟨i, hi, rfl⟩ := List.getElem_of_mem hx
  simp only [List.length_take] at hi
  have := atK_below h A B L.length (Nat.le_refl _) i (by omega)
  simpa [lnAt, List.getD_eq_getElem?_getD, show i < L.length by omega] using this
theorem drop_le2 (L : List Ln) (A B : Int) {x : Ln} (hx : x ∈ L.drop (atK L A B L.length)) : le2 A B x = false := by
  obtain ⟨i, hi, rfl⟩ := List.getElem_of_mem hx
  simp only [List.length_drop] at hi
  have := atK_above L A B L.length (atK L A B L.length + i) (by omega) (by omega)
  simpa [lnAt, List.getD_eq_getElem?_getD, show atK L A B L.length + i < L.length by omega] using this
/-- A code of a pair is below their number. -/
theorem Fine.code {L : List Ln} (h : Fine L) {x : Ln} (hx : x ∈ L) {A B : Int} (hp : pairB A B x = true) : x.C < L.countP (pairB A B) := by
  have h1 : x.C ∈ (L.filter (pairB A B)).map (·.C) := List.mem_map.2 ⟨x, List.mem_filter.2 ⟨hx, hp⟩, rfl⟩
  rw [h.codes] at h1
  obtain ⟨k, hk, e⟩ := List.mem_map.1 h1
  have := List.mem_range.1 hk
  omega
theorem Fine.add {L : List Ln} (h : Fine L) (A B d : Int) : Fine (addL L A B d) := by
  have hcnt : cntK L A B L.length = L.countP (pairB A B) := by simp [cntK]
  have hsplit : L.take (atK L A B L.length) ++ L.drop (atK L A B L.length) = L := List.take_append_drop _ _
  refine ⟨?_, fun X Y => ?_⟩
  · unfold addL Ord
    have hp := h.ord
    unfold Ord at hp
    rw [← hsplit, List.pairwise_append] at hp
    obtain ⟨h1, h2, h3⟩ := hp
    refine List.pairwise_append.2 ⟨h1, List.pairwise_cons.2 ⟨fun y hy => ?_, h2⟩, fun x hx y hy => ?_⟩
    · have := drop_le2 L A B hy
      simp only [le2, lt3, Bool.or_eq_false_iff, Bool.and_eq_false_iff, decide_eq_false_iff_not] at *; omega
    · rcases List.mem_cons.1 hy with rfl | hy
      · have h4 := take_le2 h.ord A B hx
        by_cases hpr : pairB A B x = true
        · have := h.code (List.mem_of_mem_take hx) hpr
          rw [hcnt]
          simp only [pairB, lt3, Bool.and_eq_true, decide_eq_true_eq] at *; omega
        · simp only [pairB, le2, lt3, Bool.or_eq_true, Bool.and_eq_true, decide_eq_true_eq] at *; omega
      · exact h3 x hx y hy
  · have hc := h.codes X Y
    by_cases e : X = A ∧ Y = B
    · obtain ⟨rfl, rfl⟩ := e
      have hd : (L.drop (atK L X Y L.length)).filter (pairB X Y) = [] := by
        rw [List.filter_eq_nil_iff]
        intro x hx hp
        have := drop_le2 L X Y hx
        rw [le2_of_pair hp] at this; cases this
      have ht : (L.take (atK L X Y L.length)).filter (pairB X Y) = L.filter (pairB X Y) := by
        conv => rhs; rw [← hsplit, List.filter_append, hd, List.append_nil]
      have hn : pairB X Y ⟨X, Y, cntK L X Y L.length, d⟩ = true := by simp [pairB]
      have hf : (addL L X Y d).filter (pairB X Y) = L.filter (pairB X Y) ++ [⟨X, Y, cntK L X Y L.length, d⟩] := by
        unfold addL
        rw [List.filter_append, List.filter_cons_of_pos hn, hd, ht]
      have hk : (addL L X Y d).countP (pairB X Y) = L.countP (pairB X Y) + 1 := by
        rw [List.countP_eq_length_filter, hf, List.countP_eq_length_filter]; simp
      rw [hf, hk, List.map_append, hc, List.range_succ, List.map_append, hcnt]
      rfl
    · have hn : ¬ pairB X Y ⟨A, B, cntK L A B L.length, d⟩ = true := by
        simp only [pairB, Bool.and_eq_true, decide_eq_true_eq]; omega
      have hf : (addL L A B d).filter (pairB X Y) = L.filter (pairB X Y) := by
        conv => rhs; rw [← hsplit]
        unfold addL
        rw [List.filter_append, List.filter_cons_of_neg hn, List.filter_append]
      rw [List.countP_eq_length_filter, hf, hc, List.countP_eq_length_filter]
end Go.Proofs.YthlckipcgogogaaGreatDoor
