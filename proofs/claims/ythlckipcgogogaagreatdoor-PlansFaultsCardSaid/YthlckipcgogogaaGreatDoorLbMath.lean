import Derived.Test.YthlckipcgogogaaGreatDoorUnMath
/- The plain mathematics of point codes' texts: numerals, parts, what Parse and Text are to one another. -/
namespace Go.Proofs.YthlckipcgogogaaGreatDoor
set_option linter.unusedVariables false

/-- A part is well formed: one to three digits, no leading zero. -/
def shapeB (l : List UInt8) : Bool := 1 ≤ l.length && l.length ≤ 3 && (l.length == 1 || l.getD 0 0 != 48)
def goodB (l : List UInt8) : Bool := shapeB l && l.all digitB
theorem byte_cases (P : UInt8 → Prop) (h : ∀ i : Fin 256, P (UInt8.ofNat i.val)) (c : UInt8) : P c := by
  have := h ⟨c.toNat, c.toNat_lt⟩
  simpa using this
/-- The digits: a byte is 48 + d. -/
theorem digit_of {c : UInt8} (h : digitB c = true) : ∃ d : Nat, d < 10 ∧ c = 48 + UInt8.ofNat d := by
  refine ⟨c.toNat - 48, ?_, ?_⟩
  · simp only [digitB, Bool.and_eq_true, decide_eq_true_eq, UInt8.le_iff_toNat_le] at h
    have h1 : c.toNat ≤ 57 := h.2
    omega
  · simp only [digitB, Bool.and_eq_true, decide_eq_true_eq, UInt8.le_iff_toNat_le] at h
    have h0 : 48 ≤ c.toNat := h.1
    have h1 : c.toNat ≤ 57 := h.2
    apply UInt8.toNat_inj.1
    rw [UInt8.toNat_add, UInt8.toNat_ofNat']
    simp
    omega
theorem numL_numV3 : ∀ a b c : Fin 10, (a.val ≠ 0 → numL (100 * a.val + 10 * b.val + c.val) = [48 + UInt8.ofNat a.val, 48 + UInt8.ofNat b.val, 48 + UInt8.ofNat c.val]) ∧ (b.val ≠ 0 → numL (10 * b.val + c.val) = [48 + UInt8.ofNat b.val, 48 + UInt8.ofNat c.val]) ∧ numL c.val = [48 + UInt8.ofNat c.val] := by decide +kernel
theorem numV3 : ∀ a b c : Fin 10, numV [48 + UInt8.ofNat a.val, 48 + UInt8.ofNat b.val, 48 + UInt8.ofNat c.val] = 100 * a.val + 10 * b.val + c.val ∧ numV [48 + UInt8.ofNat b.val, 48 + UInt8.ofNat c.val] = 10 * b.val + c.val ∧ numV [48 + UInt8.ofNat c.val] = c.val := by decide +kernel
theorem zero_byte (d : Nat) (hd : d < 10) (h : (48 + UInt8.ofNat d : UInt8) ≠ 48) : d ≠ 0 := by
  have : ∀ i : Fin 10, (48 + UInt8.ofNat i.val : UInt8) ≠ 48 → i.val ≠ 0 := by decide
  exact this ⟨d, hd⟩ h
/-- A well-formed part is the numeral of its number. -/
theorem numL_of_good {l : List UInt8} (h : goodB l = true) : numL (numV l) = l := by
  simp only [goodB, shapeB, Bool.and_eq_true, Bool.or_eq_true, decide_eq_true_eq, beq_iff_eq] at h
  obtain ⟨⟨⟨h1, h2⟩, h3⟩, h4⟩ := h
  match l, h1, h2, h3, h4 with
  | [x], _, _, _, h4 =>
    obtain ⟨c, hc, rfl⟩ := digit_of (by simpa using h4)
    rw [(numV3 0 0 ⟨c, hc⟩).2.2]; exact (numL_numV3 0 0 ⟨c, hc⟩).2.2
  | [x, y], _, _, h3, h4 =>
    simp at h4
    obtain ⟨b, hb, rfl⟩ := digit_of h4.1
    obtain ⟨c, hc, rfl⟩ := digit_of h4.2
    have hb0 : b ≠ 0 := zero_byte b hb (by simpa using h3)
    rw [(numV3 0 ⟨b, hb⟩ ⟨c, hc⟩).2.1]; exact (numL_numV3 0 ⟨b, hb⟩ ⟨c, hc⟩).2.1 hb0
  | [x, y, z], _, _, h3, h4 =>
    simp at h4
    obtain ⟨a, ha, rfl⟩ := digit_of h4.1
    obtain ⟨b, hb, rfl⟩ := digit_of h4.2.1
    obtain ⟨c, hc, rfl⟩ := digit_of h4.2.2
    have ha0 : a ≠ 0 := zero_byte a ha (by simpa using h3)
    rw [(numV3 ⟨a, ha⟩ ⟨b, hb⟩ ⟨c, hc⟩).1]; exact (numL_numV3 ⟨a, ha⟩ ⟨b, hb⟩ ⟨c, hc⟩).1 ha0
theorem good_numL : ∀ i : Fin 256, goodB (numL i.val) = true ∧ numV (numL i.val) = i.val ∧ (numL i.val).all (· != 45) = true ∧ (numL i.val).length ≤ 3 := by decide +kernel
theorem numV_le {l : List UInt8} (h : goodB l = true) : numV l ≤ 999 := by
  simp only [goodB, shapeB, Bool.and_eq_true, Bool.or_eq_true, decide_eq_true_eq, beq_iff_eq] at h
  obtain ⟨⟨⟨h1, h2⟩, h3⟩, h4⟩ := h
  match l, h1, h2, h3, h4 with
  | [x], _, _, _, h4 =>
    obtain ⟨c, hc, rfl⟩ := digit_of (by simpa using h4)
    rw [(numV3 0 0 ⟨c, hc⟩).2.2]; simp; omega
  | [x, y], _, _, h3, h4 =>
    simp at h4
    obtain ⟨b, hb, rfl⟩ := digit_of h4.1
    obtain ⟨c, hc, rfl⟩ := digit_of h4.2
    rw [(numV3 0 ⟨b, hb⟩ ⟨c, hc⟩).2.1]; simp; omega
  | [x, y, z], _, _, h3, h4 =>
    simp at h4
    obtain ⟨a, ha, rfl⟩ := digit_of h4.1
    obtain ⟨b, hb, rfl⟩ := digit_of h4.2.1
    obtain ⟨c, hc, rfl⟩ := digit_of h4.2.2
    rw [(numV3 ⟨a, ha⟩ ⟨b, hb⟩ ⟨c, hc⟩).1]; simp; omega
/-- What stands in front of the first '-', and behind it. -/
def hd (l : List UInt8) : List UInt8 := l.takeWhile (· != 45)
def tl (l : List UInt8) : List UInt8 := (l.dropWhile (· != 45)).drop 1
theorem hd_no : ∀ l : List UInt8, l.all (· != 45) = true → hd l = l ∧ tl l = []
  | [], _ => ⟨rfl, rfl⟩
  | c :: l, h => by
    simp only [List.all_cons, Bool.and_eq_true] at h
    obtain ⟨e1, e2⟩ := hd_no l h.2
    unfold hd tl at *
    simp only [List.takeWhile_cons, List.dropWhile_cons, h.1, if_true]
    rw [e1]
    exact ⟨rfl, e2⟩
theorem hd_at : ∀ (a b : List UInt8), a.all (· != 45) = true → hd (a ++ 45 :: b) = a ∧ tl (a ++ 45 :: b) = b
  | [], b, _ => ⟨rfl, rfl⟩
  | c :: l, b, h => by
    simp only [List.all_cons, Bool.and_eq_true] at h
    obtain ⟨e1, e2⟩ := hd_at l b h.2
    unfold hd tl at *
    simp only [List.cons_append, List.takeWhile_cons, List.dropWhile_cons, h.1, if_true]
    rw [e1]
    exact ⟨rfl, e2⟩
/-- Every list has no '-', or its first one. -/
theorem cut_cases : ∀ l : List UInt8, l.all (· != 45) = true ∨ ∃ a b, a.all (· != 45) = true ∧ l = a ++ 45 :: b
  | [] => .inl rfl
  | c :: l => by
    by_cases hc : c = 45
    · subst hc; exact .inr ⟨[], l, rfl, rfl⟩
    · have hc' : (c != 45) = true := by simpa using hc
      rcases cut_cases l with h | ⟨a, b, h, rfl⟩
      · left; simp only [List.all_cons, hc', h, Bool.and_self]
      · right; exact ⟨c :: a, b, by simp only [List.all_cons, hc', h, Bool.and_self], rfl⟩
theorem count_no : ∀ l : List UInt8, l.all (· != 45) = true → l.count 45 = 0 := by
  intro l h
  rw [List.count_eq_zero]
  intro hm
  have := List.all_eq_true.1 h 45 hm
  simp at this
theorem good_no {l : List UInt8} (h : goodB l = true) : l.all (· != 45) = true := by
  simp only [goodB, Bool.and_eq_true] at h
  rw [List.all_eq_true] at h ⊢
  intro x hx
  have := h.2 x hx
  simp only [digitB, Bool.and_eq_true, decide_eq_true_eq, UInt8.le_iff_toNat_le] at this
  have h0 : 48 ≤ x.toNat := this.1
  simp only [bne_iff_ne, ne_eq]
  intro e
  subst e
  exact absurd h0 (by decide)
theorem good_nil : goodB [] = false := rfl
def fine (l : List UInt8) : Bool := goodB (hd l) && goodB (hd (tl l)) && goodB (tl (tl l))
/-- The error of a text. -/
def parseE (l : List UInt8) : Int := if fine l then if 7 < numV (hd l) ∨ 255 < numV (hd (tl l)) ∨ 7 < numV (tl (tl l)) then 1 else 0 else 4
def parseN (l : List UInt8) : Nat := 2048 * numV (hd l) + 8 * numV (hd (tl l)) + numV (tl (tl l))
def parseP (l : List UInt8) : Int := if parseE l = 0 then (parseN l : Int) else 0
/-- The text of a point code. -/
def pcL (p : Nat) : List UInt8 := numL (p / 2048) ++ 45 :: (numL (p / 8 % 256) ++ 45 :: numL (p % 8))
theorem fine_parts {l : List UInt8} (h : fine l = true) : l = hd l ++ 45 :: (hd (tl l) ++ 45 :: tl (tl l)) := by
  simp only [fine, Bool.and_eq_true] at h
  obtain ⟨⟨h1, h2⟩, h3⟩ := h
  rcases cut_cases l with hn | ⟨a, b, ha, rfl⟩
  · obtain ⟨_, e2⟩ := hd_no l hn
    rw [e2] at h2
    exact absurd h2 (by decide)
  · obtain ⟨e1, e2⟩ := hd_at a b ha
    rw [e1, e2]
    rw [e2] at h2 h3
    rcases cut_cases b with hn | ⟨c, d, hc, rfl⟩
    · obtain ⟨_, e3⟩ := hd_no b hn
      rw [e3] at h3
      exact absurd h3 (by decide)
    · obtain ⟨e3, e4⟩ := hd_at c d hc
      rw [e3, e4]
theorem parse_text (p : Nat) (h : p ≤ 16383) : parseE (pcL p) = 0 ∧ parseN (pcL p) = p := by
  obtain ⟨a1, a2, a3, _⟩ := good_numL ⟨p / 2048, by omega⟩
  obtain ⟨b1, b2, b3, _⟩ := good_numL ⟨p / 8 % 256, by omega⟩
  obtain ⟨c1, c2, c3, _⟩ := good_numL ⟨p % 8, by omega⟩
  simp only at a1 a2 a3 b1 b2 b3 c1 c2 c3
  obtain ⟨e1, e2⟩ := hd_at _ (numL (p / 8 % 256) ++ 45 :: numL (p % 8)) a3
  obtain ⟨e3, e4⟩ := hd_at _ (numL (p % 8)) b3
  unfold parseE parseN fine pcL
  rw [e1, e2, e3, e4, a1, b1, c1, a2, b2, c2]
  refine ⟨?_, by omega⟩
  rw [if_pos (by decide), if_neg (by omega)]
theorem text_parse {l : List UInt8} (h : parseE l = 0) : parseN l ≤ 16383 ∧ pcL (parseN l) = l ∧ numV (hd l) ≤ 7 ∧ numV (hd (tl l)) ≤ 255 ∧ numV (tl (tl l)) ≤ 7 ∧ fine l = true := by
  unfold parseE at h
  split at h
  · rename_i hf
    split at h
    · simp at h
    · rename_i hv
      have hp := fine_parts hf
      have hf' := hf
      simp only [fine, Bool.and_eq_true] at hf
      obtain ⟨⟨h1, h2⟩, h3⟩ := hf
      have q1 : parseN l / 2048 = numV (hd l) := by unfold parseN; omega
      have q2 : parseN l / 8 % 256 = numV (hd (tl l)) := by unfold parseN; omega
      have q3 : parseN l % 8 = numV (tl (tl l)) := by unfold parseN; omega
      refine ⟨by unfold parseN; omega, ?_, by omega, by omega, by omega, hf'⟩
      unfold pcL
      rw [q1, q2, q3, numL_of_good h1, numL_of_good h2, numL_of_good h3]
      exact hp.symm
  · simp at h
theorem parse_not {l : List UInt8} (h : fine l = false) : parseE l = 4 := by unfold parseE; rw [h]; rfl
theorem fine_count {l : List UInt8} (h : fine l = true) : l.count 45 = 2 := by
  have hp := fine_parts h
  simp only [fine, Bool.and_eq_true] at h
  obtain ⟨⟨h1, h2⟩, h3⟩ := h
  have k1 := count_no _ (good_no h1)
  have k2 := count_no _ (good_no h2)
  have k3 := count_no _ (good_no h3)
  rw [hp, List.count_append, List.count_cons_self, List.count_append, List.count_cons_self, k1, k2, k3]
theorem count_two {l : List UInt8} (h : l.count 45 = 2) : l = hd l ++ 45 :: (hd (tl l) ++ 45 :: tl (tl l)) ∧ (hd l).all (· != 45) = true ∧ (hd (tl l)).all (· != 45) = true ∧ (tl (tl l)).all (· != 45) = true := by
  rcases cut_cases l with hn | ⟨a, b, ha, rfl⟩
  · rw [count_no l hn] at h; omega
  · obtain ⟨e1, e2⟩ := hd_at a b ha
    rw [e1, e2]
    rw [List.count_append, List.count_cons_self, count_no a ha] at h
    rcases cut_cases b with hn | ⟨c, d, hc, rfl⟩
    · rw [count_no b hn] at h; omega
    · obtain ⟨e3, e4⟩ := hd_at c d hc
      rw [e3, e4]
      refine ⟨rfl, ha, hc, ?_⟩
      rw [List.count_append, List.count_cons_self, count_no c hc] at h
      have h0 : d.count 45 = 0 := by omega
      rw [List.count_eq_zero] at h0
      rw [List.all_eq_true]
      intro x hx
      simp only [bne_iff_ne, ne_eq]
      rintro rfl
      exact h0 hx
end Go.Proofs.YthlckipcgogogaaGreatDoor
