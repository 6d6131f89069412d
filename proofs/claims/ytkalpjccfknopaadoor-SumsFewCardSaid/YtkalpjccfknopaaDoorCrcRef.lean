/- The plain mathematics of the reference of layer 3: polynomials divided bit by bit are the register. -/
import Derived.Test.YtkalpjccfknopaaDoorMath
import Derived.Test.YtkalpjccfknopaaDoorCrcMath
namespace Go.Proofs.YtkalpjccfknopaaDoor.Crc
def b2i (b : Bool) : Int := if b then 1 else 0
theorem b2i_add (x y : Bool) : (b2i x + b2i y) % 2 = b2i (x ^^ y) := by cases x <;> cases y <;> rfl
theorem b2i_range (b : Bool) : 0 ≤ b2i b ∧ b2i b ≤ 1 := by cases b <;> decide
def polL : List Int := [1, 0, 0, 0, 0, 1, 0, 0, 0, 0, 0, 0, 1, 0, 0, 0, 1]
/-- The first k of the rounds that add the register. -/
def regs (r : Int) (l : List Int) : Nat → List Int
  | 0 => l
  | k + 1 => (regs r l k).set k (((regs r l k).getD k 0 + bitOf r k) % 2)
/-- The first k of the rounds that add the polynomial at i. -/
def adds (l : List Int) (i : Nat) : Nat → List Int
  | 0 => l
  | k + 1 => (adds l i k).set (i + k) (((adds l i k).getD (i + k) 0 + polL.getD (16 - k) 0) % 2)
/-- The first i steps of the division. -/
def divs (l : List Int) : Nat → List Int
  | 0 => l
  | i + 1 => if (divs l i).getD i 0 = 1 then adds (divs l i) i 17 else divs l i
theorem getD_set (l : List Int) (i j : Nat) (v : Int) : (l.set i v).getD j 0 = if i = j ∧ i < l.length then v else l.getD j 0 := by
  simp only [List.getD_eq_getElem?_getD, List.getElem?_set]
  by_cases h : i = j
  · subst h
    by_cases hl : i < l.length
    · simp [hl]
    · simp [hl]
  · simp [h]
theorem regs_length (r : Int) (l : List Int) (k : Nat) : (regs r l k).length = l.length := by
  induction k with
  | zero => rfl
  | succ k ih => rw [regs, List.length_set, ih]
theorem adds_length (l : List Int) (i k : Nat) : (adds l i k).length = l.length := by
  induction k with
  | zero => rfl
  | succ k ih => rw [adds, List.length_set, ih]
theorem divs_length (l : List Int) (i : Nat) : (divs l i).length = l.length := by
  induction i with
  | zero => rfl
  | succ i ih =>
    rw [divs]
    split
    · rw [adds_length, ih]
    · exact ih
theorem mod2_bits (x : Int) : 0 ≤ x % 2 ∧ x % 2 ≤ 1 := by omega
theorem mem_set {l : List Int} {P : Int → Prop} (h : ∀ x ∈ l, P x) (i : Nat) (v : Int) (hv : P v) : ∀ x ∈ l.set i v, P x := by
  intro x hx
  rcases List.mem_or_eq_of_mem_set hx with h1 | h1
  · exact h x h1
  · rw [h1]; exact hv
theorem regs_bits {l : List Int} (h : ∀ x ∈ l, 0 ≤ x ∧ x ≤ 1) (r : Int) (k : Nat) : ∀ x ∈ regs r l k, 0 ≤ x ∧ x ≤ 1 := by
  induction k with
  | zero => exact h
  | succ k ih => exact mem_set ih _ _ (mod2_bits _)
theorem adds_bits {l : List Int} (h : ∀ x ∈ l, 0 ≤ x ∧ x ≤ 1) (i k : Nat) : ∀ x ∈ adds l i k, 0 ≤ x ∧ x ≤ 1 := by
  induction k with
  | zero => exact h
  | succ k ih => exact mem_set ih _ _ (mod2_bits _)
theorem divs_bits {l : List Int} (h : ∀ x ∈ l, 0 ≤ x ∧ x ≤ 1) (i : Nat) : ∀ x ∈ divs l i, 0 ≤ x ∧ x ≤ 1 := by
  induction i with
  | zero => exact h
  | succ i ih =>
    rw [divs]
    split
    · exact adds_bits ih i 17
    · exact ih
theorem regs_getD (r : Int) (l : List Int) (k j : Nat) (hk : k ≤ l.length) : (regs r l k).getD j 0 = if j < k then (l.getD j 0 + bitOf r j) % 2 else l.getD j 0 := by
  induction k with
  | zero => simp [regs]
  | succ k ih =>
    have ih := ih (by omega)
    rw [regs, getD_set, regs_length]
    by_cases h : k = j
    · subst h
      have h1 : k < l.length := by omega
      rw [ih]
      simp [h1]
    · rw [if_neg (by omega), ih]
      by_cases h2 : j < k
      · rw [if_pos h2, if_pos (by omega)]
      · rw [if_neg h2, if_neg (by omega)]
theorem adds_getD (l : List Int) (i k j : Nat) (hk : i + k ≤ l.length) : (adds l i k).getD j 0 = if i ≤ j ∧ j < i + k then (l.getD j 0 + polL.getD (16 - (j - i)) 0) % 2 else l.getD j 0 := by
  induction k with
  | zero => rw [if_neg (by omega)]; rfl
  | succ k ih =>
    have ih := ih (by omega)
    rw [adds, getD_set, adds_length]
    by_cases h : i + k = j
    · subst h
      rw [if_pos ⟨rfl, by omega⟩, ih, if_neg (by omega), if_pos (by omega), Nat.add_sub_cancel_left]
    · rw [if_neg (by omega), ih]
      by_cases h2 : i ≤ j ∧ j < i + k
      · rw [if_pos h2, if_pos (by omega)]
      · rw [if_neg h2, if_neg (by omega)]
/-- The register behind bits. -/
def bitReg (r : Nat) (l : List Int) : Nat := l.foldl (fun r x => sh (r ^^^ x.toNat)) r
theorem bitReg_snoc (r : Nat) (l : List Int) (x : Int) : bitReg r (l ++ [x]) = sh (bitReg r l ^^^ x.toNat) := by simp [bitReg]
theorem bitReg_append (r : Nat) (a b : List Int) : bitReg r (a ++ b) = bitReg (bitReg r a) b := by simp [bitReg]
theorem shn_succ' (n r : Nat) : shn (n + 1) r = sh (shn n r) := shn_add n 1 r
theorem bitOf_nat (v k : Nat) : bitOf (v : Int) k = b2i (v.testBit k) := by
  unfold bitOf b2i
  rw [Nat.testBit_eq_decide_div_mod_eq]
  have e : ((v : Int) / 2 ^ k % 2) = ((v / 2 ^ k % 2 : Nat) : Int) := by push_cast; rfl
  rw [e]
  rcases Nat.mod_two_eq_zero_or_one (v / 2 ^ k) with h | h <;> simp [h]
theorem b2i_toNat (b : Bool) : (b2i b).toNat = if b then 1 else 0 := by cases b <;> rfl
theorem bitReg_bitsOf (r x n : Nat) : bitReg r (bitsOf (x : Int) n) = shn n (r ^^^ (x % 2 ^ n)) := by
  induction n with
  | zero => simp [bitsOf, bitReg, Nat.mod_one, shn]
  | succ n ih =>
    rw [bitsOf_succ, bitReg_snoc, ih, mod_pow_succ, ← Nat.xor_assoc, shn_succ', bitOf_nat, b2i_toNat]
    cases x.testBit n
    · simp
    · have h := shn_even n 1
      rw [Nat.mul_one] at h
      rw [if_pos rfl, if_pos rfl, shn_xor n _ (2 ^ n), h]
theorem bitReg_ofL (r : Nat) (l : List Nat) (hl : ∀ x ∈ l, x < 256) : bitReg r (ofL (l.map Int.ofNat)) = ext r l := by
  induction l generalizing r with
  | nil => rfl
  | cons x l ih =>
    show bitReg r (ofL ([(x : Int)] ++ l.map Int.ofNat)) = ext (oct r x) l
    rw [ofL_append, bitReg_append]
    have h1 : ofL [(x : Int)] = bitsOf (x : Int) 8 := by simp [ofL]
    rw [h1, bitReg_bitsOf, Nat.mod_eq_of_lt (hl x (by simp))]
    exact ih _ (fun y hy => hl y (by simp [hy]))
theorem bitReg_lt {r : Nat} (hr : r < 65536) (l : List Int) (hl : ∀ x ∈ l, 0 ≤ x ∧ x ≤ 1) : bitReg r l < 65536 := by
  induction l generalizing r with
  | nil => exact hr
  | cons x l ih =>
    have := hl x (by simp)
    exact ih (sh_lt (xor_lt hr (by omega))) (fun y hy => hl y (by simp [hy]))
theorem pol_bit (d : Nat) (h1 : 1 ≤ d) (h2 : d ≤ 16) : polL.getD (16 - d) 0 = b2i (Nat.testBit 33800 (d - 1)) := by
  have : ∀ d : Fin 17, 1 ≤ d.val → polL.getD (16 - d.val) 0 = b2i (Nat.testBit 33800 (d.val - 1)) := by decide
  exact this ⟨d, by omega⟩ h1
theorem bit_of_mem {l : List Int} (h : ∀ x ∈ l, 0 ≤ x ∧ x ≤ 1) (j : Nat) : ∃ b, l.getD j 0 = b2i b ∧ (l.length ≤ j → b = false) := by
  rw [List.getD_eq_getElem?_getD]
  by_cases hj : j < l.length
  · rw [List.getElem?_eq_getElem hj, Option.getD_some]
    have := h _ (List.getElem_mem hj)
    by_cases h1 : l[j] = 1
    · exact ⟨true, h1, fun h => by omega⟩
    · exact ⟨false, show l[j] = 0 by omega, fun _ => rfl⟩
  · rw [List.getElem?_eq_none (by omega)]
    exact ⟨false, rfl, fun _ => rfl⟩
theorem sh_testBit (x k : Nat) : (sh x).testBit k = (x.testBit (k + 1) ^^ (x.testBit 0 && Nat.testBit 33800 k)) := by
  unfold sh
  rw [Nat.testBit_xor, Nat.testBit_shiftRight, Nat.add_comm 1 k]
  cases x.testBit 0 <;> simp
theorem one_testBit (b : Bool) (k : Nat) : Nat.testBit (b2i b).toNat (k + 1) = false := by
  cases b
  · exact Nat.zero_testBit _
  · have : Nat.testBit 1 (k + 1) = false := by simp [Nat.testBit_succ]
    exact this
theorem b2i_testBit0 (b : Bool) : Nat.testBit (b2i b).toNat 0 = b := by cases b <;> rfl
theorem b2i_inj1 {b : Bool} : b2i b = 1 ↔ b = true := by cases b <;> simp [b2i]
/-- What the division holds behind i steps. -/
theorem divs_getD (r : Nat) (hr : r < 65536) (m : List Int) (hm : ∀ x ∈ m, 0 ≤ x ∧ x ≤ 1) (i : Nat) (hi : i ≤ m.length) (j : Nat) (hj : i ≤ j) :
    ∀ b, m.getD j 0 = b2i b → (divs (regs r (m ++ List.replicate 16 0) 16) i).getD j 0 = b2i ((bitReg r (m.take i)).testBit (j - i) ^^ b) := by
  have hA : ∀ j, (m ++ List.replicate 16 (0 : Int)).getD j 0 = m.getD j 0 := by
    intro j
    simp only [List.getD_eq_getElem?_getD]
    by_cases h : j < m.length
    · rw [List.getElem?_append_left h]
    · rw [List.getElem?_append_right (by omega), List.getElem?_eq_none (l := m) (by omega), List.getElem?_replicate]
      split <;> rfl
  induction i generalizing j with
  | zero =>
    intro b hb
    show (regs _ _ 16).getD j 0 = _
    rw [regs_getD _ _ _ _ (by simp), hA, hb, List.take_zero, Nat.sub_zero]
    show _ = b2i (r.testBit j ^^ b)
    by_cases h : j < 16
    · rw [if_pos h, bitOf_nat, b2i_add, Bool.xor_comm]
    · rw [if_neg h]
      have : r.testBit j = false := Nat.testBit_lt_two_pow (Nat.lt_of_lt_of_le hr (by
        have := Nat.pow_le_pow_right (n := 2) (by decide) (show 16 ≤ j by omega); omega))
      rw [this, Bool.false_xor]
  | succ i ih =>
    intro b hb
    have hR : bitReg r (m.take i) < 65536 := bitReg_lt hr _ (fun x hx => hm x (List.mem_of_mem_take hx))
    have ihj := ih (by omega) j (by omega) b hb
    obtain ⟨c, hc, _⟩ := bit_of_mem hm i
    have ihi := ih (by omega) i (Nat.le_refl _) c hc
    rw [Nat.sub_self] at ihi
    rw [take_succ' (by omega), bitReg_snoc, hc]
    generalize hRR : bitReg r (m.take i) = R at hR ihj ihi
    rw [sh_testBit, Nat.testBit_xor, one_testBit, Bool.xor_false, Nat.testBit_xor, b2i_testBit0, show j - (i + 1) + 1 = j - i by omega]
    rw [divs, ihi]
    by_cases hx : (R.testBit 0 ^^ c) = true
    · rw [if_pos (b2i_inj1.2 hx), adds_getD _ _ _ _ (by rw [divs_length, regs_length]; simp; omega), hx, Bool.true_and, ihj]
      by_cases h17 : j < i + 17
      · rw [if_pos (by omega), pol_bit (j - i) (by omega) (by omega), b2i_add, show j - i - 1 = j - (i + 1) by omega]
        congr 1
        cases R.testBit (j - i) <;> cases Nat.testBit 33800 (j - (i + 1)) <;> cases b <;> rfl
      · rw [if_neg (by omega)]
        have : Nat.testBit 33800 (j - (i + 1)) = false := Nat.testBit_lt_two_pow (Nat.lt_of_lt_of_le (show 33800 < 65536 by decide) (by
          have := Nat.pow_le_pow_right (n := 2) (by decide) (show 16 ≤ j - (i + 1) by omega); omega))
        rw [this, Bool.xor_false]
    · rw [if_neg (by rw [b2i_inj1]; exact hx)]
      have hx : (R.testBit 0 ^^ c) = false := by simpa using hx
      rw [hx, Bool.false_and, Bool.xor_false, ihj]
/-- The remainder is the register. -/
theorem divs_val (r : Nat) (hr : r < 65536) (m : List Int) (hm : ∀ x ∈ m, 0 ≤ x ∧ x ≤ 1) :
    val ((divs (regs r (m ++ List.replicate 16 0) 16) m.length).drop m.length) = ((bitReg r m : Nat) : Int) := by
  have hR : bitReg r m < 65536 := bitReg_lt hr m hm
  have h : (divs (regs r (m ++ List.replicate 16 0) 16) m.length).drop m.length = bitsOf (bitReg r m : Int) 16 := by
    apply List.ext_getElem
    · rw [List.length_drop, divs_length, regs_length, bitsOf_length]; simp
    · intro k h1 h2
      rw [bitsOf_length] at h2
      obtain ⟨b, hb, hb0⟩ := bit_of_mem hm (m.length + k)
      have hb0 := hb0 (by omega)
      subst hb0
      have := divs_getD r hr m hm m.length (Nat.le_refl _) (m.length + k) (by omega) false hb
      rw [List.take_length, Nat.add_sub_cancel_left, Bool.xor_false, List.getD_eq_getElem?_getD, List.getElem?_eq_getElem (by rw [List.length_drop] at h1; omega), Option.getD_some] at this
      rw [List.getElem_drop, this]
      simp only [bitsOf, List.getElem_map, List.getElem_range]
      exact (bitOf_nat _ _).symm
  rw [h, val_bitsOf]
  omega
end Go.Proofs.YtkalpjccfknopaaDoor.Crc
