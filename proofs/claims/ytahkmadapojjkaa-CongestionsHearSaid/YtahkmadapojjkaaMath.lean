/- Plain mathematics: bits of integers, and lists of numbers. -/
namespace Go.Proofs.Ytahkmadapojjkaa

def bitOf (v : Int) (k : Nat) : Int := v / 2 ^ k % 2
def bitsOf (v : Int) (n : Nat) : List Int := (List.range n).map (bitOf v)
def ofL (l : List Int) : List Int := l.flatMap fun v => bitsOf v 8
def val (l : List Int) : Int := l.foldr (fun b acc => b + 2 * acc) 0
def octs (l : List Int) : List Int := (List.range (l.length / 8)).map fun i => val ((l.drop (8 * i)).take 8)
def isBits (l : List Int) : Bool := l.all fun x => decide (x ≤ 1)
def errOf (l : List Int) : Int := if 1048576 < l.length then 3 else if isBits l then 0 else 1
def lowBits (l : List Int) : List Int := l.map (· % 2)
theorem bitOf_range (v : Int) (k : Nat) : 0 ≤ bitOf v k ∧ bitOf v k ≤ 1 := by unfold bitOf; omega
theorem bitsOf_length (v : Int) (n : Nat) : (bitsOf v n).length = n := by simp [bitsOf]
theorem bitsOf_succ (v : Int) (n : Nat) : bitsOf v (n + 1) = bitsOf v n ++ [bitOf v n] := by simp [bitsOf, List.range_succ]
theorem bitsOf_mem {v : Int} {n : Nat} {x : Int} (h : x ∈ bitsOf v n) : 0 ≤ x ∧ x ≤ 1 := by
  simp only [bitsOf, List.mem_map, List.mem_range] at h
  obtain ⟨k, _, rfl⟩ := h
  exact bitOf_range v k
theorem ofL_nil : ofL [] = [] := rfl
theorem ofL_append (a b : List Int) : ofL (a ++ b) = ofL a ++ ofL b := by simp [ofL]
theorem ofL_snoc (a : List Int) (x : Int) : ofL (a ++ [x]) = ofL a ++ bitsOf x 8 := by simp [ofL]
theorem ofL_length (a : List Int) : (ofL a).length = 8 * a.length := by
  induction a with
  | nil => rfl
  | cons x a ih =>
    have : ofL (x :: a) = bitsOf x 8 ++ ofL a := by simp [ofL]
    rw [this, List.length_append, ih, bitsOf_length, List.length_cons]; omega
theorem ofL_mem {a : List Int} {x : Int} (h : x ∈ ofL a) : 0 ≤ x ∧ x ≤ 1 := by
  simp only [ofL, List.mem_flatMap] at h
  obtain ⟨v, _, h⟩ := h
  exact bitsOf_mem h
theorem isBits_iff (l : List Int) : isBits l = true ↔ ∀ x ∈ l, x ≤ 1 := by simp [isBits]
theorem isBits_false {l : List Int} {k : Nat} (hk : k < l.length) (h : 1 < l.getD k 0) : isBits l = false := by
  rw [Bool.eq_false_iff, Ne, isBits_iff]
  intro hh
  have := hh (l[k]) (List.getElem_mem hk)
  simp [List.getD_eq_getElem?_getD, hk] at h
  omega
theorem isBits_true {l : List Int} (h : ∀ j, j < l.length → l.getD j 0 ≤ 1) : isBits l = true := by
  rw [isBits_iff]
  intro x hx
  obtain ⟨j, hj, rfl⟩ := List.mem_iff_getElem.1 hx
  have := h j hj
  simpa [List.getD_eq_getElem?_getD, hj] using this
theorem val_nil : val [] = 0 := rfl
theorem val_cons (x : Int) (l : List Int) : val (x :: l) = x + 2 * val l := rfl
theorem val_bound (l : List Int) (h : ∀ x ∈ l, 0 ≤ x ∧ x ≤ 1) : 0 ≤ val l ∧ val l < 2 ^ l.length := by
  induction l with
  | nil => simp [val]
  | cons x l ih =>
    have h1 := ih fun y hy => h y (List.mem_cons_of_mem _ hy)
    have h2 := h x (List.mem_cons_self)
    rw [val_cons, List.length_cons, Int.pow_succ]
    omega
theorem pow_le64 {n : Nat} (h : n ≤ 64) : (2 : Int) ^ n ≤ 2 ^ 64 := by
  exact_mod_cast Nat.pow_le_pow_right (by decide : 0 < 2) h
theorem val_64 (l : List Int) (h : ∀ x ∈ l, 0 ≤ x ∧ x ≤ 1) (hl : l.length ≤ 64) : 0 ≤ val l ∧ val l ≤ 18446744073709551615 := by
  have := val_bound l h
  have := pow_le64 hl
  omega
theorem drop_pred {l : List Int} {m : Nat} (h : m < l.length) : l.drop m = l.getD m 0 :: l.drop (m + 1) := by
  rw [List.drop_eq_getElem_cons h]
  simp [List.getD_eq_getElem?_getD, h]
theorem val_append (a b : List Int) : val (a ++ b) = val a + 2 ^ a.length * val b := by
  induction a with
  | nil => simp [val]
  | cons x a ih =>
    rw [List.cons_append, val_cons, ih, val_cons, List.length_cons, Int.pow_succ, Int.mul_add, ← Int.mul_assoc, Int.add_assoc]
    congr 2
    rw [Int.mul_comm 2]
theorem val_bitsOf (v : Int) (n : Nat) : val (bitsOf v n) = v % 2 ^ n := by
  induction n with
  | zero => simp [bitsOf, val]
  | succ n ih =>
    rw [bitsOf_succ, val_append, ih, bitsOf_length]
    have e : val [bitOf v n] = bitOf v n := by simp [val]
    rw [e, bitOf]
    have hp : (0 : Int) < 2 ^ n := Int.pow_pos (by decide)
    have h1 := Int.mul_ediv_add_emod v (2 ^ n)
    have h2 := Int.mul_ediv_add_emod v (2 ^ (n + 1))
    have h3 : v / 2 ^ (n + 1) = v / 2 ^ n / 2 := by rw [Int.pow_succ, Int.ediv_ediv_of_nonneg (Int.le_of_lt hp)]
    have h4 := Int.mul_ediv_add_emod (v / 2 ^ n) 2
    rw [h3] at h2
    have h5 : (2 : Int) ^ (n + 1) * (v / 2 ^ n / 2) = 2 ^ n * (2 * (v / 2 ^ n / 2)) := by rw [Int.pow_succ, Int.mul_assoc]
    have h6 : (2 : Int) ^ n * (v / 2 ^ n) = 2 ^ n * (2 * (v / 2 ^ n / 2)) + 2 ^ n * (v / 2 ^ n % 2) := by rw [← Int.mul_add, h4]
    omega
/-- The bits of octets, in groups of eight, are the octets. -/
theorem take_drop_ofL (a : List Int) (i : Nat) (hi : i < a.length) : ((ofL a).drop (8 * i)).take 8 = bitsOf (a.getD i 0) 8 := by
  have e : a = a.take i ++ a.getD i 0 :: a.drop (i + 1) := by
    rw [← drop_pred hi, List.take_append_drop]
  conv => lhs; rw [e]
  rw [ofL_append]
  have hlen : (ofL (a.take i)).length = 8 * i := by rw [ofL_length, List.length_take]; omega
  rw [List.drop_append, hlen, Nat.sub_self, List.drop_of_length_le (by omega), List.nil_append, List.drop_zero]
  have e2 : ofL (a.getD i 0 :: a.drop (i + 1)) = bitsOf (a.getD i 0) 8 ++ ofL (a.drop (i + 1)) := by simp [ofL]
  rw [e2, List.take_left' (bitsOf_length _ _)]
theorem octs_ofL (a : List Int) (h : ∀ x ∈ a, 0 ≤ x ∧ x ≤ 255) : octs (ofL a) = a := by
  apply List.ext_getElem
  · simp [octs, ofL_length]
  · intro i h1 h2
    simp only [octs, List.getElem_map, List.getElem_range]
    rw [take_drop_ofL a i h2, val_bitsOf]
    have := h a[i] (List.getElem_mem h2)
    simp only [List.getD_eq_getElem?_getD, List.getElem?_eq_getElem h2, Option.getD_some]
    omega
theorem errOf_big {l : List Int} (h : 1048576 < l.length) : errOf l = 3 := by simp [errOf, h]
theorem errOf_ok {l : List Int} (h : l.length ≤ 1048576) (hb : isBits l = true) : errOf l = 0 := by simp [errOf, hb]; omega
theorem errOf_bad {l : List Int} (h : l.length ≤ 1048576) (hb : isBits l = false) : errOf l = 1 := by simp [errOf, hb]; omega
theorem take_succ' {l : List Int} {k : Nat} (h : k < l.length) : l.take (k + 1) = l.take k ++ [l.getD k 0] := by
  rw [List.take_succ_eq_append_getElem h]
  simp [List.getD_eq_getElem?_getD, h]
theorem set_bits {l : List Int} {off k : Nat} (v : Int) (h : off + k < l.length) :
    (l.take off ++ bitsOf v k ++ l.drop (off + k)).set (off + k) (bitOf v k) = l.take off ++ bitsOf v (k + 1) ++ l.drop (off + (k + 1)) := by
  have hlen : (l.take off ++ bitsOf v k).length = off + k := by rw [List.length_append, bitsOf_length, List.length_take]; omega
  rw [List.set_append_right _ _ (by omega), hlen, Nat.sub_self, drop_pred h, List.set_cons_zero, bitsOf_succ]
  simp [Nat.add_assoc]
theorem set_at {A : List Int} {n k : Nat} (x : Int) (hA : A.length = k) (h : k < n) :
    (A ++ List.replicate (n - k) 0).set k x = A ++ [x] ++ List.replicate (n - (k + 1)) 0 := by
  rw [List.set_append_right _ _ (by omega), hA, Nat.sub_self]
  obtain ⟨m, hm⟩ : ∃ m, n - k = m + 1 := ⟨n - k - 1, by omega⟩
  have : n - (k + 1) = m := by omega
  rw [hm, this, List.replicate_succ, List.set_cons_zero]
  simp
theorem errOf_zero {l : List Int} (h : errOf l = 0) : l.length ≤ 1048576 ∧ isBits l = true := by
  unfold errOf at h
  split at h
  · omega
  · split at h
    · rename_i h1 h2; exact ⟨by omega, h2⟩
    · omega
theorem errOf_cases (l : List Int) : errOf l = 0 ∨ errOf l = 1 ∨ errOf l = 3 := by
  unfold errOf
  split
  · simp
  · split <;> simp
theorem isBits_drop {l : List Int} (h : isBits l = true) (k : Nat) : isBits (l.drop k) = true := by
  rw [isBits_iff] at h ⊢
  intro x hx
  exact h x (List.mem_of_mem_drop hx)
theorem isBits_append {a b : List Int} (ha : isBits a = true) (hb : isBits b = true) : isBits (a ++ b) = true := by
  rw [isBits_iff] at ha hb ⊢
  intro x hx
  rcases List.mem_append.1 hx with h | h
  · exact ha x h
  · exact hb x h
theorem isBits_ofL (a : List Int) : isBits (ofL a) = true := (isBits_iff _).2 fun _ hx => (ofL_mem hx).2
theorem isBits_bitsOf (v : Int) (n : Nat) : isBits (bitsOf v n) = true := (isBits_iff _).2 fun _ hx => (bitsOf_mem hx).2
theorem octs_snoc {l : List Int} {k : Nat} :
    (List.range (k + 1)).map (fun i => val ((l.drop (8 * i)).take 8)) = (List.range k).map (fun i => val ((l.drop (8 * i)).take 8)) ++ [val ((l.drop (8 * k)).take 8)] := by
  simp [List.range_succ]
theorem val_oct {l : List Int} (h : ∀ x ∈ l, 0 ≤ x ∧ x ≤ 1) (k : Nat) : 0 ≤ val ((l.drop k).take 8) ∧ val ((l.drop k).take 8) ≤ 255 := by
  have h1 := val_bound ((l.drop k).take 8) fun x hx => h x (List.mem_of_mem_drop (List.mem_of_mem_take hx))
  have h2 : (2 : Int) ^ ((l.drop k).take 8).length ≤ 2 ^ 8 := by
    exact_mod_cast Nat.pow_le_pow_right (by decide : 0 < 2) (by rw [List.length_take]; omega)
  omega
end Go.Proofs.Ytahkmadapojjkaa
