/- The lists of SumsLinear. -/
import Derived.Test.YtkalpjccfknopaaDoorSumsExt
namespace Go.Proofs.YtkalpjccfknopaaDoor
open Go.RowKit

/-- l[i mod len(l)], or 0. -/
def atL (l : List Int) (i : Nat) : Int := if l.length = 0 then 0 else l.getD (i % l.length) 0
def colL (l : List Int) (k : Nat) : List Int := (List.range k).map (atL l)
def xorL (a b c : List Int) (i : Nat) : Int := (((a.getD i 0).toNat ^^^ (atL b i).toNat ^^^ (atL c i).toNat : Nat) : Int)
def allL (a b c : List Int) (k : Nat) : List Int := (List.range k).map (xorL a b c)
theorem colL_succ (l : List Int) (k : Nat) : colL l (k + 1) = colL l k ++ [atL l k] := by simp [colL, List.range_succ]
theorem allL_succ (a b c : List Int) (k : Nat) : allL a b c (k + 1) = allL a b c k ++ [xorL a b c k] := by simp [allL, List.range_succ]
theorem colL_length (l : List Int) (k : Nat) : (colL l k).length = k := by simp [colL]
theorem allL_length (a b c : List Int) (k : Nat) : (allL a b c k).length = k := by simp [allL]
theorem atL_range {l : List Int} (h : ∀ x ∈ l, 0 ≤ x ∧ x ≤ 255) (i : Nat) : 0 ≤ atL l i ∧ atL l i ≤ 255 := by
  unfold atL
  split
  · decide
  · exact getD_oct h _
theorem xorL_range {a b c : List Int} (ha : ∀ x ∈ a, 0 ≤ x ∧ x ≤ 255) (hb : ∀ x ∈ b, 0 ≤ x ∧ x ≤ 255) (hc : ∀ x ∈ c, 0 ≤ x ∧ x ≤ 255) (i : Nat) : 0 ≤ xorL a b c i ∧ xorL a b c i ≤ 255 := by
  have h1 := getD_oct ha i
  have h2 := atL_range hb i
  have h3 := atL_range hc i
  unfold xorL
  have h12 := Nat.xor_lt_two_pow (n := 8) (x := (a.getD i 0).toNat) (y := (atL b i).toNat) (by omega) (by omega)
  have := Nat.xor_lt_two_pow (n := 8) h12 (y := (atL c i).toNat) (by omega)
  omega
theorem colL_octs {l : List Int} (h : ∀ x ∈ l, 0 ≤ x ∧ x ≤ 255) (k : Nat) : ∀ x ∈ colL l k, 0 ≤ x ∧ x ≤ 255 := by
  intro x hx
  simp only [colL, List.mem_map] at hx
  obtain ⟨i, _, rfl⟩ := hx
  exact atL_range h i
theorem allL_octs {a b c : List Int} (ha : ∀ x ∈ a, 0 ≤ x ∧ x ≤ 255) (hb : ∀ x ∈ b, 0 ≤ x ∧ x ≤ 255) (hc : ∀ x ∈ c, 0 ≤ x ∧ x ≤ 255) (k : Nat) : ∀ x ∈ allL a b c k, 0 ≤ x ∧ x ≤ 255 := by
  intro x hx
  simp only [allL, List.mem_map] at hx
  obtain ⟨i, _, rfl⟩ := hx
  exact xorL_range ha hb hc i
theorem xor3_map (l m n : List Nat) (h1 : m.length = l.length) (h2 : n.length = l.length) : Crc.xor3 l m n = (List.range l.length).map (fun i => l.getD i 0 ^^^ m.getD i 0 ^^^ n.getD i 0) := by
  induction l generalizing m n with
  | nil => rfl
  | cons a l ih =>
    match m, n, h1, h2 with
    | b :: m, c :: n, h1, h2 =>
      rw [Crc.xor3, ih m n (by simpa using h1) (by simpa using h2), List.length_cons, List.range_succ_eq_map, List.map_cons, List.map_map]
      rfl
theorem toN_getD (l : List Int) (i : Nat) : (toN l).getD i 0 = (l.getD i 0).toNat := by
  simp only [toN, List.getD_eq_getElem?_getD, List.getElem?_map]
  cases l[i]? <;> rfl
theorem getD_range_map (f : Nat → Int) (k i : Nat) (h : i < k) : ((List.range k).map f).getD i 0 = f i := by
  simp [List.getD_eq_getElem?_getD, h]
theorem crc_allL (a b c : List Int) : Crc.crc (toN (allL a b c a.length)) = Crc.crc (toN a) ^^^ Crc.crc (toN (colL b a.length)) ^^^ Crc.crc (toN (colL c a.length)) := by
  rw [← Crc.crc_xor3 _ _ _ (by simp [toN, colL]) (by simp [toN, colL])]
  congr 1
  rw [xor3_map _ _ _ (by simp [toN, colL]) (by simp [toN, colL])]
  have e : toN (allL a b c a.length) = (List.range a.length).map (fun i => (xorL a b c i).toNat) := by
    simp only [toN, allL, List.map_map]; rfl
  rw [e, toN_length]
  apply List.map_congr_left
  intro i hi
  have hi := List.mem_range.1 hi
  rw [toN_getD, toN_getD, toN_getD, colL, colL, getD_range_map _ _ _ hi, getD_range_map _ _ _ hi]
  rfl
end Go.Proofs.YtkalpjccfknopaaDoor
