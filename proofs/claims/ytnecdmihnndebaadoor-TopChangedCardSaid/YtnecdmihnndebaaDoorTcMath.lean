/- The bits that the statement inverts, and what they do to the check sequence. -/
import Derived.Test.YtnecdmihnndebaaDoorUnBk
import Derived.StillTailTactics
import Derived.Laws.BitsAllLaws
namespace Go.Proofs.YtnecdmihnndebaaDoor
open Go.RowKit

theorem Only.drew {b : Nat} {a w : World} (h : Only b a w) : Only b a w.drew := ⟨h.os, h.tape, h.output, h.size, h.block⟩
theorem Own.drew {w : World} {b t : Nat} {cs : List Value} (h : Own w b t cs) : Own w.drew b t cs := h
theorem Own.set_left {w : World} {b t : Nat} {k : IntKind} {l : List Int} {rest : List Value} (h : Own w b t (nums k l ++ rest)) (j : Nat) (hj : j < l.length) (x : Int) : Own (w.setCell ⟨b, j, none⟩ (.int k x)) b t (nums k (l.set j x) ++ rest) := by
  have := h.set j (.int k x)
  rw [List.set_append_left _ _ (by rw [nums_length]; exact hj), nums_set] at this
  exact this
theorem ownsRow_own2 {w : World} {B e n : Nat} {v : Value} {k : IntKind} {l : List Int} (h : w.ownsRow B e 1 v n (nums k l)) (hn : 0 < n) : ∃ g c rest, v = .slice (some ⟨g, 0, none⟩) n c ∧ B ≤ g ∧ Own w g e (nums k l ++ rest) ∧ n ≤ c ∧ c ≤ 9223372036854775807 := by
  rcases h.2 with ⟨rfl, h0⟩ | ⟨g, cap, cur, rfl, hb, hg, hn', hc, hs, ht⟩
  · omega
  · unfold maxLen at hc
    refine ⟨g, cap, cur.toList.drop (n * 1), rfl, hb, ?_, hn', by omega⟩
    unfold Own
    rw [hg, ← ht, List.take_append_drop]
theorem getD_left {α : Type} (a b : List α) (j : Nat) (d : α) (h : j < a.length) : (a ++ b).getD j d = a.getD j d := by
  rw [List.getD_eq_getElem?_getD, List.getElem?_append_left h, ← List.getD_eq_getElem?_getD]
def ofN (l : List Nat) : List Int := l.map Int.ofNat
theorem ofN_length (l : List Nat) : (ofN l).length = l.length := by simp [ofN]
theorem ofN_getD (l : List Nat) (i : Nat) : (ofN l).getD i 0 = ((l.getD i 0 : Nat) : Int) := by
  simp only [ofN, List.getD_eq_getElem?_getD, List.getElem?_map]
  cases l[i]? <;> rfl
theorem ofN_set (l : List Nat) (i v : Nat) : (ofN l).set i ((v : Nat) : Int) = ofN (l.set i v) := by simp [ofN, List.map_set]
theorem toN_ofN' (l : List Nat) : toN (ofN l) = l := by
  simp only [toN, ofN, List.map_map]
  conv => rhs; rw [← List.map_id l]
  rfl
theorem ofN_toN {l : List Int} (h : ∀ x ∈ l, 0 ≤ x ∧ x ≤ 255) : ofN (toN l) = l := toN_ofN h
theorem ofN_octs {l : List Nat} (h : ∀ x ∈ l, x < 256) : ∀ x ∈ ofN l, 0 ≤ x ∧ x ≤ 255 := by
  intro x hx
  simp only [ofN, List.mem_map] at hx
  obtain ⟨y, hy, rfl⟩ := hx
  have := h y hy
  simp
  omega
theorem flips_snoc (l ks : List Nat) (k : Nat) : Crc.flips l (ks ++ [k]) = (Crc.flips l ks).set (k / 8) ((Crc.flips l ks).getD (k / 8) 0 ^^^ 2 ^ (k % 8)) := by simp [Crc.flips]
theorem lastTwo_good {F : List Nat} {n : Nat} (hF : F.length = n + 2) : lastTwo (ofN F) n = Crc.crc (toN ((ofN F).take n)) ↔ Crc.good F := by
  have e : toN ((ofN F).take n) = F.take n := by
    rw [ofN, ← List.map_take]
    exact toN_ofN' (F.take n)
  unfold lastTwo Crc.good
  rw [e, ofN_getD, ofN_getD, hF, Int.toNat_natCast, Int.toNat_natCast]
  exact Iff.rfl
/-- The changed octets are accepted exactly if the marks cancel. -/
theorem changed_check {l : List Int} {ks : List Nat} {n : Nat} (hoct : ∀ x ∈ l, 0 ≤ x ∧ x ≤ 255) (hl : l.length = n) (hk : ∀ k ∈ ks, k < 8 * (n + 2)) :
    lastTwo (ofN (Crc.flips (toN (addL l)) ks)) n = Crc.crc (toN ((ofN (Crc.flips (toN (addL l)) ks)).take n)) ↔ Crc.marks (8 * (n + 2)) ks = 0 := by
  have h1 : (Crc.flips (toN (addL l)) ks).length = n + 2 := by rw [Crc.flips_length, toN_length, addL_length, hl]
  rw [lastTwo_good h1, toN_addL]
  have h2 := Crc.changed_good (l := toN l) (at_ := ks) (toN_lt hoct) (by rw [toN_length, hl]; exact hk)
  rw [toN_length, hl] at h2
  exact h2
/-- The first k of the three positions. -/
def tri (N a b c : Nat) (k : Nat) : List Nat := ([a % N, b % N, c % N]).take k
/-- The positions that the statement inverts. -/
def posL (N a b c v : Nat) : List Nat := tri N a b c (if v = 0 then 3 else 0) ++ Crc.burst N (a % N) v 16
theorem tri_snoc (N a b c k : Nat) (h : k < 3) : tri N a b c (k + 1) = tri N a b c k ++ [[a, b, c].getD k 0 % N] := by
  rcases (by omega : k = 0 ∨ k = 1 ∨ k = 2) with rfl | rfl | rfl <;> rfl
theorem burst_zero (N p m : Nat) : Crc.burst N p 0 m = [] := by
  induction m with
  | zero => rfl
  | succ m ih => simp [Crc.burst, ih]
theorem posL_zero (N a b c : Nat) : posL N a b c 0 = [a % N, b % N, c % N] := by simp [posL, tri, burst_zero]
theorem posL_burst {N a b c v : Nat} (h : v ≠ 0) : posL N a b c v = Crc.burst N (a % N) v 16 := by simp [posL, tri, h]
theorem posL_lt {N a b c v : Nat} (hN : 0 < N) : ∀ k ∈ posL N a b c v, k < N := by
  intro k hk
  by_cases hv : v = 0
  · subst hv
    rw [posL_zero] at hk
    simp at hk
    rcases hk with rfl | rfl | rfl <;> exact Nat.mod_lt _ hN
  · rw [posL_burst hv] at hk
    exact Crc.burst_lt hk
theorem posL_found {N a b c v : Nat} (hN : 0 < N) (h : posL N a b c v ≠ []) : Crc.marks N (posL N a b c v) ≠ 0 := by
  by_cases hv : v = 0
  · subst hv
    rw [posL_zero]
    exact Crc.marks_odd _ _ (by simp)
  · rw [posL_burst hv] at h ⊢
    exact Crc.burst_found (Nat.mod_lt _ hN) (by decide) h
/-- What the statement makes of the protected octets E. -/
def chgL (E : List Int) (ks : List Nat) : List Int := ofN (Crc.flips (toN (addL E)) ks)
theorem chgL_length (E : List Int) (ks : List Nat) : (chgL E ks).length = E.length + 2 := by rw [chgL, ofN_length, Crc.flips_length, toN_length, addL_length]
theorem chgL_octs {E : List Int} (h : ∀ x ∈ E, 0 ≤ x ∧ x ≤ 255) (ks : List Nat) : ∀ x ∈ chgL E ks, 0 ≤ x ∧ x ≤ 255 := ofN_octs (Crc.flips_lt (toN_lt (addL_octs h)))
theorem chgL_nil {E : List Int} (h : ∀ x ∈ E, 0 ≤ x ∧ x ≤ 255) : chgL E [] = addL E := ofN_toN (addL_octs h)
theorem chgL_bad {E : List Int} {q a b c v : Nat} (h : ∀ x ∈ E, 0 ≤ x ∧ x ≤ 255) (hq : E.length = q) (hp : posL (8 * (q + 2)) a b c v ≠ []) :
    lastTwo (chgL E (posL (8 * (q + 2)) a b c v)) q ≠ Crc.crc (toN ((chgL E (posL (8 * (q + 2)) a b c v)).take q)) := fun hh =>
  posL_found (by omega) hp ((changed_check h hq (posL_lt (by omega))).1 hh)
/-- Either nothing has changed, or the check sequence is wrong. -/
theorem chgL_cases {E : List Int} (q a b c v : Nat) (h : ∀ x ∈ E, 0 ≤ x ∧ x ≤ 255) (hq : E.length = q) :
    chgL E (posL (8 * (q + 2)) a b c v) = addL E ∨ (chgL E (posL (8 * (q + 2)) a b c v) ≠ addL E ∧ lastTwo (chgL E (posL (8 * (q + 2)) a b c v)) q ≠ Crc.crc (toN ((chgL E (posL (8 * (q + 2)) a b c v)).take q))) := by
  by_cases hp : posL (8 * (q + 2)) a b c v = []
  · left; rw [hp, chgL_nil h]
  · right
    have hb := chgL_bad h hq hp
    refine ⟨fun hh => ?_, hb⟩
    rw [hh] at hb
    exact hb (by have := addL_good h; rwa [hq] at this)
theorem chgL_snoc (E : List Int) (ks : List Nat) (k : Nat) : chgL E (ks ++ [k]) = ofN ((Crc.flips (toN (addL E)) ks).set (k / 8) ((Crc.flips (toN (addL E)) ks).getD (k / 8) 0 ^^^ 2 ^ (k % 8))) := by rw [chgL, flips_snoc]
theorem okC_chgL {E : List Int} {q : Nat} (h : ∀ x ∈ E, 0 ≤ x ∧ x ≤ 255) (hq : E.length = q) (h3 : 3 ≤ q) (h6 : q ≤ 276) (ks : List Nat) : okC (chgL E ks) := by
  refine ⟨?_, ?_, chgL_octs h ks⟩
  · rw [chgL_length, hq]; omega
  · rw [chgL_length, hq]; omega
/-- The bits of three contents. -/
theorem feed_three {F G : List Int} (hF : okC F) (hG : okC G) : feed Sc.zero (joinL [F, G, F]) = (⟨true, 0, [], 0⟩, [F, G, F]) := feed_joinL _ (fun b hb => by
  simp at hb
  rcases hb with rfl | rfl | rfl
  · exact hF
  · exact hG
  · exact hF)
theorem joinL_three {F G : List Int} (hF : okC F) (hG : okC G) : errOf (joinL [F, G, F]) = 0 ∧ (joinL [F, G, F]).length ≤ 9000 ∧ 0 < (joinL [F, G, F]).length := by
  have hj := joinL_length [F, G, F] 3 280 (fun b hb => by
    simp at hb
    rcases hb with rfl | rfl | rfl
    · exact hF.2.1
    · exact hG.2.1
    · exact hF.2.1) (by simp)
  refine ⟨errOf_ok (by omega) (bin_joinL _).isBits, by omega, ?_⟩
  unfold joinL flagL
  simp
end Go.Proofs.YtnecdmihnndebaaDoor
