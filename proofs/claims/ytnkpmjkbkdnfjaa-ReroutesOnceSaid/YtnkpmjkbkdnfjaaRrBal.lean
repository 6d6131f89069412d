/- Layer 17: every number is in once, and out once or still held. -/
import Derived.Test.YtnkpmjkbkdnfjaaRrInv
import Derived.Test.YtnkpmjkbkdnfjaaFnRow
namespace Go.Proofs.Ytnkpmjkbkdnfjaa
open Go.RowKit

/-- Which numbers are in after an act with the numbers from n on. -/
def inAct (inn : Nat → Bool) (er q : Int) (n : Nat) : Nat → Bool :=
  if er = 0 ∧ q < 3 then (fun m => if m = n then true else inn m) else if er = 0 ∧ q = 6 then (fun m => if m = n + 1 then true else if m = n then true else inn m) else inn
theorem inAct_low {inn : Nat → Bool} {er q : Int} {n : Nat} (h0 : er = 0) (h : q < 3) : inAct inn er q n = fun m => if m = n then true else inn m := if_pos ⟨h0, h⟩
theorem inAct_six {inn : Nat → Bool} {er q : Int} {n : Nat} (h0 : er = 0) (h : q = 6) : inAct inn er q n = fun m => if m = n + 1 then true else if m = n then true else inn m := by
  unfold inAct
  rw [if_neg (by omega), if_pos ⟨h0, h⟩]
theorem inAct_none {inn : Nat → Bool} {er q : Int} {n : Nat} (h : ¬ (er = 0 ∧ q < 3)) (h2 : ¬ (er = 0 ∧ q = 6)) : inAct inn er q n = inn := by
  unfold inAct
  rw [if_neg h, if_neg h2]
theorem act_bal {s : Pn} {q now : Int} {y : Wy} {n : Nat} {sn : Nat → Nat} {inn : Nat → Bool} (hb : ∀ m, sn m + s.ns.count m = if inn m then 1 else 0) (hn : ∀ m, n ≤ m → inn m = false) :
    ∀ m, (sn m + (s.act q y now n).1.count m) + (s.act q y now n).2.2.ns.count m = if inAct inn (s.act q y now n).2.1 q n m then 1 else 0 := by
  intro m
  have hbm := hb m
  have hz : ∀ m, n ≤ m → sn m = 0 ∧ s.ns.count m = 0 := fun m hm => by have := hb m; rw [hn m hm] at this; simp at this; omega
  unfold Pn.act
  by_cases q3 : q < 3
  · rw [if_pos q3]
    dsimp only
    rw [inAct_low rfl q3]
    show sn m + 0 + (s.ns ++ [n]).count m = _
    rw [List.count_append, List.count_singleton]
    by_cases hm : m = n
    · subst hm
      have := hz m (Nat.le_refl _)
      simp [this]
    · have e : (n == m) = false := by simp; exact fun hh => hm hh.symm
      have e2 : (fun m => if m = n then true else inn m) m = inn m := if_neg hm
      rw [e]
      simp only [e2]
      simpa using hbm
  have no : ∀ er : Int, er ≠ 0 ∨ q ≠ 6 → inAct inn er q n = inn := fun er h => inAct_none (by omega) (by omega)
  rw [if_neg q3]
  by_cases q5 : q < 5
  · rw [if_pos q5]
    by_cases hc : s.ns ≠ [] ∧ s.free now y
    · rw [if_pos hc]
      dsimp only
      rw [no _ (.inr (by omega))]
      exact hbm
    · rw [if_neg hc]
      dsimp only
      rw [no _ (.inr (by omega))]
      exact hbm
  rw [if_neg q5]
  by_cases q6 : q = 5
  · rw [if_pos q6]
    by_cases hc : s.ph = 1 ∨ s.ph = 3
    · rw [if_pos hc]
      dsimp only
      rw [no _ (.inr (by omega))]
      exact hbm
    · rw [if_neg hc]
      dsimp only
      rw [no _ (.inr (by omega))]
      exact hbm
  rw [if_neg q6]
  by_cases q7 : q = 6
  · rw [if_pos q7]
    by_cases hc : s.ph = 3
    · rw [if_pos hc]
      dsimp only
      rw [inAct_six rfl q7]
      show sn m + 0 + ([n, n + 1] ++ s.ns).count m = _
      rw [List.count_append]
      by_cases h1 : m = n + 1
      · subst h1
        have := hz (n + 1) (by omega)
        simp [this]
      · by_cases h2 : m = n
        · subst h2
          have := hz m (Nat.le_refl _)
          simp [this]
        · have e : [n, n + 1].count m = 0 := by
            rw [List.count_eq_zero]
            simp only [List.mem_cons, List.not_mem_nil, or_false, not_or]
            exact ⟨h2, h1⟩
          have e2 : (fun m => if m = n + 1 then true else if m = n then true else inn m) m = inn m := by
            show (if m = n + 1 then true else if m = n then true else inn m) = inn m
            rw [if_neg h1, if_neg h2]
          rw [e]
          simp only [e2]
          simpa using hbm
    · rw [if_neg hc]
      dsimp only
      rw [no _ (.inl (by decide))]
      exact hbm
  rw [if_neg q7]
  dsimp only
  rw [no _ (.inr q7)]
  exact hbm
theorem count_take_succ (l : List Nat) (j m : Nat) (hj : j < l.length) : (l.take (j + 1)).count m = (l.take j).count m + if m = l.getD j 0 then 1 else 0 := by
  rw [List.take_add_one, List.getElem?_eq_getElem hj, List.count_append]
  congr 1
  simp only [Option.toList, List.count_singleton, List.getD_eq_getElem?_getD, List.getElem?_eq_getElem hj, Option.getD_some]
  by_cases h : m = l[j]
  · subst h; simp
  · have e : (l[j] == m) = false := by simp; exact fun hh => h hh.symm
    rw [e, if_neg h]; rfl
end Go.Proofs.Ytnkpmjkbkdnfjaa
