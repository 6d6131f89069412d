/- Plain mathematics: runs of a number in a list. -/
import Derived.Test.YtnecdmihnndebaaDoorMath
namespace Go.Proofs.YtnecdmihnndebaaDoor

/-- The run at the end of a list, and the longest one. -/
def runEnd (v : Int) (l : List Int) : Int := l.foldl (fun r x => if x = v then r + 1 else 0) 0
def runMax (v : Int) (l : List Int) : Int := (l.foldl (fun (p : Int × Int) x => if x = v then (p.1 + 1, if p.2 < p.1 + 1 then p.1 + 1 else p.2) else (0, p.2)) (0, 0)).2
theorem runMax_fst (v : Int) (l : List Int) : (l.foldl (fun (p : Int × Int) x => if x = v then (p.1 + 1, if p.2 < p.1 + 1 then p.1 + 1 else p.2) else (0, p.2)) (0, 0)).1 = runEnd v l := by
  unfold runEnd
  suffices h : ∀ (r : Int) (m : Int), (l.foldl (fun (p : Int × Int) x => if x = v then (p.1 + 1, if p.2 < p.1 + 1 then p.1 + 1 else p.2) else (0, p.2)) (r, m)).1 = l.foldl (fun r x => if x = v then r + 1 else 0) r from h 0 0
  induction l with
  | nil => intro r m; rfl
  | cons x l ih =>
    intro r m
    simp only [List.foldl_cons]
    by_cases hx : x = v
    · simp only [hx, if_true]; exact ih _ _
    · simp only [hx, if_false]; exact ih _ _
theorem runEnd_snoc (v x : Int) (l : List Int) : runEnd v (l ++ [x]) = if x = v then runEnd v l + 1 else 0 := by simp [runEnd, List.foldl_append]
theorem runMax_snoc (v x : Int) (l : List Int) : runMax v (l ++ [x]) = if x = v then (if runMax v l < runEnd v l + 1 then runEnd v l + 1 else runMax v l) else runMax v l := by
  have h := runMax_fst v l
  unfold runMax
  rw [List.foldl_append, List.foldl_cons, List.foldl_nil]
  by_cases hx : x = v
  · simp only [hx, if_true, ← h]
  · simp only [hx, if_false]
theorem run_bounds (v : Int) (n : Nat) (l : List Int) (h : l.length ≤ n) : 0 ≤ runEnd v l ∧ runEnd v l ≤ n ∧ 0 ≤ runMax v l ∧ runMax v l ≤ n := by
  suffices hh : ∀ k, k ≤ l.length → 0 ≤ runEnd v (l.take k) ∧ runEnd v (l.take k) ≤ k ∧ 0 ≤ runMax v (l.take k) ∧ runMax v (l.take k) ≤ k by
    have := hh l.length (Nat.le_refl _)
    rw [List.take_of_length_le (Nat.le_refl _)] at this
    omega
  intro k
  induction k with
  | zero => intro _; simp [runEnd, runMax]
  | succ k ih =>
    intro hk
    have := ih (by omega)
    rw [take_succ' (by omega), runEnd_snoc, runMax_snoc]
    split
    · split <;> omega
    · omega
end Go.Proofs.YtnecdmihnndebaaDoor
