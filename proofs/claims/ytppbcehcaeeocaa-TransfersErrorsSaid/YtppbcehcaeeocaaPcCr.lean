/- The cells of choices; slices that read as choices. -/
import Derived.Test.YtppbcehcaeeocaaAggRow
namespace Go.Proofs.Ytppbcehcaeeocaa
open Go.RowKit

def encC (x : Int × Int) : List Value := [.int .u16 x.1, .int .i64 x.2]
/-- The cells of choices. -/
def cellsC (X : List (Int × Int)) : List Value := X.flatMap encC
theorem cellsC_length (X : List (Int × Int)) : (cellsC X).length = X.length * 2 := by
  induction X with
  | nil => rfl
  | cons x X ih => simp only [cellsC, List.flatMap_cons, List.length_append, encC, List.length_cons, List.length_nil] at *; omega
theorem cellsC_getD (X : List (Int × Int)) {i : Nat} (hi : i < X.length) : (cellsC X).getD (i * 2) undef = .int .u16 (X.getD i (0, 0)).1 ∧ (cellsC X).getD (i * 2 + 1) undef = .int .i64 (X.getD i (0, 0)).2 := by
  induction X generalizing i with
  | nil => cases hi
  | cons x X ih =>
    cases i with
    | zero => simp [cellsC, encC]
    | succ i =>
      have h := ih (i := i) (by simpa using hi)
      have e : cellsC (x :: X) = .int .u16 x.1 :: .int .i64 x.2 :: cellsC X := rfl
      rw [e, show (i + 1) * 2 = i * 2 + 1 + 1 by omega]
      simp only [List.getD_cons_succ]
      exact h
/-- A slice value reads in w as the choices X. -/
structure CRow (w : World) (a : Option Addr) (n c : Nat) (X : List (Int × Int)) : Prop where
  len : X.length = n
  le : n ≤ c
  max : c ≤ maxLen
  cells : n = 0 ∨ ∃ b off, a = some ⟨b, off, none⟩ ∧ ∀ i, i < n → w.cell? ⟨b, off + i * 2, none⟩ = some (.int .u16 (X.getD i (0, 0)).1) ∧ w.cell? ⟨b, off + i * 2 + 1, none⟩ = some (.int .i64 (X.getD i (0, 0)).2)
theorem CRow.exc {S : Nat → Prop} {w w' : World} {a : Option Addr} {n c : Nat} {X : List (Int × Int)} (h : CRow w a n c X) (hx : Exc S w w') (hn : ∀ x, a = some x → ¬ S x.block) : CRow w' a n c X := by
  refine ⟨h.len, h.le, h.max, ?_⟩
  rcases h.cells with h0 | ⟨b, off, ha, hc⟩
  · exact .inl h0
  · have hb : ¬ S b := hn _ ha
    exact .inr ⟨b, off, ha, fun i hi => ⟨hx.cell (hc i hi).1 hb, hx.cell (hc i hi).2 hb⟩⟩
theorem CRow.later {w w' : World} {a : Option Addr} {n c : Nat} {X : List (Int × Int)} (h : CRow w a n c X) (hb : Below w.heap.size w w') : CRow w' a n c X :=
  h.exc (S := fun _ => False) (Exc.of_below hb) (fun _ _ h => h)
end Go.Proofs.Ytppbcehcaeeocaa
