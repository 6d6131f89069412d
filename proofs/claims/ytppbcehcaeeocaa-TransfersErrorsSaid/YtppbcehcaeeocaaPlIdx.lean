/- The statements' own functions index and lines. -/
import Derived.Test.YtppbcehcaeeocaaPlAt
import Derived.StillTailTactics
namespace Go.Proofs.Ytppbcehcaeeocaa
open Go.RowKit

def planCells (a : Option Addr) (n c : Nat) (a' : Option Addr) (n' c' : Nat) (p : Pn) : List Value := [.slice a n c, .slice a' n' c', .int .i64 p.rate, .int .i64 p.room, .int .i64 p.m0, .int .i64 p.m1, .int .i64 p.m2]
theorem own_alloc (w : World) (cs : List Value) (t : Nat) : Own (w.alloc (.cells cs.toArray t)) w.heap.size t cs := heap_alloc_new w _
/-- The boxed plan: its two slices. -/
theorem boxed {a : Option Addr} {n c : Nat} {a' : Option Addr} {n' c' : Nat} {p : Pn} {w W : World} {t : Nat} (hW : W = w.alloc (.cells (planCells a n c a' n' c' p).toArray t)) :
    W.cell? ⟨w.heap.size, 0, none⟩ = some (.slice a n c) ∧ W.cell? ⟨w.heap.size, 1, none⟩ = some (.slice a' n' c') ∧ W.cell? ⟨w.heap.size, 2, none⟩ = some (.int .i64 p.rate) ∧ W.cell? ⟨w.heap.size, 3, none⟩ = some (.int .i64 p.room) ∧ W.cell? ⟨w.heap.size, 4, none⟩ = some (.int .i64 p.m0) ∧ W.cell? ⟨w.heap.size, 5, none⟩ = some (.int .i64 p.m1) ∧ W.cell? ⟨w.heap.size, 6, none⟩ = some (.int .i64 p.m2) ∧ Below w.heap.size w W := by
  have h := own_alloc w (planCells a n c a' n' c' p) t
  rw [← hW] at h
  refine ⟨h.cell 0 (by simp [planCells]), h.cell 1 (by simp [planCells]), h.cell 2 (by simp [planCells]), h.cell 3 (by simp [planCells]), h.cell 4 (by simp [planCells]), h.cell 5 (by simp [planCells]), h.cell 6 (by simp [planCells]), ?_⟩
  rw [hW]; exact below_alloc _ _
theorem joins_one {A B C D x y : Int} {l : Ln} {r : Bool} (h : l = ⟨A, B, C, D⟩) (hr : joins ⟨A, B, C, D⟩ x y = r) : joins l x y = r := by rw [h]; exact hr
theorem near_t {L : List Ln} {x y : Int} {k N : Nat} (hs : nearN (L.take (k + 1)) x y = nearN (L.take k) x y + (if joins (lnAt L k) x y = true then 1 else 0)) (hj : joins (lnAt L k) x y = true) (hn : N = nearN (L.take k) x y) : Value.int .i64 ((N : Int) + 1) = Value.int .i64 (nearN (L.take (k + 1)) x y) := by
  rw [hs, if_pos hj, ← hn]; congr 1
theorem near_f {L : List Ln} {x y : Int} {k N : Nat} (hs : nearN (L.take (k + 1)) x y = nearN (L.take k) x y + (if joins (lnAt L k) x y = true then 1 else 0)) (hj : joins (lnAt L k) x y = false) (hn : N = nearN (L.take k) x y) : Value.int .i64 (N : Int) = Value.int .i64 (nearN (L.take (k + 1)) x y) := by
  rw [hs, if_neg (by rw [hj]; exact Bool.false_ne_true), ← hn]; rfl
end Go.Proofs.Ytppbcehcaeeocaa
