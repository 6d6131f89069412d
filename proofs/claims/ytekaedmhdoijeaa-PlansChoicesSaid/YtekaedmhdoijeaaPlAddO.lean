/- What the closure of N.Of leaves behind. -/
import Derived.Test.YtekaedmhdoijeaaPlAt
import Derived.Test.YtekaedmhdoijeaaAggApp
namespace Go.Proofs.Ytekaedmhdoijeaa
open Go.RowKit

theorem prow_wf {w : World} {a : Option Addr} {n c : Nat} {P : List (Int × Bool)} (h : PRow w a n c P) {i : Nat} (hi : i < n) : 0 ≤ pc P i ∧ pc P i ≤ 65535 := by
  have hl := h.len
  have e : pc P i = (P[i]'(by omega)).1 := by simp [pc, List.getD_eq_getElem?_getD, show i < P.length by omega]
  rw [e]
  exact h.wf _ (List.getElem_mem _)
theorem pair_one {A B C D x y : Int} {l : Ln} {r : Bool} (h : l = ⟨A, B, C, D⟩) (hr : pairB x y ⟨A, B, C, D⟩ = r) : pairB x y l = r := by rw [h]; exact hr
theorem atK_one {L : List Ln} {A B C D x y : Int} {k : Nat} {r : Bool} (h : lnAt L k = ⟨A, B, C, D⟩) (hr : le2 x y ⟨A, B, C, D⟩ = r) : atK L x y (k + 1) = if r then k + 1 else atK L x y k := by
  show (if le2 x y (lnAt L k) then k + 1 else atK L x y k) = _
  rw [h, hr]
theorem own_drew {w : World} {B e k n : Nat} {v : Value} {xs : List Value} (h : w.ownsRow B e k v n xs) : w.drew.ownsRow B e k v n xs := ownsK_below h (below_draw w 1)
theorem lrow_at {w : World} {b off n c : Nat} {L : List Ln} (h : LRow w (some ⟨b, off, none⟩) n c L) (hn : 0 < n) : ∀ i, i < n → w.cell? ⟨b, off + i * 4, none⟩ = some (.int .u16 (lnAt L i).A) ∧ w.cell? ⟨b, off + i * 4 + 1, none⟩ = some (.int .u16 (lnAt L i).B) ∧ w.cell? ⟨b, off + i * 4 + 2, none⟩ = some (.int .u8 (lnAt L i).C) ∧ w.cell? ⟨b, off + i * 4 + 3, none⟩ = some (.int .i64 (lnAt L i).D) := by
  obtain ⟨b', o', ha, hc⟩ := h.cells.resolve_left (by omega)
  cases ha
  exact hc
theorem owns_lit (W : World) (l : Ln) {B : Nat} (hB : B ≤ W.heap.size) : (W.alloc (.cells #[.int .u16 l.A, .int .u16 l.B, .int .u8 l.C, .int .i64 l.D] 68)).ownsRow B 68 4 (.slice (some ⟨W.heap.size, 0, none⟩) 1 1) 1 (cellsL [l]) :=
  ⟨rfl, .inr ⟨W.heap.size, 1, _, rfl, hB, heap_alloc_new W _, Nat.le_refl _, by unfold maxLen; decide, rfl, rfl⟩⟩
/-- The block pb of the plan holds the lines with the new one; nothing else changed. -/
def AddOut (P : List (Int × Bool)) (L : List Ln) (a b d : Nat) (aP : Option Addr) (n c m pb : Nat) (rs : List Value) (w : World) (e : Ending) (w' : World) : Prop :=
  e = .returned (.tuple #[]) ∧ ∃ aL c', Own w' pb 26 (.slice aP n c :: .slice aL (m + 1) c' :: rs) ∧ LRow w' aL (m + 1) c' (putN P L a b d) ∧ (∀ z, aL = some z → w.heap.size ≤ z.block) ∧ Exc (fun k => k = pb) w w'
end Go.Proofs.Ytekaedmhdoijeaa
