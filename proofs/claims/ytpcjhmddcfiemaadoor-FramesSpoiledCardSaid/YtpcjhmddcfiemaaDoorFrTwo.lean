/- Two rows of a slice of rows: read, and laid anew as a literal. -/
import Derived.Test.YtpcjhmddcfiemaaDoorFrStep
import Derived.Test.YtpcjhmddcfiemaaDoorFrCut
namespace Go.Proofs.YtpcjhmddcfiemaaDoor
open Go.RowKit

theorem mat_at {w : World} {P : Nat → Prop} {b o n c : Nat} {L : List (List Int)} (h : Mat w P true (some ⟨b, o, none⟩) n c L) (i : Nat) (hi : i < n) :
    ∃ x m, (L.getD i []).length = m ∧ w.cell? ⟨b, o + i, none⟩ = some (.slice x m m) ∧ RowV w P true (.slice x m m) (L.getD i []) := by
  rcases h.cells with h0 | ⟨b', o', ha, _, hc⟩
  · omega
  · simp at ha
    obtain ⟨rfl, rfl⟩ := ha
    obtain ⟨v, hv, hr⟩ := hc i hi
    obtain ⟨a, c', rfl, hrow, hT, hp⟩ := hr
    have hcc := hT rfl
    rw [hcc] at hrow hv
    exact ⟨a, _, rfl, hv, a, _, rfl, hrow, fun _ => rfl, hp⟩
theorem mat_two {w : World} {P : Nat → Prop} {T : Bool} {v0 v1 : Value} {l0 l1 : List Int} (h0 : RowV w P T v0 l0) (h1 : RowV w P T v1 l1) :
    Mat (w.alloc (.cells #[v0, v1] 22)) (fun j => P j ∨ j = w.heap.size) T (some ⟨w.heap.size, 0, none⟩) 2 2 [l0, l1] := by
  refine ⟨rfl, Nat.le_refl _, by unfold maxLen; omega, .inr ⟨_, 0, rfl, .inr rfl, fun i hi => ?_⟩, by simp⟩
  have ho : Own (w.alloc (.cells #[v0, v1] 22)) w.heap.size 22 [v0, v1] := heap_alloc_new w _
  rcases (by omega : i = 0 ∨ i = 1) with rfl | rfl
  · exact ⟨v0, ho.cell 0 (by simp), (h0.later (below_alloc w _)).mono (fun j _ hj => .inl hj) (.inr fun j hj => .inl hj)⟩
  · exact ⟨v1, ho.cell 1 (by simp), (h1.later (below_alloc w _)).mono (fun j _ hj => .inl hj) (.inr fun j hj => .inl hj)⟩
theorem ownsRow_rowAt {w : World} {B e n : Nat} {v : Value} {l : List Int} (h : w.ownsRow B e 1 v n (nums .u8 l)) (hw : ∀ x ∈ l, (Lit.int .u8 x).wf = true) :
    ∃ a c, v = .slice a n c ∧ Row .u8 w a n c l ∧ ∀ x, a = some x → B ≤ x.block := by
  obtain ⟨a, c, rfl, hr, _⟩ := ownsRow_rowN .u8 h hw
  exact ⟨a, c, rfl, hr, fun x hx => (World.ownsRow.lt h x.block (by rw [hx]; rfl)).1⟩
/-- The scanner finds what stands in front of other bits and what stands behind them. -/
theorem feed_spoiled (A B : List (List Int)) (T : List Int) (hA : ∀ b ∈ A, okC b) (hB : ∀ b ∈ B, okC b) :
    ∃ y X, feed Sc.zero (joinL A ++ T ++ joinL B) = (y, A ++ X ++ B) := by
  obtain ⟨e, X, hf, _⟩ := feed_joinL_any (feed ⟨true, 0, [], 0⟩ T).1 B hB
  refine ⟨⟨true, 0, [], e⟩, (feed ⟨true, 0, [], 0⟩ T).2 ++ X, ?_⟩
  rw [feed_append, feed_append, feed_joinL A hA]
  simp only
  rw [hf]
  simp [List.append_assoc]
end Go.Proofs.YtpcjhmddcfiemaaDoor
