/- A block of one struct: a store of one cell, of all cells; blocks laid anew. -/
import Derived.Test.YtnkpmjkbkdnfjaaUnBase
import Derived.Deep.MidRow
import Derived.Deep.CutBlock
import Derived.WalkSpells
import Derived.Deep.LoopGhost
import Derived.Deep.Draws
namespace Go.Proofs.Ytnkpmjkbkdnfjaa
open Go.RowKit

namespace Blk
theorem exc (b j : Nat) (v : Value) (w : World) : Exc (fun k => k = b) w (w.setCell ⟨b, j, none⟩ v) := Exc.setCell (S := fun k => k = b) (Exc.refl _ w) ⟨b, j, none⟩ (.inl rfl) v
theorem more {b : Nat} {a w : World} (h : Exc (fun k => k = b) a w) (j : Nat) (v : Value) : Exc (fun k => k = b) a (w.setCell ⟨b, j, none⟩ v) := Exc.setCell (S := fun k => k = b) h ⟨b, j, none⟩ (.inl rfl) v
theorem fresh (w : World) (t : Nat) (cs : Array Value) (l : List Value) (h : cs = l.toArray) : Own (w.alloc (.cells cs t)) w.heap.size t l := by subst h; exact heap_alloc_new w _
theorem drawn {w : World} {b t : Nat} {cs : List Value} (h : Own w b t cs) (q : Nat) : Own (w.drewN q) b t cs := h.below (below_draw w q) h.lt
/-- A list with the values put in from o on. -/
def put (cs : List Value) : Nat → List Value → List Value
  | _, [] => cs
  | o, v :: r => put (cs.set o v) (o + 1) r
theorem own_put {b t : Nat} : ∀ (vs : List Value) (o : Nat) (cs : List Value) (w : World), Own w b t cs → Own (w.setCells b o vs) b t (put cs o vs)
  | [], _, _, _, h => h
  | v :: r, o, _, _, h => own_put r (o + 1) _ _ (h.set o v)
theorem exc_put {b : Nat} {a : World} : ∀ (vs : List Value) (o : Nat) (w : World), Exc (fun k => k = b) a w → Exc (fun k => k = b) a (w.setCells b o vs)
  | [], _, _, h => h
  | v :: r, o, _, h => exc_put r (o + 1) _ (Exc.setCell (S := fun k => k = b) h ⟨b, o, none⟩ (.inl rfl) v)
theorem there {w : World} {b t : Nat} {cs : List Value} (h : Own w b t cs) : w.there b 0 cs.length := fun j hj => by
  rw [Nat.zero_add]
  exact ⟨by rw [h.cell j hj]; rfl, h.frozen j⟩
end Blk
end Go.Proofs.Ytnkpmjkbkdnfjaa
