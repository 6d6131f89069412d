/- Statements of layer 9: what an act of the model leaves. -/
import Derived.Test.YtgfiikbecapodaaAlModel
import Derived.StillTailTactics
import Derived.Deep.CutBlock
namespace Go.Proofs.Ytgfiikbecapodaa
open Go.RowKit

/-- What an act of the model leaves. -/
def MNext (w : World) (m : Nat) (x' : Al) (w' : World) : Prop := Md w' m x' ∧ Exc (fun k => k = m) w w'
theorem MNext.same {w : World} {m : Nat} {x : Al} (h : Md w m x) : MNext w m x w := ⟨h, Exc.refl _ _⟩
theorem exm {m : Nat} {w a : World} (k : Nat) (v : Value) (h : Exc (fun k => k = m) w a) : Exc (fun k => k = m) w (a.setCell ⟨m, k, none⟩ v) := Exc.setCell (S := fun k => k = m) h ⟨m, k, none⟩ (.inl rfl) v
end Go.Proofs.Ytgfiikbecapodaa
