/- What the walks of units share. -/
import Derived.Test.YtkfookiakpnlfaaDoorUnLives
import Derived.Test.YtkfookiakpnlfaaDoorUnOct
namespace Go.Proofs.YtkfookiakpnlfaaDoor
open Go.RowKit

theorem Own.later {w w' : World} {b t : Nat} {cs : List Value} (h : Own w b t cs) (hb : Below w.heap.size w w') : Own w' b t cs := h.below hb h.lt
end Go.Proofs.YtkfookiakpnlfaaDoor
