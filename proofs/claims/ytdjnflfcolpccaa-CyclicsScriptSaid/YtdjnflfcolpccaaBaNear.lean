/- Units as values: their cells. -/
import Derived.Test.YtdjnflfcolpccaaBaMsg
import Derived.Test.YtdjnflfcolpccaaUnMath
import Derived.Deep.RegionHeld3
import Derived.StillTailTactics
import Derived.IntWalk
namespace Go.Proofs.Ytdjnflfcolpccaa
open Go.RowKit

/-- A unit's cells, as it came in. -/
def unCells (u : Un) (s : Option Addr) (n c : Nat) : List Value := [.int .u8 (u.back : Int), .bool u.bb, .int .u8 (u.fore : Int), .bool u.fb, .int .u8 (u.kind : Int), .int .u8 (u.state : Int), .slice s n c]
theorem Own.drewK {w : World} {b t : Nat} {cs : List Value} (h : Own w b t cs) : Own w.drew b t cs := h
abbrev zeroUnit : List Value := [.int .u8 0, .bool false, .int .u8 0, .bool false, .int .u8 0, .int .u8 0, .slice none 0 0]
end Go.Proofs.Ytdjnflfcolpccaa
