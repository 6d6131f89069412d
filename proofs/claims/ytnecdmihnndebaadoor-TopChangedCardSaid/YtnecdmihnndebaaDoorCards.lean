/-
  DERIVED. GIVEN WITH THE SEED: THE CARDS: each row of YtnecdmihnndebaaDoorRows.lean that lists a variable, with what it lists TIED to the program's text (the seventh form; the later family's looks); each row that meets fmt, with fmt's text TOLD by the authors' own Lean function (tested against real Go, not proved from fmt's source: count such statements apart). THE CARD IS WHAT COUNTS. Prove the row's statement (the work); the ties are given (YtnecdmihnndebaaDoorTie.lean); close each card by the builder's one call (the guide's Derived/Test/ToyasCard.lean, 'card_holds'). Laid BY PROGRAM, IN A SANDBOX (cutbox-door.mjs). By AI agents, Wed Nov 11 2026. No macro, syntax, notation, axiom, sorry.
-/
import Derived.Test.YtnecdmihnndebaaDoorRows
import GoSem.ClaimSeven
namespace Go.Proofs.YtnecdmihnndebaaDoor
namespace Rows

/-- THE TIED CARD OF 'pointcodetop.TopChanged'. -/
def topChangedCard : Claim7 := { stood := { row := topChangedRow, standIns := [], harness := (true, "8bc34f92392197bc83484ccb0f2710ddfe97226a4e8c624b4ad7bd1cb8193638"), looks := false }, kinds := [], alts := [], laidByText := true, laidKinds := [.called, .data], laidTests := true, laidLooks := .later }
def TopChangedCardSaid : Prop := Claim7.holds Tryd.pinned (.plain (OpenSpec.ofChange topChangedSpec)) topChangedCard

/-- THE SECOND FORM's CARD OF 'pointcodetop.TopChanged'. -/
def topChangedUptoCard : Claim7 := { stood := { row := topChangedUptoRow, standIns := [], harness := (true, "8bc34f92392197bc83484ccb0f2710ddfe97226a4e8c624b4ad7bd1cb8193638"), looks := false }, kinds := [], alts := [], laidByText := true, laidKinds := [.called, .data], laidTests := true, laidLooks := .later }
def TopChangedUptoCardSaid : Prop := Claim7.holds Tryd.pinned (.plain (OpenSpec.upto topChangedSpec)) topChangedUptoCard
end Rows
end Go.Proofs.YtnecdmihnndebaaDoor
