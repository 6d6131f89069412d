/-
  DERIVED. GIVEN WITH THE SEED: THE CARDS: each row of YtkalpjccfknopaaDoorRows.lean that lists a variable, with what it lists TIED to the program's text (the seventh form; the later family's looks); each row that meets fmt, with fmt's text TOLD by the authors' own Lean function (tested against real Go, not proved from fmt's source: count such statements apart). THE CARD IS WHAT COUNTS. Prove the row's statement (the work); the ties are given (YtkalpjccfknopaaDoorTie.lean); close each card by the builder's one call (the guide's Derived/Test/ToyasCard.lean, 'card_holds'). Laid BY PROGRAM, IN A SANDBOX (cutbox-door.mjs). By AI agents, Wed Nov 11 2026. No macro, syntax, notation, axiom, sorry.
-/
import Derived.Test.YtkalpjccfknopaaDoorRows
import GoSem.ClaimSeven
namespace Go.Proofs.YtkalpjccfknopaaDoor
namespace Rows

/-- THE TIED CARD OF 'pointcodelaw03.SumsExtend'. -/
def sumsExtendCard : Claim7 := { stood := { row := sumsExtendRow, standIns := [], harness := (true, "b545c368bd8f56d68cbd1c033307617f6b4c1b9bbc67c64293c800278f42e681"), looks := false }, kinds := [], alts := [], laidByText := true, laidKinds := [.called], laidTests := true, laidLooks := .later }
def SumsExtendCardSaid : Prop := Claim7.holds Tryd.pinned (.plain (OpenSpec.ofChange sumsExtendSpec)) sumsExtendCard

/-- THE TIED CARD OF 'pointcodelaw03.SumsBack'. -/
def sumsBackCard : Claim7 := { stood := { row := sumsBackRow, standIns := [], harness := (true, "b545c368bd8f56d68cbd1c033307617f6b4c1b9bbc67c64293c800278f42e681"), looks := false }, kinds := [], alts := [], laidByText := true, laidKinds := [.called], laidTests := true, laidLooks := .later }
def SumsBackCardSaid : Prop := Claim7.holds Tryd.pinned (.plain (OpenSpec.ofChange sumsBackSpec)) sumsBackCard

/-- THE TIED CARD OF 'pointcodelaw03.SumsCheck'. -/
def sumsCheckCard : Claim7 := { stood := { row := sumsCheckRow, standIns := [], harness := (true, "b545c368bd8f56d68cbd1c033307617f6b4c1b9bbc67c64293c800278f42e681"), looks := false }, kinds := [], alts := [], laidByText := true, laidKinds := [.called], laidTests := true, laidLooks := .later }
def SumsCheckCardSaid : Prop := Claim7.holds Tryd.pinned (.plain (OpenSpec.ofChange sumsCheckSpec)) sumsCheckCard

/-- THE TIED CARD OF 'pointcodelaw03.SumsLinear'. -/
def sumsLinearCard : Claim7 := { stood := { row := sumsLinearRow, standIns := [], harness := (true, "b545c368bd8f56d68cbd1c033307617f6b4c1b9bbc67c64293c800278f42e681"), looks := false }, kinds := [], alts := [], laidByText := true, laidKinds := [.called], laidTests := true, laidLooks := .later }
def SumsLinearCardSaid : Prop := Claim7.holds Tryd.pinned (.plain (OpenSpec.ofChange sumsLinearSpec)) sumsLinearCard

/-- THE TIED CARD OF 'pointcodelaw03.SumsBursts'. -/
def sumsBurstsCard : Claim7 := { stood := { row := sumsBurstsRow, standIns := [], harness := (true, "b545c368bd8f56d68cbd1c033307617f6b4c1b9bbc67c64293c800278f42e681"), looks := false }, kinds := [], alts := [], laidByText := true, laidKinds := [.called], laidTests := true, laidLooks := .later }
def SumsBurstsCardSaid : Prop := Claim7.holds Tryd.pinned (.plain (OpenSpec.ofChange sumsBurstsSpec)) sumsBurstsCard

/-- THE TIED CARD OF 'pointcodelaw03.SumsFew'. -/
def sumsFewCard : Claim7 := { stood := { row := sumsFewRow, standIns := [], harness := (true, "b545c368bd8f56d68cbd1c033307617f6b4c1b9bbc67c64293c800278f42e681"), looks := false }, kinds := [], alts := [], laidByText := true, laidKinds := [.called], laidTests := true, laidLooks := .later }
def SumsFewCardSaid : Prop := Claim7.holds Tryd.pinned (.plain (OpenSpec.ofChange sumsFewSpec)) sumsFewCard

/-- THE SECOND FORM's CARD OF 'pointcodelaw03.SumsExtend'. -/
def sumsExtendUptoCard : Claim7 := { stood := { row := sumsExtendUptoRow, standIns := [], harness := (true, "b545c368bd8f56d68cbd1c033307617f6b4c1b9bbc67c64293c800278f42e681"), looks := false }, kinds := [], alts := [], laidByText := true, laidKinds := [.called], laidTests := true, laidLooks := .later }
def SumsExtendUptoCardSaid : Prop := Claim7.holds Tryd.pinned (.plain (OpenSpec.upto sumsExtendSpec)) sumsExtendUptoCard

/-- THE SECOND FORM's CARD OF 'pointcodelaw03.SumsBack'. -/
def sumsBackUptoCard : Claim7 := { stood := { row := sumsBackUptoRow, standIns := [], harness := (true, "b545c368bd8f56d68cbd1c033307617f6b4c1b9bbc67c64293c800278f42e681"), looks := false }, kinds := [], alts := [], laidByText := true, laidKinds := [.called], laidTests := true, laidLooks := .later }
def SumsBackUptoCardSaid : Prop := Claim7.holds Tryd.pinned (.plain (OpenSpec.upto sumsBackSpec)) sumsBackUptoCard

/-- THE SECOND FORM's CARD OF 'pointcodelaw03.SumsCheck'. -/
def sumsCheckUptoCard : Claim7 := { stood := { row := sumsCheckUptoRow, standIns := [], harness := (true, "b545c368bd8f56d68cbd1c033307617f6b4c1b9bbc67c64293c800278f42e681"), looks := false }, kinds := [], alts := [], laidByText := true, laidKinds := [.called], laidTests := true, laidLooks := .later }
def SumsCheckUptoCardSaid : Prop := Claim7.holds Tryd.pinned (.plain (OpenSpec.upto sumsCheckSpec)) sumsCheckUptoCard

/-- THE SECOND FORM's CARD OF 'pointcodelaw03.SumsLinear'. -/
def sumsLinearUptoCard : Claim7 := { stood := { row := sumsLinearUptoRow, standIns := [], harness := (true, "b545c368bd8f56d68cbd1c033307617f6b4c1b9bbc67c64293c800278f42e681"), looks := false }, kinds := [], alts := [], laidByText := true, laidKinds := [.called], laidTests := true, laidLooks := .later }
def SumsLinearUptoCardSaid : Prop := Claim7.holds Tryd.pinned (.plain (OpenSpec.upto sumsLinearSpec)) sumsLinearUptoCard

/-- THE SECOND FORM's CARD OF 'pointcodelaw03.SumsBursts'. -/
def sumsBurstsUptoCard : Claim7 := { stood := { row := sumsBurstsUptoRow, standIns := [], harness := (true, "b545c368bd8f56d68cbd1c033307617f6b4c1b9bbc67c64293c800278f42e681"), looks := false }, kinds := [], alts := [], laidByText := true, laidKinds := [.called], laidTests := true, laidLooks := .later }
def SumsBurstsUptoCardSaid : Prop := Claim7.holds Tryd.pinned (.plain (OpenSpec.upto sumsBurstsSpec)) sumsBurstsUptoCard

/-- THE SECOND FORM's CARD OF 'pointcodelaw03.SumsFew'. -/
def sumsFewUptoCard : Claim7 := { stood := { row := sumsFewUptoRow, standIns := [], harness := (true, "b545c368bd8f56d68cbd1c033307617f6b4c1b9bbc67c64293c800278f42e681"), looks := false }, kinds := [], alts := [], laidByText := true, laidKinds := [.called], laidTests := true, laidLooks := .later }
def SumsFewUptoCardSaid : Prop := Claim7.holds Tryd.pinned (.plain (OpenSpec.upto sumsFewSpec)) sumsFewUptoCard
end Rows
end Go.Proofs.YtkalpjccfknopaaDoor
