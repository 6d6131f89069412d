/-
  DERIVED. GIVEN WITH THE SEED: THE CARDS: each row of YtpcjhmddcfiemaaDoorRows.lean that lists a variable, with what it lists TIED to the program's text (the seventh form; the later family's looks); each row that meets fmt, with fmt's text TOLD by the authors' own Lean function (tested against real Go, not proved from fmt's source: count such statements apart). THE CARD IS WHAT COUNTS. Prove the row's statement (the work); the ties are given (YtpcjhmddcfiemaaDoorTie.lean); close each card by the builder's one call (the guide's Derived/Test/ToyasCard.lean, 'card_holds'). Laid BY PROGRAM, IN A SANDBOX (cutbox-door.mjs). By AI agents, Wed Nov 11 2026. No macro, syntax, notation, axiom, sorry.
-/
import Derived.Test.YtpcjhmddcfiemaaDoorRows
import GoSem.ClaimSeven
namespace Go.Proofs.YtpcjhmddcfiemaaDoor
namespace Rows

/-- THE TIED CARD OF 'pointcodelaw02.FramesStuff'. -/
def framesStuffCard : Claim7 := { stood := { row := framesStuffRow, standIns := [], harness := (true, "5891262736cef0a6de29daac5b0afc4afb2d897a00697d90f0edba3c92bb7b2b"), looks := false }, kinds := [], alts := [], laidByText := true, laidKinds := [.data], laidTests := true, laidLooks := .later }
def FramesStuffCardSaid : Prop := Claim7.holds Tryd.pinned (.plain (OpenSpec.ofChange framesStuffSpec)) framesStuffCard

/-- THE TIED CARD OF 'pointcodelaw02.FramesJoin'. -/
def framesJoinCard : Claim7 := { stood := { row := framesJoinRow, standIns := [], harness := (true, "5891262736cef0a6de29daac5b0afc4afb2d897a00697d90f0edba3c92bb7b2b"), looks := false }, kinds := [], alts := [], laidByText := true, laidKinds := [.data], laidTests := true, laidLooks := .later }
def FramesJoinCardSaid : Prop := Claim7.holds Tryd.pinned (.plain (OpenSpec.ofChange framesJoinSpec)) framesJoinCard

/-- THE TIED CARD OF 'pointcodelaw02.FramesScan'. -/
def framesScanCard : Claim7 := { stood := { row := framesScanRow, standIns := [], harness := (true, "5891262736cef0a6de29daac5b0afc4afb2d897a00697d90f0edba3c92bb7b2b"), looks := false }, kinds := [], alts := [], laidByText := true, laidKinds := [.data], laidTests := true, laidLooks := .later }
def FramesScanCardSaid : Prop := Claim7.holds Tryd.pinned (.plain (OpenSpec.ofChange framesScanSpec)) framesScanCard

/-- THE TIED CARD OF 'pointcodelaw02.FramesBack'. -/
def framesBackCard : Claim7 := { stood := { row := framesBackRow, standIns := [], harness := (true, "5891262736cef0a6de29daac5b0afc4afb2d897a00697d90f0edba3c92bb7b2b"), looks := false }, kinds := [], alts := [], laidByText := true, laidKinds := [.data], laidTests := true, laidLooks := .later }
def FramesBackCardSaid : Prop := Claim7.holds Tryd.pinned (.plain (OpenSpec.ofChange framesBackSpec)) framesBackCard

/-- THE TIED CARD OF 'pointcodelaw02.FramesSpoiled'. -/
def framesSpoiledCard : Claim7 := { stood := { row := framesSpoiledRow, standIns := [], harness := (true, "5891262736cef0a6de29daac5b0afc4afb2d897a00697d90f0edba3c92bb7b2b"), looks := false }, kinds := [], alts := [], laidByText := true, laidKinds := [.data], laidTests := true, laidLooks := .later }
def FramesSpoiledCardSaid : Prop := Claim7.holds Tryd.pinned (.plain (OpenSpec.ofChange framesSpoiledSpec)) framesSpoiledCard

/-- THE TIED CARD OF 'pointcodelaw02.FramesErrors'. -/
def framesErrorsCard : Claim7 := { stood := { row := framesErrorsRow, standIns := [], harness := (true, "5891262736cef0a6de29daac5b0afc4afb2d897a00697d90f0edba3c92bb7b2b"), looks := false }, kinds := [], alts := [], laidByText := true, laidKinds := [.data], laidTests := true, laidLooks := .later }
def FramesErrorsCardSaid : Prop := Claim7.holds Tryd.pinned (.plain (OpenSpec.ofChange framesErrorsSpec)) framesErrorsCard

/-- THE TIED CARD OF 'pointcodelaw02.FramesLong'. -/
def framesLongCard : Claim7 := { stood := { row := framesLongRow, standIns := [], harness := (true, "5891262736cef0a6de29daac5b0afc4afb2d897a00697d90f0edba3c92bb7b2b"), looks := false }, kinds := [], alts := [], laidByText := true, laidKinds := [.data], laidTests := true, laidLooks := .later }
def FramesLongCardSaid : Prop := Claim7.holds Tryd.pinned (.plain (OpenSpec.ofChange framesLongSpec)) framesLongCard

/-- THE SECOND FORM's CARD OF 'pointcodelaw02.FramesStuff'. -/
def framesStuffUptoCard : Claim7 := { stood := { row := framesStuffUptoRow, standIns := [], harness := (true, "5891262736cef0a6de29daac5b0afc4afb2d897a00697d90f0edba3c92bb7b2b"), looks := false }, kinds := [], alts := [], laidByText := true, laidKinds := [.data], laidTests := true, laidLooks := .later }
def FramesStuffUptoCardSaid : Prop := Claim7.holds Tryd.pinned (.plain (OpenSpec.upto framesStuffSpec)) framesStuffUptoCard

/-- THE SECOND FORM's CARD OF 'pointcodelaw02.FramesJoin'. -/
def framesJoinUptoCard : Claim7 := { stood := { row := framesJoinUptoRow, standIns := [], harness := (true, "5891262736cef0a6de29daac5b0afc4afb2d897a00697d90f0edba3c92bb7b2b"), looks := false }, kinds := [], alts := [], laidByText := true, laidKinds := [.data], laidTests := true, laidLooks := .later }
def FramesJoinUptoCardSaid : Prop := Claim7.holds Tryd.pinned (.plain (OpenSpec.upto framesJoinSpec)) framesJoinUptoCard

/-- THE SECOND FORM's CARD OF 'pointcodelaw02.FramesScan'. -/
def framesScanUptoCard : Claim7 := { stood := { row := framesScanUptoRow, standIns := [], harness := (true, "5891262736cef0a6de29daac5b0afc4afb2d897a00697d90f0edba3c92bb7b2b"), looks := false }, kinds := [], alts := [], laidByText := true, laidKinds := [.data], laidTests := true, laidLooks := .later }
def FramesScanUptoCardSaid : Prop := Claim7.holds Tryd.pinned (.plain (OpenSpec.upto framesScanSpec)) framesScanUptoCard

/-- THE SECOND FORM's CARD OF 'pointcodelaw02.FramesBack'. -/
def framesBackUptoCard : Claim7 := { stood := { row := framesBackUptoRow, standIns := [], harness := (true, "5891262736cef0a6de29daac5b0afc4afb2d897a00697d90f0edba3c92bb7b2b"), looks := false }, kinds := [], alts := [], laidByText := true, laidKinds := [.data], laidTests := true, laidLooks := .later }
def FramesBackUptoCardSaid : Prop := Claim7.holds Tryd.pinned (.plain (OpenSpec.upto framesBackSpec)) framesBackUptoCard

/-- THE SECOND FORM's CARD OF 'pointcodelaw02.FramesSpoiled'. -/
def framesSpoiledUptoCard : Claim7 := { stood := { row := framesSpoiledUptoRow, standIns := [], harness := (true, "5891262736cef0a6de29daac5b0afc4afb2d897a00697d90f0edba3c92bb7b2b"), looks := false }, kinds := [], alts := [], laidByText := true, laidKinds := [.data], laidTests := true, laidLooks := .later }
def FramesSpoiledUptoCardSaid : Prop := Claim7.holds Tryd.pinned (.plain (OpenSpec.upto framesSpoiledSpec)) framesSpoiledUptoCard

/-- THE SECOND FORM's CARD OF 'pointcodelaw02.FramesErrors'. -/
def framesErrorsUptoCard : Claim7 := { stood := { row := framesErrorsUptoRow, standIns := [], harness := (true, "5891262736cef0a6de29daac5b0afc4afb2d897a00697d90f0edba3c92bb7b2b"), looks := false }, kinds := [], alts := [], laidByText := true, laidKinds := [.data], laidTests := true, laidLooks := .later }
def FramesErrorsUptoCardSaid : Prop := Claim7.holds Tryd.pinned (.plain (OpenSpec.upto framesErrorsSpec)) framesErrorsUptoCard

/-- THE SECOND FORM's CARD OF 'pointcodelaw02.FramesLong'. -/
def framesLongUptoCard : Claim7 := { stood := { row := framesLongUptoRow, standIns := [], harness := (true, "5891262736cef0a6de29daac5b0afc4afb2d897a00697d90f0edba3c92bb7b2b"), looks := false }, kinds := [], alts := [], laidByText := true, laidKinds := [.data], laidTests := true, laidLooks := .later }
def FramesLongUptoCardSaid : Prop := Claim7.holds Tryd.pinned (.plain (OpenSpec.upto framesLongSpec)) framesLongUptoCard
end Rows
end Go.Proofs.YtpcjhmddcfiemaaDoor
