/-
  DERIVED. GIVEN WITH THE SEED: THE CARDS: each row of YthlckipcgogogaaGreatDoorRows.lean that lists a variable, with what it lists TIED to the program's text (the seventh form; the later family's looks); each row that meets fmt, with fmt's text TOLD by the authors' own Lean function (tested against real Go, not proved from fmt's source: count such statements apart). THE CARD IS WHAT COUNTS. Prove the row's statement (the work); the ties are given (YthlckipcgogogaaGreatDoorTie.lean); close each card by the builder's one call (the guide's Derived/Test/ToyasCard.lean, 'card_holds'). Laid BY PROGRAM, IN A SANDBOX (cutbox-door.mjs). By AI agents, Wed Nov 11 2026. No macro, syntax, notation, axiom, sorry.
-/
import Derived.Test.YthlckipcgogogaaGreatDoorRows
import GoSem.ClaimSeven
namespace Go.Proofs.YthlckipcgogogaaGreatDoor
namespace Rows

/-- THE TIED CARD OF 'pointcodelaw13.PlansText'. -/
def plansTextCard : Claim7 := { stood := { row := plansTextRow, standIns := [], harness := (true, "33f3e8bac31292b40ce9291af8d5cdbe37e6174a3e6edb03a383994311a92684"), looks := false }, kinds := [], alts := [], laidByText := true, laidKinds := [.data, .data, .data, .data, .pinned], laidTests := true, laidLooks := .later }
def PlansTextCardSaid : Prop := Claim7.holds Tryz.pinned (.plain (OpenSpec.ofChange plansTextSpec)) plansTextCard

/-- THE TIED CARD OF 'pointcodelaw13.PlansFaults'. -/
def plansFaultsCard : Claim7 := { stood := { row := plansFaultsRow, standIns := [], harness := (true, "33f3e8bac31292b40ce9291af8d5cdbe37e6174a3e6edb03a383994311a92684"), looks := false }, kinds := [], alts := [], laidByText := true, laidKinds := [.data, .data, .data, .data, .pinned], laidTests := true, laidLooks := .later }
def PlansFaultsCardSaid : Prop := Claim7.holds Tryz.pinned (.plain (OpenSpec.ofChange plansFaultsSpec)) plansFaultsCard

/-- THE TIED CARD OF 'pointcodelaw13.PlansErrors'. -/
def plansErrorsCard : Claim7 := { stood := { row := plansErrorsRow, standIns := [], harness := (true, "33f3e8bac31292b40ce9291af8d5cdbe37e6174a3e6edb03a383994311a92684"), looks := false }, kinds := [], alts := [], laidByText := true, laidKinds := [.data, .data, .data], laidTests := true, laidLooks := .later }
def PlansErrorsCardSaid : Prop := Claim7.holds Tryz.pinned (.plain (OpenSpec.ofChange plansErrorsSpec)) plansErrorsCard

/-- THE SECOND FORM's CARD OF 'pointcodelaw13.PlansText'. -/
def plansTextUptoCard : Claim7 := { stood := { row := plansTextUptoRow, standIns := [], harness := (true, "33f3e8bac31292b40ce9291af8d5cdbe37e6174a3e6edb03a383994311a92684"), looks := false }, kinds := [], alts := [], laidByText := true, laidKinds := [.data, .data, .data, .data, .pinned], laidTests := true, laidLooks := .later }
def PlansTextUptoCardSaid : Prop := Claim7.holds Tryz.pinned (.plain (OpenSpec.upto plansTextSpec)) plansTextUptoCard

/-- THE SECOND FORM's CARD OF 'pointcodelaw13.PlansFaults'. -/
def plansFaultsUptoCard : Claim7 := { stood := { row := plansFaultsUptoRow, standIns := [], harness := (true, "33f3e8bac31292b40ce9291af8d5cdbe37e6174a3e6edb03a383994311a92684"), looks := false }, kinds := [], alts := [], laidByText := true, laidKinds := [.data, .data, .data, .data, .pinned], laidTests := true, laidLooks := .later }
def PlansFaultsUptoCardSaid : Prop := Claim7.holds Tryz.pinned (.plain (OpenSpec.upto plansFaultsSpec)) plansFaultsUptoCard

/-- THE SECOND FORM's CARD OF 'pointcodelaw13.PlansErrors'. -/
def plansErrorsUptoCard : Claim7 := { stood := { row := plansErrorsUptoRow, standIns := [], harness := (true, "33f3e8bac31292b40ce9291af8d5cdbe37e6174a3e6edb03a383994311a92684"), looks := false }, kinds := [], alts := [], laidByText := true, laidKinds := [.data, .data, .data], laidTests := true, laidLooks := .later }
def PlansErrorsUptoCardSaid : Prop := Claim7.holds Tryz.pinned (.plain (OpenSpec.upto plansErrorsSpec)) plansErrorsUptoCard
end Rows
end Go.Proofs.YthlckipcgogogaaGreatDoor
