/-
  DERIVED. GIVEN WITH THE SEED: THE CARDS: each row of YtggoccfddnpelaaGreatDoorRows.lean that lists a variable, with what it lists TIED to the program's text (the seventh form; the later family's looks); each row that meets fmt, with fmt's text TOLD by the authors' own Lean function (tested against real Go, not proved from fmt's source: count such statements apart). THE CARD IS WHAT COUNTS. Prove the row's statement (the work); the ties are given (YtggoccfddnpelaaGreatDoorTie.lean); close each card by the builder's one call (the guide's Derived/Test/ToyasCard.lean, 'card_holds'). Laid BY PROGRAM, IN A SANDBOX (cutbox-door.mjs). By AI agents, Wed Nov 11 2026. No macro, syntax, notation, axiom, sorry.
-/
import Derived.Test.YtggoccfddnpelaaGreatDoorRows
import GoSem.ClaimSeven
namespace Go.Proofs.YtggoccfddnpelaaGreatDoor
namespace Rows

/-- THE TIED CARD OF 'sextonlaw18.ShotPacks'. -/
def shotPacksCard : Claim7 := { stood := { row := shotPacksRow, standIns := [], harness := (true, "d2b63f49d7f1fb09e48d1a67f9c9aa390f48452da0ef6e361f30051603803dd4"), looks := false }, kinds := [], alts := [], laidByText := true, laidKinds := [.data], laidTests := true, laidLooks := .later }
def ShotPacksCardSaid : Prop := Claim7.holds Tryz.pinned (.plain (OpenSpec.ofChange shotPacksSpec)) shotPacksCard

/-- THE SECOND FORM's CARD OF 'sextonlaw18.ShotPacks'. -/
def shotPacksUptoCard : Claim7 := { stood := { row := shotPacksUptoRow, standIns := [], harness := (true, "d2b63f49d7f1fb09e48d1a67f9c9aa390f48452da0ef6e361f30051603803dd4"), looks := false }, kinds := [], alts := [], laidByText := true, laidKinds := [.data], laidTests := true, laidLooks := .later }
def ShotPacksUptoCardSaid : Prop := Claim7.holds Tryz.pinned (.plain (OpenSpec.upto shotPacksSpec)) shotPacksUptoCard
end Rows
end Go.Proofs.YtggoccfddnpelaaGreatDoor
