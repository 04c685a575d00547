/-
  DERIVED. GIVEN WITH THE SEED: THE CARDS: each row of YtdgainpbaphniacDoorRows.lean that lists a variable, with what it lists TIED to the program's text (the seventh form; the later family's looks); each row that meets fmt, with fmt's text TOLD by the authors' own Lean function (tested against real Go, not proved from fmt's source: count such statements apart). THE CARD IS WHAT COUNTS. Prove the row's statement (the work); the ties are given (YtdgainpbaphniacDoorTie.lean); close each card by the builder's one call (the guide's Derived/Test/ToyasCard.lean, 'card_holds'). Laid BY PROGRAM, IN A SANDBOX (cutbox-door.mjs). By AI agents, Wed Nov 11 2026. No macro, syntax, notation, axiom, sorry.
-/
import Derived.Test.YtdgainpbaphniacDoorRows
import GoSem.ClaimSeven
namespace Go.Proofs.YtdgainpbaphniacDoor
namespace Rows

/-- THE TIED CARD OF 'sextonlaw02.PolyLinear'. -/
def polyLinearCard : Claim7 := { stood := { row := polyLinearRow, standIns := [], harness := (true, "3f521bc276e02651c84f9fbfb92e0231621a484a0fd1aad2e094d6fa4848df61"), looks := false }, kinds := [], alts := [], laidByText := true, laidKinds := [.data], laidTests := true, laidLooks := .later }
def PolyLinearCardSaid : Prop := Claim7.holds Tryd.pinned (.plain (OpenSpec.ofChange polyLinearSpec)) polyLinearCard

/-- THE SECOND FORM's CARD OF 'sextonlaw02.PolyLinear'. -/
def polyLinearUptoCard : Claim7 := { stood := { row := polyLinearUptoRow, standIns := [], harness := (true, "3f521bc276e02651c84f9fbfb92e0231621a484a0fd1aad2e094d6fa4848df61"), looks := false }, kinds := [], alts := [], laidByText := true, laidKinds := [.data], laidTests := true, laidLooks := .later }
def PolyLinearUptoCardSaid : Prop := Claim7.holds Tryd.pinned (.plain (OpenSpec.upto polyLinearSpec)) polyLinearUptoCard
end Rows
end Go.Proofs.YtdgainpbaphniacDoor
