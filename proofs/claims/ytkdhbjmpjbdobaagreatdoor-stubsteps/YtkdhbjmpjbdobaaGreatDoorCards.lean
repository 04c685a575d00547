/-
  DERIVED. GIVEN WITH THE SEED: THE CARDS: each row of YtkdhbjmpjbdobaaGreatDoorRows.lean that lists a variable, with what it lists TIED to the program's text (the seventh form; the later family's looks); each row that meets fmt, with fmt's text TOLD by the authors' own Lean function (tested against real Go, not proved from fmt's source: count such statements apart). THE CARD IS WHAT COUNTS. Prove the row's statement (the work); the ties are given (YtkdhbjmpjbdobaaGreatDoorTie.lean); close each card by the builder's one call (the guide's Derived/Test/ToyasCard.lean, 'card_holds'). Laid BY PROGRAM, IN A SANDBOX (cutbox-door.mjs). By AI agents, Wed Nov 11 2026. No macro, syntax, notation, axiom, sorry.
-/
import Derived.Test.YtkdhbjmpjbdobaaGreatDoorRows
import GoSem.ClaimSeven
namespace Go.Proofs.YtkdhbjmpjbdobaaGreatDoor
namespace Rows

/-- THE TIED CARD OF 'sextonlaw25.StubSteps'. -/
def stubStepsCard : Claim7 := { stood := { row := stubStepsRow, standIns := [], harness := (true, "33a5b3731b5c046865077672257b855e3c11080c96cfb026c2c6c27ac8584849"), looks := true }, kinds := [], alts := [], laidByText := true, laidKinds := [.data], laidTests := true, laidLooks := .later }
def StubStepsCardSaid : Prop := Claim7.holds Tryz.pinned (.plain (OpenSpec.ofChange stubStepsSpec)) stubStepsCard

/-- THE TIED CARD OF 'sextonlaw25.StubOnce'. -/
def stubOnceCard : Claim7 := { stood := { row := stubOnceRow, standIns := [], harness := (true, "33a5b3731b5c046865077672257b855e3c11080c96cfb026c2c6c27ac8584849"), looks := true }, kinds := [], alts := [], laidByText := true, laidKinds := [.data], laidTests := true, laidLooks := .later }
def StubOnceCardSaid : Prop := Claim7.holds Tryz.pinned (.plain (OpenSpec.ofChange stubOnceSpec)) stubOnceCard

/-- THE TIED CARD OF 'sextonlaw25.StubNil'. -/
def stubNilCard : Claim7 := { stood := { row := stubNilRow, standIns := [], harness := (true, "33a5b3731b5c046865077672257b855e3c11080c96cfb026c2c6c27ac8584849"), looks := true }, kinds := [], alts := [], laidByText := true, laidKinds := [.data], laidTests := true, laidLooks := .later }
def StubNilCardSaid : Prop := Claim7.holds Tryz.pinned (.plain (OpenSpec.ofChange stubNilSpec)) stubNilCard

/-- THE SECOND FORM's CARD OF 'sextonlaw25.StubSteps'. -/
def stubStepsUptoCard : Claim7 := { stood := { row := stubStepsUptoRow, standIns := [], harness := (true, "33a5b3731b5c046865077672257b855e3c11080c96cfb026c2c6c27ac8584849"), looks := true }, kinds := [], alts := [], laidByText := true, laidKinds := [.data], laidTests := true, laidLooks := .later }
def StubStepsUptoCardSaid : Prop := Claim7.holds Tryz.pinned (.plain (OpenSpec.upto stubStepsSpec)) stubStepsUptoCard

/-- THE SECOND FORM's CARD OF 'sextonlaw25.StubOnce'. -/
def stubOnceUptoCard : Claim7 := { stood := { row := stubOnceUptoRow, standIns := [], harness := (true, "33a5b3731b5c046865077672257b855e3c11080c96cfb026c2c6c27ac8584849"), looks := true }, kinds := [], alts := [], laidByText := true, laidKinds := [.data], laidTests := true, laidLooks := .later }
def StubOnceUptoCardSaid : Prop := Claim7.holds Tryz.pinned (.plain (OpenSpec.upto stubOnceSpec)) stubOnceUptoCard

/-- THE SECOND FORM's CARD OF 'sextonlaw25.StubNil'. -/
def stubNilUptoCard : Claim7 := { stood := { row := stubNilUptoRow, standIns := [], harness := (true, "33a5b3731b5c046865077672257b855e3c11080c96cfb026c2c6c27ac8584849"), looks := true }, kinds := [], alts := [], laidByText := true, laidKinds := [.data], laidTests := true, laidLooks := .later }
def StubNilUptoCardSaid : Prop := Claim7.holds Tryz.pinned (.plain (OpenSpec.upto stubNilSpec)) stubNilUptoCard
end Rows
end Go.Proofs.YtkdhbjmpjbdobaaGreatDoor
