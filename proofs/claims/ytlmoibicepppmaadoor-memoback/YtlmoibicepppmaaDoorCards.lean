/-
  DERIVED. GIVEN WITH THE SEED: THE CARDS: each row of YtlmoibicepppmaaDoorRows.lean that lists a variable, with what it lists TIED to the program's text (the seventh form; the later family's looks); each row that meets fmt, with fmt's text TOLD by the authors' own Lean function (tested against real Go, not proved from fmt's source: count such statements apart). THE CARD IS WHAT COUNTS. Prove the row's statement (the work); the ties are given (YtlmoibicepppmaaDoorTie.lean); close each card by the builder's one call (the guide's Derived/Test/ToyasCard.lean, 'card_holds'). Laid BY PROGRAM, IN A SANDBOX (cutbox-door.mjs). By AI agents, Wed Nov 11 2026. No macro, syntax, notation, axiom, sorry.
-/
import Derived.Test.YtlmoibicepppmaaDoorRows
import GoSem.ClaimSeven
namespace Go.Proofs.YtlmoibicepppmaaDoor
namespace Rows

/-- THE TIED CARD OF 'sextonlaw22.MemoPacks'. -/
def memoPacksCard : Claim7 := { stood := { row := memoPacksRow, standIns := [], harness := (true, "11f4c1176e162ef9545819006ca37b9462916c110b2226ae51def02ce7722216"), looks := true }, kinds := [], alts := [], laidByText := true, laidKinds := [.data], laidTests := true, laidLooks := .later }
def MemoPacksCardSaid : Prop := Claim7.holds Tryd.pinned (.plain (OpenSpec.ofChange memoPacksSpec)) memoPacksCard

/-- THE TIED CARD OF 'sextonlaw22.MemoUnpacks'. -/
def memoUnpacksCard : Claim7 := { stood := { row := memoUnpacksRow, standIns := [], harness := (true, "11f4c1176e162ef9545819006ca37b9462916c110b2226ae51def02ce7722216"), looks := true }, kinds := [], alts := [], laidByText := true, laidKinds := [.data], laidTests := true, laidLooks := .later }
def MemoUnpacksCardSaid : Prop := Claim7.holds Tryd.pinned (.plain (OpenSpec.ofChange memoUnpacksSpec)) memoUnpacksCard

/-- THE TIED CARD OF 'sextonlaw22.MemoBack'. -/
def memoBackCard : Claim7 := { stood := { row := memoBackRow, standIns := [], harness := (true, "11f4c1176e162ef9545819006ca37b9462916c110b2226ae51def02ce7722216"), looks := true }, kinds := [], alts := [], laidByText := true, laidKinds := [.data], laidTests := true, laidLooks := .later }
def MemoBackCardSaid : Prop := Claim7.holds Tryd.pinned (.plain (OpenSpec.ofChange memoBackSpec)) memoBackCard

/-- THE SECOND FORM's CARD OF 'sextonlaw22.MemoPacks'. -/
def memoPacksUptoCard : Claim7 := { stood := { row := memoPacksUptoRow, standIns := [], harness := (true, "11f4c1176e162ef9545819006ca37b9462916c110b2226ae51def02ce7722216"), looks := true }, kinds := [], alts := [], laidByText := true, laidKinds := [.data], laidTests := true, laidLooks := .later }
def MemoPacksUptoCardSaid : Prop := Claim7.holds Tryd.pinned (.plain (OpenSpec.upto memoPacksSpec)) memoPacksUptoCard

/-- THE SECOND FORM's CARD OF 'sextonlaw22.MemoUnpacks'. -/
def memoUnpacksUptoCard : Claim7 := { stood := { row := memoUnpacksUptoRow, standIns := [], harness := (true, "11f4c1176e162ef9545819006ca37b9462916c110b2226ae51def02ce7722216"), looks := true }, kinds := [], alts := [], laidByText := true, laidKinds := [.data], laidTests := true, laidLooks := .later }
def MemoUnpacksUptoCardSaid : Prop := Claim7.holds Tryd.pinned (.plain (OpenSpec.upto memoUnpacksSpec)) memoUnpacksUptoCard

/-- THE SECOND FORM's CARD OF 'sextonlaw22.MemoBack'. -/
def memoBackUptoCard : Claim7 := { stood := { row := memoBackUptoRow, standIns := [], harness := (true, "11f4c1176e162ef9545819006ca37b9462916c110b2226ae51def02ce7722216"), looks := true }, kinds := [], alts := [], laidByText := true, laidKinds := [.data], laidTests := true, laidLooks := .later }
def MemoBackUptoCardSaid : Prop := Claim7.holds Tryd.pinned (.plain (OpenSpec.upto memoBackSpec)) memoBackUptoCard
end Rows
end Go.Proofs.YtlmoibicepppmaaDoor
