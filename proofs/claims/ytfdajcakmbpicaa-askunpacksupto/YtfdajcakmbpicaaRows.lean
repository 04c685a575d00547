/-
  No cell of these rows narrows 'for every input' (looked for: loops, veiled, ifaces, maps, wideKeys, modest, calm, conditions, laid).
  DERIVED. THE GIVEN ROWS OF THIS SEAT. 3 by the template 'for every input the law returns true; each argument reads behind the call as it read before'; 0 by the template 'total and deterministic' (their statements: YtfdajcakmbpicaaTotals.lean).
  GIVEN WITH THE SEED: the statements are not yours to turn. If you find one false, say at which input.
  Laid BY PROGRAM, IN A SANDBOX (cutbox-rows.mjs): the forced cells as the released guide's own fill.sh prints them over the translation 93494e487fca5d2b… (all of the seat's roots in one cut). By AI agents, Wed Nov 11 2026. No macro, syntax, notation, axiom, sorry.
-/
import Derived.Test.YtfdajcakmbpicaaChecked
import GoSem.Claim
import GoSem.ClaimJoined
import GoSem.ClaimMapViews
import Derived.JoinedTies
import Derived.KernelRfl
namespace Go.Proofs.Ytfdajcakmbpicaa
/- THE CELL 'sum', in the pinned program and in every row, IS THE sha256 OF THE DUMP (.gsa) THAT YtfdajcakmbpicaaProg.lean LOADS. Nothing in Lean hashes anything: it is a label: what it is worth is what the hold of that sum in a sandbox is worth. -/
noncomputable def Try.pinned : Pinned := { name := "ytfdajcakmbpicaa", sum := "93494e487fca5d2b5a3fb93a6a57d4f4c5427a34bc9c5e079ebe93316a8546b0", checked := Try.checked }
namespace Rows
def none {H : Type} : Left H := { results := [], args := [] }

/-- 'sextonlaw13.AskPacks': WHATEVER THE INPUT: true; the input reads as it did. -/
def askPacksSpec : ChangeSpec := { name := "askPacks", fn := fun _ => fun
  | [d] => { results := [.lit (.bool true)], args := [d] }
  | _ => none }
def askPacksRow : OpenClaim := { program := "ytfdajcakmbpicaa", sum := "93494e487fca5d2b5a3fb93a6a57d4f4c5427a34bc9c5e079ebe93316a8546b0", func := "sexton/sextonlaw13.AskPacks", spec := "askPacks", unfollowed := true, recurses := true, apart := false }
def AskPacksSaid : Prop := askPacksRow.holds Try.pinned (OpenSpec.ofChange askPacksSpec)

/-- ITS FALSE NEIGHBOUR: 'it returns false'. Refute it at one input. -/
def askPacksWrong : ChangeSpec := { name := "askPacks", fn := fun _ => fun
  | [d] => { results := [.lit (.bool false)], args := [d] }
  | _ => none }
def AskPacksWrongFalsely : Prop := askPacksRow.holds Try.pinned (OpenSpec.ofChange askPacksWrong)

/-- 'sextonlaw13.AskUnpacks': WHATEVER THE INPUT: true; the input reads as it did. -/
def askUnpacksSpec : ChangeSpec := { name := "askUnpacks", fn := fun _ => fun
  | [d1, d2] => { results := [.lit (.bool true)], args := [d1, d2] }
  | _ => none }
def askUnpacksRow : OpenClaim := { program := "ytfdajcakmbpicaa", sum := "93494e487fca5d2b5a3fb93a6a57d4f4c5427a34bc9c5e079ebe93316a8546b0", func := "sexton/sextonlaw13.AskUnpacks", spec := "askUnpacks", unfollowed := true, recurses := true, apart := false }
def AskUnpacksSaid : Prop := askUnpacksRow.holds Try.pinned (OpenSpec.ofChange askUnpacksSpec)

/-- ITS FALSE NEIGHBOUR: 'it returns false'. Refute it at one input. -/
def askUnpacksWrong : ChangeSpec := { name := "askUnpacks", fn := fun _ => fun
  | [d1, d2] => { results := [.lit (.bool false)], args := [d1, d2] }
  | _ => none }
def AskUnpacksWrongFalsely : Prop := askUnpacksRow.holds Try.pinned (OpenSpec.ofChange askUnpacksWrong)

/-- 'sextonlaw13.AskBack': WHATEVER THE INPUT: true; the input reads as it did. -/
def askBackSpec : ChangeSpec := { name := "askBack", fn := fun _ => fun
  | [d1, d2] => { results := [.lit (.bool true)], args := [d1, d2] }
  | _ => none }
def askBackRow : OpenClaim := { program := "ytfdajcakmbpicaa", sum := "93494e487fca5d2b5a3fb93a6a57d4f4c5427a34bc9c5e079ebe93316a8546b0", func := "sexton/sextonlaw13.AskBack", spec := "askBack", unfollowed := true, recurses := true, apart := false }
def AskBackSaid : Prop := askBackRow.holds Try.pinned (OpenSpec.ofChange askBackSpec)

/-- ITS FALSE NEIGHBOUR: 'it returns false'. Refute it at one input. -/
def askBackWrong : ChangeSpec := { name := "askBack", fn := fun _ => fun
  | [d1, d2] => { results := [.lit (.bool false)], args := [d1, d2] }
  | _ => none }
def AskBackWrongFalsely : Prop := askBackRow.holds Try.pinned (OpenSpec.ofChange askBackWrong)

/- THE SECOND FORM. 'bulk': how many values and letters a reading holds, each counted each time it is reached (what is shared counts as often as it is met; a slice's spare places count too). A statement '..UptoSaid' is the law's where the arguments, and the package variables that the reading takes, are together of bulk at most 1048576: NARROWER than '..Said'. Prove '..Said' where nothing that the law and all that it calls make is longer than what came in: it says more and counts as full. Else prove '..UptoSaid'. A law counts once. -/
mutual
def uptoBulk {H : Type} : DataW H → Nat
  | .lit (.string bytes) => bytes.length + 1
  | .lit _ => 1
  | .nil => 1
  | .ptr d => uptoBulk d + 1
  | .slice elems spare => uptoBulkAll elems + uptoBulkAll spare + 1
  | .agg parts => uptoBulkAll parts + 1
  | .iface _ d => uptoBulk d + 1
  | .map entries => uptoBulkEntries entries + 1
  | .held _ => 1
def uptoBulkAll {H : Type} : List (DataW H) → Nat
  | [] => 0
  | d :: r => uptoBulk d + uptoBulkAll r
def uptoBulkEntries {H : Type} : List (Lit × DataW H) → Nat
  | [] => 0
  | x :: r => uptoBulkEntry x + uptoBulkEntries r
def uptoBulkEntry {H : Type} : Lit × DataW H → Nat
  | (.string bytes, d) => bytes.length + uptoBulk d + 1
  | (_, d) => uptoBulk d + 1
 end
def uptoSmall : (H : Type) → List (DataW H) → Bool := fun _ ds => decide (uptoBulkAll ds ≤ 1048576)
def OpenSpec.upto (s : _root_.Go.ChangeSpec) : _root_.Go.OpenSpec := { _root_.Go.OpenSpec.ofChange s with cond := some uptoSmall }

/-- 'sextonlaw13.AskPacks', WHERE WHAT IT READS IS OF BULK AT MOST 1048576: true; the input reads as it did. -/
def askPacksUptoRow : OpenClaim := { program := "ytfdajcakmbpicaa", sum := "93494e487fca5d2b5a3fb93a6a57d4f4c5427a34bc9c5e079ebe93316a8546b0", func := "sexton/sextonlaw13.AskPacks", spec := "askPacks", unfollowed := true, recurses := true, apart := false, narrowed := true }
def AskPacksUptoSaid : Prop := askPacksUptoRow.holds Try.pinned (OpenSpec.upto askPacksSpec)

/-- 'sextonlaw13.AskUnpacks', WHERE WHAT IT READS IS OF BULK AT MOST 1048576: true; the input reads as it did. -/
def askUnpacksUptoRow : OpenClaim := { program := "ytfdajcakmbpicaa", sum := "93494e487fca5d2b5a3fb93a6a57d4f4c5427a34bc9c5e079ebe93316a8546b0", func := "sexton/sextonlaw13.AskUnpacks", spec := "askUnpacks", unfollowed := true, recurses := true, apart := false, narrowed := true }
def AskUnpacksUptoSaid : Prop := askUnpacksUptoRow.holds Try.pinned (OpenSpec.upto askUnpacksSpec)

/-- 'sextonlaw13.AskBack', WHERE WHAT IT READS IS OF BULK AT MOST 1048576: true; the input reads as it did. -/
def askBackUptoRow : OpenClaim := { program := "ytfdajcakmbpicaa", sum := "93494e487fca5d2b5a3fb93a6a57d4f4c5427a34bc9c5e079ebe93316a8546b0", func := "sexton/sextonlaw13.AskBack", spec := "askBack", unfollowed := true, recurses := true, apart := false, narrowed := true }
def AskBackUptoSaid : Prop := askBackUptoRow.holds Try.pinned (OpenSpec.upto askBackSpec)

end Rows
end Go.Proofs.Ytfdajcakmbpicaa
