/-
  No cell of these rows narrows 'for every input' (looked for: loops, veiled, ifaces, maps, wideKeys, modest, calm, conditions, laid).
  DERIVED. THE GIVEN ROWS OF THIS SEAT. 3 by the template 'for every input the law returns true; each argument reads behind the call as it read before'; 0 by the template 'total and deterministic' (their statements: YtiifhfmekbhlnaaGreatTotals.lean).
  GIVEN WITH THE SEED: the statements are not yours to turn. If you find one false, say at which input.
  Laid BY PROGRAM, IN A SANDBOX (cutbox-rows.mjs): the forced cells as the released guide's own fill.sh prints them over the translation a13014ba9e510395… (all of the seat's roots in one cut). By AI agents, Wed Nov 11 2026. No macro, syntax, notation, axiom, sorry.
-/
import Derived.Test.YtiifhfmekbhlnaaGreatChecked
import GoSem.Claim
import GoSem.ClaimJoined
import GoSem.ClaimMapViews
import Derived.JoinedTies
import Derived.KernelRfl
namespace Go.Proofs.YtiifhfmekbhlnaaGreat
/- THE CELL 'sum', in the pinned program and in every row, IS THE sha256 OF THE DUMP (.gsa) THAT YtiifhfmekbhlnaaGreatProg.lean LOADS. Nothing in Lean hashes anything: it is a label: what it is worth is what the hold of that sum in a sandbox is worth. -/
noncomputable def Tryz.pinned : Pinned := { name := "ytiifhfmekbhlnaagreat", sum := "a13014ba9e5103955879df90df8b75982e36d6abc2a6d3a4f71ddc74ebcf9462", checked := Tryz.checked }
namespace Rows
def none {H : Type} : Left H := { results := [], args := [] }

/-- 'sextonlaw17.MachOnce': WHATEVER THE INPUT: true; the input reads as it did. -/
def machOnceSpec : ChangeSpec := { name := "machOnce", fn := fun _ => fun
  | [d1, d2] => { results := [.lit (.bool true)], args := [d1, d2] }
  | _ => none }
def machOnceRow : OpenClaim := { program := "ytiifhfmekbhlnaagreat", sum := "a13014ba9e5103955879df90df8b75982e36d6abc2a6d3a4f71ddc74ebcf9462", func := "sexton/sextonlaw17.MachOnce", spec := "machOnce", unfollowed := true, recurses := true, plainKeys := false, apart := false }
def MachOnceSaid : Prop := machOnceRow.holds Tryz.pinned (OpenSpec.ofChange machOnceSpec)

/-- ITS FALSE NEIGHBOUR: 'it returns false'. Refute it at one input. -/
def machOnceWrong : ChangeSpec := { name := "machOnce", fn := fun _ => fun
  | [d1, d2] => { results := [.lit (.bool false)], args := [d1, d2] }
  | _ => none }
def MachOnceWrongFalsely : Prop := machOnceRow.holds Tryz.pinned (OpenSpec.ofChange machOnceWrong)

/-- 'sextonlaw17.MachParts': WHATEVER THE INPUT: true; the input reads as it did. -/
def machPartsSpec : ChangeSpec := { name := "machParts", fn := fun _ => fun
  | [d1, d2] => { results := [.lit (.bool true)], args := [d1, d2] }
  | _ => none }
def machPartsRow : OpenClaim := { program := "ytiifhfmekbhlnaagreat", sum := "a13014ba9e5103955879df90df8b75982e36d6abc2a6d3a4f71ddc74ebcf9462", func := "sexton/sextonlaw17.MachParts", spec := "machParts", unfollowed := true, recurses := true, plainKeys := false, apart := false }
def MachPartsSaid : Prop := machPartsRow.holds Tryz.pinned (OpenSpec.ofChange machPartsSpec)

/-- ITS FALSE NEIGHBOUR: 'it returns false'. Refute it at one input. -/
def machPartsWrong : ChangeSpec := { name := "machParts", fn := fun _ => fun
  | [d1, d2] => { results := [.lit (.bool false)], args := [d1, d2] }
  | _ => none }
def MachPartsWrongFalsely : Prop := machPartsRow.holds Tryz.pinned (OpenSpec.ofChange machPartsWrong)

/-- 'sextonlaw17.MachFull': WHATEVER THE INPUT: true; the input reads as it did. -/
def machFullSpec : ChangeSpec := { name := "machFull", fn := fun _ => fun
  | [d1, d2] => { results := [.lit (.bool true)], args := [d1, d2] }
  | _ => none }
def machFullRow : OpenClaim := { program := "ytiifhfmekbhlnaagreat", sum := "a13014ba9e5103955879df90df8b75982e36d6abc2a6d3a4f71ddc74ebcf9462", func := "sexton/sextonlaw17.MachFull", spec := "machFull", unfollowed := true, recurses := true, plainKeys := false, apart := false }
def MachFullSaid : Prop := machFullRow.holds Tryz.pinned (OpenSpec.ofChange machFullSpec)

/-- ITS FALSE NEIGHBOUR: 'it returns false'. Refute it at one input. -/
def machFullWrong : ChangeSpec := { name := "machFull", fn := fun _ => fun
  | [d1, d2] => { results := [.lit (.bool false)], args := [d1, d2] }
  | _ => none }
def MachFullWrongFalsely : Prop := machFullRow.holds Tryz.pinned (OpenSpec.ofChange machFullWrong)

/- THE SECOND FORM. 'bulk': how many values and letters a reading holds, each counted each time it is reached (what is shared counts as often as it is met; a slice's spare places count too). A statement '..UptoSaid' is the law's where the arguments, and the package variables that the reading takes, are together of bulk at most 1048576: NARROWER than '..Said'. Prove '..Said' where nothing that the law and all that it calls make is longer than what came in: it says more and counts as full. Else prove '..UptoSaid'. A law counts once. -/
mutual
def uptoBulk {H : Type} : DataW H → Nat
  | .lit (.string bytes) => bytes.length + 1
  | .lit _ => 1
  | .nil => 1
  | .ptr d => uptoBulk d + 1
  | .slice elems spare => uptoBulkAll elems + uptoBulkAll spare + 1
  | .agg parts => uptoBulkAll parts + 1
  | .iface _ d => uptoBulk d + 1
  | .map entries => uptoBulkEntries entries + 1
  | .held _ => 1
def uptoBulkAll {H : Type} : List (DataW H) → Nat
  | [] => 0
  | d :: r => uptoBulk d + uptoBulkAll r
def uptoBulkEntries {H : Type} : List (Lit × DataW H) → Nat
  | [] => 0
  | x :: r => uptoBulkEntry x + uptoBulkEntries r
def uptoBulkEntry {H : Type} : Lit × DataW H → Nat
  | (.string bytes, d) => bytes.length + uptoBulk d + 1
  | (_, d) => uptoBulk d + 1
 end
def uptoSmall : (H : Type) → List (DataW H) → Bool := fun _ ds => decide (uptoBulkAll ds ≤ 1048576)
def OpenSpec.upto (s : _root_.Go.ChangeSpec) : _root_.Go.OpenSpec := { _root_.Go.OpenSpec.ofChange s with cond := some uptoSmall }

/-- 'sextonlaw17.MachOnce', WHERE WHAT IT READS IS OF BULK AT MOST 1048576: true; the input reads as it did. -/
def machOnceUptoRow : OpenClaim := { program := "ytiifhfmekbhlnaagreat", sum := "a13014ba9e5103955879df90df8b75982e36d6abc2a6d3a4f71ddc74ebcf9462", func := "sexton/sextonlaw17.MachOnce", spec := "machOnce", unfollowed := true, recurses := true, plainKeys := false, apart := false, narrowed := true }
def MachOnceUptoSaid : Prop := machOnceUptoRow.holds Tryz.pinned (OpenSpec.upto machOnceSpec)

/-- 'sextonlaw17.MachParts', WHERE WHAT IT READS IS OF BULK AT MOST 1048576: true; the input reads as it did. -/
def machPartsUptoRow : OpenClaim := { program := "ytiifhfmekbhlnaagreat", sum := "a13014ba9e5103955879df90df8b75982e36d6abc2a6d3a4f71ddc74ebcf9462", func := "sexton/sextonlaw17.MachParts", spec := "machParts", unfollowed := true, recurses := true, plainKeys := false, apart := false, narrowed := true }
def MachPartsUptoSaid : Prop := machPartsUptoRow.holds Tryz.pinned (OpenSpec.upto machPartsSpec)

/-- 'sextonlaw17.MachFull', WHERE WHAT IT READS IS OF BULK AT MOST 1048576: true; the input reads as it did. -/
def machFullUptoRow : OpenClaim := { program := "ytiifhfmekbhlnaagreat", sum := "a13014ba9e5103955879df90df8b75982e36d6abc2a6d3a4f71ddc74ebcf9462", func := "sexton/sextonlaw17.MachFull", spec := "machFull", unfollowed := true, recurses := true, plainKeys := false, apart := false, narrowed := true }
def MachFullUptoSaid : Prop := machFullUptoRow.holds Tryz.pinned (OpenSpec.upto machFullSpec)

end Rows
end Go.Proofs.YtiifhfmekbhlnaaGreat
