/-
  No cell of these rows narrows 'for every input' (looked for: loops, veiled, ifaces, maps, wideKeys, modest, calm, conditions, laid).
  DERIVED. THE GIVEN ROWS OF THIS SEAT. 6 by the template 'for every input the law returns true; each argument reads behind the call as it read before'; 0 by the template 'total and deterministic' (their statements: YtneojimodomohaaGreatTotals.lean).
  GIVEN WITH THE SEED: the statements are not yours to turn. If you find one false, say at which input.
  Laid BY PROGRAM, IN A SANDBOX (cutbox-rows.mjs): the forced cells as the released guide's own fill.sh prints them over the translation 180c78ca8f042b1b… (all of the seat's roots in one cut). By AI agents, Wed Nov 11 2026. No macro, syntax, notation, axiom, sorry.
-/
import Derived.Test.YtneojimodomohaaGreatChecked
import GoSem.Claim
import GoSem.ClaimJoined
import GoSem.ClaimMapViews
import Derived.JoinedTies
import Derived.KernelRfl
namespace Go.Proofs.YtneojimodomohaaGreat
/- THE CELL 'sum', in the pinned program and in every row, IS THE sha256 OF THE DUMP (.gsa) THAT YtneojimodomohaaGreatProg.lean LOADS. Nothing in Lean hashes anything: it is a label: what it is worth is what the hold of that sum in a sandbox is worth. -/
noncomputable def Tryz.pinned : Pinned := { name := "ytneojimodomohaagreat", sum := "180c78ca8f042b1b02322df97af0ebf2d6f026a1890f8e0029b728ee377ec5af", checked := Tryz.checked }
namespace Rows
def none {H : Type} : Left H := { results := [], args := [] }

/-- 'sextonlaw15.NfsDoes': WHATEVER THE INPUT: true; the input reads as it did. -/
def nfsDoesSpec : ChangeSpec := { name := "nfsDoes", fn := fun _ => fun
  | [d1, d2] => { results := [.lit (.bool true)], args := [d1, d2] }
  | _ => none }
def nfsDoesRow : OpenClaim := { program := "ytneojimodomohaagreat", sum := "180c78ca8f042b1b02322df97af0ebf2d6f026a1890f8e0029b728ee377ec5af", func := "sexton/sextonlaw15.NfsDoes", spec := "nfsDoes", unfollowed := true, recurses := true, plainKeys := false, apart := false }
def NfsDoesSaid : Prop := nfsDoesRow.holds Tryz.pinned (OpenSpec.ofChange nfsDoesSpec)

/-- ITS FALSE NEIGHBOUR: 'it returns false'. Refute it at one input. -/
def nfsDoesWrong : ChangeSpec := { name := "nfsDoes", fn := fun _ => fun
  | [d1, d2] => { results := [.lit (.bool false)], args := [d1, d2] }
  | _ => none }
def NfsDoesWrongFalsely : Prop := nfsDoesRow.holds Tryz.pinned (OpenSpec.ofChange nfsDoesWrong)

/-- 'sextonlaw15.NfsRuns': WHATEVER THE INPUT: true; the input reads as it did. -/
def nfsRunsSpec : ChangeSpec := { name := "nfsRuns", fn := fun _ => fun
  | [d] => { results := [.lit (.bool true)], args := [d] }
  | _ => none }
def nfsRunsRow : OpenClaim := { program := "ytneojimodomohaagreat", sum := "180c78ca8f042b1b02322df97af0ebf2d6f026a1890f8e0029b728ee377ec5af", func := "sexton/sextonlaw15.NfsRuns", spec := "nfsRuns", unfollowed := true, recurses := true, plainKeys := false, apart := false }
def NfsRunsSaid : Prop := nfsRunsRow.holds Tryz.pinned (OpenSpec.ofChange nfsRunsSpec)

/-- ITS FALSE NEIGHBOUR: 'it returns false'. Refute it at one input. -/
def nfsRunsWrong : ChangeSpec := { name := "nfsRuns", fn := fun _ => fun
  | [d] => { results := [.lit (.bool false)], args := [d] }
  | _ => none }
def NfsRunsWrongFalsely : Prop := nfsRunsRow.holds Tryz.pinned (OpenSpec.ofChange nfsRunsWrong)

/-- 'sextonlaw15.NfsStays': WHATEVER THE INPUT: true; the input reads as it did. -/
def nfsStaysSpec : ChangeSpec := { name := "nfsStays", fn := fun _ => fun
  | [d] => { results := [.lit (.bool true)], args := [d] }
  | _ => none }
def nfsStaysRow : OpenClaim := { program := "ytneojimodomohaagreat", sum := "180c78ca8f042b1b02322df97af0ebf2d6f026a1890f8e0029b728ee377ec5af", func := "sexton/sextonlaw15.NfsStays", spec := "nfsStays", unfollowed := true, recurses := true, plainKeys := false, apart := false }
def NfsStaysSaid : Prop := nfsStaysRow.holds Tryz.pinned (OpenSpec.ofChange nfsStaysSpec)

/-- ITS FALSE NEIGHBOUR: 'it returns false'. Refute it at one input. -/
def nfsStaysWrong : ChangeSpec := { name := "nfsStays", fn := fun _ => fun
  | [d] => { results := [.lit (.bool false)], args := [d] }
  | _ => none }
def NfsStaysWrongFalsely : Prop := nfsStaysRow.holds Tryz.pinned (OpenSpec.ofChange nfsStaysWrong)

/-- 'sextonlaw15.NfsReads': WHATEVER THE INPUT: true; the input reads as it did. -/
def nfsReadsSpec : ChangeSpec := { name := "nfsReads", fn := fun _ => fun
  | [d1, d2, d3] => { results := [.lit (.bool true)], args := [d1, d2, d3] }
  | _ => none }
def nfsReadsRow : OpenClaim := { program := "ytneojimodomohaagreat", sum := "180c78ca8f042b1b02322df97af0ebf2d6f026a1890f8e0029b728ee377ec5af", func := "sexton/sextonlaw15.NfsReads", spec := "nfsReads", unfollowed := true, recurses := true, plainKeys := false, apart := false }
def NfsReadsSaid : Prop := nfsReadsRow.holds Tryz.pinned (OpenSpec.ofChange nfsReadsSpec)

/-- ITS FALSE NEIGHBOUR: 'it returns false'. Refute it at one input. -/
def nfsReadsWrong : ChangeSpec := { name := "nfsReads", fn := fun _ => fun
  | [d1, d2, d3] => { results := [.lit (.bool false)], args := [d1, d2, d3] }
  | _ => none }
def NfsReadsWrongFalsely : Prop := nfsReadsRow.holds Tryz.pinned (OpenSpec.ofChange nfsReadsWrong)

/-- 'sextonlaw15.NfsOrphans': WHATEVER THE INPUT: true; the input reads as it did. -/
def nfsOrphansSpec : ChangeSpec := { name := "nfsOrphans", fn := fun _ => fun
  | [d1, d2] => { results := [.lit (.bool true)], args := [d1, d2] }
  | _ => none }
def nfsOrphansRow : OpenClaim := { program := "ytneojimodomohaagreat", sum := "180c78ca8f042b1b02322df97af0ebf2d6f026a1890f8e0029b728ee377ec5af", func := "sexton/sextonlaw15.NfsOrphans", spec := "nfsOrphans", unfollowed := true, recurses := true, plainKeys := false, apart := false }
def NfsOrphansSaid : Prop := nfsOrphansRow.holds Tryz.pinned (OpenSpec.ofChange nfsOrphansSpec)

/-- ITS FALSE NEIGHBOUR: 'it returns false'. Refute it at one input. -/
def nfsOrphansWrong : ChangeSpec := { name := "nfsOrphans", fn := fun _ => fun
  | [d1, d2] => { results := [.lit (.bool false)], args := [d1, d2] }
  | _ => none }
def NfsOrphansWrongFalsely : Prop := nfsOrphansRow.holds Tryz.pinned (OpenSpec.ofChange nfsOrphansWrong)

/-- 'sextonlaw15.NfsNeeds': WHATEVER THE INPUT: true; the input reads as it did. -/
def nfsNeedsSpec : ChangeSpec := { name := "nfsNeeds", fn := fun _ => fun
  | [d1, d2] => { results := [.lit (.bool true)], args := [d1, d2] }
  | _ => none }
def nfsNeedsRow : OpenClaim := { program := "ytneojimodomohaagreat", sum := "180c78ca8f042b1b02322df97af0ebf2d6f026a1890f8e0029b728ee377ec5af", func := "sexton/sextonlaw15.NfsNeeds", spec := "nfsNeeds", unfollowed := true, recurses := true, plainKeys := false, apart := false }
def NfsNeedsSaid : Prop := nfsNeedsRow.holds Tryz.pinned (OpenSpec.ofChange nfsNeedsSpec)

/-- ITS FALSE NEIGHBOUR: 'it returns false'. Refute it at one input. -/
def nfsNeedsWrong : ChangeSpec := { name := "nfsNeeds", fn := fun _ => fun
  | [d1, d2] => { results := [.lit (.bool false)], args := [d1, d2] }
  | _ => none }
def NfsNeedsWrongFalsely : Prop := nfsNeedsRow.holds Tryz.pinned (OpenSpec.ofChange nfsNeedsWrong)

/- THE SECOND FORM. 'bulk': how many values and letters a reading holds, each counted each time it is reached (what is shared counts as often as it is met; a slice's spare places count too). A statement '..UptoSaid' is the law's where the arguments, and the package variables that the reading takes, are together of bulk at most 1048576: NARROWER than '..Said'. Prove '..Said' where nothing that the law and all that it calls make is longer than what came in: it says more and counts as full. Else prove '..UptoSaid'. A law counts once. -/
mutual
def uptoBulk {H : Type} : DataW H → Nat
  | .lit (.string bytes) => bytes.length + 1
  | .lit _ => 1
  | .nil => 1
  | .ptr d => uptoBulk d + 1
  | .slice elems spare => uptoBulkAll elems + uptoBulkAll spare + 1
  | .agg parts => uptoBulkAll parts + 1
  | .iface _ d => uptoBulk d + 1
  | .map entries => uptoBulkEntries entries + 1
  | .held _ => 1
def uptoBulkAll {H : Type} : List (DataW H) → Nat
  | [] => 0
  | d :: r => uptoBulk d + uptoBulkAll r
def uptoBulkEntries {H : Type} : List (Lit × DataW H) → Nat
  | [] => 0
  | x :: r => uptoBulkEntry x + uptoBulkEntries r
def uptoBulkEntry {H : Type} : Lit × DataW H → Nat
  | (.string bytes, d) => bytes.length + uptoBulk d + 1
  | (_, d) => uptoBulk d + 1
 end
def uptoSmall : (H : Type) → List (DataW H) → Bool := fun _ ds => decide (uptoBulkAll ds ≤ 1048576)
def OpenSpec.upto (s : _root_.Go.ChangeSpec) : _root_.Go.OpenSpec := { _root_.Go.OpenSpec.ofChange s with cond := some uptoSmall }

/-- 'sextonlaw15.NfsDoes', WHERE WHAT IT READS IS OF BULK AT MOST 1048576: true; the input reads as it did. -/
def nfsDoesUptoRow : OpenClaim := { program := "ytneojimodomohaagreat", sum := "180c78ca8f042b1b02322df97af0ebf2d6f026a1890f8e0029b728ee377ec5af", func := "sexton/sextonlaw15.NfsDoes", spec := "nfsDoes", unfollowed := true, recurses := true, plainKeys := false, apart := false, narrowed := true }
def NfsDoesUptoSaid : Prop := nfsDoesUptoRow.holds Tryz.pinned (OpenSpec.upto nfsDoesSpec)

/-- 'sextonlaw15.NfsRuns', WHERE WHAT IT READS IS OF BULK AT MOST 1048576: true; the input reads as it did. -/
def nfsRunsUptoRow : OpenClaim := { program := "ytneojimodomohaagreat", sum := "180c78ca8f042b1b02322df97af0ebf2d6f026a1890f8e0029b728ee377ec5af", func := "sexton/sextonlaw15.NfsRuns", spec := "nfsRuns", unfollowed := true, recurses := true, plainKeys := false, apart := false, narrowed := true }
def NfsRunsUptoSaid : Prop := nfsRunsUptoRow.holds Tryz.pinned (OpenSpec.upto nfsRunsSpec)

/-- 'sextonlaw15.NfsStays', WHERE WHAT IT READS IS OF BULK AT MOST 1048576: true; the input reads as it did. -/
def nfsStaysUptoRow : OpenClaim := { program := "ytneojimodomohaagreat", sum := "180c78ca8f042b1b02322df97af0ebf2d6f026a1890f8e0029b728ee377ec5af", func := "sexton/sextonlaw15.NfsStays", spec := "nfsStays", unfollowed := true, recurses := true, plainKeys := false, apart := false, narrowed := true }
def NfsStaysUptoSaid : Prop := nfsStaysUptoRow.holds Tryz.pinned (OpenSpec.upto nfsStaysSpec)

/-- 'sextonlaw15.NfsReads', WHERE WHAT IT READS IS OF BULK AT MOST 1048576: true; the input reads as it did. -/
def nfsReadsUptoRow : OpenClaim := { program := "ytneojimodomohaagreat", sum := "180c78ca8f042b1b02322df97af0ebf2d6f026a1890f8e0029b728ee377ec5af", func := "sexton/sextonlaw15.NfsReads", spec := "nfsReads", unfollowed := true, recurses := true, plainKeys := false, apart := false, narrowed := true }
def NfsReadsUptoSaid : Prop := nfsReadsUptoRow.holds Tryz.pinned (OpenSpec.upto nfsReadsSpec)

/-- 'sextonlaw15.NfsOrphans', WHERE WHAT IT READS IS OF BULK AT MOST 1048576: true; the input reads as it did. -/
def nfsOrphansUptoRow : OpenClaim := { program := "ytneojimodomohaagreat", sum := "180c78ca8f042b1b02322df97af0ebf2d6f026a1890f8e0029b728ee377ec5af", func := "sexton/sextonlaw15.NfsOrphans", spec := "nfsOrphans", unfollowed := true, recurses := true, plainKeys := false, apart := false, narrowed := true }
def NfsOrphansUptoSaid : Prop := nfsOrphansUptoRow.holds Tryz.pinned (OpenSpec.upto nfsOrphansSpec)

/-- 'sextonlaw15.NfsNeeds', WHERE WHAT IT READS IS OF BULK AT MOST 1048576: true; the input reads as it did. -/
def nfsNeedsUptoRow : OpenClaim := { program := "ytneojimodomohaagreat", sum := "180c78ca8f042b1b02322df97af0ebf2d6f026a1890f8e0029b728ee377ec5af", func := "sexton/sextonlaw15.NfsNeeds", spec := "nfsNeeds", unfollowed := true, recurses := true, plainKeys := false, apart := false, narrowed := true }
def NfsNeedsUptoSaid : Prop := nfsNeedsUptoRow.holds Tryz.pinned (OpenSpec.upto nfsNeedsSpec)

end Rows
end Go.Proofs.YtneojimodomohaaGreat
