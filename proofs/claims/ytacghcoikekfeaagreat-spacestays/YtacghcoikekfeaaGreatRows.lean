/-
  No cell of these rows narrows 'for every input' (looked for: loops, veiled, ifaces, maps, wideKeys, modest, calm, conditions, laid).
  DERIVED. THE GIVEN ROWS OF THIS SEAT. 5 by the template 'for every input the law returns true; each argument reads behind the call as it read before'; 0 by the template 'total and deterministic' (their statements: YtacghcoikekfeaaGreatTotals.lean).
  GIVEN WITH THE SEED: the statements are not yours to turn. If you find one false, say at which input.
  Laid BY PROGRAM, IN A SANDBOX (cutbox-rows.mjs): the forced cells as the released guide's own fill.sh prints them over the translation fbc279ef79c08f0b… (all of the seat's roots in one cut). By AI agents, Wed Nov 11 2026. No macro, syntax, notation, axiom, sorry.
-/
import Derived.Test.YtacghcoikekfeaaGreatChecked
import GoSem.Claim
import GoSem.ClaimJoined
import GoSem.ClaimMapViews
import Derived.JoinedTies
import Derived.KernelRfl
namespace Go.Proofs.YtacghcoikekfeaaGreat
/- THE CELL 'sum', in the pinned program and in every row, IS THE sha256 OF THE DUMP (.gsa) THAT YtacghcoikekfeaaGreatProg.lean LOADS. Nothing in Lean hashes anything: it is a label: what it is worth is what the hold of that sum in a sandbox is worth. -/
noncomputable def Tryz.pinned : Pinned := { name := "ytacghcoikekfeaagreat", sum := "fbc279ef79c08f0b73a9b0b0edbb262e2c58baa9781f3ce5a9eae2920b02f196", checked := Tryz.checked }
namespace Rows
def none {H : Type} : Left H := { results := [], args := [] }

/-- 'sextonlaw11.SpaceChecks': WHATEVER THE INPUT: true; the input reads as it did. -/
def spaceChecksSpec : ChangeSpec := { name := "spaceChecks", fn := fun _ => fun
  | [d] => { results := [.lit (.bool true)], args := [d] }
  | _ => none }
def spaceChecksRow : OpenClaim := { program := "ytacghcoikekfeaagreat", sum := "fbc279ef79c08f0b73a9b0b0edbb262e2c58baa9781f3ce5a9eae2920b02f196", func := "sexton/sextonlaw11.SpaceChecks", spec := "spaceChecks", unfollowed := true, recurses := true, plainKeys := false, apart := false }
def SpaceChecksSaid : Prop := spaceChecksRow.holds Tryz.pinned (OpenSpec.ofChange spaceChecksSpec)

/-- ITS FALSE NEIGHBOUR: 'it returns false'. Refute it at one input. -/
def spaceChecksWrong : ChangeSpec := { name := "spaceChecks", fn := fun _ => fun
  | [d] => { results := [.lit (.bool false)], args := [d] }
  | _ => none }
def SpaceChecksWrongFalsely : Prop := spaceChecksRow.holds Tryz.pinned (OpenSpec.ofChange spaceChecksWrong)

/-- 'sextonlaw11.SpaceLooks': WHATEVER THE INPUT: true; the input reads as it did. -/
def spaceLooksSpec : ChangeSpec := { name := "spaceLooks", fn := fun _ => fun
  | [d1, d2] => { results := [.lit (.bool true)], args := [d1, d2] }
  | _ => none }
def spaceLooksRow : OpenClaim := { program := "ytacghcoikekfeaagreat", sum := "fbc279ef79c08f0b73a9b0b0edbb262e2c58baa9781f3ce5a9eae2920b02f196", func := "sexton/sextonlaw11.SpaceLooks", spec := "spaceLooks", unfollowed := true, recurses := true, plainKeys := false, apart := false }
def SpaceLooksSaid : Prop := spaceLooksRow.holds Tryz.pinned (OpenSpec.ofChange spaceLooksSpec)

/-- ITS FALSE NEIGHBOUR: 'it returns false'. Refute it at one input. -/
def spaceLooksWrong : ChangeSpec := { name := "spaceLooks", fn := fun _ => fun
  | [d1, d2] => { results := [.lit (.bool false)], args := [d1, d2] }
  | _ => none }
def SpaceLooksWrongFalsely : Prop := spaceLooksRow.holds Tryz.pinned (OpenSpec.ofChange spaceLooksWrong)

/-- 'sextonlaw11.SpaceLinks': WHATEVER THE INPUT: true; the input reads as it did. -/
def spaceLinksSpec : ChangeSpec := { name := "spaceLinks", fn := fun _ => fun
  | [d1, d2] => { results := [.lit (.bool true)], args := [d1, d2] }
  | _ => none }
def spaceLinksRow : OpenClaim := { program := "ytacghcoikekfeaagreat", sum := "fbc279ef79c08f0b73a9b0b0edbb262e2c58baa9781f3ce5a9eae2920b02f196", func := "sexton/sextonlaw11.SpaceLinks", spec := "spaceLinks", unfollowed := true, recurses := true, plainKeys := false, apart := false }
def SpaceLinksSaid : Prop := spaceLinksRow.holds Tryz.pinned (OpenSpec.ofChange spaceLinksSpec)

/-- ITS FALSE NEIGHBOUR: 'it returns false'. Refute it at one input. -/
def spaceLinksWrong : ChangeSpec := { name := "spaceLinks", fn := fun _ => fun
  | [d1, d2] => { results := [.lit (.bool false)], args := [d1, d2] }
  | _ => none }
def SpaceLinksWrongFalsely : Prop := spaceLinksRow.holds Tryz.pinned (OpenSpec.ofChange spaceLinksWrong)

/-- 'sextonlaw11.SpaceMoves': WHATEVER THE INPUT: true; the input reads as it did. -/
def spaceMovesSpec : ChangeSpec := { name := "spaceMoves", fn := fun _ => fun
  | [d1, d2] => { results := [.lit (.bool true)], args := [d1, d2] }
  | _ => none }
def spaceMovesRow : OpenClaim := { program := "ytacghcoikekfeaagreat", sum := "fbc279ef79c08f0b73a9b0b0edbb262e2c58baa9781f3ce5a9eae2920b02f196", func := "sexton/sextonlaw11.SpaceMoves", spec := "spaceMoves", unfollowed := true, recurses := true, plainKeys := false, apart := false }
def SpaceMovesSaid : Prop := spaceMovesRow.holds Tryz.pinned (OpenSpec.ofChange spaceMovesSpec)

/-- ITS FALSE NEIGHBOUR: 'it returns false'. Refute it at one input. -/
def spaceMovesWrong : ChangeSpec := { name := "spaceMoves", fn := fun _ => fun
  | [d1, d2] => { results := [.lit (.bool false)], args := [d1, d2] }
  | _ => none }
def SpaceMovesWrongFalsely : Prop := spaceMovesRow.holds Tryz.pinned (OpenSpec.ofChange spaceMovesWrong)

/-- 'sextonlaw11.SpaceStays': WHATEVER THE INPUT: true; the input reads as it did. -/
def spaceStaysSpec : ChangeSpec := { name := "spaceStays", fn := fun _ => fun
  | [d] => { results := [.lit (.bool true)], args := [d] }
  | _ => none }
def spaceStaysRow : OpenClaim := { program := "ytacghcoikekfeaagreat", sum := "fbc279ef79c08f0b73a9b0b0edbb262e2c58baa9781f3ce5a9eae2920b02f196", func := "sexton/sextonlaw11.SpaceStays", spec := "spaceStays", unfollowed := true, recurses := true, plainKeys := false, apart := false }
def SpaceStaysSaid : Prop := spaceStaysRow.holds Tryz.pinned (OpenSpec.ofChange spaceStaysSpec)

/-- ITS FALSE NEIGHBOUR: 'it returns false'. Refute it at one input. -/
def spaceStaysWrong : ChangeSpec := { name := "spaceStays", fn := fun _ => fun
  | [d] => { results := [.lit (.bool false)], args := [d] }
  | _ => none }
def SpaceStaysWrongFalsely : Prop := spaceStaysRow.holds Tryz.pinned (OpenSpec.ofChange spaceStaysWrong)

/- THE SECOND FORM. 'bulk': how many values and letters a reading holds, each counted each time it is reached (what is shared counts as often as it is met; a slice's spare places count too). A statement '..UptoSaid' is the law's where the arguments, and the package variables that the reading takes, are together of bulk at most 1048576: NARROWER than '..Said'. Prove '..Said' where nothing that the law and all that it calls make is longer than what came in: it says more and counts as full. Else prove '..UptoSaid'. A law counts once. -/
mutual
def uptoBulk {H : Type} : DataW H → Nat
  | .lit (.string bytes) => bytes.length + 1
  | .lit _ => 1
  | .nil => 1
  | .ptr d => uptoBulk d + 1
  | .slice elems spare => uptoBulkAll elems + uptoBulkAll spare + 1
  | .agg parts => uptoBulkAll parts + 1
  | .iface _ d => uptoBulk d + 1
  | .map entries => uptoBulkEntries entries + 1
  | .held _ => 1
def uptoBulkAll {H : Type} : List (DataW H) → Nat
  | [] => 0
  | d :: r => uptoBulk d + uptoBulkAll r
def uptoBulkEntries {H : Type} : List (Lit × DataW H) → Nat
  | [] => 0
  | x :: r => uptoBulkEntry x + uptoBulkEntries r
def uptoBulkEntry {H : Type} : Lit × DataW H → Nat
  | (.string bytes, d) => bytes.length + uptoBulk d + 1
  | (_, d) => uptoBulk d + 1
 end
def uptoSmall : (H : Type) → List (DataW H) → Bool := fun _ ds => decide (uptoBulkAll ds ≤ 1048576)
def OpenSpec.upto (s : _root_.Go.ChangeSpec) : _root_.Go.OpenSpec := { _root_.Go.OpenSpec.ofChange s with cond := some uptoSmall }

/-- 'sextonlaw11.SpaceChecks', WHERE WHAT IT READS IS OF BULK AT MOST 1048576: true; the input reads as it did. -/
def spaceChecksUptoRow : OpenClaim := { program := "ytacghcoikekfeaagreat", sum := "fbc279ef79c08f0b73a9b0b0edbb262e2c58baa9781f3ce5a9eae2920b02f196", func := "sexton/sextonlaw11.SpaceChecks", spec := "spaceChecks", unfollowed := true, recurses := true, plainKeys := false, apart := false, narrowed := true }
def SpaceChecksUptoSaid : Prop := spaceChecksUptoRow.holds Tryz.pinned (OpenSpec.upto spaceChecksSpec)

/-- 'sextonlaw11.SpaceLooks', WHERE WHAT IT READS IS OF BULK AT MOST 1048576: true; the input reads as it did. -/
def spaceLooksUptoRow : OpenClaim := { program := "ytacghcoikekfeaagreat", sum := "fbc279ef79c08f0b73a9b0b0edbb262e2c58baa9781f3ce5a9eae2920b02f196", func := "sexton/sextonlaw11.SpaceLooks", spec := "spaceLooks", unfollowed := true, recurses := true, plainKeys := false, apart := false, narrowed := true }
def SpaceLooksUptoSaid : Prop := spaceLooksUptoRow.holds Tryz.pinned (OpenSpec.upto spaceLooksSpec)

/-- 'sextonlaw11.SpaceLinks', WHERE WHAT IT READS IS OF BULK AT MOST 1048576: true; the input reads as it did. -/
def spaceLinksUptoRow : OpenClaim := { program := "ytacghcoikekfeaagreat", sum := "fbc279ef79c08f0b73a9b0b0edbb262e2c58baa9781f3ce5a9eae2920b02f196", func := "sexton/sextonlaw11.SpaceLinks", spec := "spaceLinks", unfollowed := true, recurses := true, plainKeys := false, apart := false, narrowed := true }
def SpaceLinksUptoSaid : Prop := spaceLinksUptoRow.holds Tryz.pinned (OpenSpec.upto spaceLinksSpec)

/-- 'sextonlaw11.SpaceMoves', WHERE WHAT IT READS IS OF BULK AT MOST 1048576: true; the input reads as it did. -/
def spaceMovesUptoRow : OpenClaim := { program := "ytacghcoikekfeaagreat", sum := "fbc279ef79c08f0b73a9b0b0edbb262e2c58baa9781f3ce5a9eae2920b02f196", func := "sexton/sextonlaw11.SpaceMoves", spec := "spaceMoves", unfollowed := true, recurses := true, plainKeys := false, apart := false, narrowed := true }
def SpaceMovesUptoSaid : Prop := spaceMovesUptoRow.holds Tryz.pinned (OpenSpec.upto spaceMovesSpec)

/-- 'sextonlaw11.SpaceStays', WHERE WHAT IT READS IS OF BULK AT MOST 1048576: true; the input reads as it did. -/
def spaceStaysUptoRow : OpenClaim := { program := "ytacghcoikekfeaagreat", sum := "fbc279ef79c08f0b73a9b0b0edbb262e2c58baa9781f3ce5a9eae2920b02f196", func := "sexton/sextonlaw11.SpaceStays", spec := "spaceStays", unfollowed := true, recurses := true, plainKeys := false, apart := false, narrowed := true }
def SpaceStaysUptoSaid : Prop := spaceStaysUptoRow.holds Tryz.pinned (OpenSpec.upto spaceStaysSpec)

end Rows
end Go.Proofs.YtacghcoikekfeaaGreat
