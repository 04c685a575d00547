/-
  No cell of these rows narrows 'for every input' (looked for: loops, veiled, ifaces, maps, wideKeys, modest, calm, conditions, laid).
  DERIVED. THE GIVEN ROWS OF THIS SEAT. 6 by the template 'for every input the law returns true; each argument reads behind the call as it read before'; 0 by the template 'total and deterministic' (their statements: YtoplngccejkkcaaTotals.lean).
  GIVEN WITH THE SEED: the statements are not yours to turn. If you find one false, say at which input.
  Laid BY PROGRAM, IN A SANDBOX (cutbox-rows.mjs): the forced cells as the released guide's own fill.sh prints them over the translation c37341b6c88a0ffa… (all of the seat's roots in one cut). By AI agents, Wed Nov 11 2026. No macro, syntax, notation, axiom, sorry.
-/
import Derived.Test.YtoplngccejkkcaaChecked
import GoSem.Claim
import GoSem.ClaimJoined
import GoSem.ClaimMapViews
import Derived.JoinedTies
import Derived.KernelRfl
namespace Go.Proofs.Ytoplngccejkkcaa
/- THE CELL 'sum', in the pinned program and in every row, IS THE sha256 OF THE DUMP (.gsa) THAT YtoplngccejkkcaaProg.lean LOADS. Nothing in Lean hashes anything: it is a label: what it is worth is what the hold of that sum in a sandbox is worth. -/
noncomputable def Try.pinned : Pinned := { name := "ytoplngccejkkcaa", sum := "c37341b6c88a0ffa0d0a8becf3837bfe7d91667b7f982beab2d37ab574fee706", checked := Try.checked }
namespace Rows
def none {H : Type} : Left H := { results := [], args := [] }

/-- 'sextonlaw06.PanelWho': WHATEVER THE INPUT: true; the input reads as it did. -/
def panelWhoSpec : ChangeSpec := { name := "panelWho", fn := fun _ => fun
  | [d1, d2, d3] => { results := [.lit (.bool true)], args := [d1, d2, d3] }
  | _ => none }
def panelWhoRow : OpenClaim := { program := "ytoplngccejkkcaa", sum := "c37341b6c88a0ffa0d0a8becf3837bfe7d91667b7f982beab2d37ab574fee706", func := "sexton/sextonlaw06.PanelWho", spec := "panelWho", unfollowed := true, recurses := true, apart := false }
def PanelWhoSaid : Prop := panelWhoRow.holds Try.pinned (OpenSpec.ofChange panelWhoSpec)

/-- ITS FALSE NEIGHBOUR: 'it returns false'. Refute it at one input. -/
def panelWhoWrong : ChangeSpec := { name := "panelWho", fn := fun _ => fun
  | [d1, d2, d3] => { results := [.lit (.bool false)], args := [d1, d2, d3] }
  | _ => none }
def PanelWhoWrongFalsely : Prop := panelWhoRow.holds Try.pinned (OpenSpec.ofChange panelWhoWrong)

/-- 'sextonlaw06.PanelSets': WHATEVER THE INPUT: true; the input reads as it did. -/
def panelSetsSpec : ChangeSpec := { name := "panelSets", fn := fun _ => fun
  | [d1, d2] => { results := [.lit (.bool true)], args := [d1, d2] }
  | _ => none }
def panelSetsRow : OpenClaim := { program := "ytoplngccejkkcaa", sum := "c37341b6c88a0ffa0d0a8becf3837bfe7d91667b7f982beab2d37ab574fee706", func := "sexton/sextonlaw06.PanelSets", spec := "panelSets", unfollowed := true, recurses := true, apart := false }
def PanelSetsSaid : Prop := panelSetsRow.holds Try.pinned (OpenSpec.ofChange panelSetsSpec)

/-- ITS FALSE NEIGHBOUR: 'it returns false'. Refute it at one input. -/
def panelSetsWrong : ChangeSpec := { name := "panelSets", fn := fun _ => fun
  | [d1, d2] => { results := [.lit (.bool false)], args := [d1, d2] }
  | _ => none }
def PanelSetsWrongFalsely : Prop := panelSetsRow.holds Try.pinned (OpenSpec.ofChange panelSetsWrong)

/-- 'sextonlaw06.PanelReaches': WHATEVER THE INPUT: true; the input reads as it did. -/
def panelReachesSpec : ChangeSpec := { name := "panelReaches", fn := fun _ => fun
  | [d1, d2] => { results := [.lit (.bool true)], args := [d1, d2] }
  | _ => none }
def panelReachesRow : OpenClaim := { program := "ytoplngccejkkcaa", sum := "c37341b6c88a0ffa0d0a8becf3837bfe7d91667b7f982beab2d37ab574fee706", func := "sexton/sextonlaw06.PanelReaches", spec := "panelReaches", unfollowed := true, recurses := true, apart := false }
def PanelReachesSaid : Prop := panelReachesRow.holds Try.pinned (OpenSpec.ofChange panelReachesSpec)

/-- ITS FALSE NEIGHBOUR: 'it returns false'. Refute it at one input. -/
def panelReachesWrong : ChangeSpec := { name := "panelReaches", fn := fun _ => fun
  | [d1, d2] => { results := [.lit (.bool false)], args := [d1, d2] }
  | _ => none }
def PanelReachesWrongFalsely : Prop := panelReachesRow.holds Try.pinned (OpenSpec.ofChange panelReachesWrong)

/-- 'sextonlaw06.PanelMeets': WHATEVER THE INPUT: true; the input reads as it did. -/
def panelMeetsSpec : ChangeSpec := { name := "panelMeets", fn := fun _ => fun
  | [d1, d2, d3] => { results := [.lit (.bool true)], args := [d1, d2, d3] }
  | _ => none }
def panelMeetsRow : OpenClaim := { program := "ytoplngccejkkcaa", sum := "c37341b6c88a0ffa0d0a8becf3837bfe7d91667b7f982beab2d37ab574fee706", func := "sexton/sextonlaw06.PanelMeets", spec := "panelMeets", unfollowed := true, recurses := true, apart := false }
def PanelMeetsSaid : Prop := panelMeetsRow.holds Try.pinned (OpenSpec.ofChange panelMeetsSpec)

/-- ITS FALSE NEIGHBOUR: 'it returns false'. Refute it at one input. -/
def panelMeetsWrong : ChangeSpec := { name := "panelMeets", fn := fun _ => fun
  | [d1, d2, d3] => { results := [.lit (.bool false)], args := [d1, d2, d3] }
  | _ => none }
def PanelMeetsWrongFalsely : Prop := panelMeetsRow.holds Try.pinned (OpenSpec.ofChange panelMeetsWrong)

/-- 'sextonlaw06.PanelTurns': WHATEVER THE INPUT: true; the input reads as it did. -/
def panelTurnsSpec : ChangeSpec := { name := "panelTurns", fn := fun _ => fun
  | [d1, d2] => { results := [.lit (.bool true)], args := [d1, d2] }
  | _ => none }
def panelTurnsRow : OpenClaim := { program := "ytoplngccejkkcaa", sum := "c37341b6c88a0ffa0d0a8becf3837bfe7d91667b7f982beab2d37ab574fee706", func := "sexton/sextonlaw06.PanelTurns", spec := "panelTurns", unfollowed := true, recurses := true, apart := false }
def PanelTurnsSaid : Prop := panelTurnsRow.holds Try.pinned (OpenSpec.ofChange panelTurnsSpec)

/-- ITS FALSE NEIGHBOUR: 'it returns false'. Refute it at one input. -/
def panelTurnsWrong : ChangeSpec := { name := "panelTurns", fn := fun _ => fun
  | [d1, d2] => { results := [.lit (.bool false)], args := [d1, d2] }
  | _ => none }
def PanelTurnsWrongFalsely : Prop := panelTurnsRow.holds Try.pinned (OpenSpec.ofChange panelTurnsWrong)

/-- 'sextonlaw06.PanelGrows': WHATEVER THE INPUT: true; the input reads as it did. -/
def panelGrowsSpec : ChangeSpec := { name := "panelGrows", fn := fun _ => fun
  | [d1, d2, d3] => { results := [.lit (.bool true)], args := [d1, d2, d3] }
  | _ => none }
def panelGrowsRow : OpenClaim := { program := "ytoplngccejkkcaa", sum := "c37341b6c88a0ffa0d0a8becf3837bfe7d91667b7f982beab2d37ab574fee706", func := "sexton/sextonlaw06.PanelGrows", spec := "panelGrows", unfollowed := true, recurses := true, apart := false }
def PanelGrowsSaid : Prop := panelGrowsRow.holds Try.pinned (OpenSpec.ofChange panelGrowsSpec)

/-- ITS FALSE NEIGHBOUR: 'it returns false'. Refute it at one input. -/
def panelGrowsWrong : ChangeSpec := { name := "panelGrows", fn := fun _ => fun
  | [d1, d2, d3] => { results := [.lit (.bool false)], args := [d1, d2, d3] }
  | _ => none }
def PanelGrowsWrongFalsely : Prop := panelGrowsRow.holds Try.pinned (OpenSpec.ofChange panelGrowsWrong)

/- THE SECOND FORM. 'bulk': how many values and letters a reading holds, each counted each time it is reached (what is shared counts as often as it is met; a slice's spare places count too). A statement '..UptoSaid' is the law's where the arguments, and the package variables that the reading takes, are together of bulk at most 1048576: NARROWER than '..Said'. Prove '..Said' where nothing that the law and all that it calls make is longer than what came in: it says more and counts as full. Else prove '..UptoSaid'. A law counts once. -/
mutual
def uptoBulk {H : Type} : DataW H → Nat
  | .lit (.string bytes) => bytes.length + 1
  | .lit _ => 1
  | .nil => 1
  | .ptr d => uptoBulk d + 1
  | .slice elems spare => uptoBulkAll elems + uptoBulkAll spare + 1
  | .agg parts => uptoBulkAll parts + 1
  | .iface _ d => uptoBulk d + 1
  | .map entries => uptoBulkEntries entries + 1
  | .held _ => 1
def uptoBulkAll {H : Type} : List (DataW H) → Nat
  | [] => 0
  | d :: r => uptoBulk d + uptoBulkAll r
def uptoBulkEntries {H : Type} : List (Lit × DataW H) → Nat
  | [] => 0
  | x :: r => uptoBulkEntry x + uptoBulkEntries r
def uptoBulkEntry {H : Type} : Lit × DataW H → Nat
  | (.string bytes, d) => bytes.length + uptoBulk d + 1
  | (_, d) => uptoBulk d + 1
 end
def uptoSmall : (H : Type) → List (DataW H) → Bool := fun _ ds => decide (uptoBulkAll ds ≤ 1048576)
def OpenSpec.upto (s : _root_.Go.ChangeSpec) : _root_.Go.OpenSpec := { _root_.Go.OpenSpec.ofChange s with cond := some uptoSmall }

/-- 'sextonlaw06.PanelWho', WHERE WHAT IT READS IS OF BULK AT MOST 1048576: true; the input reads as it did. -/
def panelWhoUptoRow : OpenClaim := { program := "ytoplngccejkkcaa", sum := "c37341b6c88a0ffa0d0a8becf3837bfe7d91667b7f982beab2d37ab574fee706", func := "sexton/sextonlaw06.PanelWho", spec := "panelWho", unfollowed := true, recurses := true, apart := false, narrowed := true }
def PanelWhoUptoSaid : Prop := panelWhoUptoRow.holds Try.pinned (OpenSpec.upto panelWhoSpec)

/-- 'sextonlaw06.PanelSets', WHERE WHAT IT READS IS OF BULK AT MOST 1048576: true; the input reads as it did. -/
def panelSetsUptoRow : OpenClaim := { program := "ytoplngccejkkcaa", sum := "c37341b6c88a0ffa0d0a8becf3837bfe7d91667b7f982beab2d37ab574fee706", func := "sexton/sextonlaw06.PanelSets", spec := "panelSets", unfollowed := true, recurses := true, apart := false, narrowed := true }
def PanelSetsUptoSaid : Prop := panelSetsUptoRow.holds Try.pinned (OpenSpec.upto panelSetsSpec)

/-- 'sextonlaw06.PanelReaches', WHERE WHAT IT READS IS OF BULK AT MOST 1048576: true; the input reads as it did. -/
def panelReachesUptoRow : OpenClaim := { program := "ytoplngccejkkcaa", sum := "c37341b6c88a0ffa0d0a8becf3837bfe7d91667b7f982beab2d37ab574fee706", func := "sexton/sextonlaw06.PanelReaches", spec := "panelReaches", unfollowed := true, recurses := true, apart := false, narrowed := true }
def PanelReachesUptoSaid : Prop := panelReachesUptoRow.holds Try.pinned (OpenSpec.upto panelReachesSpec)

/-- 'sextonlaw06.PanelMeets', WHERE WHAT IT READS IS OF BULK AT MOST 1048576: true; the input reads as it did. -/
def panelMeetsUptoRow : OpenClaim := { program := "ytoplngccejkkcaa", sum := "c37341b6c88a0ffa0d0a8becf3837bfe7d91667b7f982beab2d37ab574fee706", func := "sexton/sextonlaw06.PanelMeets", spec := "panelMeets", unfollowed := true, recurses := true, apart := false, narrowed := true }
def PanelMeetsUptoSaid : Prop := panelMeetsUptoRow.holds Try.pinned (OpenSpec.upto panelMeetsSpec)

/-- 'sextonlaw06.PanelTurns', WHERE WHAT IT READS IS OF BULK AT MOST 1048576: true; the input reads as it did. -/
def panelTurnsUptoRow : OpenClaim := { program := "ytoplngccejkkcaa", sum := "c37341b6c88a0ffa0d0a8becf3837bfe7d91667b7f982beab2d37ab574fee706", func := "sexton/sextonlaw06.PanelTurns", spec := "panelTurns", unfollowed := true, recurses := true, apart := false, narrowed := true }
def PanelTurnsUptoSaid : Prop := panelTurnsUptoRow.holds Try.pinned (OpenSpec.upto panelTurnsSpec)

/-- 'sextonlaw06.PanelGrows', WHERE WHAT IT READS IS OF BULK AT MOST 1048576: true; the input reads as it did. -/
def panelGrowsUptoRow : OpenClaim := { program := "ytoplngccejkkcaa", sum := "c37341b6c88a0ffa0d0a8becf3837bfe7d91667b7f982beab2d37ab574fee706", func := "sexton/sextonlaw06.PanelGrows", spec := "panelGrows", unfollowed := true, recurses := true, apart := false, narrowed := true }
def PanelGrowsUptoSaid : Prop := panelGrowsUptoRow.holds Try.pinned (OpenSpec.upto panelGrowsSpec)

end Rows
end Go.Proofs.Ytoplngccejkkcaa
