/-
  No cell of these rows narrows 'for every input' (looked for: loops, veiled, ifaces, maps, wideKeys, modest, calm, conditions, laid).
  DERIVED. THE GIVEN ROWS OF THIS SEAT. 4 by the template 'for every input the law returns true; each argument reads behind the call as it read before'; 0 by the template 'total and deterministic' (their statements: YtbjbfmdlkdiiaaaTotals.lean).
  GIVEN WITH THE SEED: the statements are not yours to turn. If you find one false, say at which input.
  Laid BY PROGRAM, IN A SANDBOX (cutbox-rows.mjs): the forced cells as the released guide's own fill.sh prints them over the translation 58e1a1c7c077161a… (all of the seat's roots in one cut). By AI agents, Wed Nov 11 2026. No macro, syntax, notation, axiom, sorry.
-/
import Derived.Test.YtbjbfmdlkdiiaaaChecked
import GoSem.Claim
import GoSem.ClaimJoined
import GoSem.ClaimMapViews
import Derived.JoinedTies
import Derived.KernelRfl
namespace Go.Proofs.Ytbjbfmdlkdiiaaa
/- THE CELL 'sum', in the pinned program and in every row, IS THE sha256 OF THE DUMP (.gsa) THAT YtbjbfmdlkdiiaaaProg.lean LOADS. Nothing in Lean hashes anything: it is a label: what it is worth is what the hold of that sum in a sandbox is worth. -/
noncomputable def Try.pinned : Pinned := { name := "ytbjbfmdlkdiiaaa", sum := "58e1a1c7c077161a5473f7651ed5f69cee5a34979cd0e0d40be19a45d6cffcd1", checked := Try.checked }
namespace Rows
def none {H : Type} : Left H := { results := [], args := [] }

/-- 'sextonlaw20.NonceBegins': WHATEVER THE INPUT: true; the input reads as it did. -/
def nonceBeginsSpec : ChangeSpec := { name := "nonceBegins", fn := fun _ => fun
  | [d1, d2, d3] => { results := [.lit (.bool true)], args := [d1, d2, d3] }
  | _ => none }
def nonceBeginsRow : OpenClaim := { program := "ytbjbfmdlkdiiaaa", sum := "58e1a1c7c077161a5473f7651ed5f69cee5a34979cd0e0d40be19a45d6cffcd1", func := "sexton/sextonlaw20.NonceBegins", spec := "nonceBegins", apart := false }
def NonceBeginsSaid : Prop := nonceBeginsRow.holds Try.pinned (OpenSpec.ofChange nonceBeginsSpec)

/-- ITS FALSE NEIGHBOUR: 'it returns false'. Refute it at one input. -/
def nonceBeginsWrong : ChangeSpec := { name := "nonceBegins", fn := fun _ => fun
  | [d1, d2, d3] => { results := [.lit (.bool false)], args := [d1, d2, d3] }
  | _ => none }
def NonceBeginsWrongFalsely : Prop := nonceBeginsRow.holds Try.pinned (OpenSpec.ofChange nonceBeginsWrong)

/-- 'sextonlaw20.NonceMerges': WHATEVER THE INPUT: true; the input reads as it did. -/
def nonceMergesSpec : ChangeSpec := { name := "nonceMerges", fn := fun _ => fun
  | [d1, d2] => { results := [.lit (.bool true)], args := [d1, d2] }
  | _ => none }
def nonceMergesRow : OpenClaim := { program := "ytbjbfmdlkdiiaaa", sum := "58e1a1c7c077161a5473f7651ed5f69cee5a34979cd0e0d40be19a45d6cffcd1", func := "sexton/sextonlaw20.NonceMerges", spec := "nonceMerges", apart := false }
def NonceMergesSaid : Prop := nonceMergesRow.holds Try.pinned (OpenSpec.ofChange nonceMergesSpec)

/-- ITS FALSE NEIGHBOUR: 'it returns false'. Refute it at one input. -/
def nonceMergesWrong : ChangeSpec := { name := "nonceMerges", fn := fun _ => fun
  | [d1, d2] => { results := [.lit (.bool false)], args := [d1, d2] }
  | _ => none }
def NonceMergesWrongFalsely : Prop := nonceMergesRow.holds Try.pinned (OpenSpec.ofChange nonceMergesWrong)

/-- 'sextonlaw20.NonceOlds': WHATEVER THE INPUT: true; the input reads as it did. -/
def nonceOldsSpec : ChangeSpec := { name := "nonceOlds", fn := fun _ => fun
  | [d1, d2, d3] => { results := [.lit (.bool true)], args := [d1, d2, d3] }
  | _ => none }
def nonceOldsRow : OpenClaim := { program := "ytbjbfmdlkdiiaaa", sum := "58e1a1c7c077161a5473f7651ed5f69cee5a34979cd0e0d40be19a45d6cffcd1", func := "sexton/sextonlaw20.NonceOlds", spec := "nonceOlds", apart := false }
def NonceOldsSaid : Prop := nonceOldsRow.holds Try.pinned (OpenSpec.ofChange nonceOldsSpec)

/-- ITS FALSE NEIGHBOUR: 'it returns false'. Refute it at one input. -/
def nonceOldsWrong : ChangeSpec := { name := "nonceOlds", fn := fun _ => fun
  | [d1, d2, d3] => { results := [.lit (.bool false)], args := [d1, d2, d3] }
  | _ => none }
def NonceOldsWrongFalsely : Prop := nonceOldsRow.holds Try.pinned (OpenSpec.ofChange nonceOldsWrong)

/-- 'sextonlaw20.NonceJoins': WHATEVER THE INPUT: true; the input reads as it did. -/
def nonceJoinsSpec : ChangeSpec := { name := "nonceJoins", fn := fun _ => fun
  | [d1, d2, d3] => { results := [.lit (.bool true)], args := [d1, d2, d3] }
  | _ => none }
def nonceJoinsRow : OpenClaim := { program := "ytbjbfmdlkdiiaaa", sum := "58e1a1c7c077161a5473f7651ed5f69cee5a34979cd0e0d40be19a45d6cffcd1", func := "sexton/sextonlaw20.NonceJoins", spec := "nonceJoins", apart := false }
def NonceJoinsSaid : Prop := nonceJoinsRow.holds Try.pinned (OpenSpec.ofChange nonceJoinsSpec)

/-- ITS FALSE NEIGHBOUR: 'it returns false'. Refute it at one input. -/
def nonceJoinsWrong : ChangeSpec := { name := "nonceJoins", fn := fun _ => fun
  | [d1, d2, d3] => { results := [.lit (.bool false)], args := [d1, d2, d3] }
  | _ => none }
def NonceJoinsWrongFalsely : Prop := nonceJoinsRow.holds Try.pinned (OpenSpec.ofChange nonceJoinsWrong)

/- THE SECOND FORM. 'bulk': how many values and letters a reading holds, each counted each time it is reached (what is shared counts as often as it is met; a slice's spare places count too). A statement '..UptoSaid' is the law's where the arguments, and the package variables that the reading takes, are together of bulk at most 1048576: NARROWER than '..Said'. Prove '..Said' where nothing that the law and all that it calls make is longer than what came in: it says more and counts as full. Else prove '..UptoSaid'. A law counts once. -/
mutual
def uptoBulk {H : Type} : DataW H → Nat
  | .lit (.string bytes) => bytes.length + 1
  | .lit _ => 1
  | .nil => 1
  | .ptr d => uptoBulk d + 1
  | .slice elems spare => uptoBulkAll elems + uptoBulkAll spare + 1
  | .agg parts => uptoBulkAll parts + 1
  | .iface _ d => uptoBulk d + 1
  | .map entries => uptoBulkEntries entries + 1
  | .held _ => 1
def uptoBulkAll {H : Type} : List (DataW H) → Nat
  | [] => 0
  | d :: r => uptoBulk d + uptoBulkAll r
def uptoBulkEntries {H : Type} : List (Lit × DataW H) → Nat
  | [] => 0
  | x :: r => uptoBulkEntry x + uptoBulkEntries r
def uptoBulkEntry {H : Type} : Lit × DataW H → Nat
  | (.string bytes, d) => bytes.length + uptoBulk d + 1
  | (_, d) => uptoBulk d + 1
 end
def uptoSmall : (H : Type) → List (DataW H) → Bool := fun _ ds => decide (uptoBulkAll ds ≤ 1048576)
def OpenSpec.upto (s : _root_.Go.ChangeSpec) : _root_.Go.OpenSpec := { _root_.Go.OpenSpec.ofChange s with cond := some uptoSmall }

/-- 'sextonlaw20.NonceBegins', WHERE WHAT IT READS IS OF BULK AT MOST 1048576: true; the input reads as it did. -/
def nonceBeginsUptoRow : OpenClaim := { program := "ytbjbfmdlkdiiaaa", sum := "58e1a1c7c077161a5473f7651ed5f69cee5a34979cd0e0d40be19a45d6cffcd1", func := "sexton/sextonlaw20.NonceBegins", spec := "nonceBegins", apart := false, narrowed := true }
def NonceBeginsUptoSaid : Prop := nonceBeginsUptoRow.holds Try.pinned (OpenSpec.upto nonceBeginsSpec)

/-- 'sextonlaw20.NonceMerges', WHERE WHAT IT READS IS OF BULK AT MOST 1048576: true; the input reads as it did. -/
def nonceMergesUptoRow : OpenClaim := { program := "ytbjbfmdlkdiiaaa", sum := "58e1a1c7c077161a5473f7651ed5f69cee5a34979cd0e0d40be19a45d6cffcd1", func := "sexton/sextonlaw20.NonceMerges", spec := "nonceMerges", apart := false, narrowed := true }
def NonceMergesUptoSaid : Prop := nonceMergesUptoRow.holds Try.pinned (OpenSpec.upto nonceMergesSpec)

/-- 'sextonlaw20.NonceOlds', WHERE WHAT IT READS IS OF BULK AT MOST 1048576: true; the input reads as it did. -/
def nonceOldsUptoRow : OpenClaim := { program := "ytbjbfmdlkdiiaaa", sum := "58e1a1c7c077161a5473f7651ed5f69cee5a34979cd0e0d40be19a45d6cffcd1", func := "sexton/sextonlaw20.NonceOlds", spec := "nonceOlds", apart := false, narrowed := true }
def NonceOldsUptoSaid : Prop := nonceOldsUptoRow.holds Try.pinned (OpenSpec.upto nonceOldsSpec)

/-- 'sextonlaw20.NonceJoins', WHERE WHAT IT READS IS OF BULK AT MOST 1048576: true; the input reads as it did. -/
def nonceJoinsUptoRow : OpenClaim := { program := "ytbjbfmdlkdiiaaa", sum := "58e1a1c7c077161a5473f7651ed5f69cee5a34979cd0e0d40be19a45d6cffcd1", func := "sexton/sextonlaw20.NonceJoins", spec := "nonceJoins", apart := false, narrowed := true }
def NonceJoinsUptoSaid : Prop := nonceJoinsUptoRow.holds Try.pinned (OpenSpec.upto nonceJoinsSpec)

end Rows
end Go.Proofs.Ytbjbfmdlkdiiaaa
