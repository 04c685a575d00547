/-
  Small facts that the laws share.
-/
import Derived.Test.YtkkaendfcfkbbaaLaw
import Derived.Test.YtkkaendfcfkbbaaSame
import Derived.Test.YtkkaendfcfkbbaaFive
import Derived.Test.YtkkaendfcfkbbaaOnes
namespace Go.Proofs.Ytkkaendfcfkbbaa
open Go.ChangeShapes Go.WideShapes Go.ChangeAt Go.RowKit Go.Deep
theorem ok_of_right {l : List Bl.R} (h : Bl.right (-1) l) : okFields l := fun x hx => by
  have := Bl.right_mem h x hx
  unfold Bl.rend at this
  have h3 : x.1 + (x.2.size : Int) ≤ 1048576 := this.2.2
  exact ⟨by omega, by unfold maxLen; omega⟩
theorem ones_bd {l : List Bl.R} (h : Bl.right (-1) l) : (Bl.ones l).length ≤ 4194304 ∧ ∀ q ∈ Bl.ones l, 0 ≤ q.1 ∧ q.1 ≤ 1048576 := by
  refine ⟨?_, fun q hq => ?_⟩
  · have h2 : (Bl.total l : Int) + l.length ≤ 1048576 - -1 := Bl.right_total h (by decide)
    rw [Bl.ones_length]
    omega
  · have := Bl.right_filter h q hq
    have h3 : q.1 < (1048576 : Int) := this.2
    exact ⟨this.1, by omega⟩
theorem Bl.err_zero {l : List Bl.R} (h : Bl.right (-1) l) : Bl.err l = 0 := by unfold Bl.err; rw [if_pos h]
theorem FieldsAt.up {w w' : World} {v : Value} {l : List Bl.R} (h : FieldsAt w.heap.size w v l) (hb : Below w.heap.size w w') : FieldsAt w'.heap.size w' v l := (h.below hb (Nat.le_refl _)).mono hb.size

end Go.Proofs.Ytkkaendfcfkbbaa
