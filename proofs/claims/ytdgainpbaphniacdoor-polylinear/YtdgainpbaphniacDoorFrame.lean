/-
  The frame of this seat's statements: what a world that holds the table as the program's text lays it gives, and one such world.
-/
import Derived.Test.YtdgainpbaphniacDoorRows
import Derived.Test.YtdgainpbaphniacDoorSum
import Derived.OpenShut
import Derived.Deep.DeepHandedRow
import Derived.Lib.LaidTab
namespace Go.Proofs.YtdgainpbaphniacDoor
open Go.ChangeShapes Go.WideShapes Go.ChangeAt Go.RowKit

theorem own : ownKnob Tryd.prog.godebug = none := by kernel_rfl
theorem laidOut : laidOutB Tryd.prog = true := by kernel_rfl
theorem gTab : Tryd.prog.globalNamed "sexton/poly.halves" = some 0 := by kernel_rfl
theorem gTabType : (Tryd.prog.globals[0]?).map (·.type) = some 29 := by kernel_rfl
theorem cells49 : Tryd.prog.cellsOf 29 = 16 := by kernel_rfl
theorem cells41 : Tryd.prog.cellsOf 26 = 1 := by kernel_rfl

theorem table {W : World} (h : laidMetH Tryd.prog Rows.polyLinearRow.laid W) : Tab W := by
  have h1 : Lib.TabIs Tryd.prog W "sexton/poly.halves" .u32 Pl.tab := Lib.tabIs_of_head (rest := []) gTab gTabType Tryd.underlying29 Tryd.underlying26 cells41 cells49 h
  intro j hj
  have h2 := h1.cell gTab j (by simpa [Pl.tab] using hj)
  rw [Pl.tab_half j hj] at h2
  exact h2

/-- A world for the witness: the settled one, the table (block 0) holding what its initialiser lays. -/
def fillTab : Obj → Obj
  | .cells _ t frozen => .cells (Pl.tab.map fun z => Value.int .u32 z).toArray t frozen
  | o => o
def laidWorld (P : Program) (os : Os) : World := { World.holding P os ⟨#[], #[], []⟩ with heap := (World.holding P os ⟨#[], #[], []⟩).heap.modify 0 fillTab }

end Go.Proofs.YtdgainpbaphniacDoor
