/-
  What the statements' texts share: the table that the program's text lays; worlds that grow.
-/
import Derived.Test.YtlmoibicepppmaaDoorWChg
import Derived.Test.YtlmoibicepppmaaDoorWRPack
import Derived.OpenShut
import Derived.Deep.DeepHandedRow
import Derived.Lib.LaidTab
namespace Go.Proofs.YtlmoibicepppmaaDoor
open Go.ChangeShapes Go.WideShapes Go.ChangeAt Go.RowKit Go.Deep Me
set_option maxRecDepth 100000
theorem gTab : Tryd.prog.globalNamed "sexton/poly.halves" = some 0 := by kernel_rfl
theorem gTabType : (Tryd.prog.globals[0]?).map (·.type) = some 99 := by kernel_rfl
theorem cellsTab : Tryd.prog.cellsOf 99 = 16 := by kernel_rfl
theorem cellsU32 : Tryd.prog.cellsOf 81 = 1 := by kernel_rfl
theorem table {W : World} (h : laidMetH Tryd.prog Rows.memoPacksRow.laid W) : Po.Tab W := by
  have h1 : Lib.TabIs Tryd.prog W "sexton/poly.halves" .u32 Po.Pl.tab := Lib.tabIs_of_head (rest := []) gTab gTabType Tryd.underlying99 Tryd.underlying81 cellsU32 cellsTab h
  intro j hj
  have h2 := h1.cell gTab j (by simpa [Po.Pl.tab] using hj)
  rw [Po.Pl.tab_half j hj] at h2
  exact h2
/-- A world for the witness: the settled one, the table (block 0) holding what its initialiser lays. -/
def fillTab : Obj → Obj
  | .cells _ t frozen => .cells (Po.Pl.tab.map fun z => Value.int .u32 z).toArray t frozen
  | o => o
def laidWorld (P : Program) (os : Os) : World := { World.holding P os ⟨#[], #[], []⟩ with heap := (World.holding P os ⟨#[], #[], []⟩).heap.modify 0 fillTab }
theorem Grw.tab {w : World} (p : Grw w) (h : Po.Tab w) : Po.Tab p.out := tab_up h p.below
end Go.Proofs.YtlmoibicepppmaaDoor
