/-
  The contract of sort.Search, laid at this program: the table of numbers, and that its body is the body that the contract was proved of.
-/
import Derived.Shelf.SlSorted.Search
import Derived.Test.YtlhobncpifklkaaProg
namespace Go.Proofs.Ytlhobncpifklkaa
open Go.Shelf
def Lay.searchL_ren : Go.Shelf.Ren := ⟨fun | 16 => 57 | n => n, fun | 3 => 3 | 35 => 78 | 4 => 4 | 38 => 104 | n => n, fun | n => n⟩
theorem Lay.searchL : Go.Proofs.SlLaysO.n16 Try.prog Lay.searchL_ren := {
  mixed := by kernel_rfl
  f16 := Try.func57.trans (congrArg some (by kernel_rfl))
  t3 := Try.underlying3
  a3 := Try.isAgg3
  z3 := Try.sizeOf3
  v3 := Try.zeroValue3
  t4 := Try.underlying4
  a4 := Try.isAgg4
  z4 := Try.sizeOf4
  v4 := Try.zeroValue4
  t35 := Try.underlying78
  a35 := Try.isAgg78
  z35 := Try.sizeOf78
  v35 := Try.zeroValue78
  t38 := Try.underlying104
  a38 := Try.isAgg104
  z38 := Try.sizeOf104
  v38 := Try.zeroValue104 }
end Go.Proofs.Ytlhobncpifklkaa
