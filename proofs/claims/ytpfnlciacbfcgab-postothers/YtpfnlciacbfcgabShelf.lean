/-
  The contract of sort.Search, laid at this program: the table of numbers, and that its body is the body that the contract was proved of.
-/
import Derived.Shelf.SlSorted.Search
import Derived.Test.YtpfnlciacbfcgabProg
namespace Go.Proofs.Ytpfnlciacbfcgab
open Go.Shelf
def Lay.searchL_ren : Go.Shelf.Ren := ⟨fun | 16 => 21 | n => n, fun | 3 => 3 | 35 => 50 | 4 => 4 | 38 => 40 | n => n, fun | n => n⟩
theorem Lay.searchL : Go.Proofs.SlLaysO.n16 Try.prog Lay.searchL_ren := {
  mixed := by kernel_rfl
  f16 := Try.func21.trans (congrArg some (by kernel_rfl))
  t3 := Try.underlying3
  a3 := Try.isAgg3
  z3 := Try.sizeOf3
  v3 := Try.zeroValue3
  t4 := Try.underlying4
  a4 := Try.isAgg4
  z4 := Try.sizeOf4
  v4 := Try.zeroValue4
  t35 := Try.underlying50
  a35 := Try.isAgg50
  z35 := Try.sizeOf50
  v35 := Try.zeroValue50
  t38 := Try.underlying40
  a38 := Try.isAgg40
  z38 := Try.sizeOf40
  v38 := Try.zeroValue40 }
end Go.Proofs.Ytpfnlciacbfcgab
