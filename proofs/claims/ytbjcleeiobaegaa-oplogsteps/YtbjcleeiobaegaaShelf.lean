/-
  The contract of slices.ContainsFunc at []api.Item, laid at this program: the table of numbers, and that each body is the body that the contract was proved of.
-/
import Derived.Shelf.SlicesQ.IndexFunc
import Derived.Test.YtbjcleeiobaegaaProg
namespace Go.Proofs.Ytbjcleeiobaegaa
open Go.Shelf
def Lay.hasL_ren : Go.Shelf.Ren := ⟨fun | 8 => 37 | 6 => 40 | n => n, fun | 22 => 33 | 23 => 32 | 25 => 54 | 4 => 4 | 3 => 3 | 0 => 0 | n => n, fun | n => n⟩
theorem Lay.hasL : Go.Proofs.SlLaysH0.n8 Try.prog Lay.hasL_ren := {
  mixed := by kernel_rfl
  f6 := ⟨Try.f40.name, by decide, Try.func40.trans (congrArg some (by kernel_rfl))⟩
  f8 := ⟨Try.f37.name, by decide, Try.func37.trans (congrArg some (by kernel_rfl))⟩
  t0 := Try.underlying0
  a0 := Try.isAgg0
  z0 := Try.sizeOf0
  v0 := Try.zeroValue0
  t3 := Try.underlying3
  a3 := Try.isAgg3
  z3 := Try.sizeOf3
  v3 := Try.zeroValue3
  t4 := Try.underlying4
  a4 := Try.isAgg4
  z4 := Try.sizeOf4
  v4 := Try.zeroValue4
  t22 := Try.underlying33
  a22 := Try.isAgg33
  z22 := Try.sizeOf33
  v22 := Try.zeroValue33
  t25 := Try.underlying54
  a25 := Try.isAgg54
  z25 := Try.sizeOf54
  v25 := Try.zeroValue54 }
end Go.Proofs.Ytbjcleeiobaegaa
