/- The library's contracts on slices.Reverse at ints, laid at this program: tables of numbers, and the comparison of the bodies. -/
import Derived.Shelf.SlicesE.Reverse
import Derived.Test.YtniccjbcchdkoaaRows
namespace Go.Proofs.Ytniccjbcchdkoaa
open Go.Shelf Go.RowKit

def H.laysReverse_ren : Go.Shelf.Ren := ⟨fun | 35 => 72 | n => n, fun | 22 => 33 | 23 => 3 | 3 => 3 | 4 => 4 | 0 => 0 | n => n, fun | n => n⟩
theorem H.laysReverse : Go.Proofs.SlLaysE.n35 Try.prog H.laysReverse_ren := {
  mixed := by kernel_rfl
  f35 := ⟨Try.f72.name, by decide, Try.func72.trans (congrArg some (by kernel_rfl))⟩
  t0 := Try.underlying0
  a0 := Try.isAgg0
  z0 := Try.sizeOf0
  v0 := Try.zeroValue0
  t3 := Try.underlying3
  a3 := Try.isAgg3
  z3 := Try.sizeOf3
  v3 := Try.zeroValue3
  t4 := Try.underlying4
  a4 := Try.isAgg4
  z4 := Try.sizeOf4
  v4 := Try.zeroValue4
  t22 := Try.underlying33
  a22 := Try.isAgg33
  z22 := Try.sizeOf33
  v22 := Try.zeroValue33
  a23 := Try.isAgg3
  z23 := Try.sizeOf3 }
end Go.Proofs.Ytniccjbcchdkoaa
