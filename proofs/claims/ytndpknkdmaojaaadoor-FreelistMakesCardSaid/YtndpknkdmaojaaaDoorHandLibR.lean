/- The library's contracts on slices.Reverse at ints, laid at this program: tables of numbers, and the comparison of the bodies. -/
import Derived.Shelf.SlicesE.Reverse
import Derived.Test.YtndpknkdmaojaaaDoorRows
namespace Go.Proofs.YtndpknkdmaojaaaDoor
open Go.Shelf Go.RowKit

def H.laysReverse_ren : Go.Shelf.Ren := ⟨fun | 35 => 42 | n => n, fun | 22 => 45 | 23 => 3 | 3 => 3 | 4 => 4 | 0 => 0 | n => n, fun | n => n⟩
theorem H.laysReverse : Go.Proofs.SlLaysE.n35 Tryd.prog H.laysReverse_ren := {
  mixed := by kernel_rfl
  f35 := ⟨Tryd.f42.name, by decide, Tryd.func42.trans (congrArg some (by kernel_rfl))⟩
  t0 := Tryd.underlying0
  a0 := Tryd.isAgg0
  z0 := Tryd.sizeOf0
  v0 := Tryd.zeroValue0
  t3 := Tryd.underlying3
  a3 := Tryd.isAgg3
  z3 := Tryd.sizeOf3
  v3 := Tryd.zeroValue3
  t4 := Tryd.underlying4
  a4 := Tryd.isAgg4
  z4 := Tryd.sizeOf4
  v4 := Tryd.zeroValue4
  t22 := Tryd.underlying45
  a22 := Tryd.isAgg45
  z22 := Tryd.sizeOf45
  v22 := Tryd.zeroValue45
  a23 := Tryd.isAgg3
  z23 := Tryd.sizeOf3 }
end Go.Proofs.YtndpknkdmaojaaaDoor
