/- The contracts of the reference of layer 3: Sizes, Lengths, Same. -/
import Derived.Test.YtdilkoogjkabfaaDoorDeltaRef1
import Derived.RangeFuncBox
import Derived.Maps.AppendAt
namespace Go.Proofs.YtdilkoogjkabfaaDoor
open Go.RowKit

theorem D.eqPiece (a b x y : Int) (s t : ByteArray) (w : World) : (Op.equalIn 10000 29 (.agg #[.int .u8 a, .int .i64 b, .string s]) (.agg #[.int .u8 x, .int .i64 y, .string t])).run Tryd.prog w = .ok (a == x && b == y && s.toList == t.toList) w := by
  have u3 := Tryd.underlying3
  have u5 := Tryd.underlying5
  have u9 := Tryd.underlying9
  have a3 := Tryd.isAgg3
  have a5 := Tryd.isAgg5
  have a9 := Tryd.isAgg9
  have z3 := Tryd.sizeOf3
  have z5 := Tryd.sizeOf5
  have z9 := Tryd.sizeOf9
  have hS : Tryd.prog.underlying 29 = some (.struct (Tryd.prog.fieldsOf 29)) := by kernel_rfl
  rw [show (10000 : Nat) = 9999 + 1 from rfl, run_equalIn_agg w 9999 29 _ _ hS (by kernel_rfl)]
  simp only [Program.fieldsOf, Tryd.underlying29]
  go_simp
  by_cases h1 : a = x <;> by_cases h2 : b = y <;> by_cases h3 : s.toList = t.toList <;> simp [h1, h2, h3]
theorem D.peq_walk (p q : D.P) : (p.k == q.k && p.n == q.n && p.t.toList == q.t.toList) = D.peq p q := by rw [ByteArray.toList_eq, ByteArray.toList_eq]; rfl
end Go.Proofs.YtdilkoogjkabfaaDoor
