/- When two children are equal: by their parts. -/
import Derived.Test.YtdpaleldalplfaaProg
import Derived.WalkKit
import Derived.Laws.StructEq
namespace Go.Proofs.Ytdpaleldalplfaa
open Go.RowKit
theorem N.eqM (a b c x y z : Int) (w : World) : (Op.equalIn 9999 27 (.agg #[.int .i64 a, .int .i64 b, .int .i64 c]) (.agg #[.int .i64 x, .int .i64 y, .int .i64 z])).run Try.prog w = .ok (decide (a = x) && decide (b = y) && decide (c = z)) w := by
  have u3 := Try.underlying3
  have a3 := Try.isAgg3
  have z3 := Try.sizeOf3
  have hS : Try.prog.underlying 27 = some (.struct (Try.prog.fieldsOf 27)) := by kernel_rfl
  rw [show (9999 : Nat) = 9998 + 1 from rfl, run_equalIn_agg w 9998 27 _ _ hS (by kernel_rfl)]
  simp only [Program.fieldsOf, Try.underlying27]
  go_simp
  by_cases h1 : a = x <;> by_cases h2 : b = y <;> by_cases h3 : c = z <;> simp [h1, h2, h3]
def N.same4 (h a b c k x y z : Int) : Bool := decide (h = k ∧ a = x ∧ b = y ∧ c = z)
theorem N.same4_t (h a b c : Int) : N.same4 h a b c h a b c = true := by simp [N.same4]
@[go_sem] theorem N.eqK (h a b c k x y z : Int) (w : World) : (Op.equalIn 10000 52 (.agg #[.int .u64 h, .int .i64 a, .int .i64 b, .int .i64 c]) (.agg #[.int .u64 k, .int .i64 x, .int .i64 y, .int .i64 z])).run Try.prog w = .ok (N.same4 h a b c k x y z) w := by
  have u3 := Try.underlying50
  have a3 := Try.isAgg50
  have z3 := Try.sizeOf50
  have u4 := Try.underlying27
  have a4 := Try.isAgg27
  have z4 := Try.sizeOf27
  have hS : Try.prog.underlying 52 = some (.struct (Try.prog.fieldsOf 52)) := by kernel_rfl
  rw [show (10000 : Nat) = 9999 + 1 from rfl, run_equalIn_agg w 9999 52 _ _ hS (by kernel_rfl)]
  simp only [Program.fieldsOf, Try.underlying52]
  go_simp
  by_cases h0 : h = k <;> by_cases h1 : a = x <;> by_cases h2 : b = y <;> by_cases h3 : c = z <;> simp [N.same4, h0, h1, h2, h3]
end Go.Proofs.Ytdpaleldalplfaa
