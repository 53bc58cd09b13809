/- The examples that every statement of stage 12 asks. -/
import Derived.Test.YtniccjbcchdkoaaNodeLawKit
import Derived.Test.YtniccjbcchdkoaaPackMeasR
namespace Go.Proofs.Ytniccjbcchdkoaa
open Go.RowKit

@[go_sem] theorem N.nfield2 (h : Int) (t : ByteArray) (a : Option Addr) (n c : Nat) (w : World) : (Instr.field 30 (.agg #[.int .i64 h, .string t, .slice a n c]) 2).run Try.prog w = .ok (.slice a n c) w := by kernel_rfl
def N.xv (g : Nat) : Value := .agg #[.int .i64 1, .string ⟨#[]⟩, .slice (some ⟨g, 0, none⟩) 3 3]
end Go.Proofs.Ytniccjbcchdkoaa
