/- The laws' own functions x3, is, spoil, part, find; CopyNode. -/
import Derived.Test.YtniccjbcchdkoaaNodeEx
import Derived.Test.YtniccjbcchdkoaaNodeEqual
import Derived.Test.YtniccjbcchdkoaaPackNEnc
import Derived.Test.YtniccjbcchdkoaaPackNDec
namespace Go.Proofs.Ytniccjbcchdkoaa
open Go.RowKit

theorem N.xcells : (#[.int .u64 65536, .int .i64 9, .int .i64 8, .int .i64 1, .int .u64 65537, .int .i64 8, .int .i64 0, .int .i64 0, .int .u64 65538, .int .i64 10, .int .i64 10, .int .i64 2] : Array Value) = (N.cells N.xK).toArray := rfl
def N.X3End (w : World) (e : Ending) (w' : World) : Prop := ∃ g, e = .returned (.agg #[.int .i64 1, .string ⟨#[]⟩, .slice (some ⟨g, 0, none⟩) 3 3]) ∧ N.Row w' (some ⟨g, 0, none⟩) N.xK ∧ Below w.heap.size w w'
/-- Which component. -/
def N.wh : Nat → N.K → Int
  | 0 => N.K.b
  | 1 => N.K.r
  | _ => N.K.l
def N.wf : Nat → Int
  | 0 => 0
  | 1 => 0
  | _ => 1
end Go.Proofs.Ytniccjbcchdkoaa
