/- The contracts of the reference of layer 3: Sizes, Lengths, Same. -/
import Derived.Test.YtniccjbcchdkoaaDeltaRef1
import Derived.RangeFuncBox
import Derived.Maps.AppendAt
namespace Go.Proofs.Ytniccjbcchdkoaa
open Go.RowKit

theorem D.peq_walk (p q : D.P) : (p.k == q.k && p.n == q.n && p.t.toList == q.t.toList) = D.peq p q := by rw [ByteArray.toList_eq, ByteArray.toList_eq]; rfl
end Go.Proofs.Ytniccjbcchdkoaa
