/- The contract of the reference's normal form. -/
import Derived.Test.YtniccjbcchdkoaaDeltaOwn
import Derived.Deep.DeepCutAuto
import Derived.Deep.CutBlock
namespace Go.Proofs.Ytniccjbcchdkoaa
open Go.RowKit

end Go.Proofs.Ytniccjbcchdkoaa
