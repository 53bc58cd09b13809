/- The contract of the reference's normal form. -/
import Derived.Test.YtlhgakdplabnlaaDeltaOwn
import Derived.Deep.DeepCutAuto
import Derived.Deep.CutBlock
namespace Go.Proofs.Ytlhgakdplabnlaa
open Go.RowKit

end Go.Proofs.Ytlhgakdplabnlaa
