/- The contract of the reference's normal form. -/
import Derived.Test.YtndpknkdmaojaaaDoorDeltaOwn
import Derived.Deep.DeepCutAuto
import Derived.Deep.CutBlock
namespace Go.Proofs.YtndpknkdmaojaaaDoor
open Go.RowKit

end Go.Proofs.YtndpknkdmaojaaaDoor
