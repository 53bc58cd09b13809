/- The contract of the reference's normal form. -/
import Derived.Test.YtdpaleldalplfaaDeltaOwn
import Derived.Deep.DeepCutAuto
import Derived.Deep.CutBlock
namespace Go.Proofs.Ytdpaleldalplfaa
open Go.RowKit

end Go.Proofs.Ytdpaleldalplfaa
