/- The contract of the reference's normal form. -/
import Derived.Test.YtlkkgjkbjjifmaaDoorDeltaOwn
import Derived.Deep.DeepCutAuto
import Derived.Deep.CutBlock
namespace Go.Proofs.YtlkkgjkbjjifmaaDoor
open Go.RowKit

end Go.Proofs.YtlkkgjkbjjifmaaDoor
