/- The contract of the reference's normal form. -/
import Derived.Test.YtmbgcbgbdjiacaaDeltaOwn
import Derived.Deep.DeepCutAuto
import Derived.Deep.CutBlock
namespace Go.Proofs.Ytmbgcbgbdjiacaa
open Go.RowKit

/-- What Form leaves: a row of the call's own with the normal form. -/
def D.FormEnd (a : List D.Q) (w : World) (e : Ending) (w' : World) : Prop := ∃ v, e = .returned v ∧ D.RowAt (D.nf a) w v w'
end Go.Proofs.Ytmbgcbgbdjiacaa
