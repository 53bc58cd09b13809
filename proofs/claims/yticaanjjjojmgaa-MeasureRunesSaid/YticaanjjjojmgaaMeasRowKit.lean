/- What the rows of stage 2 share: the reach of a string argument. -/
import Derived.Test.YticaanjjjojmgaaRows
import Derived.Test.YticaanjjjojmgaaMeasLeaf
import Derived.ProofKit
import Derived.SizedLaws
import Derived.OpenShut
namespace Go.Proofs.Yticaanjjjojmgaa
open Go Go.ChangeShapes Go.WideShapes Go.ChangeAt Go.WideMaps Go.WideElems Go.RowKit

theorem Try.own : ownKnob Try.prog.godebug = none := by kernel_rfl
theorem U.reach {H : Type} {ts : List TypeId} {ds : List (DataW H)} (h : (DataW.weightsEach Try.prog ts ds).all (· ≤ reachBytes) = true) {j : Nat} {t : TypeId} {s : ByteArray} (ht : ts[j]? = some t) (hd : ds[j]? = some (.lit (.string s.data.toList))) :
    s.size ≤ 140737488351232 := by
  have := sized_string h ht hd
  rw [U.len] at this
  exact this
end Go.Proofs.Yticaanjjjojmgaa
