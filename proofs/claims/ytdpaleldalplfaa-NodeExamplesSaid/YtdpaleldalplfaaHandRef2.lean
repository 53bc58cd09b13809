/- The contracts of the reference of layer 10: Slot, Gen, Next, digits, Text. -/
import Derived.Test.YtdpaleldalplfaaHandRef1
import Derived.Test.YtdpaleldalplfaaPackSrc
namespace Go.Proofs.Ytdpaleldalplfaa
open Go.RowKit

theorem H.gen_le {h : Nat} (h1 : h ≤ 18446744073709551615) : H.gen h ≤ 281474976710655 := by unfold H.gen; omega
theorem H.slot_lt (h : Nat) : H.slot h < 65536 := by unfold H.slot; omega
theorem H.ck_ok {h : Nat} (k : H.Ok h) : H.ckE h = 0 ∧ H.slotV h = (H.slot h : Nat) ∧ H.genV h = (H.gen h : Nat) := ⟨if_pos k, if_pos k, if_pos k⟩
theorem H.ck_bad {h : Nat} (k : ¬ H.Ok h) : H.ckE h = 2 ∧ H.slotV h = 0 ∧ H.genV h = 0 := ⟨if_neg k, if_neg k, if_neg k⟩
/-! ### digits, Text -/
def H.DigEnd (n : Nat) (w : World) (e : Ending) (w' : World) : Prop := e = .returned (.string ⟨(D.digs n).toArray⟩) ∧ Below w.heap.size w w'
end Go.Proofs.Ytdpaleldalplfaa
