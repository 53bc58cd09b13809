/- The contract of the laws' own: a copy of pieces in a row of the call's own. -/
import Derived.Test.YtdpjnhmnmpmkmaaDeltaOwnKit
namespace Go.Proofs.Ytdpjnhmnmpmkmaa
open Go.RowKit

theorem own_any (ao : Option Addr) (cap : Nat) (l : List D.P) (w : World) (hr : D.Row w ao l) (hc : ao = none → cap = 0) (hn : l.length * 32 ≤ 140737488351232) :
    Calls Try.prog 12 #[.slice ao l.length cap] w (D.OwnEnd l w) := by
  have hr1 := Lib.hid (hr.below ((Below.refl w.heap.size w).alloc (Nat.le_refl _) (.cells #[] 38)))
  have ho := Lib.hid (World.ownsRow_made (w := w) (base := w.heap.size) (e := 38) (size := 3) #[] 0 (Nat.le_refl _) (Nat.zero_le _) rfl)
  have hb := Lib.hid ((Below.refl w.heap.size w).alloc (Nat.le_refl _) (.cells #[] 38))
  have Hc := Lib.hid hc
  clear hr hc
  go_enter Try.func12, Try.ntmps12
  go_wp2_with (at_builtin; refine D.append_src' (w0 := w) rfl _ _ rfl _ _ _ rfl ho.out hb.out ao cap l rfl Hc.out hr1.out ?q1 ?_)
  case q1 => omega
  intro v' w3 hown' hb3
  have R : Hid (D.OwnEnd l w (.returned v') w3) := ⟨v', rfl, hown', hb3⟩
  clear hown' hb3
  go_wp2
  go_ret
  exact R.out
end Go.Proofs.Ytdpjnhmnmpmkmaa
