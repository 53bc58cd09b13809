/- The contract of the reference's Join. -/
import Derived.Test.YtdpjnhmnmpmkmaaDeltaSrc
import Derived.Test.YtdpjnhmnmpmkmaaDeltaRef4
namespace Go.Proofs.Ytdpjnhmnmpmkmaa
open Go.RowKit

def D.JoinEnd (L : List D.Src) (w : World) (e : Ending) (w' : World) : Prop := ∃ v, e = .returned (.tuple #[v, .int .i64 (D.joinE L)]) ∧ D.Made (D.joinP L) w v w'
/-- Form of pieces that are valid one by one. -/
theorem refForm_flat (ao : Option Addr) (cap : Nat) (L : List D.Src) (w : World) (h : D.chkAll L = 0) (hl : L.length ≤ 200) (hr : D.Row w ao (D.flat L)) :
    Calls Try.prog 43 #[.slice ao (D.flat L).length cap] w (fun e w' => ∃ v, e = .returned v ∧ D.Made (D.normP (D.flat L)) w v w') := by
  obtain ⟨hv, pa, h1, h2, h3⟩ := D.flat_ok L h
  have e : (D.qs (D.flat L)).length = (D.flat L).length := by unfold D.qs; rw [List.length_map]
  have H := refForm_any ao cap (D.qs (D.flat L)) w pa (by omega) (by omega) (by omega) (by rw [D.raw_qs hv]; exact hr)
  rw [e] at H
  refine H.mono fun e w' hh => ?_
  obtain ⟨v, he, ho, hb⟩ := hh
  exact ⟨v, he, by unfold D.normP; rw [List.length_map]; exact ho, hb⟩
end Go.Proofs.Ytdpjnhmnmpmkmaa
