/- The contracts of the reference of layer 3: Normalize, Normal, Equivalent, Identity. -/
import Derived.Test.YtdpjnhmnmpmkmaaDeltaRefForm
namespace Go.Proofs.Ytdpjnhmnmpmkmaa
open Go.RowKit

/-- A row of the call's own with these pieces. -/
structure D.Made (x : List D.P) (w : World) (v : Value) (wr : World) : Prop where
  own : wr.ownsRow w.heap.size 38 3 v x.length (D.cellsL x)
  below : Below w.heap.size w wr
theorem D.Made.form {x : List D.P} {w : World} {v : Value} {wr : World} (h : D.Made x w v wr) : ∃ ao cap, v = .slice ao x.length cap ∧ D.Row wr ao x := D.row_of_own h.own
theorem D.Made.nil (w : World) {wr : World} (h : Below w.heap.size w wr) : D.Made [] w (.slice none 0 0) wr := ⟨World.ownsRow_nil _ _ _ _, h⟩
def D.NormEnd (l : List D.P) (w : World) (e : Ending) (w' : World) : Prop :=
  ∃ v, e = .returned (.tuple #[v, .int .i64 (D.chk l)]) ∧ D.Made (if D.chk l = 0 then D.normP l else []) w v w'
/-- Form of a valid delta. -/
theorem refForm_valid (ao : Option Addr) (cap : Nat) (l : List D.P) (w : World) (h : D.chk l = 0) (hr : D.Row w ao l) :
    Calls Try.prog 43 #[.slice ao l.length cap] w (fun e w' => ∃ v, e = .returned v ∧ D.Made (D.normP l) w v w') := by
  obtain ⟨e, pa, h0, h1, h2, h3⟩ := D.valid_qs h
  have H := refForm_any ao cap (D.qs l) w pa (by omega) (by omega) (by omega) (by rw [e]; exact hr)
  rw [h0] at H
  refine H.mono fun e w' hh => ?_
  obtain ⟨v, he, ho, hb⟩ := hh
  exact ⟨v, he, by unfold D.normP; rw [List.length_map]; exact ho, hb⟩
theorem D.txt_le {l : List D.P} (h : ∀ p ∈ l, p.t.size ≤ 140737488351232) : Hid (∀ p ∈ l, p.t.size ≤ 140737488351232) := h
end Go.Proofs.Ytdpjnhmnmpmkmaa
