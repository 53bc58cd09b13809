/- The contracts of the reference of layer 3: Normalize, Normal, Equivalent, Identity. -/
import Derived.Test.YtmjoijloflinnaaDoorDeltaRefForm
namespace Go.Proofs.YtmjoijloflinnaaDoor
open Go.RowKit

/-- A row of the call's own with these pieces. -/
structure D.Made (x : List D.P) (w : World) (v : Value) (wr : World) : Prop where
  own : wr.ownsRow w.heap.size 38 3 v x.length (D.cellsL x)
  below : Below w.heap.size w wr
theorem D.Made.form {x : List D.P} {w : World} {v : Value} {wr : World} (h : D.Made x w v wr) : ∃ ao cap, v = .slice ao x.length cap ∧ D.Row wr ao x := D.row_of_own h.own
theorem D.Made.nil (w : World) {wr : World} (h : Below w.heap.size w wr) : D.Made [] w (.slice none 0 0) wr := ⟨World.ownsRow_nil _ _ _ _, h⟩
def D.NormEnd (l : List D.P) (w : World) (e : Ending) (w' : World) : Prop :=
  ∃ v, e = .returned (.tuple #[v, .int .i64 (D.chk l)]) ∧ D.Made (if D.chk l = 0 then D.normP l else []) w v w'
/-- Form of a valid delta. -/
theorem refForm_valid (ao : Option Addr) (cap : Nat) (l : List D.P) (w : World) (h : D.chk l = 0) (hr : D.Row w ao l) :
    Calls Tryd.prog 42 #[.slice ao l.length cap] w (fun e w' => ∃ v, e = .returned v ∧ D.Made (D.normP l) w v w') := by
  obtain ⟨e, pa, h0, h1, h2, h3⟩ := D.valid_qs h
  have H := refForm_any ao cap (D.qs l) w pa (by omega) (by omega) (by omega) (by rw [e]; exact hr)
  rw [h0] at H
  refine H.mono fun e w' hh => ?_
  obtain ⟨v, he, ho, hb⟩ := hh
  exact ⟨v, he, by unfold D.normP; rw [List.length_map]; exact ho, hb⟩
theorem D.txt_le {l : List D.P} (h : ∀ p ∈ l, p.t.size ≤ 140737488351232) : Hid (∀ p ∈ l, p.t.size ≤ 140737488351232) := h
set_option maxHeartbeats 1000000 in
theorem refNormalize_any (ao : Option Addr) (cap : Nat) (l : List D.P) (w : World) (hn : l.length ≤ maxLen) (hr : D.Row w ao l) (ht : ∀ p ∈ l, p.t.size ≤ 140737488351232) :
    Calls Tryd.prog 23 #[.slice ao l.length cap] w (D.NormEnd l w) := by
  have Hc := Lib.hid (refCheck_any ao cap l w hn hr ht)
  by_cases h : D.chk l = 0
  · have hF : Hid (∀ V, Below w.heap.size w V → Calls Tryd.prog 42 #[.slice ao l.length cap] V (fun e w' => ∃ v, e = .returned v ∧ D.Made (D.normP l) V v w')) := fun V hb => refForm_valid ao cap l V h (hr.below hb)
    have He : Hid (∀ v w' W, D.Made (D.normP l) W v w' → Below w.heap.size w W → D.NormEnd l w (.returned (.tuple #[v, .int .i64 0])) w') := fun v w' W hm hb => by
      refine ⟨v, by rw [h], ?_, hb.trans (hm.below.mono hb.size)⟩
      rw [if_pos h]
      exact D.own_mono hm.own hb.size
    rw [h] at Hc
    clear h hr ht
    go_enter Tryd.func23, Tryd.ntmps23
    go_wp2_with fail
    refine Hc.out.mono ?_
    rintro e w1 ⟨rfl, hb⟩
    have hb := Lib.hid hb
    go_wp2_with fail
    refine (hF.out _ hb.out).mono ?_
    rintro e w2 ⟨v, rfl, hm⟩
    have R := Lib.hid (He.out v w2 w1 hm hb.out)
    clear hm
    go_wp2
    go_ret2
    exact R.out
  · have h' : (D.chk l != 0) = true := by simpa using h
    have He : Hid (∀ w', Below w.heap.size w w' → D.NormEnd l w (.returned (.tuple #[.slice none 0 0, .int .i64 (D.chk l)])) w') := fun w' hb => ⟨_, rfl, by rw [if_neg h]; exact D.Made.nil w hb⟩
    have H' := Lib.hid h
    clear h hr ht
    go_enter Tryd.func23, Tryd.ntmps23
    go_wp2_with fail
    refine Hc.out.mono ?_
    rintro e w1 ⟨rfl, hb⟩
    have R := Lib.hid (He.out w1 hb)
    go_wp2
    go_ret2
    exact R.out
end Go.Proofs.YtmjoijloflinnaaDoor
