/- Texts joined: DeltaRef3 DeltaRef4 DeltaKn -/
import Derived.Test.YtmbgcbgbdjiacaaDeltaRefForm
/- DeltaRef3 -/
namespace Go.Proofs.Ytmbgcbgbdjiacaa
open Go.RowKit

/-- A row of the call's own with these pieces. -/
structure D.Made (x : List D.P) (w : World) (v : Value) (wr : World) : Prop where
  own : wr.ownsRow w.heap.size 53 3 v x.length (D.cellsL x)
  below : Below w.heap.size w wr
theorem D.Made.form {x : List D.P} {w : World} {v : Value} {wr : World} (h : D.Made x w v wr) : ∃ ao cap, v = .slice ao x.length cap ∧ D.Row wr ao x := D.row_of_own h.own
theorem D.Made.nil (w : World) {wr : World} (h : Below w.heap.size w wr) : D.Made [] w (.slice none 0 0) wr := ⟨World.ownsRow_nil _ _ _ _, h⟩
def D.NormEnd (l : List D.P) (w : World) (e : Ending) (w' : World) : Prop :=
  ∃ v, e = .returned (.tuple #[v, .int .i64 (D.chk l)]) ∧ D.Made (if D.chk l = 0 then D.normP l else []) w v w'
theorem D.txt_le {l : List D.P} (h : ∀ p ∈ l, p.t.size ≤ 140737488351232) : Hid (∀ p ∈ l, p.t.size ≤ 140737488351232) := h
end Go.Proofs.Ytmbgcbgbdjiacaa
/- DeltaRef4 -/
namespace Go.Proofs.Ytmbgcbgbdjiacaa
open Go.RowKit

def D.normal (l : List D.P) : Bool := decide (D.chk l = 0) && D.same l (D.normP l)
theorem D.Made.row {x : List D.P} {w : World} {v : Value} {wr : World} (h : D.Made x w v wr) : ∃ ao cap, Hid (v = .slice ao x.length cap) ∧ Hid (D.Row wr ao x) := D.row_of_own h.own
theorem D.normP_len (l : List D.P) : (D.normP l).length ≤ l.length := by
  unfold D.normP
  rw [List.length_map]
  refine Nat.le_trans (D.nf_length _) ?_
  unfold D.qs
  rw [List.length_map]
  exact Nat.le_refl _
def D.eqv (a b : List D.P) : Bool := decide (D.chk a = 0) && (decide (D.chk b = 0) && D.same (D.normP a) (D.normP b))
def D.eqvE (a b : List D.P) : Int := if D.chk a = 0 then D.chk b else D.chk a
def D.idE (n : Int) : Int := if n < 0 then 2 else if 1048576 < n then 5 else 0
def D.idP (n : Int) : List D.P := if 0 < n ∧ n ≤ 1048576 then [⟨1, n, ⟨#[]⟩⟩] else []
def D.IdEnd (n : Int) (w : World) (e : Ending) (w' : World) : Prop := ∃ v, e = .returned (.tuple #[v, .int .i64 (D.idE n)]) ∧ D.Made (D.idP n) w v w'
end Go.Proofs.Ytmbgcbgbdjiacaa
/- DeltaKn -/
namespace Go.Proofs.Ytmbgcbgbdjiacaa
open Go.RowKit

/-- Rows of pieces that outlive what is made behind them. -/
structure D.Kn (w wr : World) (L : List (Option Addr × List D.P)) : Prop where
  below : Below w.heap.size w wr
  rows : ∀ x ∈ L, D.Row wr x.1 x.2
theorem D.Kn.on {w wr w' : World} {L : List (Option Addr × List D.P)} (h : D.Kn w wr L) (hb : Below wr.heap.size wr w') : D.Kn w w' L := ⟨h.below.trans (hb.mono h.below.size), fun x hx => (h.rows x hx).below hb⟩
theorem D.Kn.add {w wr : World} {L : List (Option Addr × List D.P)} (h : D.Kn w wr L) (ao : Option Addr) (l : List D.P) (hr : D.Row wr ao l) : D.Kn w wr ((ao, l) :: L) := ⟨h.below, fun x hx => by
  rcases List.mem_cons.1 hx with rfl | hx
  · exact hr
  · exact h.rows x hx⟩
theorem D.Kn.r0 {w wr : World} {L : List (Option Addr × List D.P)} {ao : Option Addr} {l : List D.P} (h : D.Kn w wr ((ao, l) :: L)) : D.Row wr ao l := h.rows (ao, l) (by simp)
theorem D.Kn.tl {w wr : World} {L : List (Option Addr × List D.P)} {x : Option Addr × List D.P} (h : D.Kn w wr (x :: L)) : D.Kn w wr L := ⟨h.below, fun y hy => h.rows y (List.mem_cons_of_mem _ hy)⟩
theorem D.Kn.made {w wr w' : World} {L : List (Option Addr × List D.P)} (h : D.Kn w wr L) {l : List D.P} {v : Value} (hm : D.Made l wr v w') : ∃ ao c, v = .slice ao l.length c ∧ Hid (D.Kn w w' ((ao, l) :: L)) := by
  obtain ⟨ao, c, hv, hr⟩ := hm.form
  exact ⟨ao, c, hv, (h.on hm.below).add ao l hr⟩
theorem D.row_lit (w : World) (l : List D.P) : D.Row (w.alloc (.cells (D.cellsL l).toArray 53)) (some ⟨w.heap.size, 0, none⟩) l := fun i p hp => by
  obtain ⟨h0, h1, h2⟩ := D.cellsL_at l i p hp
  have key : ∀ j u, (D.cellsL l)[j]? = some u → (w.alloc (.cells (D.cellsL l).toArray 53)).cell? ⟨w.heap.size, j, none⟩ = some u := fun j u hu => by
    rw [World.cell?_alloc_new]
    simpa using hu
  refine ⟨w.heap.size, 0, rfl, by simp, ?_⟩
  rw [Nat.zero_add]
  exact ⟨key _ _ h0, key _ _ h1, key _ _ h2⟩
end Go.Proofs.Ytmbgcbgbdjiacaa
