/- Rows of pieces that outlive what is made behind them; rows that a literal lays. -/
import Derived.Test.YtdpjnhmnmpmkmaaDeltaRef3
namespace Go.Proofs.Ytdpjnhmnmpmkmaa
open Go.RowKit

/-- Rows of pieces that outlive what is made behind them. -/
structure D.Kn (w wr : World) (L : List (Option Addr × List D.P)) : Prop where
  below : Below w.heap.size w wr
  rows : ∀ x ∈ L, D.Row wr x.1 x.2
theorem D.Kn.on {w wr w' : World} {L : List (Option Addr × List D.P)} (h : D.Kn w wr L) (hb : Below wr.heap.size wr w') : D.Kn w w' L := ⟨h.below.trans (hb.mono h.below.size), fun x hx => (h.rows x hx).below hb⟩
theorem D.Kn.add {w wr : World} {L : List (Option Addr × List D.P)} (h : D.Kn w wr L) (ao : Option Addr) (l : List D.P) (hr : D.Row wr ao l) : D.Kn w wr ((ao, l) :: L) := ⟨h.below, fun x hx => by
  rcases List.mem_cons.1 hx with rfl | hx
  · exact hr
  · exact h.rows x hx⟩
theorem D.Kn.r0 {w wr : World} {L : List (Option Addr × List D.P)} {ao : Option Addr} {l : List D.P} (h : D.Kn w wr ((ao, l) :: L)) : D.Row wr ao l := h.rows (ao, l) (by simp)
theorem D.Kn.tl {w wr : World} {L : List (Option Addr × List D.P)} {x : Option Addr × List D.P} (h : D.Kn w wr (x :: L)) : D.Kn w wr L := ⟨h.below, fun y hy => h.rows y (List.mem_cons_of_mem _ hy)⟩
theorem D.Kn.made {w wr w' : World} {L : List (Option Addr × List D.P)} (h : D.Kn w wr L) {l : List D.P} {v : Value} (hm : D.Made l wr v w') : ∃ ao c, v = .slice ao l.length c ∧ Hid (D.Kn w w' ((ao, l) :: L)) := by
  obtain ⟨ao, c, hv, hr⟩ := hm.form
  exact ⟨ao, c, hv, (h.on hm.below).add ao l hr⟩
theorem D.row_lit (w : World) (l : List D.P) : D.Row (w.alloc (.cells (D.cellsL l).toArray 38)) (some ⟨w.heap.size, 0, none⟩) l := fun i p hp => by
  obtain ⟨h0, h1, h2⟩ := D.cellsL_at l i p hp
  have key : ∀ j u, (D.cellsL l)[j]? = some u → (w.alloc (.cells (D.cellsL l).toArray 38)).cell? ⟨w.heap.size, j, none⟩ = some u := fun j u hu => by
    rw [World.cell?_alloc_new]
    simpa using hu
  refine ⟨w.heap.size, 0, rfl, by simp, ?_⟩
  rw [Nat.zero_add]
  exact ⟨key _ _ h0, key _ _ h1, key _ _ h2⟩
end Go.Proofs.Ytdpjnhmnmpmkmaa
