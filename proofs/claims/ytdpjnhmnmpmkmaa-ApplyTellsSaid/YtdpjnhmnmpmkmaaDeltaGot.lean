/- A result that a law writes over: it stays in memory of the call's own. -/
import Derived.Test.YtdpjnhmnmpmkmaaDeltaSrc
namespace Go.Proofs.Ytdpjnhmnmpmkmaa
open Go.RowKit

/-- A result that is written over: it stays in memory of the call's own. -/
structure D.Got (ao : Option Addr) (n : Nat) (w wr : World) : Prop where
  below : Below w.heap.size w wr
  row : 0 < n → ∃ g cur, ao = some ⟨g, 0, none⟩ ∧ w.heap.size ≤ g ∧ wr.heap[g]? = some (.cells cur 38) ∧ n * 3 ≤ cur.size
theorem D.got_of_own {w wr : World} {ao : Option Addr} {n c : Nat} {xs : List Value} (h : wr.ownsRow w.heap.size 38 3 (.slice ao n c) n xs) (hb : Below w.heap.size w wr) : D.Got ao n w wr := by
  refine ⟨hb, fun hn => ?_⟩
  obtain ⟨_, ⟨_, h0⟩ | ⟨g, cap, cur, e, h1, h2, h3, _, h4, _⟩⟩ := h
  · omega
  · cases e
    exact ⟨g, cur, rfl, h1, h2, by omega⟩
theorem D.got_cell {wx : World} {g : Nat} {cur : Array Value} (h : wx.heap[g]? = some (.cells cur 38)) {i : Nat} (hi : i < cur.size) : ∃ v, wx.cell? ⟨g, i, none⟩ = some v :=
  ⟨cur[i], by rw [cell_of_row wx g _ _ _ _ h]; exact Array.getElem?_eq_getElem hi⟩
theorem D.got_set {wx : World} {g : Nat} {cur : Array Value} (h : wx.heap[g]? = some (.cells cur 38)) (i : Nat) (v : Value) : ∃ cur', (wx.setCell ⟨g, i, none⟩ v).heap[g]? = some (.cells cur' 38) ∧ cur'.size = cur.size :=
  ⟨cur.setIfInBounds i v, by rw [heap_setCell_same wx g i _ _ _ h], by simp⟩
theorem D.got_three {wx : World} {g : Nat} {cur : Array Value} (h : wx.heap[g]? = some (.cells cur 38)) (i j k : Nat) (u v x : Value) : ∃ cur', (((wx.setCell ⟨g, i, none⟩ u).setCell ⟨g, j, none⟩ v).setCell ⟨g, k, none⟩ x).heap[g]? = some (.cells cur' 38) ∧ cur'.size = cur.size := by
  obtain ⟨c1, h1, e1⟩ := D.got_set h i u
  obtain ⟨c2, h2, e2⟩ := D.got_set h1 j v
  obtain ⟨c3, h3, e3⟩ := D.got_set h2 k x
  exact ⟨c3, h3, by omega⟩
end Go.Proofs.Ytdpjnhmnmpmkmaa
