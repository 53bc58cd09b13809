/- The contract of the laws' ints: are two rows of numbers the same? -/
import Derived.Test.YtampekldlnlhdaaDeltaRefAtoms
namespace Go.Proofs.Ytampekldlnlhdaa
open Go.RowKit

def D.IRow (W : World) (ao : Option Addr) (x : List Int) : Prop := ∀ (i : Nat) (n : Int), x[i]? = some n → ∃ b o, ao = some ⟨b, o, none⟩ ∧ b < W.heap.size ∧ W.cell? ⟨b, o + i, none⟩ = some (.int .i64 n)
theorem D.IRow.below {W W' : World} {ao : Option Addr} {x : List Int} (h : D.IRow W ao x) (hb : Below W.heap.size W W') : D.IRow W' ao x := fun i n hn => by
  obtain ⟨b, o, e, hl, hc⟩ := h i n hn
  exact ⟨b, o, e, Nat.lt_of_lt_of_le hl hb.size, ((D.bcell hb).1 b (o + i) hl).trans hc⟩
theorem D.IntsAt.irow {x : List Int} {w : World} {v : Value} {wr : World} (h : D.IntsAt x w v wr) : ∃ ao c, v = .slice ao x.length c ∧ D.IRow wr ao x := by
  obtain ⟨_, ⟨rfl, h0⟩ | ⟨g, cap, cur, rfl, _, hg, _, _, _, ht⟩⟩ := h.own
  · exact ⟨none, 0, by rw [h0], fun i n hn => by have := (List.getElem?_eq_some_iff.1 hn).1; omega⟩
  · refine ⟨some ⟨g, 0, none⟩, cap, rfl, fun i n hn => ⟨g, 0, rfl, (Array.getElem?_eq_some_iff.1 hg).1, ?_⟩⟩
    have hi := (List.getElem?_eq_some_iff.1 hn).1
    have h1 : (D.intsL x)[i]? = some (.int .i64 n) := by unfold D.intsL; rw [List.getElem?_map, hn]; rfl
    rw [← ht, List.getElem?_take, if_pos (by omega)] at h1
    rw [Nat.zero_add, cell_of_row wr g _ cur _ _ hg]
    simpa using h1
theorem D.at_int {x : List Int} {k : Nat} (h : k < x.length) : ∃ n, x[k]? = some n ∧ x.take (k + 1) = x.take k ++ [n] := ⟨x[k], List.getElem?_eq_getElem h, by rw [List.take_add_one, List.getElem?_eq_getElem h]; rfl⟩
end Go.Proofs.Ytampekldlnlhdaa
