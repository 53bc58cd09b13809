/- Rows of a call's own whose contents do not matter: what a law writes over. -/
import Derived.Test.YtniccjbcchdkoaaPackFRef
namespace Go.Proofs.Ytniccjbcchdkoaa
open Go.RowKit

/-- A row that is written over lies in a block below the other rows' bases. -/
theorem FL.own_far {W : World} {g i base : Nat} {e : TypeId} {v u : Value} {n : Nat} {xs : List Value} (h : W.ownsRow base e 1 v n xs) (hg : g < base) : (W.setCell ⟨g, i, none⟩ u).ownsRow base e 1 v n xs :=
  (FL.But.set (R := fun k => k = g) W u rfl).row h (fun b hb c => by have := (h.lt b hb).1; omega)
/-- A row of n places of a call's own, whatever it holds. -/
def FL.Pl (base : Nat) (e : TypeId) (v : Value) (n : Nat) (W : World) : Prop := ∃ xs, W.ownsRow base e 1 v n xs
theorem FL.Pl.below {base n : Nat} {e : TypeId} {v : Value} {W W' : World} (h : FL.Pl base e v n W) (hb : Below W.heap.size W W') : FL.Pl base e v n W' := by obtain ⟨xs, h⟩ := h; exact ⟨xs, D.own_below h hb⟩
theorem FL.Pl.far {base n g i : Nat} {e : TypeId} {v u : Value} {W : World} (h : FL.Pl base e v n W) (hg : g < base) : FL.Pl base e v n (W.setCell ⟨g, i, none⟩ u) := by obtain ⟨xs, h⟩ := h; exact ⟨xs, FL.own_far h hg⟩
theorem FL.Pl.slice {base n : Nat} {e : TypeId} {v : Value} {W : World} (h : FL.Pl base e v n W) : ∃ ao c, v = .slice ao n c := by obtain ⟨xs, h⟩ := h; exact D.slice_of_own h
/-- What a store at a place of it wants and leaves. -/
theorem FL.Pl.put {base n : Nat} {e : TypeId} {v : Value} {W : World} (h : FL.Pl base e v n W) {i : Nat} (hi : i < n) : ∃ g c, v = .slice (some ⟨g, 0, none⟩) n c ∧ base ≤ g ∧ g < W.heap.size ∧ (∃ y, W.cell? ⟨g, i, none⟩ = some y) ∧ W.frozen? ⟨g, i, none⟩ = false ∧ ∀ u, FL.Pl base e v n (W.setCell ⟨g, i, none⟩ u) := by
  obtain ⟨xs, h⟩ := h
  obtain ⟨g, c, rfl, r, hb, _⟩ := FL.rw_of h (by omega)
  have hl : xs.length = n := by have := h.1; omega
  obtain ⟨y, hy⟩ : ∃ y, xs[i]? = some y := ⟨_, List.getElem?_eq_getElem (by omega)⟩
  have := r.cell hy
  exact ⟨g, c, rfl, hb, r.lt, ⟨y, this.1⟩, this.2, fun u => ⟨_, V.own_set h i u⟩⟩
theorem FL.Made.pl {e : TypeId} {l : List Value} {w : World} {v : Value} {wr : World} (h : V.Made e l w v wr) : FL.Pl w.heap.size e v l.length wr := ⟨_, h.own⟩
theorem FL.Pl.block {base n : Nat} {e : TypeId} {v : Value} {W : World} (h : FL.Pl base e v n W) : ∀ g c, v = .slice (some ⟨g, 0, none⟩) n c → base ≤ g ∧ g < W.heap.size := by
  obtain ⟨xs, h⟩ := h
  rintro g c rfl
  exact h.lt g rfl
end Go.Proofs.Ytniccjbcchdkoaa
