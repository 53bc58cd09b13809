/- Texts joined: ValRow -/
import Derived.Test.YtniccjbcchdkoaaApplyRow
import Derived.Deep.OwnRows
/- ValRow -/
namespace Go.Proofs.Ytniccjbcchdkoaa
open Go.RowKit

def V.str (t : List UInt8) : Value := .string ⟨t.toArray⟩
theorem V.str_size (t : List UInt8) : (⟨t.toArray⟩ : ByteArray).size = t.length := D.size_l t
theorem V.str_part (s : ByteArray) (i n : Nat) : (.string (s.extract i (i + n)) : Value) = V.str ((s.data.toList.drop i).take n) := by
  unfold V.str; rw [← D.part_bytes, D.bytes_eq]
theorem V.str_of (s : ByteArray) : (.string s : Value) = V.str s.data.toList := by unfold V.str; rw [D.bytes_eq]
/-- A row of values of one cell. -/
def V.Row (W : World) (ao : Option Addr) (l : List Value) : Prop := ∀ (i : Nat) (x : Value), l[i]? = some x → ∃ b o, ao = some ⟨b, o, none⟩ ∧ b < W.heap.size ∧ W.cell? ⟨b, o + i, none⟩ = some x
theorem V.Row.below {W W' : World} {ao : Option Addr} {l : List Value} (h : V.Row W ao l) (hb : Below W.heap.size W W') : V.Row W' ao l := fun i x hx => by
  obtain ⟨b, o, e, hl, hc⟩ := h i x hx
  exact ⟨b, o, e, Nat.lt_of_lt_of_le hl hb.size, ((D.bcell hb).1 _ _ hl).trans hc⟩
theorem V.row_of {W : World} {base : Nat} {e : TypeId} {v : Value} {l : List Value} (h : W.ownsRow base e 1 v l.length l) : ∃ ao c, v = .slice ao l.length c ∧ V.Row W ao l := by
  obtain ⟨hl, ⟨rfl, h0⟩ | ⟨g, cap, cur, rfl, hb, hg, hnc, hcm, hcs, ht⟩⟩ := h
  · exact ⟨none, 0, by rw [h0], fun i x hx => by have := (List.getElem?_eq_some_iff.1 hx).1; omega⟩
  · have hlt := (Array.getElem?_eq_some_iff.1 hg).1
    refine ⟨some ⟨g, 0, none⟩, cap, rfl, fun i x hx => ⟨g, 0, rfl, hlt, ?_⟩⟩
    have hi := (List.getElem?_eq_some_iff.1 hx).1
    have hu := hx
    rw [← ht, List.getElem?_take, if_pos (by omega)] at hu
    rw [cell_of_row W g _ cur _ _ hg, Nat.zero_add]
    simpa using hu
theorem V.own_made (w : World) (base n : Nat) (z : Value) (e : TypeId) (hb : base ≤ w.heap.size) (hm : n ≤ maxLen) : (w.alloc (.cells (madeCells #[z] n) e)).ownsRow base e 1 (.slice (some ⟨w.heap.size, 0, none⟩) n n) n (List.replicate n z) :=
  ⟨by simp, .inr ⟨w.heap.size, n, _, rfl, hb, heap_alloc_new w _, Nat.le_refl _, hm, by rw [size_madeCells]; omega, by rw [toList_madeCells_one, List.take_of_length_le (by simp)]⟩⟩
theorem V.own_cell {W : World} {base g n c : Nat} {e : TypeId} {xs : List Value} (h : W.ownsRow base e 1 (.slice (some ⟨g, 0, none⟩) n c) n xs) {i : Nat} {u : Value} (hu : xs[i]? = some u) : W.cell? ⟨g, i, none⟩ = some u ∧ W.frozen? ⟨g, i, none⟩ = false ∧ base ≤ g := by
  obtain ⟨hl, ⟨e', _⟩ | ⟨g', cap, cur, e', hb, hg, hnc, hcm, hcs, ht⟩⟩ := h
  · cases e'
  · cases e'
    have hi := (List.getElem?_eq_some_iff.1 hu).1
    rw [← ht, List.getElem?_take, if_pos (by omega)] at hu
    exact ⟨by rw [cell_of_row W g _ cur _ _ hg]; simpa using hu, frozen_of_row _ _ _ _ _ hg, hb⟩
theorem V.own_set {W : World} {base g n c : Nat} {e : TypeId} {xs : List Value} (h : W.ownsRow base e 1 (.slice (some ⟨g, 0, none⟩) n c) n xs) (i : Nat) (u : Value) : (W.setCell ⟨g, i, none⟩ u).ownsRow base e 1 (.slice (some ⟨g, 0, none⟩) n c) n (xs.set i u) := by
  obtain ⟨hl, ⟨e', _⟩ | ⟨g', cap, cur, e', hb, hg, hnc, hcm, hcs, ht⟩⟩ := h
  · cases e'
  · cases e'
    refine ⟨by rw [List.length_set]; exact hl, .inr ⟨g, c, cur.setIfInBounds i u, rfl, hb, by rw [heap_setCell_same W g i _ _ _ hg], hnc, hcm, by rw [Array.size_setIfInBounds]; exact hcs, ?_⟩⟩
    rw [Array.toList_setIfInBounds, List.take_set, ht]
/-- A row that a call makes. -/
structure V.Made (e : TypeId) (l : List Value) (w : World) (v : Value) (wr : World) : Prop where
  own : wr.ownsRow w.heap.size e 1 v l.length l
  below : Below w.heap.size w wr
theorem V.Made.nil (e : TypeId) (w : World) {wr : World} (h : Below w.heap.size w wr) : V.Made e [] w (.slice none 0 0) wr := ⟨World.ownsRow_nil _ _ _ _, h⟩
theorem V.Made.row {e : TypeId} {l : List Value} {w : World} {v : Value} {wr : World} (h : V.Made e l w v wr) : ∃ ao c, v = .slice ao l.length c ∧ V.Row wr ao l := V.row_of h.own
theorem V.Made.slice {e : TypeId} {l : List Value} {w : World} {v : Value} {wr : World} (h : V.Made e l w v wr) : ∃ ao c, v = .slice ao l.length c := by obtain ⟨ao, c, h, _⟩ := h.row; exact ⟨ao, c, h⟩
/-- An append of one value that has just been laid. -/
theorem V.append_one {P : Program} {e se : TypeId} {i : TypeInfo} {z : Value} {by_ : Nat} (hse : P.underlying se = some (.slice e)) (hi : P.info? e = some i) (hz : i.zero = some z) (hs1 : i.size = 1) (hby : i.bytes = by_) (hzc : z.cells.size = 1) (hz1 : by_ ≤ 1000)
    {W : World} {ops : Array Oper} {rest : List Oper} {o : Oper} {a : Act} {Q : Exit → Act → World → Prop} (hgd : o.guard = none) (s x : Operand)
    (ho : o.op = .call { callee := .builtin .append, args := #[s, x], argTypes := #[se, se] })
    (base : Nat) (v : Value) (X : List Value) (hs : a.eval s = v) (hown : W.ownsRow base e 1 v X.length X) (u : Value) (h1 : u.oneCell' = true) (cc : Nat) (hx : a.eval x = .slice (some ⟨W.heap.size, 0, none⟩) 1 cc) (hn : X.length ≤ 1000000000) (hbase : base ≤ W.heap.size)
    (h : ∀ Z v' w', Hid (Z = X ++ [u]) → w'.ownsRow base e 1 v' Z.length Z → W.grownBy w' v.ownBlock → wpList P ops Q rest (a.put o.dst v') w') :
    wpList P ops Q (o :: rest) a (W.alloc (.cells #[u] e)) := by
  refine wpList_append_own _ hgd s x se ho base e i z 1 by_ hse hi hz hs1 hby hzc (by decide) v X.length X hs (hown.alloc _) ⟨W.heap.size, 0, none⟩ 1 cc [u] hx rfl ?_ (fun y hy => by rw [List.mem_singleton.1 hy]; exact h1) (by unfold maxLen; omega) ?_ (by simp only [World.size_alloc]; omega) ?_
  · exact D.news W [u] e
  · have : (X.length + 1) * by_ ≤ (X.length + 1) * 1000 := Nat.mul_le_mul_left _ hz1
    omega
  · intro v' w' h1 h2 _
    refine h _ v' w' rfl ?_ ⟨h2.os, h2.tape, h2.output, Nat.le_trans (by simp only [World.size_alloc]; omega) h2.size, fun k hk hne => (h2.block k (by simp only [World.size_alloc]; omega) hne).trans (Lib.alloc_old W _ k hk)⟩
    rw [List.length_append]; exact h1
theorem V.Made.on {e : TypeId} {X Z : List Value} {w : World} {v v' : Value} {wr w' : World} (h : V.Made e X w v wr) (h1 : w'.ownsRow w.heap.size e 1 v' Z.length Z) (h2 : wr.grownBy w' v.ownBlock) : V.Made e Z w v' w' := ⟨h1, h.below.grown h2 h.below.size (fun k e => (h.own.lt k e).1)⟩
theorem V.Made.drew {e : TypeId} {X : List Value} {w : World} {v : Value} {wr : World} (h : V.Made e X w v wr) : V.Made e X w v wr.drew := ⟨h.own.drew, h.below.drew⟩
end Go.Proofs.Ytniccjbcchdkoaa
