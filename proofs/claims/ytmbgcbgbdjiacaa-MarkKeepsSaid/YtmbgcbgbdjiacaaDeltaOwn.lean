/- Rows of pieces and rows of bytes that a call owns: what they read as, and that they outlive what is made behind them. -/
import Derived.Test.YtmbgcbgbdjiacaaDeltaRef2
import Derived.Test.YtmbgcbgbdjiacaaPackMath
import Derived.Lib.AppendStr
import Derived.Lib.SlBytesRow
import Derived.Laws.OwnMore
namespace Go.Proofs.Ytmbgcbgbdjiacaa
open Go.RowKit

theorem Try.infoPiece : (Try.prog.info? 53).map (fun i => (i.zero, i.size, i.bytes)) = some (some (.agg #[.int .u8 0, .int .i64 0, .string ⟨#[]⟩]), 3, 32) := by kernel_rfl
theorem Try.infoByte : (Try.prog.info? 5).map (fun i => (i.zero, i.size, i.bytes)) = some (some (.int .u8 0), 1, 1) := by kernel_rfl
def D.cellsL (x : List D.P) : List Value := x.flatMap fun p => [.int .u8 p.k, .int .i64 p.n, .string p.t]
theorem D.cellsL_append (x y : List D.P) : D.cellsL (x ++ y) = D.cellsL x ++ D.cellsL y := by simp [D.cellsL]
theorem D.cellsL_one (p : D.P) : D.cellsL [p] = [.int .u8 p.k, .int .i64 p.n, .string p.t] := by simp [D.cellsL]
theorem D.cellsL_len (x : List D.P) : (D.cellsL x).length = x.length * 3 := by
  induction x with
  | nil => rfl
  | cons p x ih =>
    have : D.cellsL (p :: x) = [.int .u8 p.k, .int .i64 p.n, .string p.t] ++ D.cellsL x := by simp [D.cellsL]
    rw [this, List.length_append, ih]; simp; omega
theorem D.cellsL_at (x : List D.P) (i : Nat) (p : D.P) (h : x[i]? = some p) :
    (D.cellsL x)[i * 3]? = some (.int .u8 p.k) ∧ (D.cellsL x)[i * 3 + 1]? = some (.int .i64 p.n) ∧ (D.cellsL x)[i * 3 + 2]? = some (.string p.t) := by
  induction x generalizing i with
  | nil => simp at h
  | cons q x ih =>
    have e : D.cellsL (q :: x) = .int .u8 q.k :: .int .i64 q.n :: .string q.t :: D.cellsL x := by simp [D.cellsL]
    rw [e]
    cases i with
    | zero => simp at h; subst h; exact ⟨rfl, rfl, rfl⟩
    | succ i =>
      obtain ⟨h0, h1, h2⟩ := ih i (by simpa using h)
      have e0 : (i + 1) * 3 = i * 3 + 3 := by omega
      refine ⟨?_, ?_, ?_⟩
      · rw [e0]; exact h0
      · rw [show (i + 1) * 3 + 1 = i * 3 + 1 + 3 by omega]; exact h1
      · rw [show (i + 1) * 3 + 2 = i * 3 + 2 + 3 by omega]; exact h2
theorem D.own_below {w w' : World} {base : Nat} {e : TypeId} {size : Nat} {v : Value} {n : Nat} {xs : List Value} (h : w.ownsRow base e size v n xs) (hb : Below w.heap.size w w') : w'.ownsRow base e size v n xs :=
  h.kept (row := none) ⟨hb.os, hb.tape, hb.output, hb.size, fun k hk _ => hb.block k hk⟩ (by cases v.ownBlock <;> simp)
theorem D.own_mono {w : World} {base base' : Nat} {e : TypeId} {size : Nat} {v : Value} {n : Nat} {xs : List Value} (h : w.ownsRow base e size v n xs) (hb : base' ≤ base) : w.ownsRow base' e size v n xs := by
  obtain ⟨hl, h | ⟨g, cap, cur, hv, hbg, r⟩⟩ := h
  · exact ⟨hl, .inl h⟩
  · exact ⟨hl, .inr ⟨g, cap, cur, hv, Nat.le_trans hb hbg, r⟩⟩
/-- An owned row of pieces reads as these pieces. -/
theorem D.row_of_own {W : World} {base : Nat} {v : Value} {x : List D.P} (h : W.ownsRow base 53 3 v x.length (D.cellsL x)) :
    ∃ ao cap, v = .slice ao x.length cap ∧ D.Row W ao x := by
  obtain ⟨hl, ⟨rfl, h0⟩ | ⟨g, cap, cur, rfl, hb, hg, hnc, hcm, hcs, ht⟩⟩ := h
  · exact ⟨none, 0, by rw [h0], fun i p hp => by have := (List.getElem?_eq_some_iff.1 hp).1; omega⟩
  · have hlt := (Array.getElem?_eq_some_iff.1 hg).1
    refine ⟨some ⟨g, 0, none⟩, cap, rfl, fun i p hp => ⟨g, 0, rfl, hlt, ?_⟩⟩
    have hi := (List.getElem?_eq_some_iff.1 hp).1
    obtain ⟨h0, h1, h2⟩ := D.cellsL_at x i p hp
    have key : ∀ (j : Nat) (u : Value), (D.cellsL x)[j]? = some u → W.cell? ⟨g, j, none⟩ = some u := fun j u hu => by
      rw [← ht, List.getElem?_take] at hu
      have hj : j < x.length * 3 := by
        by_cases hj : j < x.length * 3
        · exact hj
        · rw [if_neg hj] at hu; cases hu
      rw [if_pos hj] at hu
      rw [cell_of_row W g _ cur _ _ hg]
      simpa using hu
    rw [Nat.zero_add]
    exact ⟨key _ _ h0, key _ _ h1, key _ _ h2⟩
/-- An owned row of bytes, where it is not nil, holds the bytes of a string. -/
theorem D.bytes_of_own {W : World} {base : Nat} {v : Value} {t : List UInt8} (h : W.ownsRow base 5 1 v t.length (Lib.strCells ⟨t.toArray⟩)) (hne : t ≠ []) :
    ∃ g cap, v = .slice (some ⟨g, 0, none⟩) t.length cap ∧ Lib.Bytes W g 0 ⟨t.toArray⟩ := by
  obtain ⟨hl, ⟨rfl, h0⟩ | ⟨g, cap, cur, rfl, hb, hg, hnc, hcm, hcs, ht⟩⟩ := h
  · exact absurd (List.eq_nil_of_length_eq_zero h0) hne
  · refine ⟨g, cap, rfl, fun i hi => ?_⟩
    rw [Nat.zero_add]
    have h1 : (Lib.strCells ⟨t.toArray⟩)[i]? = some (.int .u8 (((⟨t.toArray⟩ : ByteArray)[i]).toNat : Int)) := by
      rw [Lib.strCells, List.getElem?_map, List.getElem?_eq_getElem (by rw [D.size_l] at hi; simpa using hi)]
      rfl
    rw [← ht, List.getElem?_take] at h1
    have hi' : i < t.length * 1 := by rw [D.size_l] at hi; omega
    rw [if_pos hi'] at h1
    rw [cell_of_row W g _ cur _ _ hg]
    simpa using h1
theorem D.news (W : World) (cs : List Value) (t : TypeId) : ∀ j u, cs[j]? = some u → (W.alloc (.cells cs.toArray t)).cell? ((⟨W.heap.size, 0, none⟩ : Addr).add j) = some u := fun j u hu => by
  have hadd : (⟨W.heap.size, 0, none⟩ : Addr).add j = ⟨W.heap.size, j, none⟩ := by unfold Addr.add; split <;> simp_all
  rw [hadd, World.cell?_alloc_new]
  simpa using hu
theorem D.slice_of_own {W : World} {base : Nat} {e : TypeId} {size : Nat} {v : Value} {n : Nat} {xs : List Value} (h : W.ownsRow base e size v n xs) : ∃ ao c, v = .slice ao n c := by
  obtain ⟨hl, ⟨rfl, h0⟩ | ⟨g, cap, cur, rfl, _⟩⟩ := h
  · exact ⟨none, 0, by rw [h0]⟩
  · exact ⟨_, _, rfl⟩
/-- The cells of bytes. -/
def D.bytesL (t : List UInt8) : List Value := t.map fun b => .int .u8 b.toNat
theorem D.bytesL_str (t : ByteArray) : Lib.strCells t = D.bytesL t.data.toList := rfl
theorem D.bytesL_append (s t : List UInt8) : D.bytesL (s ++ t) = D.bytesL s ++ D.bytesL t := by simp [D.bytesL]
/-- The head of an outer round: the pieces that were written, and the normal form of what is left, make the normal form. -/
structure D.FormAt (a : List D.Q) (w : World) (v : Value) (k : Nat) (wr : World) (x : List D.Q) : Prop where
  own : wr.ownsRow w.heap.size 53 3 v x.length (D.cellsL (x.map D.raw))
  nf : x ++ D.nf (a.drop k) = D.nf a
  below : Below w.heap.size w wr
theorem D.FormAt.small {a w v k wr x} (h : D.FormAt a w v k wr x) : x.length ≤ a.length := by
  have := congrArg List.length h.nf
  rw [List.length_append] at this
  have := D.nf_length a
  omega
/-- Within an outer round: the row that was written, and a row of bytes behind it. -/
structure D.GapAt (a x : List D.Q) (w W0 : World) (v : Value) (k j : Nat) (tv : Value) (wr : World) : Prop where
  own : wr.ownsRow w.heap.size 53 3 v x.length (D.cellsL (x.map D.raw))
  txt : wr.ownsRow W0.heap.size 5 1 tv (D.txt (D.seg a k j)).length (D.bytesL (D.txt (D.seg a k j)))
  gap : ∀ q ∈ D.seg a k j, D.isR q = false
  below : Below W0.heap.size W0 wr
/-- The row after one piece more. -/
structure D.RowAt (x : List D.Q) (w : World) (v : Value) (wr : World) : Prop where
  own : wr.ownsRow w.heap.size 53 3 v x.length (D.cellsL (x.map D.raw))
  below : Below w.heap.size w wr
theorem D.raw_cases (q : D.Q) : (D.isR q = true ∧ (D.raw q).k = 1) ∨ (D.isR q = false ∧ ((D.raw q).k = 2 ∨ (D.raw q).k = 3)) := by
  cases q
  · exact .inl ⟨rfl, rfl⟩
  · exact .inr ⟨rfl, .inl rfl⟩
  · exact .inr ⟨rfl, .inr rfl⟩
end Go.Proofs.Ytmbgcbgbdjiacaa
