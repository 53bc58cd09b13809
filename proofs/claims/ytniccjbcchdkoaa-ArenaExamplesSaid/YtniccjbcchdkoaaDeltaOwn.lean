/- Rows of pieces and rows of bytes that a call owns: what they read as, and that they outlive what is made behind them. -/
import Derived.Test.YtniccjbcchdkoaaDeltaRef2
import Derived.Test.YtniccjbcchdkoaaPackMath
import Derived.Lib.AppendStr
import Derived.Lib.SlBytesRow
import Derived.Laws.OwnMore
namespace Go.Proofs.Ytniccjbcchdkoaa
open Go.RowKit

theorem Try.infoByte : (Try.prog.info? 5).map (fun i => (i.zero, i.size, i.bytes)) = some (some (.int .u8 0), 1, 1) := by kernel_rfl
def D.cellsL (x : List D.P) : List Value := x.flatMap fun p => [.int .u8 p.k, .int .i64 p.n, .string p.t]
theorem D.cellsL_append (x y : List D.P) : D.cellsL (x ++ y) = D.cellsL x ++ D.cellsL y := by simp [D.cellsL]
theorem D.cellsL_one (p : D.P) : D.cellsL [p] = [.int .u8 p.k, .int .i64 p.n, .string p.t] := by simp [D.cellsL]
theorem D.cellsL_len (x : List D.P) : (D.cellsL x).length = x.length * 3 := by
  induction x with
  | nil => rfl
  | cons p x ih =>
    have : D.cellsL (p :: x) = [.int .u8 p.k, .int .i64 p.n, .string p.t] ++ D.cellsL x := by simp [D.cellsL]
    rw [this, List.length_append, ih]; simp; omega
theorem D.cellsL_at (x : List D.P) (i : Nat) (p : D.P) (h : x[i]? = some p) :
    (D.cellsL x)[i * 3]? = some (.int .u8 p.k) ∧ (D.cellsL x)[i * 3 + 1]? = some (.int .i64 p.n) ∧ (D.cellsL x)[i * 3 + 2]? = some (.string p.t) := by
  induction x generalizing i with
  | nil => simp at h
  | cons q x ih =>
    have e : D.cellsL (q :: x) = .int .u8 q.k :: .int .i64 q.n :: .string q.t :: D.cellsL x := by simp [D.cellsL]
    rw [e]
    cases i with
    | zero => simp at h; subst h; exact ⟨rfl, rfl, rfl⟩
    | succ i =>
      obtain ⟨h0, h1, h2⟩ := ih i (by simpa using h)
      have e0 : (i + 1) * 3 = i * 3 + 3 := by omega
      refine ⟨?_, ?_, ?_⟩
      · rw [e0]; exact h0
      · rw [show (i + 1) * 3 + 1 = i * 3 + 1 + 3 by omega]; exact h1
      · rw [show (i + 1) * 3 + 2 = i * 3 + 2 + 3 by omega]; exact h2
theorem D.own_below {w w' : World} {base : Nat} {e : TypeId} {size : Nat} {v : Value} {n : Nat} {xs : List Value} (h : w.ownsRow base e size v n xs) (hb : Below w.heap.size w w') : w'.ownsRow base e size v n xs :=
  h.kept (row := none) ⟨hb.os, hb.tape, hb.output, hb.size, fun k hk _ => hb.block k hk⟩ (by cases v.ownBlock <;> simp)
theorem D.own_mono {w : World} {base base' : Nat} {e : TypeId} {size : Nat} {v : Value} {n : Nat} {xs : List Value} (h : w.ownsRow base e size v n xs) (hb : base' ≤ base) : w.ownsRow base' e size v n xs := by
  obtain ⟨hl, h | ⟨g, cap, cur, hv, hbg, r⟩⟩ := h
  · exact ⟨hl, .inl h⟩
  · exact ⟨hl, .inr ⟨g, cap, cur, hv, Nat.le_trans hb hbg, r⟩⟩
/-- An owned row of bytes, where it is not nil, holds the bytes of a string. -/
theorem D.bytes_of_own {W : World} {base : Nat} {v : Value} {t : List UInt8} (h : W.ownsRow base 5 1 v t.length (Lib.strCells ⟨t.toArray⟩)) (hne : t ≠ []) :
    ∃ g cap, v = .slice (some ⟨g, 0, none⟩) t.length cap ∧ Lib.Bytes W g 0 ⟨t.toArray⟩ := by
  obtain ⟨hl, ⟨rfl, h0⟩ | ⟨g, cap, cur, rfl, hb, hg, hnc, hcm, hcs, ht⟩⟩ := h
  · exact absurd (List.eq_nil_of_length_eq_zero h0) hne
  · refine ⟨g, cap, rfl, fun i hi => ?_⟩
    rw [Nat.zero_add]
    have h1 : (Lib.strCells ⟨t.toArray⟩)[i]? = some (.int .u8 (((⟨t.toArray⟩ : ByteArray)[i]).toNat : Int)) := by
      rw [Lib.strCells, List.getElem?_map, List.getElem?_eq_getElem (by rw [D.size_l] at hi; simpa using hi)]
      rfl
    rw [← ht, List.getElem?_take] at h1
    have hi' : i < t.length * 1 := by rw [D.size_l] at hi; omega
    rw [if_pos hi'] at h1
    rw [cell_of_row W g _ cur _ _ hg]
    simpa using h1
theorem D.news (W : World) (cs : List Value) (t : TypeId) : ∀ j u, cs[j]? = some u → (W.alloc (.cells cs.toArray t)).cell? ((⟨W.heap.size, 0, none⟩ : Addr).add j) = some u := fun j u hu => by
  have hadd : (⟨W.heap.size, 0, none⟩ : Addr).add j = ⟨W.heap.size, j, none⟩ := by unfold Addr.add; split <;> simp_all
  rw [hadd, World.cell?_alloc_new]
  simpa using hu
theorem D.slice_of_own {W : World} {base : Nat} {e : TypeId} {size : Nat} {v : Value} {n : Nat} {xs : List Value} (h : W.ownsRow base e size v n xs) : ∃ ao c, v = .slice ao n c := by
  obtain ⟨hl, ⟨rfl, h0⟩ | ⟨g, cap, cur, rfl, _⟩⟩ := h
  · exact ⟨none, 0, by rw [h0]⟩
  · exact ⟨_, _, rfl⟩
/-- The cells of bytes. -/
def D.bytesL (t : List UInt8) : List Value := t.map fun b => .int .u8 b.toNat
theorem D.bytesL_str (t : ByteArray) : Lib.strCells t = D.bytesL t.data.toList := rfl
theorem D.bytesL_append (s t : List UInt8) : D.bytesL (s ++ t) = D.bytesL s ++ D.bytesL t := by simp [D.bytesL]
theorem D.raw_cases (q : D.Q) : (D.isR q = true ∧ (D.raw q).k = 1) ∨ (D.isR q = false ∧ ((D.raw q).k = 2 ∨ (D.raw q).k = 3)) := by
  cases q
  · exact .inl ⟨rfl, rfl⟩
  · exact .inr ⟨rfl, .inl rfl⟩
  · exact .inr ⟨rfl, .inr rfl⟩
end Go.Proofs.Ytniccjbcchdkoaa
