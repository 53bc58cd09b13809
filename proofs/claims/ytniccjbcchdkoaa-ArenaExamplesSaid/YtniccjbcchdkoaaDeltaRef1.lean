/- The contracts of the reference of layer 3: Piece, Check, Sizes, Same. -/
import Derived.Test.YtniccjbcchdkoaaProg
import Derived.Test.YtniccjbcchdkoaaPackMath
import Derived.WalkKit
import Derived.WalkSpells
import Derived.WalkLawsBesides
import Derived.LoopTactic
import Derived.Lib.Hide
import Derived.BigQuiet
import Derived.Deep.QuietTactic
import Derived.Outline
namespace Go.Proofs.Ytniccjbcchdkoaa
open Go.RowKit

theorem D.ret_bool {a b : Bool} (h : a = b) : Ending.returned (.bool a) = .returned (.bool b) := by rw [h]
theorem D.bcell {W w1 : World} (hb : Below W.heap.size W w1) : (∀ b o, b < W.heap.size → w1.cell? ⟨b, o, none⟩ = W.cell? ⟨b, o, none⟩) ∧ (∀ b o, b < W.heap.size → w1.frozen? ⟨b, o, none⟩ = W.frozen? ⟨b, o, none⟩) :=
  ⟨fun b o h => hb.cell (p := ⟨b, o, none⟩) h, fun b o h => hb.frozen (p := ⟨b, o, none⟩) h⟩
/-- A piece, as a value. -/
def D.val (p : D.P) : Value := .agg #[.int .u8 p.k, .int .i64 p.n, .string p.t]
/-- Pieces lie in a row. -/
def D.Row (W : World) (ao : Option Addr) (l : List D.P) : Prop :=
  ∀ (i : Nat) (p : D.P), l[i]? = some p → ∃ b o, ao = some ⟨b, o, none⟩ ∧ b < W.heap.size ∧
    W.cell? ⟨b, o + i * 3, none⟩ = some (.int .u8 p.k) ∧ W.cell? ⟨b, o + i * 3 + 1, none⟩ = some (.int .i64 p.n) ∧ W.cell? ⟨b, o + i * 3 + 2, none⟩ = some (.string p.t)
theorem D.Row.below {W W' : World} {ao : Option Addr} {l : List D.P} (h : D.Row W ao l) (hb : Below W.heap.size W W') : D.Row W' ao l := fun i p hp => by
  obtain ⟨b, o, e, hlt, h0, h1, h2⟩ := h i p hp
  have hc := (D.bcell hb).1
  exact ⟨b, o, e, Nat.lt_of_lt_of_le hlt hb.size, (hc _ _ hlt).trans h0, (hc _ _ hlt).trans h1, (hc _ _ hlt).trans h2⟩
theorem D.drop_cons {l : List D.P} {k : Nat} (h : k < l.length) : ∃ p, l[k]? = some p ∧ l.drop k = p :: l.drop (k + 1) :=
  ⟨l[k], List.getElem?_eq_getElem h, (List.drop_eq_getElem_cons h)⟩
theorem D.txt_empty {t : ByteArray} : (t.toList == ([] : List UInt8)) = decide (t.size = 0) := by
  rw [ByteArray.toList_eq, Bool.eq_iff_iff]
  simp only [beq_iff_eq, decide_eq_true_eq]
  constructor
  · intro h; have : t.data.toList.length = t.size := by simp
    rw [h] at this; exact this.symm
  · intro h; rw [D.empty_of_size h]
theorem D.isEmpty_eq {t : ByteArray} : t.toList.isEmpty = decide (t.size = 0) := by
  rw [← D.txt_empty, Bool.eq_iff_iff]
  cases t.toList <;> simp
/-- Between two rounds of a check: what is left has the error of the whole. -/
structure D.Chk (l : List D.P) (k : Nat) (i o : Int) (w wr : World) : Prop where
  same : D.chkF i o (l.drop k) = D.chkF 0 0 l
  below : Below w.heap.size w wr
theorem D.cell3 {W V : World} {b o : Nat} {p : D.P} (hb : Below W.heap.size W V) (hlt : b < W.heap.size)
    (h : W.cell? ⟨b, o, none⟩ = some (.int .u8 p.k) ∧ W.cell? ⟨b, o + 1, none⟩ = some (.int .i64 p.n) ∧ W.cell? ⟨b, o + 2, none⟩ = some (.string p.t)) :
    V.cell? ⟨b, o, none⟩ = some (.int .u8 p.k) ∧ V.cell? ⟨b, o + 1, none⟩ = some (.int .i64 p.n) ∧ V.cell? ⟨b, o + 2, none⟩ = some (.string p.t) :=
  ⟨((D.bcell hb).1 _ _ hlt).trans h.1, ((D.bcell hb).1 _ _ hlt).trans h.2.1, ((D.bcell hb).1 _ _ hlt).trans h.2.2⟩
theorem D.box {W V : World} (p : D.P) (t : TypeId) (hb : Below (W.alloc (.cells #[.int .u8 p.k, .int .i64 p.n, .string p.t] t)).heap.size (W.alloc (.cells #[.int .u8 p.k, .int .i64 p.n, .string p.t] t)) V) :
    V.cell? ⟨W.heap.size, 0, none⟩ = some (.int .u8 p.k) ∧ V.cell? ⟨W.heap.size, 1, none⟩ = some (.int .i64 p.n) ∧ V.cell? ⟨W.heap.size, 2, none⟩ = some (.string p.t) := by
  have hc := (D.bcell hb).1
  refine ⟨(hc _ _ (by simp)).trans ?_, (hc _ _ (by simp)).trans ?_, (hc _ _ (by simp)).trans ?_⟩ <;> simp [go_sem]
end Go.Proofs.Ytniccjbcchdkoaa
