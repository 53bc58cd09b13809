/- Writing a text: what has been written between two rounds. -/
import Derived.Test.YtmjoijloflinnaaDoorDeltaTxt
import Derived.Test.YtmjoijloflinnaaDoorDeltaOwn
namespace Go.Proofs.YtmjoijloflinnaaDoor
open Go.RowKit

def D.txtP (l : List D.P) : List UInt8 := if D.chk l = 0 then D.text (D.qs l) else []
def D.TextEnd (l : List D.P) (w : World) (e : Ending) (w' : World) : Prop := e = .returned (.tuple #[.string ⟨(D.txtP l).toArray⟩, .int .i64 (D.chk l)]) ∧ Below w.heap.size w w'
/-- A row of bytes that the call owns. -/
structure D.BytesAt (t : List UInt8) (w : World) (v : Value) (wr : World) : Prop where
  own : wr.ownsRow w.heap.size 5 1 v t.length (D.bytesL t)
  below : Below w.heap.size w wr
theorem D.inL_snoc (a : List D.Q) (j : Nat) (q : D.Q) (h : a[j]? = some q) : D.inL (a.take (j + 1)) = D.inL (a.take j) + D.in1 q := by
  rw [List.take_add_one, h]
  show D.inL (a.take j ++ [q]) = _
  rw [D.inL_append]
  rfl
theorem D.outL_snoc (a : List D.Q) (j : Nat) (q : D.Q) (h : a[j]? = some q) : D.outL (a.take (j + 1)) = D.outL (a.take j) + D.out1 q := by
  rw [List.take_add_one, h]
  show D.outL (a.take j ++ [q]) = _
  rw [D.outL_append]
  rfl
theorem D.inL_le (a : List D.Q) (j : Nat) : D.inL (a.take j) ≤ D.inL a := by
  have e := D.inL_append (a.take j) (a.drop j)
  rw [List.take_append_drop] at e
  omega
theorem D.outL_le (a : List D.Q) (j : Nat) : D.outL (a.take j) ≤ D.outL a := by
  have e := D.outL_append (a.take j) (a.drop j)
  rw [List.take_append_drop] at e
  omega
def D.sep (k : Nat) : List UInt8 := if k = 0 then [] else [32]
theorem D.text_take (a : List D.Q) (k : Nat) (q : D.Q) (h : a[k]? = some q) : D.text (a.take (k + 1)) = D.text (a.take k) ++ D.sep k ++ D.form1 q := by
  have hk := (List.getElem?_eq_some_iff.1 h).1
  rw [List.take_add_one, h]
  show D.text (a.take k ++ [q]) = _
  rw [D.text_snoc, List.length_take, Nat.min_eq_left (by omega)]
  rfl
theorem D.text_take_len (a : List D.Q) (hi : D.inL a ≤ 1048576) (ho : D.outL a ≤ 1048576) (hn : a.length ≤ 4096) (k : Nat) : (D.text (a.take k)).length ≤ 3000000 := by
  have e : a = a.take k ++ a.drop k := (List.take_append_drop k a).symm
  have h1 := D.inL_append (a.take k) (a.drop k)
  have h2 := D.outL_append (a.take k) (a.drop k)
  rw [← e] at h1 h2
  have h3 := D.text_len (a.take k) (by omega)
  have h4 : (a.take k).length ≤ a.length := by rw [List.length_take]; exact Nat.min_le_right _ _
  omega
theorem D.sep_len (k : Nat) : (D.sep k).length ≤ 1 := by unfold D.sep; split <;> simp
end Go.Proofs.YtmjoijloflinnaaDoor
