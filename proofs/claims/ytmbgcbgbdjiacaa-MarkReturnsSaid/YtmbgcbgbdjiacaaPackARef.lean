/- Texts joined: ApplyRef1 ApplyRef2 -/
import Derived.Test.YtmbgcbgbdjiacaaApplyRow
import Derived.Test.YtmbgcbgbdjiacaaPackRef
import Derived.Deep.DeepCutAuto
import Derived.Deep.CutBlock
/- ApplyRef1 -/
namespace Go.Proofs.Ytmbgcbgbdjiacaa
open Go.RowKit

def A.PartsEnd (S : List UInt8) (a : List D.Q) (w : World) (e : Ending) (w' : World) : Prop := e = .returned (.tuple #[.string ⟨(D.apl S a).toArray⟩, .string ⟨(D.gone S a).toArray⟩]) ∧ Below w.heap.size w w'
/-- A row of bytes that a call owns. -/
structure A.One (X : List UInt8) (w : World) (v : Value) (wr : World) : Prop where
  own : wr.ownsRow w.heap.size 5 1 v X.length (D.bytesL X)
  below : Below w.heap.size w wr
theorem A.One.on {X Z : List UInt8} {w : World} {v v' : Value} {wr w' : World} (h : A.One X w v wr) (h1 : w'.ownsRow w.heap.size 5 1 v' Z.length (D.bytesL Z)) (h2 : wr.grownBy w' v.ownBlock) : A.One Z w v' w' := ⟨h1, h.below.grown h2 h.below.size (fun k e => (h.own.lt k e).1)⟩
end Go.Proofs.Ytmbgcbgbdjiacaa
/- ApplyRef2 -/
namespace Go.Proofs.Ytmbgcbgbdjiacaa
open Go.RowKit

def A.InvEnd (S : List UInt8) (l : List D.P) (w : World) (e : Ending) (w' : World) : Prop := ∃ v, e = .returned (.tuple #[v, .int .i64 (D.fitE S l)]) ∧ D.Made (D.invP S l) w v w'
/-- What the makers of single edits answer. -/
def A.MkEnd (n a k : Int) (t : ByteArray) (w : World) (e : Ending) (w' : World) : Prop := ∃ v, e = .returned (.tuple #[v, .int .i64 (D.mkE n a k t.data.toList)]) ∧ D.Made (D.mkP n a k t.data.toList) w v w'
/-- The pieces of an edit, one after another. -/
def A.e1 (a : Nat) : List D.P := if 0 < a then [⟨1, a, ⟨#[]⟩⟩] else []
def A.e2 (t : ByteArray) : List D.P := if t.data.toList = [] then [] else [⟨2, 0, t⟩]
def A.e3 (k : Nat) : List D.P := if 0 < k then [⟨3, k, ⟨#[]⟩⟩] else []
theorem A.edit_parts (n a k : Nat) (t : ByteArray) : (D.edit n a k t.data.toList).map D.raw = A.e1 a ++ A.e2 t ++ A.e3 k ++ (if a + k < n then [⟨1, ((n - a - k : Nat) : Int), ⟨#[]⟩⟩] else []) := by
  unfold D.edit A.e1 A.e2 A.e3
  rw [List.map_append, List.map_append, List.map_append]
  congr 1
  · congr 1
    · congr 1
      · split <;> rfl
      · split
        · rfl
        · simp [D.raw]
    · split <;> rfl
  · split <;> rfl
theorem A.e_len (a k : Nat) (t : ByteArray) : (A.e1 a).length ≤ 1 ∧ (A.e2 t).length ≤ 1 ∧ (A.e3 k).length ≤ 1 := by
  unfold A.e1 A.e2 A.e3
  refine ⟨?_, ?_, ?_⟩ <;> split <;> simp
end Go.Proofs.Ytmbgcbgbdjiacaa
