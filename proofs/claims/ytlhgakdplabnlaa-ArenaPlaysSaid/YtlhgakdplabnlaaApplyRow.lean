/- Rows of bytes that grow by strings: where the new row lies; two of them side by side. -/
import Derived.Test.YtlhgakdplabnlaaPackSrc
import Derived.Test.YtlhgakdplabnlaaPackRef
import Derived.Lib.Builder
import Derived.Test.YtlhgakdplabnlaaPackMath
import Derived.Deep.AppendLies
namespace Go.Proofs.Ytlhgakdplabnlaa
open Go.RowKit

/-- Two rows of bytes that the call owns, in blocks of their own. -/
structure A.Two (X Y : List UInt8) (w : World) (v u : Value) (wr : World) : Prop where
  own1 : wr.ownsRow w.heap.size 5 1 v X.length (D.bytesL X)
  own2 : wr.ownsRow w.heap.size 5 1 u Y.length (D.bytesL Y)
  ne : v.ownBlock = none ∨ v.ownBlock ≠ u.ownBlock
  below : Below w.heap.size w wr
theorem A.Two.fst {X Y Z : List UInt8} {w : World} {v u v' : Value} {wr w' : World} (h : A.Two X Y w v u wr) (h1 : w'.ownsRow w.heap.size 5 1 v' Z.length (D.bytesL Z)) (h2 : wr.grownBy w' v.ownBlock) (h3 : v'.ownBlock = v.ownBlock ∨ v'.ownBlock = some wr.heap.size) : A.Two Z Y w v' u w' := by
  have hne : u.ownBlock = none ∨ u.ownBlock ≠ v.ownBlock := by
    rcases h.ne with e | e
    · rw [e]; cases u.ownBlock <;> simp
    · exact .inr fun x => e x.symm
  refine ⟨h1, h.own2.kept h2 hne, ?_, h.below.grown h2 h.below.size (fun k e => (h.own1.lt k e).1)⟩
  rcases h3 with e | e
  · rw [e]; exact h.ne
  · right
    rw [e]
    intro x
    have := (h.own2.lt _ x.symm).2
    omega
theorem A.Two.snd {X Y Z : List UInt8} {w : World} {v u u' : Value} {wr w' : World} (h : A.Two X Y w v u wr) (h1 : w'.ownsRow w.heap.size 5 1 u' Z.length (D.bytesL Z)) (h2 : wr.grownBy w' u.ownBlock) (h3 : u'.ownBlock = u.ownBlock ∨ u'.ownBlock = some wr.heap.size) : A.Two X Z w v u' w' := by
  have hne : v.ownBlock = none ∨ v.ownBlock ≠ u.ownBlock := h.ne
  refine ⟨h.own1.kept h2 hne, h1, ?_, h.below.grown h2 h.below.size (fun k e => (h.own2.lt k e).1)⟩
  rcases h3 with e | e
  · rw [e]; exact h.ne
  · rw [e]
    cases hv : v.ownBlock with
    | none => exact .inl rfl
    | some k =>
      right
      intro x
      have := (h.own1.lt _ hv).2
      injection x with x
      omega
theorem A.extract_part (s : ByteArray) (i n : Nat) : s.extract i (i + n) = ⟨((s.data.toList.drop i).take n).toArray⟩ := by
  rw [← D.part_bytes, D.bytes_eq]
end Go.Proofs.Ytlhgakdplabnlaa
