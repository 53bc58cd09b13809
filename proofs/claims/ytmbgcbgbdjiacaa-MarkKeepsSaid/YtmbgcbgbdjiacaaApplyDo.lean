/- The contracts of apply: Apply, Removed (a strings.Builder that a closure writes), skip. -/
import Derived.Test.YtmbgcbgbdjiacaaApplyBuild
namespace Go.Proofs.Ytmbgcbgbdjiacaa
open Go.RowKit

/-- What belongs to it: its block, and rows of bytes. -/
def A.BR (b : Nat) (W : World) (j : Nat) : Prop := j = b ∨ ∃ c fz, W.heap[j]? = some (.cells c 5 fz)
set_option maxRecDepth 100000 in
theorem A.bytes_len (x : List UInt8) : (D.bytesL x).length = x.length := by unfold D.bytesL; rw [List.length_map]
set_option maxRecDepth 100000 in
theorem A.part_len (S : List UInt8) (a : List D.Q) (k : Nat) (q : D.Q) (hq : a[k]? = some q) (hi : D.inL a ≤ 1048576) : (D.part S a k q).length ≤ 1048576 := by
  obtain ⟨_, h⟩ := D.inL_take_le a k q hq
  unfold D.part
  rw [List.length_take]
  omega
set_option maxRecDepth 100000 in
theorem A.size_of {x : ByteArray} {l : List UInt8} (h : x.data.toList = l) : x.size = l.length := by rw [← h]; simp
end Go.Proofs.Ytmbgcbgbdjiacaa
