/- The contracts of the reference of layer 3: Normalize, Normal, Equivalent, Identity. -/
import Derived.Test.YtlkkgjkbjjifmaaDoorDeltaRefForm
namespace Go.Proofs.YtlkkgjkbjjifmaaDoor
open Go.RowKit

theorem D.txt_le {l : List D.P} (h : ∀ p ∈ l, p.t.size ≤ 140737488351232) : Hid (∀ p ∈ l, p.t.size ≤ 140737488351232) := h
end Go.Proofs.YtlkkgjkbjjifmaaDoor
