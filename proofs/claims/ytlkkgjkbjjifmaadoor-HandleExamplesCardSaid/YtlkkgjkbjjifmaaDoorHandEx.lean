/- What HandleExamples lays: two literal rows, and what they hold. -/
import Derived.Test.YtlkkgjkbjjifmaaDoorHandLaws1
import Derived.Test.YtlkkgjkbjjifmaaDoorHandLaws2
import Derived.Test.YtlkkgjkbjjifmaaDoorHandSorts
namespace Go.Proofs.YtlkkgjkbjjifmaaDoor
open Go.RowKit

def M10.sl : List Int := [-9223372036854775808, -1, 0, 1, 2, 16382, 16383, 16384, 65535, 65536, 9223372036854775807]
def M10.gl : List Nat := [0, 1, 2, 3, 4294967294, 4294967295, 4294967296, 281474976710655, 281474976710656, 18446744073709551615]
def M10.sr : List Value := M10.sl.map fun s => .int .i64 s
structure M10.St (w : World) (b : Nat) (W : World) : Prop where
  below : Below w.heap.size w W
  srow : V.Row W (some ⟨b, 0, none⟩) M10.sr
  grow_ : V.Row W (some ⟨b + 1, 0, none⟩) (H.row M10.gl)
theorem M10.St.on {w W W' : World} {b : Nat} (h : M10.St w b W) (hb : Below W.heap.size W W') : M10.St w b W' := ⟨h.below.trans (hb.mono h.below.size), h.srow.below hb, h.grow_.below hb⟩
theorem M10.lit (w : World) (l : List Value) (t : TypeId) : V.Row (w.alloc (.cells l.toArray t)) (some ⟨w.heap.size, 0, none⟩) l := fun i x hx => by
  refine ⟨w.heap.size, 0, rfl, by simp, ?_⟩
  rw [Nat.zero_add, Lib.cell_of_heap (heap_alloc_new w _)]; simpa using hx
theorem M10.St.new (w : World) (t u : TypeId) : M10.St w w.heap.size ((w.alloc (.cells M10.sr.toArray t)).alloc (.cells (H.row M10.gl).toArray u)) := by
  refine ⟨((Below.refl _ _).alloc (Nat.le_refl _) _).alloc (by simp) _, (M10.lit w _ t).below ((Below.refl _ _).alloc (Nat.le_refl _) _), ?_⟩
  have := M10.lit (w.alloc (.cells M10.sr.toArray t)) (H.row M10.gl) u
  rw [World.size_alloc] at this
  exact this
theorem M10.wrap_bd (z : Int) : 0 ≤ IntKind.u64.wrap z ∧ IntKind.u64.wrap z ≤ 18446744073709551615 := by
  have e : IntKind.u64.wrap z = z % 18446744073709551616 := by simp [IntKind.wrap, IntKind.bits, IntKind.signed]
  omega
theorem M10.St.cells {w W : World} {b a j : Nat} (h : M10.St w b W) {s gi : Int} {g : Nat} (hs : M10.sl[a]? = some s) (hg : M10.gl[j]? = some g) (hgi : (g : Int) = gi) : W.cell? ⟨b, a, none⟩ = some (.int .i64 s) ∧ W.cell? ⟨b + 1, j, none⟩ = some (.int .u64 gi) := by
  obtain ⟨_, _, es, _, c0⟩ := h.srow a (.int .i64 s) (by unfold M10.sr; rw [List.getElem?_map, hs]; rfl)
  obtain ⟨_, _, eg, _, d0⟩ := H.row_at h.grow_ hg
  cases es
  cases eg
  rw [Nat.zero_add] at c0 d0
  rw [hgi] at d0
  exact ⟨c0, d0⟩
theorem M10.St.drew {w W : World} {b : Nat} (h : M10.St w b W) : M10.St w b W.drew := h.on ⟨rfl, rfl, rfl, Nat.le_refl _, fun _ _ => rfl⟩
end Go.Proofs.YtlkkgjkbjjifmaaDoor
