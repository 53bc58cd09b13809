/- Rows of handles: comparing, copying (the laws' kit), the order of the reference of layer 10. -/
import Derived.Test.YtdpaleldalplfaaHandRef1
import Derived.Test.YtdpaleldalplfaaPackDTab
import Derived.BigQuiet
namespace Go.Proofs.Ytdpaleldalplfaa
open Go.RowKit

def H.hv (h : Nat) : Value := .int .u64 (h : Int)
def H.row (l : List Nat) : List Value := l.map H.hv
theorem H.row_len (l : List Nat) : (H.row l).length = l.length := List.length_map _
theorem H.row_at {l : List Nat} {W : World} {ao : Option Addr} (h : V.Row W ao (H.row l)) {i x : Nat} (hx : l[i]? = some x) : ∃ b o, ao = some ⟨b, o, none⟩ ∧ b < W.heap.size ∧ W.cell? ⟨b, o + i, none⟩ = some (.int .u64 (x : Int)) :=
  h i (H.hv x) (by unfold H.row; rw [List.getElem?_map, hx]; rfl)
theorem H.drop_cons {l : List Nat} {k : Nat} (h : k < l.length) : ∃ p, l[k]? = some p ∧ l.drop k = p :: l.drop (k + 1) :=
  ⟨l[k], List.getElem?_eq_getElem h, (List.drop_eq_getElem_cons h)⟩
theorem Try.infoHandle : (Try.prog.info? 50).map (fun i => (i.zero, i.size, i.bytes)) = some (some (.int .u64 0), 1, 8) := by kernel_rfl
theorem H.cell {W V : World} {b o : Nat} {v : Value} (hb : Below W.heap.size W V) (hlt : b < W.heap.size) (h : W.cell? ⟨b, o, none⟩ = some v) : V.cell? ⟨b, o, none⟩ = some v := ((D.bcell hb).1 _ _ hlt).trans h
theorem H.drewN {W w : World} {B : Nat} (h : Below B w W) (n : Nat) : Below B w (W.drewN n) := h.trans ⟨rfl, rfl, rfl, Nat.le_refl _, fun _ _ => rfl⟩
/-- A row of handles that a call makes. -/
def H.Made (l : List Nat) (w : World) (v : Value) (wr : World) : Prop := V.Made 50 (H.row l) w v wr
theorem H.Made.row {l : List Nat} {w : World} {v : Value} {wr : World} (h : H.Made l w v wr) : ∃ ao c, v = .slice ao l.length c ∧ V.Row wr ao (H.row l) := by
  obtain ⟨ao, c, e, r⟩ := V.Made.row h
  rw [H.row_len] at e
  exact ⟨ao, c, e, r⟩
theorem H.Made.nil (w : World) {wr : World} (h : Below w.heap.size w wr) : H.Made [] w (.slice none 0 0) wr := V.Made.nil _ w h
theorem H.row_snoc (l : List Nat) (p : Nat) : H.row (l ++ [p]) = H.row l ++ [H.hv p] := by simp [H.row]
/-! ### The order -/
theorem H.bf_iff (a b : Nat) : H.bf a b ↔ H.slot a < H.slot b ∨ (H.slot a = H.slot b ∧ a < b) := Iff.rfl
end Go.Proofs.Ytdpaleldalplfaa
