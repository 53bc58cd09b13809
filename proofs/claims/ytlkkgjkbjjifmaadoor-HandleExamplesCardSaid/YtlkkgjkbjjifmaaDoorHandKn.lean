/- Rows of handles that outlive calls, and one that a law writes over. -/
import Derived.Test.YtlkkgjkbjjifmaaDoorHandSort
namespace Go.Proofs.YtlkkgjkbjjifmaaDoor
open Go.RowKit

structure H.Kn (w wr : World) (L : List (Option Addr × List Nat)) : Prop where
  below : Below w.heap.size w wr
  rows : ∀ x ∈ L, V.Row wr x.1 (H.row x.2)
theorem H.Kn.on {w wr w' : World} {L : List (Option Addr × List Nat)} (h : H.Kn w wr L) (hb : Below wr.heap.size wr w') : H.Kn w w' L := ⟨h.below.trans (hb.mono h.below.size), fun x hx => (h.rows x hx).below hb⟩
theorem H.Kn.r0 {w wr : World} {L : List (Option Addr × List Nat)} {ao : Option Addr} {l : List Nat} (h : H.Kn w wr ((ao, l) :: L)) : V.Row wr ao (H.row l) := h.rows (ao, l) (by simp)
theorem H.Kn.tl {w wr : World} {L : List (Option Addr × List Nat)} {x : Option Addr × List Nat} (h : H.Kn w wr (x :: L)) : H.Kn w wr L := ⟨h.below, fun y hy => h.rows y (List.mem_cons_of_mem _ hy)⟩
theorem H.Kn.made {w wr w' : World} {L : List (Option Addr × List Nat)} (h : H.Kn w wr L) {l : List Nat} {v : Value} (hm : H.Made l wr v w') : ∃ ao c, v = .slice ao l.length c ∧ Hid ((ao = none → c = 0) ∧ l.length ≤ c) ∧ Hid (H.Kn w w' ((ao, l) :: L)) := by
  obtain ⟨ao, c, hv, hc, hn, hr⟩ := hm.form2
  have h2 := h.on hm.below
  exact ⟨ao, c, hv, ⟨hn, hc⟩, h2.below, fun x hx => by
    rcases List.mem_cons.1 hx with rfl | hx
    · exact hr
    · exact h2.rows x hx⟩
/-- A row that is written over. -/
def H.Ow (W : World) (ao : Option Addr) (c n : Nat) (wx : World) : Prop := ∃ B : List Nat, B.length = n ∧ H.Made B W (.slice ao n c) wx
theorem H.Ow.of {l : List Nat} {W wx : World} {ao : Option Addr} {c : Nat} (h : H.Made l W (.slice ao l.length c) wx) : H.Ow W ao c l.length wx := ⟨l, rfl, h⟩
theorem H.Ow.on {W wx wy : World} {ao : Option Addr} {c n : Nat} (h : H.Ow W ao c n wx) (hb : Below wx.heap.size wx wy) : H.Ow W ao c n wy := by
  obtain ⟨B, e, hm⟩ := h
  exact ⟨B, e, hm.kept hb⟩
theorem H.Ow.below {W wx : World} {ao : Option Addr} {c n : Nat} (h : H.Ow W ao c n wx) : Below W.heap.size W wx := by
  obtain ⟨B, e, hm⟩ := h
  exact V.Made.below hm
theorem H.row_set (l : List Nat) (i p : Nat) : (H.row l).set i (H.hv p) = H.row (l.set i p) := by unfold H.row; rw [List.map_set]
theorem H.Ow.at {W wx : World} {ao : Option Addr} {c n i : Nat} (h : H.Ow W ao c n wx) (hi : i < n) : ∃ g u, ao = some ⟨g, 0, none⟩ ∧ wx.cell? ⟨g, i, none⟩ = some u ∧ wx.frozen? ⟨g, i, none⟩ = false ∧ ∀ p : Nat, H.Ow W ao c n (wx.setCell ⟨g, i, none⟩ (.int .u64 (p : Int))) := by
  obtain ⟨B, e, hm⟩ := h
  subst e
  have hown : wx.ownsRow W.heap.size 23 1 (.slice ao B.length c) (H.row B).length (H.row B) := V.Made.own hm
  rw [H.row_len] at hown
  obtain ⟨g, rfl⟩ : ∃ g, ao = some ⟨g, 0, none⟩ := by
    obtain ⟨_, ⟨e', h0⟩ | ⟨g', c', cur, e', _⟩⟩ := hown
    · omega
    · simp only [Value.slice.injEq] at e'
      exact ⟨g', e'.1⟩
  obtain ⟨h1, h2, h3⟩ := V.own_cell hown (i := i) (u := H.hv B[i]) (by unfold H.row; rw [List.getElem?_map, List.getElem?_eq_getElem hi]; rfl)
  refine ⟨g, _, rfl, h1, h2, fun p => ⟨B.set i p, by simp, ?_, (V.Made.below hm).setCell (p := ⟨g, i, none⟩) h3 _⟩⟩
  have := V.own_set hown i (H.hv p)
  rw [H.row_set] at this
  rw [H.row_len, List.length_set]
  exact this
set_option maxRecDepth 100000 in
theorem H.slice_to (lo : Option Addr) (n c k : Nat) (hk : k ≤ c) (W : World) : (Instr.slice 44 (.slice lo n c) none (some (.int .i64 (k : Int))) none).run Tryd.prog W = .ok (.slice lo k c) W := by
  have h := run_slice_h (P := Tryd.prog) (w := W) 44 lo n c Tryd.underlying44 .i64 (k : Int) (by omega) (by omega)
  rw [h]
  have hs : (sizeOf (Tryd.prog.elem 44)).run Tryd.prog W = .ok 1 W := by kernel_rfl
  rw [hs]
  simp only [Result.andThen, sliced, Int.toNat_natCast, Nat.sub_zero]
  cases lo <;> simp [Addr.add]
end Go.Proofs.YtlkkgjkbjjifmaaDoor
