/- The contract of spoil: it writes over the children of a node whose row is owned. -/
import Derived.Test.YtdpaleldalplfaaNodeLaws0
namespace Go.Proofs.Ytdpaleldalplfaa
open Go.RowKit

/-- Only one block has changed, and it is as long as it was. -/
structure N.Ow (g c : Nat) (W0 W : World) : Prop where
  grown : W0.grownBy W (some g)
  box : ∃ cur, W.heap[g]? = some (.cells cur 52 (0, 0)) ∧ cur.size = c
theorem N.Ow.set {g c : Nat} {W0 W : World} (h : N.Ow g c W0 W) (o : Nat) (z : Value) : N.Ow g c W0 (W.setCell ⟨g, o, none⟩ z) := by
  obtain ⟨cur, hb, hc⟩ := h.box
  have hG := h.grown
  refine ⟨⟨hG.os, hG.tape, hG.output, Nat.le_trans hG.size (by simp [World.setCell]), fun k hk hne => ?_⟩, ?_⟩
  · have : k ≠ g := fun e => hne (by rw [e])
    rw [Below.heap_setCell _ _ _ _ this]
    exact hG.block k hk hne
  · have e := heap_setCell_same W g o _ _ z hb
    exact ⟨_, e, by simpa using hc⟩
theorem N.Ow.cell {g c : Nat} {W0 W : World} (h : N.Ow g c W0 W) (o : Nat) (ho : o < c) : (∃ z, W.cell? ⟨g, o, none⟩ = some z) ∧ W.frozen? ⟨g, o, none⟩ = false := by
  obtain ⟨cur, hb, hc⟩ := h.box
  refine ⟨⟨cur[o]'(by omega), ?_⟩, frozen_of_row _ _ _ _ _ hb⟩
  rw [cell_of_row W g o cur _ _ hb, Array.getElem?_eq_getElem (by omega)]
def N.SpEnd (v : Value) (w : World) (e : Ending) (w' : World) : Prop := e = .returned (.tuple #[]) ∧ w.grownBy w' v.ownBlock
set_option maxRecDepth 100000 in
set_option maxHeartbeats 2000000 in
theorem spoil12_any (h : Int) (t : ByteArray) (v : Value) (l : List N.K) (base : Nat) (w : World) (hl : l.length ≤ 1000000) (ho : w.ownsRow base 52 4 v l.length (N.cells l)) :
    Calls Try.prog 32 #[.agg #[.int .i64 h, .string t, v]] w (N.SpEnd v w) := by
  obtain ⟨hle, ⟨rfl, h0⟩ | ⟨g, cap, cur, rfl, hbg, hg, hnc, hcm, hcs, ht⟩⟩ := ho
  · have hl0 : l.length = 0 := h0
    have R : Hid (w.grownBy (w.alloc (.cells #[.int .i64 h, .string t, .slice none 0 0] 24)) none) := World.grownBy_alloc w _ none
    have X1 := Lib.hid (N.Nb.new w h t (.slice none 0 0) 24)
    clear hle
    go_enter Try.func32, Try.ntmps32
    go_wp2
    go_loopw [2] (fun j wr => j = .int .i64 0 ∧ Hid (w.grownBy wr none) ∧ Hid (N.Nb wr w.heap.size h t (.slice none 0 0))) (fun _ _ => 0)
    case atStart => exact ⟨rfl, R, X1⟩
    case round =>
      clear R X1
      obtain ⟨rfl, hR, hX⟩ := hrel
      have x2 := hX.out.c2
      go_wp2
      go_end0
      exact ⟨rfl, hR.out⟩
  · have hgl := (Array.getElem?_eq_some_iff.1 hg).1
    have X1 := Lib.hid (N.Nb.new w h t (.slice (some ⟨g, 0, none⟩) l.length cap) 24)
    have O1 : Hid (N.Ow g (cap * 4) w (w.alloc (.cells #[.int .i64 h, .string t, .slice (some ⟨g, 0, none⟩) l.length cap] 24))) := ⟨World.grownBy_alloc w _ _, cur, (Below.heap_alloc _ _ _ hgl).trans hg, hcs⟩
    have hne : g ≠ w.heap.size := by omega
    have hne' : w.heap.size ≠ g := by omega
    have Hn := Lib.hid (And.intro hnc hne)
    clear hle hg hcs ht hcm
    go_enter Try.func32, Try.ntmps32
    go_wp2
    go_loopw [2] (fun j wr => ∃ i : Nat, i ≤ l.length ∧ j = .int .i64 i ∧ Hid (N.Ow g (cap * 4) w wr) ∧ Hid (N.Nb wr w.heap.size h t (.slice (some ⟨g, 0, none⟩) l.length cap))) (fun j _ => l.length - (intOf j).toNat)
    case atStart => exact ⟨0, Nat.zero_le _, rfl, O1, X1⟩
    case round =>
      clear O1 X1
      obtain ⟨i, hi, rfl, hO, hX⟩ := hrel
      have x2 := hX.out.c2
      by_cases hlt : i < l.length
      · obtain ⟨⟨z0, c0⟩, f0⟩ := hO.out.cell (i * 4) (by omega)
        obtain ⟨⟨z1, c1⟩, f1⟩ := hO.out.cell (i * 4 + 1) (by omega)
        obtain ⟨⟨z2, c2⟩, f2⟩ := hO.out.cell (i * 4 + 2) (by omega)
        obtain ⟨⟨z3, c3⟩, f3⟩ := hO.out.cell (i * 4 + 3) (by omega)
        have R := Lib.hid ((((hO.out.set (i * 4) (.int .u64 1)).set (i * 4 + 1) (.int .i64 0)).set (i * 4 + 2) (.int .i64 0)).set (i * 4 + 3) (.int .i64 0))
        have X2 : Hid (N.Nb ((((wr.setCell ⟨g, i * 4, none⟩ (.int .u64 1)).setCell ⟨g, i * 4 + 1, none⟩ (.int .i64 0)).setCell ⟨g, i * 4 + 2, none⟩ (.int .i64 0)).setCell ⟨g, i * 4 + 3, none⟩ (.int .i64 0)) w.heap.size h t (.slice (some ⟨g, 0, none⟩) l.length cap)) := by
          have q1 : ∀ o p : Nat, (⟨w.heap.size, o, none⟩ : Addr) ≠ ⟨g, p, none⟩ := fun o p e => hne' (by injection e)
          have q2 : ∀ o p : Nat, (⟨g, p, none⟩ : Addr) ≠ ⟨w.heap.size, o, none⟩ := fun o p e => hne (by injection e)
          have k : ∀ o : Nat, ((((wr.setCell ⟨g, i * 4, none⟩ (.int .u64 1)).setCell ⟨g, i * 4 + 1, none⟩ (.int .i64 0)).setCell ⟨g, i * 4 + 2, none⟩ (.int .i64 0)).setCell ⟨g, i * 4 + 3, none⟩ (.int .i64 0)).cell? ⟨w.heap.size, o, none⟩ = wr.cell? ⟨w.heap.size, o, none⟩ := fun o => by
            rw [World.cell?_setCell_other _ _ _ _ (by first | exact q1 _ _ | exact q2 _ _), World.cell?_setCell_other _ _ _ _ (by first | exact q1 _ _ | exact q2 _ _), World.cell?_setCell_other _ _ _ _ (by first | exact q1 _ _ | exact q2 _ _), World.cell?_setCell_other _ _ _ _ (by first | exact q1 _ _ | exact q2 _ _)]
          exact ⟨by simpa using hX.out.lt, (k 0).trans hX.out.c0, (k 1).trans hX.out.c1, (k 2).trans hX.out.c2⟩
        clear hO hX
        go_wp2
        go_roundw
        case rel => exact ⟨i + 1, by omega, by go_num, R, X2⟩
        case measure => simp [intOf]; omega
      · obtain rfl : i = l.length := by omega
        go_wp2
        go_end0
        exact ⟨rfl, hO.out.grown⟩
end Go.Proofs.Ytdpaleldalplfaa
