/- The contracts of package delta's normalizer: settleKept. -/
import Derived.Test.YtdilkoogjkabfaaDoorPackRef
import Derived.Test.YtdilkoogjkabfaaDoorPackMath
import Derived.Deep.AppendLies
import Derived.Deep.RegionLaw
import Derived.OneCell
namespace Go.Proofs.YtdilkoogjkabfaaDoor
open Go.RowKit

/-- What a normalizer at block b holds: what is settled, the bytes kept, the text inserted, the bytes removed. -/
structure D.Nz (B b : Nat) (X : List D.Q) (K : Nat) (T : List UInt8) (N : Nat) (sv iv : Value) (wr : World) : Prop where
  ge : B ≤ b
  box : wr.heap[b]? = some (.cells #[sv, .int .i64 K, iv, .int .i64 N] 63)
  os : wr.ownsRow B 29 3 sv X.length (D.cellsL (X.map D.raw))
  oi : wr.ownsRow B 5 1 iv T.length (D.bytesL T)
theorem D.block_ne {w : World} {base : Nat} {e : TypeId} {size : Nat} {v : Value} {n : Nat} {xs : List Value} (h : w.ownsRow base e size v n xs) {b : Nat} {cs : Array Value} {t : TypeId} (hb : w.heap[b]? = some (.cells cs t)) (hne : e ≠ t) : v.ownBlock ≠ some b := by
  obtain ⟨_, ⟨rfl, _⟩ | ⟨g, cap, cur, rfl, _, hg, _⟩⟩ := h
  · simp [Value.ownBlock]
  · intro e'
    simp only [Value.ownBlock, Option.some.injEq] at e'
    subst e'
    rw [hg] at hb
    simp at hb
    exact hne hb.2
theorem D.rows_ne {w : World} {b1 b2 : Nat} {e1 e2 : TypeId} {s1 s2 : Nat} {v1 v2 : Value} {n1 n2 : Nat} {x1 x2 : List Value} (h1 : w.ownsRow b1 e1 s1 v1 n1 x1) (h2 : w.ownsRow b2 e2 s2 v2 n2 x2) (hne : e1 ≠ e2) : v1.ownBlock = none ∨ v1.ownBlock ≠ v2.ownBlock := by
  obtain ⟨_, ⟨rfl, _⟩ | ⟨g, cap, cur, rfl, _, hg, _⟩⟩ := h2
  · cases v1.ownBlock <;> simp [Value.ownBlock]
  · exact .inr (D.block_ne h1 hg hne)
theorem D.Nz.lt {B b X K T N sv iv wr} (h : D.Nz B b X K T N sv iv wr) : b < wr.heap.size := (Array.getElem?_eq_some_iff.1 h.box).1
/-- The cells of the normalizer, as the walk asks for them. -/
theorem D.Nz.cells {B b X K T N sv iv wr} (h : D.Nz B b X K T N sv iv wr) :
    wr.cell? ⟨b, 0, none⟩ = some sv ∧ wr.cell? ⟨b, 1, none⟩ = some (.int .i64 K) ∧ wr.cell? ⟨b, 2, none⟩ = some iv ∧ wr.cell? ⟨b, 3, none⟩ = some (.int .i64 N) := by
  refine ⟨?_, ?_, ?_, ?_⟩ <;> (rw [cell_of_row wr b _ _ _ _ h.box]; rfl)
theorem D.Nz.free {B b X K T N sv iv wr} (h : D.Nz B b X K T N sv iv wr) : ∀ i, wr.frozen? ⟨b, i, none⟩ = false := fun _ => frozen_of_row _ _ _ _ _ h.box
theorem D.Nz.kept {B b X K T N sv iv wr w' r} (h : D.Nz B b X K T N sv iv wr) (hg : wr.grownBy w' r) (hb : some b ≠ r) (hs : sv.ownBlock = none ∨ sv.ownBlock ≠ r) (hi : iv.ownBlock = none ∨ iv.ownBlock ≠ r) : D.Nz B b X K T N sv iv w' :=
  ⟨h.ge, (hg.block b h.lt hb).trans h.box, h.os.kept hg hs, h.oi.kept hg hi⟩
theorem D.Nz.alloc {B b X K T N sv iv wr} (h : D.Nz B b X K T N sv iv wr) (o : Obj) : D.Nz B b X K T N sv iv (wr.alloc o) :=
  h.kept (World.grownBy_alloc wr o none) (by simp) (by cases sv.ownBlock <;> simp) (by cases iv.ownBlock <;> simp)
theorem D.Nz.drew {B b X K T N sv iv wr} (h : D.Nz B b X K T N sv iv wr) : D.Nz B b X K T N sv iv wr.drew := ⟨h.ge, h.box, h.os.drew, h.oi.drew⟩
theorem D.Nz.drewN {B b X K T N sv iv wr} (h : D.Nz B b X K T N sv iv wr) (n : Nat) : D.Nz B b X K T N sv iv (wr.drewN n) := ⟨h.ge, h.box, h.os, h.oi⟩
theorem D.cell_old {w : World} {b i : Nat} {v : Value} (h : w.cell? ⟨b, i, none⟩ = some v) : ∀ ob : Obj, (w.alloc ob).cell? ⟨b, i, none⟩ = some v := fun ob => by
  have hlt := World.block_lt_of_cell? w _ h
  rw [← h]
  exact World.cell?_of_block (w := w) (heap_alloc_old w ob hlt)
/-- A stored number. -/
theorem D.Nz.putK {B b X K T N sv iv wr} (h : D.Nz B b X K T N sv iv wr) (K' : Nat) : D.Nz B b X K' T N sv iv (wr.setCell ⟨b, 1, none⟩ (.int .i64 K')) :=
  ⟨h.ge, by rw [heap_setCell_same wr b 1 _ _ _ h.box]; rfl, ownsRow_setCell_other h.os (D.block_ne h.os h.box (by decide)) _, ownsRow_setCell_other h.oi (D.block_ne h.oi h.box (by decide)) _⟩
theorem D.Nz.putN {B b X K T N sv iv wr} (h : D.Nz B b X K T N sv iv wr) (N' : Nat) : D.Nz B b X K T N' sv iv (wr.setCell ⟨b, 3, none⟩ (.int .i64 N')) :=
  ⟨h.ge, by rw [heap_setCell_same wr b 3 _ _ _ h.box]; rfl, ownsRow_setCell_other h.os (D.block_ne h.os h.box (by decide)) _, ownsRow_setCell_other h.oi (D.block_ne h.oi h.box (by decide)) _⟩
/-- An append to the settled pieces, stored. -/
theorem D.Nz.putS {B b X K T N sv iv wr X' sv' w'} (h : D.Nz B b X K T N sv iv wr) (hg : wr.grownBy w' sv.ownBlock) (ho : w'.ownsRow B 29 3 sv' X'.length (D.cellsL (X'.map D.raw))) :
    D.Nz B b X' K T N sv' iv (w'.setCell ⟨b, 0, none⟩ sv') := by
  have hb : w'.heap[b]? = _ := (hg.block b h.lt (D.block_ne h.os h.box (by decide)).symm).trans h.box
  have hi : w'.ownsRow B 5 1 iv T.length (D.bytesL T) := h.oi.kept hg (D.rows_ne h.oi h.os (by decide))
  exact ⟨h.ge, by rw [heap_setCell_same w' b 0 _ _ _ hb]; rfl, ownsRow_setCell_other ho (D.block_ne ho hb (by decide)) _, ownsRow_setCell_other hi (D.block_ne hi hb (by decide)) _⟩
theorem D.Nz.putI {B b X K T N sv iv wr T' iv' w'} (h : D.Nz B b X K T N sv iv wr) (hg : wr.grownBy w' iv.ownBlock) (ho : w'.ownsRow B 5 1 iv' T'.length (D.bytesL T')) :
    D.Nz B b X K T' N sv iv' (w'.setCell ⟨b, 2, none⟩ iv') := by
  have hb : w'.heap[b]? = _ := (hg.block b h.lt (D.block_ne h.oi h.box (by decide)).symm).trans h.box
  have hs : w'.ownsRow B 29 3 sv X.length (D.cellsL (X.map D.raw)) := h.os.kept hg (D.rows_ne h.os h.oi (by decide))
  exact ⟨h.ge, by rw [heap_setCell_same w' b 2 _ _ _ hb]; rfl, ownsRow_setCell_other hs (D.block_ne hs hb (by decide)) _, ownsRow_setCell_other ho (D.block_ne ho hb (by decide)) _⟩
/-- All blocks are as they were but the normalizer's own one and that of its pieces. -/
def D.Keep (b : Nat) (sv : Value) (w w' : World) : Prop := ∀ k, k < w.heap.size → k ≠ b → some k ≠ sv.ownBlock → w'.heap[k]? = w.heap[k]?
theorem D.Keep.set {b : Nat} {sv : Value} {w w' : World} (h : D.Keep b sv w w') (i : Nat) (v : Value) : D.Keep b sv w (w'.setCell ⟨b, i, none⟩ v) :=
  fun k hk hb hs => (Below.heap_setCell _ _ _ _ hb).trans (h k hk hb hs)
def D.NzEnd (B b : Nat) (X : List D.Q) (K : Nat) (T : List UInt8) (N : Nat) (sv0 : Value) (w : World) (e : Ending) (w' : World) : Prop := e = .returned (.tuple #[]) ∧ ∃ sv iv, D.Nz B b X K T N sv iv w' ∧ Below B w w' ∧ D.Keep b sv0 w w'
set_option maxHeartbeats 2000000 in
theorem settleKept_any (B b : Nat) (X : List D.Q) (K : Nat) (T : List UInt8) (N : Nat) (sv iv : Value) (w : World) (h : D.Nz B b X K T N sv iv w) (hB : B ≤ w.heap.size) (hX : X.length ≤ 1000000) (hK : K ≤ 1000000000) :
    Calls Tryd.prog 35 #[.pointer (some ⟨b, 0, none⟩)] w (D.NzEnd B b (X ++ D.oR K) 0 T N sv w) := by
  obtain ⟨c0, c1, c2, c3⟩ := h.cells
  have fz := h.free
  rcases Nat.eq_zero_or_pos K with hz | hz
  · subst hz
    have R : Hid (D.NzEnd B b (X ++ D.oR 0) 0 T N sv w (.returned (.tuple #[])) (w.setCell ⟨b, 1, none⟩ (.int .i64 0))) := by
      show D.NzEnd _ _ _ _ _ _ _ _ _ _
      rw [D.oR_zero, List.append_nil]
      exact ⟨rfl, sv, iv, h.putK 0, (Below.refl _ _).setCell h.ge _, D.Keep.set (fun _ _ _ _ => rfl) _ _⟩
    clear h
    go_enter Tryd.func35, Tryd.ntmps35
    go_wp2
    go_end0
    exact R.out
  · obtain ⟨ip, hp, hp0, hp1, hp2⟩ := info_parts Tryd.infoPiece
    have Hp := Lib.hid (And.intro hp (And.intro hp0 (And.intro hp1 hp2)))
    clear hp hp0 hp1 hp2
    have HZ := Lib.hid hz
    have H := Lib.hid h
    have hbl := h.lt
    have hbg := h.ge
    obtain ⟨tb, tc, rfl⟩ := D.slice_of_own h.os
    clear h
    have d0 := D.cell_old c0
    have d1 := D.cell_old c1
    go_enter Tryd.func35, Tryd.ntmps35
    go_wp2_with fail
    go_region_law (first
      | (refine step_append_lies _ rfl (.tmp 11) (.tmp 17) 22 rfl B 29 ip (.agg #[.int .u8 0, .int .i64 0, .string ⟨#[]⟩]) 3 32 Tryd.underlying22 Hp.out.1 Hp.out.2.1 Hp.out.2.2.1 Hp.out.2.2.2 rfl (by decide) (.slice tb X.length tc) X.length (D.cellsL (X.map D.raw)) rfl ?own _ 1 1 [.int .u8 1, .int .i64 (K : Int), .string ⟨#[]⟩] rfl rfl ?news (fun u hu => by simp at hu; rcases hu with rfl | rfl | rfl <;> rfl) (by decide) (by unfold maxLen; omega) (by omega) ?base _ rfl ?_
         case own => repeat (first | exact H.out.os | refine World.ownsRow.drew ?_ | refine World.ownsRow.alloc ?_ _)
         case news => exact D.news _ _ _
         case base => first | omega | (simp; omega)
         intro g cp w3 hO3 hg3 hat3 hlt3
         have R : D.Nz B b (X ++ [.R K]) K T N (.slice (some ⟨g, 0, none⟩) (X.length + 1) cp) iv (w3.setCell ⟨b, 0, none⟩ (.slice (some ⟨g, 0, none⟩) (X.length + 1) cp)) := by
           refine D.Nz.putS (X := X) ?h hg3 ?o
           case h => repeat (first | exact H.out | refine D.Nz.drew ?_ | refine D.Nz.alloc ?_ _)
           case o =>
             rw [List.map_append, D.cellsL_append, List.length_append]
             exact hO3
         have hB3 : Below B w w3 := by
           refine Below.grown ?_ hg3 ?_ (fun k e => (H.out.os.lt k e).1)
           · repeat (first | exact Below.refl _ _ | refine Below.drew ?_ | refine Below.alloc ?_ (by first | omega | (simp; omega)) _)
           · first | omega | (simp; omega)
         have hKp : D.Keep b (.slice tb X.length tc) w w3 := fun k hk _ hs => (hg3.block k (by first | omega | (simp; omega)) hs).trans (Below.heap_alloc _ _ _ hk)
         have hKp := Lib.hid hKp
         have hbne := (D.block_ne H.out.os H.out.box (by decide)).symm
         have hbx : w3.heap[b]? = some (.cells #[.slice tb X.length tc, .int .i64 K, iv, .int .i64 N] 63) := by
           refine (hg3.block b ?_ hbne).trans (D.Nz.box (B := B) (X := X) (T := T) ?_)
           · first | exact hbl | (simp; omega)
           · repeat (first | exact H.out | refine D.Nz.drew ?_ | refine D.Nz.alloc ?_ _)
         have c0 : w3.cell? ⟨b, 0, none⟩ = some (.slice tb X.length tc) := by rw [cell_of_row w3 b _ _ _ _ hbx]; rfl
         have c1 : w3.cell? ⟨b, 1, none⟩ = some (.int .i64 K) := by rw [cell_of_row w3 b _ _ _ _ hbx]; rfl
         have fz : w3.frozen? ⟨b, 0, none⟩ = false := frozen_of_row _ _ _ _ _ hbx
         have fz1 : w3.frozen? ⟨b, 1, none⟩ = false := frozen_of_row _ _ _ _ _ hbx
         have R := Lib.hid R
         have hB3 := Lib.hid hB3
         clear hO3 hg3 hat3 hlt3 hbne hbx))
    all_goals
      have fz1 : w3.frozen? ⟨b, 1, none⟩ = false := fz1
      have R := Lib.hid (R.out.putK 0)
      have hbb := Lib.hid ((hB3.out.setCell (p := ⟨b, 0, none⟩) hbg (.slice (some ⟨g, 0, none⟩) (X.length + 1) cp)).setCell (p := ⟨b, 1, none⟩) hbg (.int .i64 (0 : Nat)))
      have RR : Hid (D.NzEnd B b (X ++ D.oR K) 0 T N (.slice tb X.length tc) w (.returned (.tuple #[])) ((w3.setCell ⟨b, 0, none⟩ (.slice (some ⟨g, 0, none⟩) (X.length + 1) cp)).setCell ⟨b, 1, none⟩ (.int .i64 0))) := by
        show D.NzEnd _ _ _ _ _ _ _ _ _ _
        rw [D.oR_pos HZ.out]
        exact ⟨rfl, _, _, R.out, hbb.out, (hKp.out.set _ _).set _ _⟩
      go_wp2
      go_end0
      exact RR.out
end Go.Proofs.YtdilkoogjkabfaaDoor
