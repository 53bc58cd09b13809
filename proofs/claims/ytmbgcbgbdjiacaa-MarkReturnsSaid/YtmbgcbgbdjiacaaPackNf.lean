/- Texts joined: DeltaSettle DeltaGap DeltaAdd DeltaNf -/
import Derived.Test.YtmbgcbgbdjiacaaPackRef
import Derived.Test.YtmbgcbgbdjiacaaPackMath
import Derived.Deep.AppendLies
import Derived.Deep.RegionLaw
import Derived.OneCell
import Derived.Deep.DeepCutAuto
import Derived.Deep.CutBlock
import Derived.Laws.BytesArg
import Derived.Test.YtmbgcbgbdjiacaaPackSrc
/- DeltaSettle -/
namespace Go.Proofs.Ytmbgcbgbdjiacaa
open Go.RowKit

/-- What a normalizer at block b holds: what is settled, the bytes kept, the text inserted, the bytes removed. -/
structure D.Nz (B b : Nat) (X : List D.Q) (K : Nat) (T : List UInt8) (N : Nat) (sv iv : Value) (wr : World) : Prop where
  ge : B ≤ b
  box : wr.heap[b]? = some (.cells #[sv, .int .i64 K, iv, .int .i64 N] 139)
  os : wr.ownsRow B 53 3 sv X.length (D.cellsL (X.map D.raw))
  oi : wr.ownsRow B 5 1 iv T.length (D.bytesL T)
theorem D.block_ne {w : World} {base : Nat} {e : TypeId} {size : Nat} {v : Value} {n : Nat} {xs : List Value} (h : w.ownsRow base e size v n xs) {b : Nat} {cs : Array Value} {t : TypeId} (hb : w.heap[b]? = some (.cells cs t)) (hne : e ≠ t) : v.ownBlock ≠ some b := by
  obtain ⟨_, ⟨rfl, _⟩ | ⟨g, cap, cur, rfl, _, hg, _⟩⟩ := h
  · simp [Value.ownBlock]
  · intro e'
    simp only [Value.ownBlock, Option.some.injEq] at e'
    subst e'
    rw [hg] at hb
    simp at hb
    exact hne hb.2
theorem D.rows_ne {w : World} {b1 b2 : Nat} {e1 e2 : TypeId} {s1 s2 : Nat} {v1 v2 : Value} {n1 n2 : Nat} {x1 x2 : List Value} (h1 : w.ownsRow b1 e1 s1 v1 n1 x1) (h2 : w.ownsRow b2 e2 s2 v2 n2 x2) (hne : e1 ≠ e2) : v1.ownBlock = none ∨ v1.ownBlock ≠ v2.ownBlock := by
  obtain ⟨_, ⟨rfl, _⟩ | ⟨g, cap, cur, rfl, _, hg, _⟩⟩ := h2
  · cases v1.ownBlock <;> simp [Value.ownBlock]
  · exact .inr (D.block_ne h1 hg hne)
theorem D.Nz.lt {B b X K T N sv iv wr} (h : D.Nz B b X K T N sv iv wr) : b < wr.heap.size := (Array.getElem?_eq_some_iff.1 h.box).1
/-- The cells of the normalizer, as the walk asks for them. -/
theorem D.Nz.cells {B b X K T N sv iv wr} (h : D.Nz B b X K T N sv iv wr) :
    wr.cell? ⟨b, 0, none⟩ = some sv ∧ wr.cell? ⟨b, 1, none⟩ = some (.int .i64 K) ∧ wr.cell? ⟨b, 2, none⟩ = some iv ∧ wr.cell? ⟨b, 3, none⟩ = some (.int .i64 N) := by
  refine ⟨?_, ?_, ?_, ?_⟩ <;> (rw [cell_of_row wr b _ _ _ _ h.box]; rfl)
theorem D.Nz.free {B b X K T N sv iv wr} (h : D.Nz B b X K T N sv iv wr) : ∀ i, wr.frozen? ⟨b, i, none⟩ = false := fun _ => frozen_of_row _ _ _ _ _ h.box
theorem D.Nz.kept {B b X K T N sv iv wr w' r} (h : D.Nz B b X K T N sv iv wr) (hg : wr.grownBy w' r) (hb : some b ≠ r) (hs : sv.ownBlock = none ∨ sv.ownBlock ≠ r) (hi : iv.ownBlock = none ∨ iv.ownBlock ≠ r) : D.Nz B b X K T N sv iv w' :=
  ⟨h.ge, (hg.block b h.lt hb).trans h.box, h.os.kept hg hs, h.oi.kept hg hi⟩
theorem D.Nz.alloc {B b X K T N sv iv wr} (h : D.Nz B b X K T N sv iv wr) (o : Obj) : D.Nz B b X K T N sv iv (wr.alloc o) :=
  h.kept (World.grownBy_alloc wr o none) (by simp) (by cases sv.ownBlock <;> simp) (by cases iv.ownBlock <;> simp)
theorem D.Nz.drew {B b X K T N sv iv wr} (h : D.Nz B b X K T N sv iv wr) : D.Nz B b X K T N sv iv wr.drew := ⟨h.ge, h.box, h.os.drew, h.oi.drew⟩
theorem D.Nz.drewN {B b X K T N sv iv wr} (h : D.Nz B b X K T N sv iv wr) (n : Nat) : D.Nz B b X K T N sv iv (wr.drewN n) := ⟨h.ge, h.box, h.os, h.oi⟩
theorem D.cell_old {w : World} {b i : Nat} {v : Value} (h : w.cell? ⟨b, i, none⟩ = some v) : ∀ ob : Obj, (w.alloc ob).cell? ⟨b, i, none⟩ = some v := fun ob => by
  have hlt := World.block_lt_of_cell? w _ h
  rw [← h]
  exact World.cell?_of_block (w := w) (heap_alloc_old w ob hlt)
/-- A stored number. -/
theorem D.Nz.putK {B b X K T N sv iv wr} (h : D.Nz B b X K T N sv iv wr) (K' : Nat) : D.Nz B b X K' T N sv iv (wr.setCell ⟨b, 1, none⟩ (.int .i64 K')) :=
  ⟨h.ge, by rw [heap_setCell_same wr b 1 _ _ _ h.box]; rfl, ownsRow_setCell_other h.os (D.block_ne h.os h.box (by decide)) _, ownsRow_setCell_other h.oi (D.block_ne h.oi h.box (by decide)) _⟩
theorem D.Nz.putN {B b X K T N sv iv wr} (h : D.Nz B b X K T N sv iv wr) (N' : Nat) : D.Nz B b X K T N' sv iv (wr.setCell ⟨b, 3, none⟩ (.int .i64 N')) :=
  ⟨h.ge, by rw [heap_setCell_same wr b 3 _ _ _ h.box]; rfl, ownsRow_setCell_other h.os (D.block_ne h.os h.box (by decide)) _, ownsRow_setCell_other h.oi (D.block_ne h.oi h.box (by decide)) _⟩
/-- An append to the settled pieces, stored. -/
theorem D.Nz.putS {B b X K T N sv iv wr X' sv' w'} (h : D.Nz B b X K T N sv iv wr) (hg : wr.grownBy w' sv.ownBlock) (ho : w'.ownsRow B 53 3 sv' X'.length (D.cellsL (X'.map D.raw))) :
    D.Nz B b X' K T N sv' iv (w'.setCell ⟨b, 0, none⟩ sv') := by
  have hb : w'.heap[b]? = _ := (hg.block b h.lt (D.block_ne h.os h.box (by decide)).symm).trans h.box
  have hi : w'.ownsRow B 5 1 iv T.length (D.bytesL T) := h.oi.kept hg (D.rows_ne h.oi h.os (by decide))
  exact ⟨h.ge, by rw [heap_setCell_same w' b 0 _ _ _ hb]; rfl, ownsRow_setCell_other ho (D.block_ne ho hb (by decide)) _, ownsRow_setCell_other hi (D.block_ne hi hb (by decide)) _⟩
theorem D.Nz.putI {B b X K T N sv iv wr T' iv' w'} (h : D.Nz B b X K T N sv iv wr) (hg : wr.grownBy w' iv.ownBlock) (ho : w'.ownsRow B 5 1 iv' T'.length (D.bytesL T')) :
    D.Nz B b X K T' N sv iv' (w'.setCell ⟨b, 2, none⟩ iv') := by
  have hb : w'.heap[b]? = _ := (hg.block b h.lt (D.block_ne h.oi h.box (by decide)).symm).trans h.box
  have hs : w'.ownsRow B 53 3 sv X.length (D.cellsL (X.map D.raw)) := h.os.kept hg (D.rows_ne h.os h.oi (by decide))
  exact ⟨h.ge, by rw [heap_setCell_same w' b 2 _ _ _ hb]; rfl, ownsRow_setCell_other hs (D.block_ne hs hb (by decide)) _, ownsRow_setCell_other ho (D.block_ne ho hb (by decide)) _⟩
/-- All blocks are as they were but the normalizer's own one and that of its pieces. -/
def D.Keep (b : Nat) (sv : Value) (w w' : World) : Prop := ∀ k, k < w.heap.size → k ≠ b → some k ≠ sv.ownBlock → w'.heap[k]? = w.heap[k]?
theorem D.Keep.set {b : Nat} {sv : Value} {w w' : World} (h : D.Keep b sv w w') (i : Nat) (v : Value) : D.Keep b sv w (w'.setCell ⟨b, i, none⟩ v) :=
  fun k hk hb hs => (Below.heap_setCell _ _ _ _ hb).trans (h k hk hb hs)
def D.NzEnd (B b : Nat) (X : List D.Q) (K : Nat) (T : List UInt8) (N : Nat) (sv0 : Value) (w : World) (e : Ending) (w' : World) : Prop := e = .returned (.tuple #[]) ∧ ∃ sv iv, D.Nz B b X K T N sv iv w' ∧ Below B w w' ∧ D.Keep b sv0 w w'
set_option maxHeartbeats 2000000 in
theorem settleKept_any (B b : Nat) (X : List D.Q) (K : Nat) (T : List UInt8) (N : Nat) (sv iv : Value) (w : World) (h : D.Nz B b X K T N sv iv w) (hB : B ≤ w.heap.size) (hX : X.length ≤ 1000000) (hK : K ≤ 1000000000) :
    Calls Try.prog 100 #[.pointer (some ⟨b, 0, none⟩)] w (D.NzEnd B b (X ++ D.oR K) 0 T N sv w) := by
  obtain ⟨c0, c1, c2, c3⟩ := h.cells
  have fz := h.free
  rcases Nat.eq_zero_or_pos K with hz | hz
  · subst hz
    have R : Hid (D.NzEnd B b (X ++ D.oR 0) 0 T N sv w (.returned (.tuple #[])) (w.setCell ⟨b, 1, none⟩ (.int .i64 0))) := by
      show D.NzEnd _ _ _ _ _ _ _ _ _ _
      rw [D.oR_zero, List.append_nil]
      exact ⟨rfl, sv, iv, h.putK 0, (Below.refl _ _).setCell h.ge _, D.Keep.set (fun _ _ _ _ => rfl) _ _⟩
    clear h
    go_enter Try.func100, Try.ntmps100
    go_wp2
    go_end0
    exact R.out
  · obtain ⟨ip, hp, hp0, hp1, hp2⟩ := info_parts Try.infoPiece
    have Hp := Lib.hid (And.intro hp (And.intro hp0 (And.intro hp1 hp2)))
    clear hp hp0 hp1 hp2
    have HZ := Lib.hid hz
    have H := Lib.hid h
    have hbl := h.lt
    have hbg := h.ge
    obtain ⟨tb, tc, rfl⟩ := D.slice_of_own h.os
    clear h
    have d0 := D.cell_old c0
    have d1 := D.cell_old c1
    go_enter Try.func100, Try.ntmps100
    go_wp2_with fail
    go_region_law (first
      | (refine step_append_lies _ rfl (.tmp 11) (.tmp 17) 39 rfl B 53 ip (.agg #[.int .u8 0, .int .i64 0, .string ⟨#[]⟩]) 3 32 Try.underlying39 Hp.out.1 Hp.out.2.1 Hp.out.2.2.1 Hp.out.2.2.2 rfl (by decide) (.slice tb X.length tc) X.length (D.cellsL (X.map D.raw)) rfl ?own _ 1 1 [.int .u8 1, .int .i64 (K : Int), .string ⟨#[]⟩] rfl rfl ?news (fun u hu => by simp at hu; rcases hu with rfl | rfl | rfl <;> rfl) (by decide) (by unfold maxLen; omega) (by omega) ?base _ rfl ?_
         case own => repeat (first | exact H.out.os | refine World.ownsRow.drew ?_ | refine World.ownsRow.alloc ?_ _)
         case news => exact D.news _ _ _
         case base => first | omega | (simp; omega)
         intro g cp w3 hO3 hg3 hat3 hlt3
         have R : D.Nz B b (X ++ [.R K]) K T N (.slice (some ⟨g, 0, none⟩) (X.length + 1) cp) iv (w3.setCell ⟨b, 0, none⟩ (.slice (some ⟨g, 0, none⟩) (X.length + 1) cp)) := by
           refine D.Nz.putS (X := X) ?h hg3 ?o
           case h => repeat (first | exact H.out | refine D.Nz.drew ?_ | refine D.Nz.alloc ?_ _)
           case o =>
             rw [List.map_append, D.cellsL_append, List.length_append]
             exact hO3
         have hB3 : Below B w w3 := by
           refine Below.grown ?_ hg3 ?_ (fun k e => (H.out.os.lt k e).1)
           · repeat (first | exact Below.refl _ _ | refine Below.drew ?_ | refine Below.alloc ?_ (by first | omega | (simp; omega)) _)
           · first | omega | (simp; omega)
         have hKp : D.Keep b (.slice tb X.length tc) w w3 := fun k hk _ hs => (hg3.block k (by first | omega | (simp; omega)) hs).trans (Below.heap_alloc _ _ _ hk)
         have hKp := Lib.hid hKp
         have hbne := (D.block_ne H.out.os H.out.box (by decide)).symm
         have hbx : w3.heap[b]? = some (.cells #[.slice tb X.length tc, .int .i64 K, iv, .int .i64 N] 139) := by
           refine (hg3.block b ?_ hbne).trans (D.Nz.box (B := B) (X := X) (T := T) ?_)
           · first | exact hbl | (simp; omega)
           · repeat (first | exact H.out | refine D.Nz.drew ?_ | refine D.Nz.alloc ?_ _)
         have c0 : w3.cell? ⟨b, 0, none⟩ = some (.slice tb X.length tc) := by rw [cell_of_row w3 b _ _ _ _ hbx]; rfl
         have c1 : w3.cell? ⟨b, 1, none⟩ = some (.int .i64 K) := by rw [cell_of_row w3 b _ _ _ _ hbx]; rfl
         have fz : w3.frozen? ⟨b, 0, none⟩ = false := frozen_of_row _ _ _ _ _ hbx
         have fz1 : w3.frozen? ⟨b, 1, none⟩ = false := frozen_of_row _ _ _ _ _ hbx
         have R := Lib.hid R
         have hB3 := Lib.hid hB3
         clear hO3 hg3 hat3 hlt3 hbne hbx))
    all_goals
      have fz1 : w3.frozen? ⟨b, 1, none⟩ = false := fz1
      have R := Lib.hid (R.out.putK 0)
      have hbb := Lib.hid ((hB3.out.setCell (p := ⟨b, 0, none⟩) hbg (.slice (some ⟨g, 0, none⟩) (X.length + 1) cp)).setCell (p := ⟨b, 1, none⟩) hbg (.int .i64 (0 : Nat)))
      have RR : Hid (D.NzEnd B b (X ++ D.oR K) 0 T N (.slice tb X.length tc) w (.returned (.tuple #[])) ((w3.setCell ⟨b, 0, none⟩ (.slice (some ⟨g, 0, none⟩) (X.length + 1) cp)).setCell ⟨b, 1, none⟩ (.int .i64 0))) := by
        show D.NzEnd _ _ _ _ _ _ _ _ _ _
        rw [D.oR_pos HZ.out]
        exact ⟨rfl, _, _, R.out, hbb.out, (hKp.out.set _ _).set _ _⟩
      go_wp2
      go_end0
      exact RR.out
end Go.Proofs.Ytmbgcbgbdjiacaa
/- DeltaGap -/
namespace Go.Proofs.Ytmbgcbgbdjiacaa
open Go.RowKit

/-- Within settleGap: the settled pieces have grown. -/
structure D.Mid (B b : Nat) (X : List D.Q) (K : Nat) (T : List UInt8) (N : Nat) (sv0 sv iv : Value) (w wr : World) : Prop where
  nz : D.Nz B b X K T N sv iv wr
  below : Below B w wr
  keep : D.Keep b sv0 w wr
  lies : ∀ k, sv.ownBlock = some k → sv0.ownBlock = some k ∨ w.heap.size ≤ k
theorem D.cut_own {w : World} {B : Nat} {v : Value} {n : Nat} {xs : List Value} {ao : Option Addr} {c : Nat} (h : w.ownsRow B 5 1 v n xs) (hv : v = .slice ao n c) : w.ownsRow B 5 1 (.slice ao 0 c) 0 [] := by
  subst hv
  obtain ⟨_, ⟨e, _⟩ | ⟨g, cap, cur, e, h1, h2, h3, h4, h5, _⟩⟩ := h
  · cases e; exact ⟨rfl, .inl ⟨rfl, rfl⟩⟩
  · cases e; exact ⟨rfl, .inr ⟨g, _, cur, rfl, h1, h2, Nat.zero_le _, h4, h5, by simp⟩⟩
set_option maxRecDepth 100000 in
set_option maxHeartbeats 4000000 in
theorem settleGap_any (B b : Nat) (X : List D.Q) (K : Nat) (T : List UInt8) (N : Nat) (sv iv : Value) (w : World) (h : D.Nz B b X K T N sv iv w) (hB : B ≤ w.heap.size) (hX : X.length ≤ 1000000) (hT : T.length ≤ 1000000000) (hN : N ≤ 1000000000) :
    Calls Try.prog 101 #[.pointer (some ⟨b, 0, none⟩)] w (D.NzEnd B b ((X ++ D.oI T) ++ D.oD N) K [] 0 sv w) := by
  obtain ⟨ip, hp, hp0, hp1, hp2⟩ := info_parts Try.infoPiece
  have Hp := Lib.hid (And.intro hp (And.intro hp0 (And.intro hp1 hp2)))
  clear hp hp0 hp1 hp2
  obtain ⟨c0, c1, c2, c3⟩ := h.cells
  have fz := h.free
  have H := Lib.hid h
  have hbl := h.lt
  have hbg := h.ge
  obtain ⟨tb, tc, rfl⟩ := D.slice_of_own h.os
  obtain ⟨ib, ic, rfl⟩ := D.slice_of_own h.oi
  clear h
  go_enter Try.func101, Try.ntmps101
  go_upto_if 7 with (fail)
  go_cut [7] (fun _ wx => ∃ sv', Hid (D.Mid B b (X ++ D.oI T) K T N (.slice tb X.length tc) sv' (.slice ib T.length ic) w wx))
  case first =>
    by_cases ht : T = []
    · have R : Hid (D.Mid B b (X ++ D.oI T) K T N (.slice tb X.length tc) (.slice tb X.length tc) (.slice ib T.length ic) w w) := by
        show D.Mid _ _ _ _ _ _ _ _ _ _ _
        rw [ht, D.oI_nil, List.append_nil]
        exact ⟨by rw [← ht]; exact H.out, Below.refl _ _, fun _ _ _ _ => rfl, fun _ h => .inl h⟩
      subst ht
      go_wp2
      go_meet
      case rel => exact ⟨_, R⟩
    · obtain ⟨gb, gc, hv, hby⟩ := D.bytes_of_own H.out.oi ht
      cases hv
      have hpos : 0 < T.length := by cases T with
        | nil => exact absurd rfl ht
        | cons => simp
      have hconv := Lib.run_convert_whole (P := Try.prog) w.drew 137 5 9 Try.underlying137 Try.underlying5 Try.underlying9 gb 0 ⟨T.toArray⟩ hby ic
      rw [D.size_l] at hconv
      have HTn := Lib.hid ht
      have d0 := D.cell_old c0
      have d2 := D.cell_old c2
      clear ht hby
      go_wp2_with fail
      go_region_law (first
        | (refine step_append_lies _ rfl (.tmp 12) (.tmp 19) 39 rfl B 53 ip (.agg #[.int .u8 0, .int .i64 0, .string ⟨#[]⟩]) 3 32 Try.underlying39 Hp.out.1 Hp.out.2.1 Hp.out.2.2.1 Hp.out.2.2.2 rfl (by decide) (.slice tb X.length tc) X.length (D.cellsL (X.map D.raw)) rfl ?own _ 1 1 [.int .u8 2, .int .i64 0, .string ⟨T.toArray⟩] rfl rfl ?news (fun u hu => by simp at hu; rcases hu with rfl | rfl | rfl <;> rfl) (by decide) (by unfold maxLen; omega) (by omega) ?base _ rfl ?_
           case own => repeat (first | exact H.out.os | refine World.ownsRow.drew ?_ | refine World.ownsRow.alloc ?_ _)
           case news => exact D.news _ _ _
           case base => first | omega | (simp; omega)
           intro g cp w3 hO3 hg3 hat3 hlt3
           have R : D.Nz B b (X ++ [.I T]) K T N (.slice (some ⟨g, 0, none⟩) (X.length + 1) cp) (.slice (some ⟨gb, 0, none⟩) T.length ic) (w3.setCell ⟨b, 0, none⟩ (.slice (some ⟨g, 0, none⟩) (X.length + 1) cp)) := by
             refine D.Nz.putS (X := X) ?h hg3 ?o
             case h => repeat (first | exact H.out | refine D.Nz.drew ?_ | refine D.Nz.alloc ?_ _)
             case o =>
               rw [List.map_append, D.cellsL_append, List.length_append]
               exact hO3
           have hB3 : Below B w w3 := by
             refine Below.grown ?_ hg3 ?_ (fun k e => (H.out.os.lt k e).1)
             · repeat (first | exact Below.refl _ _ | refine Below.drew ?_ | refine Below.alloc ?_ (by first | omega | (simp; omega)) _)
             · first | omega | (simp; omega)
           have hKp : D.Keep b (.slice tb X.length tc) w w3 := fun k hk _ hs => (hg3.block k (by first | omega | (simp; omega)) hs).trans (Below.heap_alloc _ _ _ hk)
           have hKp := Lib.hid hKp
           have hLi : ∀ k, Value.ownBlock (.slice (some ⟨g, 0, none⟩) (X.length + 1) cp) = some k → Value.ownBlock (.slice tb X.length tc) = some k ∨ w.heap.size ≤ k := fun k hk => by
             simp only [Value.ownBlock, Option.some.injEq] at hk
             subst hk
             exact hat3.elim .inl (fun h => .inr (by rw [h]; simp))
           have hLi := Lib.hid hLi
           have hbne := (D.block_ne H.out.os H.out.box (by decide)).symm
           have hbx : w3.heap[b]? = some (.cells #[.slice tb X.length tc, .int .i64 K, .slice (some ⟨gb, 0, none⟩) T.length ic, .int .i64 N] 139) := by
             refine (hg3.block b ?_ hbne).trans (D.Nz.box (B := B) (X := X) (T := T) ?_)
             · first | exact hbl | (simp; omega)
             · repeat (first | exact H.out | refine D.Nz.drew ?_ | refine D.Nz.alloc ?_ _)
           have c0 : w3.cell? ⟨b, 0, none⟩ = some (.slice tb X.length tc) := by rw [cell_of_row w3 b _ _ _ _ hbx]; rfl
           have fz : w3.frozen? ⟨b, 0, none⟩ = false := frozen_of_row _ _ _ _ _ hbx
           have R := Lib.hid R
           have hB3 := Lib.hid hB3
           clear hO3 hg3 hat3 hlt3 hbne hbx))
      all_goals
        have RR : Hid (D.Mid B b (X ++ D.oI T) K T N (.slice tb X.length tc) (.slice (some ⟨g, 0, none⟩) (X.length + 1) cp) (.slice (some ⟨gb, 0, none⟩) T.length ic) w (w3.setCell ⟨b, 0, none⟩ (.slice (some ⟨g, 0, none⟩) (X.length + 1) cp))) := by
          show D.Mid _ _ _ _ _ _ _ _ _ _ _
          rw [D.oI_pos HTn.out]
          exact ⟨R.out, hB3.out.setCell hbg _, hKp.out.set _ _, hLi.out⟩
        clear R
        go_wp2
        go_meet
        case rel => exact ⟨_, RR⟩
  case rest =>
    obtain ⟨sv1, hm⟩ := hcut
    obtain ⟨X1, hX1⟩ : ∃ Y : List D.Q, Hid (X ++ D.oI T = Y) := ⟨_, rfl⟩
    rw [hX1.out] at hm
    have hX1l : X1.length ≤ X.length + 1 := by rw [← hX1.out, List.length_append]; have := D.oI_len T; omega
    clear H c0 c1 c2 c3 fz hbl
    have H := Lib.hid hm.out.nz
    have hbw := Lib.hid hm.out.below
    have hB1 : B ≤ wc.heap.size := Nat.le_trans hB hm.out.below.size
    obtain ⟨c0, c1, c2, c3⟩ := H.out.cells
    have fz := H.out.free
    have hbl := H.out.lt
    have hkp0 := Lib.hid hm.out.keep
    have hli0 := Lib.hid hm.out.lies
    have hws := hm.out.below.size
    obtain ⟨tb1, tc1, hv⟩ := D.slice_of_own H.out.os
    subst hv
    clear hm
    obtain ⟨W1, rfl⟩ : ∃ W1 : World, W1 = wc := ⟨_, rfl⟩
    go_upto_if 27 with (fail)
    go_cut [27] (fun _ wx => ∃ sv', Hid (D.Mid B b (X1 ++ D.oD N) K T N (.slice tb X.length tc) sv' (.slice ib T.length ic) w wx))
    case first =>
      rcases Nat.eq_zero_or_pos N with hz | hz
      · have R : Hid (D.Mid B b (X1 ++ D.oD N) K T N (.slice tb X.length tc) (.slice tb1 X1.length tc1) (.slice ib T.length ic) w W1) := by
          show D.Mid _ _ _ _ _ _ _ _ _ _ _
          rw [hz, D.oD_zero, List.append_nil]
          exact ⟨by rw [← hz]; exact H.out, hbw.out, hkp0.out, hli0.out⟩
        subst hz
        go_wp2
        go_meet
        case rel => exact ⟨_, R⟩
      · have HZ := Lib.hid hz
        have d0 := D.cell_old c0
        have d3 := D.cell_old c3
        go_wp2_with fail
        go_region_law (first
          | (refine step_append_lies _ rfl (.tmp 32) (.tmp 38) 39 rfl B 53 ip (.agg #[.int .u8 0, .int .i64 0, .string ⟨#[]⟩]) 3 32 Try.underlying39 Hp.out.1 Hp.out.2.1 Hp.out.2.2.1 Hp.out.2.2.2 rfl (by decide) (.slice tb1 X1.length tc1) X1.length (D.cellsL (X1.map D.raw)) rfl ?own _ 1 1 [.int .u8 3, .int .i64 (N : Int), .string ⟨#[]⟩] rfl rfl ?news (fun u hu => by simp at hu; rcases hu with rfl | rfl | rfl <;> rfl) (by decide) (by unfold maxLen; omega) (by omega) ?base _ rfl ?_
             case own => repeat (first | exact H.out.os | refine World.ownsRow.drew ?_ | refine World.ownsRow.alloc ?_ _)
             case news => exact D.news _ _ _
             case base => first | omega | (simp; omega)
             intro g cp w3 hO3 hg3 hat3 hlt3
             have R : D.Nz B b (X1 ++ [.D N]) K T N (.slice (some ⟨g, 0, none⟩) (X1.length + 1) cp) (.slice ib T.length ic) (w3.setCell ⟨b, 0, none⟩ (.slice (some ⟨g, 0, none⟩) (X1.length + 1) cp)) := by
               refine D.Nz.putS (X := X1) ?h hg3 ?o
               case h => repeat (first | exact H.out | refine D.Nz.drew ?_ | refine D.Nz.alloc ?_ _)
               case o =>
                 rw [List.map_append, D.cellsL_append, List.length_append]
                 exact hO3
             have hB3 : Below B w w3 := by
               refine Below.grown ?_ hg3 ?_ (fun k e => (H.out.os.lt k e).1)
               · repeat (first | exact hbw.out | refine Below.drew ?_ | refine Below.alloc ?_ (by first | omega | (simp; omega)) _)
               · first | omega | (simp; omega)
             have hKp : D.Keep b (.slice tb X.length tc) w w3 := fun k hk hb hs => by
               refine ((hg3.block k (by first | omega | (simp; omega)) (fun e => ?_)).trans (Below.heap_alloc _ _ _ (by omega))).trans (hkp0.out k hk hb hs)
               rcases hli0.out k e.symm with h | h
               · exact hs h.symm
               · omega
             have hKp := Lib.hid hKp
             have hLi : ∀ k, Value.ownBlock (.slice (some ⟨g, 0, none⟩) (X1.length + 1) cp) = some k → Value.ownBlock (.slice tb X.length tc) = some k ∨ w.heap.size ≤ k := fun k hk => by
               simp only [Value.ownBlock, Option.some.injEq] at hk
               subst hk
               exact hat3.elim (fun h => hli0.out g h) (fun h => .inr (by rw [h]; simp; omega))
             have hLi := Lib.hid hLi
             have hbne := (D.block_ne H.out.os H.out.box (by decide)).symm
             have hbx : w3.heap[b]? = some (.cells #[.slice tb1 X1.length tc1, .int .i64 K, .slice ib T.length ic, .int .i64 N] 139) := by
               refine (hg3.block b ?_ hbne).trans (D.Nz.box (B := B) (X := X1) (T := T) ?_)
               · first | exact hbl | (simp; omega)
               · repeat (first | exact H.out | refine D.Nz.drew ?_ | refine D.Nz.alloc ?_ _)
             have c0 : w3.cell? ⟨b, 0, none⟩ = some (.slice tb1 X1.length tc1) := by rw [cell_of_row w3 b _ _ _ _ hbx]; rfl
             have fz : w3.frozen? ⟨b, 0, none⟩ = false := frozen_of_row _ _ _ _ _ hbx
             have R := Lib.hid R
             have hB3 := Lib.hid hB3
             clear hO3 hg3 hat3 hlt3 hbne hbx))
        all_goals
          have RR : Hid (D.Mid B b (X1 ++ D.oD N) K T N (.slice tb X.length tc) (.slice (some ⟨g, 0, none⟩) (X1.length + 1) cp) (.slice ib T.length ic) w (w3.setCell ⟨b, 0, none⟩ (.slice (some ⟨g, 0, none⟩) (X1.length + 1) cp))) := by
            show D.Mid _ _ _ _ _ _ _ _ _ _ _
            rw [D.oD_pos HZ.out]
            exact ⟨R.out, hB3.out.setCell hbg _, hKp.out.set _ _, hLi.out⟩
          clear R
          go_wp2
          go_meet
          case rel => exact ⟨_, RR⟩
    case rest =>
      obtain ⟨sv2, hm⟩ := hcut
      obtain ⟨X2, hX2⟩ : ∃ Y : List D.Q, Hid (X1 ++ D.oD N = Y) := ⟨_, rfl⟩
      rw [hX2.out] at hm
      clear H c0 c1 c2 c3 fz hbl hbw hB1
      have H := Lib.hid hm.out.nz
      have hbw := Lib.hid hm.out.below
      obtain ⟨c0, c1, c2, c3⟩ := H.out.cells
      have fz := H.out.free
      have RR : Hid (D.NzEnd B b ((X ++ D.oI T) ++ D.oD N) K [] 0 (.slice tb X.length tc) w (.returned (.tuple #[])) ((wc.setCell ⟨b, 2, none⟩ (.slice ib 0 ic)).setCell ⟨b, 3, none⟩ (.int .i64 0))) := by
        show D.NzEnd _ _ _ _ _ _ _ _ _ _
        rw [hX1.out, hX2.out]
        exact ⟨rfl, sv2, .slice ib 0 ic, (H.out.putI (T' := []) (World.grownBy.refl _ _) (D.cut_own H.out.oi rfl)).putN 0, ((hbw.out.setCell (p := ⟨b, 2, none⟩) hbg _).setCell (p := ⟨b, 3, none⟩) hbg _), (hm.out.keep.set _ _).set _ _⟩
      clear hm
      go_wp2
      go_end0
      exact RR.out
end Go.Proofs.Ytmbgcbgbdjiacaa
/- DeltaAdd -/
namespace Go.Proofs.Ytmbgcbgbdjiacaa
open Go.RowKit

theorem D.step_append_string {P : Program} {w : World} {ops : Array Oper} {o : Oper} {a : Act} {K : Act → World → Prop} {Q : Exit → Act → World → Prop} {E : Prop} (hgd : o.guard = none) (sl x : Operand) (t u : TypeId)
    (ho : o.op = .call { callee := .builtin .append, args := #[sl, x], argTypes := #[t, u] })
    (base : Nat) (e : TypeId) (i : TypeInfo) (ht : P.underlying t = some (.slice e)) (hu : P.underlying u = some .string) (hi : P.info? e = some i) (hz : i.zero = some (.int .u8 0))
    (hsize : i.size = 1) (hby : i.bytes = 1)
    (v : Value) (n : Nat) (xs : List Value) (hs : a.eval sl = v) (hown : w.ownsRow base e 1 v n xs) (s : ByteArray) (hx : a.eval x = .string s)
    (h63 : n + s.size ≤ maxLen) (hbytes : n + s.size ≤ 140737488355328) (hbase : base ≤ w.heap.size)
    (h : ∀ v' w', w'.ownsRow base e 1 v' (n + s.size) (xs ++ Lib.strCells s) → w.grownBy w' v.ownBlock → K (a.put o.dst v') w') : if Region.wanted o (yielded ops a.tmps) = true then Oper.wp P o a w K Q else E := by
  have hw : Region.wanted o (yielded ops a.tmps) = true := by simp [Region.wanted, hgd]
  rw [if_pos hw]
  obtain ⟨v', w', hr, h2, h3, h4⟩ := Lib.run_append_own_string (P := P) w base t u o.type e i ht hu hi hz hsize hby v n xs hown s h63 hbytes hbase
  unfold Oper.wp execOp
  simp only [ho, resolve, invoke, builtin, Sem.run_bind, Sem.run_pure, Result.andThen_ok, List.map_toArray, List.map_cons, List.map_nil, hs, hx, hr]
  exact h v' w' h2 h3
theorem D.own_ne {w : World} {base : Nat} {e : TypeId} {size : Nat} {v : Value} {n : Nat} {xs : List Value} (h : w.ownsRow base e size v n xs) : some w.heap.size ≠ v.ownBlock := fun e' => by
  have := (h.lt _ e'.symm).2
  omega
/-- The piece in its box, behind a call that kept it. -/
theorem D.box_kept {w w2 : World} {b : Nat} {sv : Value} {cs : Array Value} {t : TypeId} (hb : b < w.heap.size) (hs : some w.heap.size ≠ sv.ownBlock) (hk : D.Keep b sv (w.alloc (.cells cs t)) w2) : w2.heap[w.heap.size]? = some (.cells cs t) :=
  (hk w.heap.size (by simp) (by omega) hs).trans (heap_alloc_new w _)
def D.AddEnd (B b : Nat) (s : D.S) (w : World) (e : Ending) (w' : World) : Prop := e = .returned (.tuple #[]) ∧ ∃ sv iv, D.Nz B b s.set s.kept s.ins s.rem sv iv w' ∧ Below B w w'
set_option maxRecDepth 100000 in
set_option maxHeartbeats 2000000 in
theorem add_R (B b n : Nat) (s : D.S) (sv iv : Value) (w : World) (h : D.Nz B b s.set s.kept s.ins s.rem sv iv w) (hB : B ≤ w.heap.size) (hX : s.set.length ≤ 1000000) (hT : s.ins.length ≤ 1000000000) (hN : s.rem ≤ 1000000000) (hK : s.kept + n ≤ 2000000000) :
    Calls Try.prog 99 #[.pointer (some ⟨b, 0, none⟩), .agg #[.int .u8 1, .int .i64 n, .string ⟨#[]⟩]] w (D.AddEnd B b (s.add (.R n)) w) := by
  obtain ⟨X, K, T, N⟩ := s
  simp only at h hX hT hN hK
  have hbl := h.lt
  have hne := Lib.hid (D.own_ne h.os)
  have Hc := Lib.hid (settleGap_any B b X K T N sv iv (w.alloc (.cells #[.int .u8 1, .int .i64 n, .string ⟨#[]⟩] 53)) (h.alloc _) (by simp; omega) hX hT hN)
  have hge := h.ge
  have hB1 : Hid (Below B w (w.alloc (.cells #[.int .u8 1, .int .i64 n, .string ⟨#[]⟩] 53))) := (Below.refl _ _).alloc hB _
  clear h
  go_enter Try.func99, Try.ntmps99
  go_wp2_with fail
  refine Hc.out.mono ?_
  rintro e w2 ⟨rfl, sv2, iv2, hz, hb2, hk⟩
  have hbx := D.box_kept hbl hne.out hk
  have p1 : w2.cell? ⟨w.heap.size, 1, none⟩ = some (.int .i64 n) := by rw [cell_of_row w2 _ _ _ _ _ hbx]; rfl
  obtain ⟨c0, c1, c2, c3⟩ := hz.cells
  have fz := hz.free
  have R : Hid (D.AddEnd B b (D.S.add ⟨X, K, T, N⟩ (.R n)) w (.returned (.tuple #[])) ((w2.drew).setCell ⟨b, 1, none⟩ (.int .i64 ((K : Int) + n)))) := ⟨rfl, sv2, iv2, hz.drew.putK (K + n), ((hB1.out.trans hb2).drew).setCell (p := ⟨b, 1, none⟩) hge _⟩
  clear hz hb2 hk hbx Hc
  go_wp2_with fail
  go_region
  all_goals
    go_wp2
    go_end0
    exact R.out
set_option maxRecDepth 100000 in
set_option maxHeartbeats 2000000 in
theorem add_D (B b n : Nat) (s : D.S) (sv iv : Value) (w : World) (h : D.Nz B b s.set s.kept s.ins s.rem sv iv w) (hB : B ≤ w.heap.size) (hX : s.set.length ≤ 1000000) (hK : s.kept ≤ 1000000000) (hN : s.rem + n ≤ 2000000000) :
    Calls Try.prog 99 #[.pointer (some ⟨b, 0, none⟩), .agg #[.int .u8 3, .int .i64 n, .string ⟨#[]⟩]] w (D.AddEnd B b (s.add (.D n)) w) := by
  obtain ⟨X, K, T, N⟩ := s
  simp only at h hX hN hK
  have hbl := h.lt
  have hne := Lib.hid (D.own_ne h.os)
  have Hc := Lib.hid (settleKept_any B b X K T N sv iv (w.alloc (.cells #[.int .u8 3, .int .i64 n, .string ⟨#[]⟩] 53)) (h.alloc _) (by simp; omega) hX hK)
  have hge := h.ge
  have hB1 : Hid (Below B w (w.alloc (.cells #[.int .u8 3, .int .i64 n, .string ⟨#[]⟩] 53))) := (Below.refl _ _).alloc hB _
  clear h
  go_enter Try.func99, Try.ntmps99
  go_wp2_with fail
  refine Hc.out.mono ?_
  rintro e w2 ⟨rfl, sv2, iv2, hz, hb2, hk⟩
  have hbx := D.box_kept hbl hne.out hk
  have p1 : w2.cell? ⟨w.heap.size, 1, none⟩ = some (.int .i64 n) := by rw [cell_of_row w2 _ _ _ _ _ hbx]; rfl
  obtain ⟨c0, c1, c2, c3⟩ := hz.cells
  have fz := hz.free
  have R : Hid (D.AddEnd B b (D.S.add ⟨X, K, T, N⟩ (.D n)) w (.returned (.tuple #[])) ((w2.drew).setCell ⟨b, 3, none⟩ (.int .i64 ((N : Int) + n)))) := ⟨rfl, sv2, iv2, hz.drew.putN (N + n), ((hB1.out.trans hb2).drew).setCell (p := ⟨b, 3, none⟩) hge _⟩
  clear hz hb2 hk hbx Hc
  go_wp2_with fail
  go_region
  all_goals
    go_wp2
    go_end0
    exact R.out
set_option maxRecDepth 100000 in
set_option maxHeartbeats 2000000 in
theorem add_I (B b : Nat) (t : List UInt8) (s : D.S) (sv iv : Value) (w : World) (h : D.Nz B b s.set s.kept s.ins s.rem sv iv w) (hB : B ≤ w.heap.size) (hX : s.set.length ≤ 1000000) (hK : s.kept ≤ 1000000000) (hT : s.ins.length + t.length ≤ 2000000000) :
    Calls Try.prog 99 #[.pointer (some ⟨b, 0, none⟩), .agg #[.int .u8 2, .int .i64 0, .string ⟨t.toArray⟩]] w (D.AddEnd B b (s.add (.I t)) w) := by
  obtain ⟨X, K, T, N⟩ := s
  simp only at h hX hT hK
  obtain ⟨ib, hb, hb0, hb1, hb2⟩ := info_parts Try.infoByte
  have Hb := Lib.hid (And.intro hb (And.intro hb0 (And.intro hb1 hb2)))
  clear hb hb0 hb1 hb2
  have hbl := h.lt
  have hne := Lib.hid (D.own_ne h.os)
  have Hc := Lib.hid (settleKept_any B b X K T N sv iv (w.alloc (.cells #[.int .u8 2, .int .i64 0, .string ⟨t.toArray⟩] 53)) (h.alloc _) (by simp; omega) hX hK)
  have hge := h.ge
  have hB1 : Hid (Below B w (w.alloc (.cells #[.int .u8 2, .int .i64 0, .string ⟨t.toArray⟩] 53))) := (Below.refl _ _).alloc hB _
  clear h
  have hB2 : B ≤ w.heap.size + 1 := by omega
  go_enter Try.func99, Try.ntmps99
  go_wp2_with fail
  refine Hc.out.mono ?_
  rintro e w2 ⟨rfl, sv2, iv2, hz, hb2, hk⟩
  have hbx := D.box_kept hbl hne.out hk
  have p1 : w2.cell? ⟨w.heap.size, 2, none⟩ = some (.string ⟨t.toArray⟩) := by rw [cell_of_row w2 _ _ _ _ _ hbx]; rfl
  have hw2 : B ≤ w2.heap.size := by have := hb2.size; simp only [World.size_alloc] at this; omega
  obtain ⟨c0, c1, c2, c3⟩ := hz.cells
  have fz := hz.free
  have hbl2 := hz.lt
  have hbb := Lib.hid (hB1.out.trans hb2)
  obtain ⟨jb, jc, hv⟩ := D.slice_of_own hz.oi
  subst hv
  have HZ := Lib.hid hz
  have hz' : (⟨t.toArray⟩ : ByteArray).size = t.length := D.size_l t
  have hZ := Lib.hid hz'
  clear hz hb2 hk hbx Hc hz'
  go_wp2_with fail
  go_region_law (first
    | (refine D.step_append_string rfl (.tmp 27) (.tmp 29) 137 9 rfl B 5 ib Try.underlying137 Try.underlying9 Hb.out.1 Hb.out.2.1 Hb.out.2.2.1 Hb.out.2.2.2 (.slice jb T.length jc) T.length (D.bytesL T) rfl ?own ⟨t.toArray⟩ rfl ?m1 ?m2 ?base ?_
       case own => repeat (first | exact HZ.out.oi | refine World.ownsRow.drew ?_ | refine World.ownsRow.alloc ?_ _)
       case m1 => unfold maxLen; have := hZ.out; omega
       case m2 => have := hZ.out; omega
       case base => first | omega | (simp; omega)
       intro v3 w3 hO3 hg3
       obtain ⟨kb, kc, hv3⟩ := D.slice_of_own hO3
       subst hv3
       have R : D.Nz B b (X ++ D.oR K) 0 (T ++ t) N sv2 (.slice kb (T.length + (⟨t.toArray⟩ : ByteArray).size) kc) (w3.setCell ⟨b, 2, none⟩ (.slice kb (T.length + (⟨t.toArray⟩ : ByteArray).size) kc)) := by
         refine D.Nz.putI (T := T) ?h hg3 ?o
         case h => repeat (first | exact HZ.out | refine D.Nz.drew ?_ | refine D.Nz.alloc ?_ _)
         case o =>
           rw [List.length_append, D.bytesL_append, ← hZ.out]
           exact hO3
       have hB3 : Below B w w3 := by
         refine Below.grown ?_ hg3 ?_ (fun k e => (HZ.out.oi.lt k e).1)
         · repeat (first | exact hbb.out | refine Below.drew ?_)
         · first | omega | (simp; omega)
       have hbne := (D.block_ne HZ.out.oi HZ.out.box (by decide)).symm
       have hbx : w3.heap[b]? = some (.cells #[sv2, .int .i64 0, .slice jb T.length jc, .int .i64 N] 139) := by
         refine (hg3.block b ?_ hbne).trans (D.Nz.box (B := B) (X := X ++ D.oR K) (T := T) (K := 0) ?_)
         · first | exact hbl2 | (simp; omega)
         · repeat (first | exact HZ.out | refine D.Nz.drew ?_ | refine D.Nz.alloc ?_ _)
       have c2 : w3.cell? ⟨b, 2, none⟩ = some (.slice jb T.length jc) := by rw [cell_of_row w3 b _ _ _ _ hbx]; rfl
       have fz : w3.frozen? ⟨b, 2, none⟩ = false := frozen_of_row _ _ _ _ _ hbx
       have R := Lib.hid R
       have hB3 := Lib.hid hB3
       clear hO3 hg3 hbne hbx))
  all_goals
    have RR : Hid (D.AddEnd B b (D.S.add ⟨X, K, T, N⟩ (.I t)) w (.returned (.tuple #[])) (w3.setCell ⟨b, 2, none⟩ (.slice kb (T.length + (⟨t.toArray⟩ : ByteArray).size) kc))) := ⟨rfl, sv2, _, R.out, hB3.out.setCell (p := ⟨b, 2, none⟩) hge _⟩
    go_wp2
    go_end0
    exact RR.out
theorem add_any (B b : Nat) (q : D.Q) (s : D.S) (sv iv : Value) (w : World) (h : D.Nz B b s.set s.kept s.ins s.rem sv iv w) (hB : B ≤ w.heap.size) (hX : s.set.length ≤ 1000000) (hK : s.kept ≤ 1000000000) (hT : s.ins.length ≤ 1000000000) (hN : s.rem ≤ 1000000000) (hi : D.in1 q ≤ 1000000000) (ho : D.out1 q ≤ 1000000000) :
    Calls Try.prog 99 #[.pointer (some ⟨b, 0, none⟩), .agg #[.int .u8 (D.raw q).k, .int .i64 (D.raw q).n, .string (D.raw q).t]] w (D.AddEnd B b (s.add q) w) := by
  cases q with
  | R n => simp only [D.in1] at hi; exact add_R B b n s sv iv w h hB hX hT hN (by omega)
  | I t => simp only [D.out1] at ho; exact add_I B b t s sv iv w h hB hX hK (by omega)
  | D n => simp only [D.in1] at hi; exact add_D B b n s sv iv w h hB hX hK (by omega)
end Go.Proofs.Ytmbgcbgbdjiacaa
/- DeltaNf -/
namespace Go.Proofs.Ytmbgcbgbdjiacaa
open Go.RowKit

/-- A list of deltas, as it lies in memory. -/
def D.Lst (W : World) (lo : Option Addr) (L : List D.Src) : Prop :=
  ∀ (i : Nat) (s : D.Src), L[i]? = some s → ∃ b o, lo = some ⟨b, o, none⟩ ∧ b < W.heap.size ∧ W.cell? ⟨b, o + i, none⟩ = some (.slice s.a s.x.length s.c) ∧ D.Row W s.a s.x
theorem D.Rows.lst {W : World} {lo : Option Addr} {L : List D.Src} (h : D.Rows W lo L) : D.Lst W lo L := fun i s hs => by
  obtain ⟨b, o, e, hb, hc, hk⟩ := h i s hs
  exact ⟨b, o, e, hb, hc, hk.row⟩
def D.st (a : List D.Q) : D.S := D.runS ⟨[], 0, [], 0⟩ a
theorem D.st_snoc (a : List D.Q) (q : D.Q) : D.st (a ++ [q]) = (D.st a).add q := by simp [D.st, D.runS, List.foldl_append]
theorem D.st_ok (a : List D.Q) (pa : D.allPos a = true) : D.Sok (D.st a) a := by
  have := D.Sok_run a pa ⟨[], 0, [], 0⟩ [] D.Sok_init
  rwa [List.nil_append] at this
/-- Between two pieces: the normalizer holds the state of those that were added. -/
def D.NfAt (w : World) (a : List D.Q) (wr : World) : Prop := (∃ sv iv, D.Nz w.heap.size w.heap.size (D.st a).set (D.st a).kept (D.st a).ins (D.st a).rem sv iv wr) ∧ Below w.heap.size w wr
theorem D.pre (L : List D.Src) (k : Nat) (s : D.Src) (hs : L[k]? = some s) (j : Nat) : ∃ r, D.qs (D.flat L) = (D.qs (D.flat (L.take k)) ++ (D.qs s.x).take j) ++ r := by
  obtain ⟨hk, e⟩ := List.getElem?_eq_some_iff.1 hs
  have h1 : D.flat L = D.flat (L.take k) ++ (s.x ++ D.flat (L.drop (k + 1))) := by
    have h2 : L = L.take k ++ s :: L.drop (k + 1) := by rw [← e, ← List.drop_eq_getElem_cons hk, List.take_append_drop]
    calc D.flat L = D.flat (L.take k ++ s :: L.drop (k + 1)) := by rw [← h2]
      _ = _ := by simp [D.flat]
  refine ⟨(D.qs s.x).drop j ++ D.qs (D.flat (L.drop (k + 1))), ?_⟩
  rw [h1, D.qs_append, D.qs_append, List.append_assoc, ← List.append_assoc ((D.qs s.x).take j), List.take_append_drop]
theorem D.pre_bd {a p r : List D.Q} (e : a = p ++ r) (pa : D.allPos a = true) : D.allPos p = true ∧ p.length ≤ a.length ∧ D.inL p ≤ D.inL a ∧ D.outL p ≤ D.outL a := by
  subst e
  rw [D.inL_append, D.outL_append, List.length_append]
  unfold D.allPos at *
  rw [List.all_append, Bool.and_eq_true] at pa
  exact ⟨pa.1, by omega, by omega, by omega⟩
theorem D.in1_le {a : List D.Q} {q : D.Q} (h : q ∈ a) : D.in1 q ≤ D.inL a ∧ D.out1 q ≤ D.outL a := by
  induction a with
  | nil => cases h
  | cons p a ih =>
    have e1 : D.inL (p :: a) = D.in1 p + D.inL a := rfl
    have e2 : D.outL (p :: a) = D.out1 p + D.outL a := rfl
    rcases List.mem_cons.1 h with rfl | h
    · omega
    · have := ih h; omega
def D.NfEnd (x : List D.P) (w : World) (e : Ending) (w' : World) : Prop := ∃ v, e = .returned v ∧ D.Made x w v w'
set_option maxRecDepth 100000 in
set_option maxHeartbeats 2000000 in
theorem normalForm_any (lo : Option Addr) (cap : Nat) (L : List D.Src) (w : World) (hr : D.Lst w lo L) (hL : L.length ≤ 1000000) (hv : ∀ p ∈ D.flat L, D.vP p = true) (pa : D.allPos (D.qs (D.flat L)) = true)
    (hn : (D.flat L).length ≤ 900000) (hi : D.inL (D.qs (D.flat L)) ≤ 1000000000) (ho : D.outL (D.qs (D.flat L)) ≤ 1000000000) (hx : ∀ s ∈ L, s.x.length ≤ 1000000) :
    Calls Try.prog 75 #[.slice lo L.length cap] w (D.NfEnd (D.normP (D.flat L)) w) := by
  have Hr := Lib.hid hr
  have Pa := Lib.hid pa
  have Hv := Lib.hid hv
  have Hx := Lib.hid hx
  have hq : (D.qs (D.flat L)).length = (D.flat L).length := by unfold D.qs; rw [List.length_map]
  have Hn := Lib.hid (show (D.qs (D.flat L)).length ≤ 900000 by omega)
  have Hi := Lib.hid hi
  have Ho := Lib.hid ho
  have hz0 : D.Nz w.heap.size w.heap.size [] 0 [] 0 (.slice none 0 0) (.slice none 0 0) (w.alloc (.cells #[.slice none 0 0, .int .i64 0, .slice none 0 0, .int .i64 0] 139)) :=
    ⟨Nat.le_refl _, heap_alloc_new w _, World.ownsRow_nil _ _ _ _, World.ownsRow_nil _ _ _ _⟩
  have R0 : Hid (D.NfAt w [] (w.alloc (.cells #[.slice none 0 0, .int .i64 0, .slice none 0 0, .int .i64 0] 139))) := ⟨⟨_, _, hz0⟩, (Below.refl _ _).alloc (Nat.le_refl _) _⟩
  clear hr pa hv hx hq hi ho hz0 hn
  go_enter Try.func75, Try.ntmps75
  go_wp2
  go_loopw [10] (fun i wr => ∃ k : Nat, k ≤ L.length ∧ i = .int .i64 k ∧ Hid (D.NfAt w (D.qs (D.flat (L.take k))) wr)) (fun i _ => L.length - (intOf i).toNat)
  case atStart => exact ⟨0, Nat.zero_le _, rfl, R0.out⟩
  case round =>
    obtain ⟨k, hk, rfl, hm⟩ := hrel
    clear R0
    by_cases hlt : k < L.length
    · obtain ⟨⟨sa, sc, sx⟩, hs⟩ : ∃ s, L[k]? = some s := ⟨L[k], List.getElem?_eq_getElem hlt⟩
      obtain ⟨b, o, e, hbl, hc, hrow⟩ := Hr.out k _ hs
      dsimp only at hc hrow
      subst e
      have hc' := ((D.bcell hm.out.2).1 b (o + k) hbl).trans hc
      have hsx : sx.length ≤ 1000000 := Hx.out _ (List.mem_of_getElem? hs)
      have Hrow := Lib.hid hrow
      have Hs := Lib.hid hs
      have hfl : Hid (D.qs (D.flat (L.take (k + 1))) = D.qs (D.flat (L.take k)) ++ D.qs sx) := by show _ = _; rw [D.flat_snoc L k _ hs, D.qs_append]
      have hpre : Hid (∀ j, ∃ r, D.qs (D.flat L) = (D.qs (D.flat (L.take k)) ++ (D.qs sx).take j) ++ r) := D.pre L k _ hs
      have hmem : Hid (∀ p ∈ sx, D.vP p = true) := fun p hp => Hv.out p (by
        unfold D.flat
        exact List.mem_flatMap.2 ⟨_, List.mem_of_getElem? hs, hp⟩)
      obtain ⟨A, hA⟩ : ∃ A, Hid (D.qs (D.flat (L.take k)) = A) := ⟨_, rfl⟩
      rw [hA.out] at hm hfl hpre
      clear hrow hs hc
      obtain ⟨W0, rfl⟩ : ∃ W0 : World, W0 = wr := ⟨_, rfl⟩
      go_wp2
      go_loopw [16] (fun i wx => ∃ j : Nat, j ≤ sx.length ∧ i = .int .i64 j ∧ Hid (D.NfAt w (A ++ (D.qs sx).take j) wx)) (fun i _ => sx.length - (intOf i).toNat)
      case atStart => exact ⟨0, Nat.zero_le _, rfl, by show D.NfAt _ _ _; rw [List.take_zero, List.append_nil]; exact hm.out⟩
      case round =>
        obtain ⟨j, hj, rfl, hy⟩ := hrel
        by_cases hjl : j < sx.length
        · obtain ⟨p, hp, _⟩ := D.drop_cons hjl
          obtain ⟨pb, po, e, hpl, hcell⟩ := Hrow.out j p hp
          obtain ⟨c0, c1, c2⟩ := D.cell3 hy.out.2 hpl hcell
          have hvp := hmem.out p (List.mem_of_getElem? hp)
          have hraw := D.raw_toQ hvp
          have hqj : (D.qs sx)[j]? = some (D.toQ p) := by unfold D.qs; rw [List.getElem?_map, hp]; rfl
          have hstep : Hid (A ++ (D.qs sx).take (j + 1) = (A ++ (D.qs sx).take j) ++ [D.toQ p]) := by show _ = _; rw [List.take_add_one, hqj, List.append_assoc]; rfl
          have hin : D.toQ p ∈ D.qs (D.flat L) := by
            unfold D.qs
            refine List.mem_map.2 ⟨p, ?_, rfl⟩
            unfold D.flat
            exact List.mem_flatMap.2 ⟨_, List.mem_of_getElem? Hs.out, List.mem_of_getElem? hp⟩
          obtain ⟨z1, z2⟩ := D.in1_le hin
          obtain ⟨r, hr⟩ := hpre.out j
          obtain ⟨y0, y1, y2, y3⟩ := D.pre_bd hr Pa.out
          obtain ⟨t1, t2, t3, t4⟩ := D.S_bd (D.st_ok _ y0)
          have i1 := Hi.out
          have i2 := Ho.out
          have i3 := Hn.out
          obtain ⟨⟨sv, iv, hz⟩, hbw⟩ := hy.out
          have hbs := hbw.size
          have Hadd := add_any w.heap.size w.heap.size (D.toQ p) (D.st (A ++ (D.qs sx).take j)) sv iv (wr.alloc (.cells #[.int .u8 p.k, .int .i64 p.n, .string p.t] 53)) (hz.alloc _) (by simp; omega) (by omega) (by omega) (by omega) (by omega) (by omega) (by omega)
          rw [hraw] at Hadd
          have Hadd := Lib.hid Hadd
          have hba : Hid (Below w.heap.size w (wr.alloc (.cells #[.int .u8 p.k, .int .i64 p.n, .string p.t] 53))) := hbw.alloc hbs _
          subst e
          clear hp hcell hvp hraw hqj hin z1 z2 hr y0 y1 y2 y3 t1 t2 t3 t4 i1 i2 i3 hz hbw
          go_wp2_with fail
          refine Hadd.out.mono ?_
          rintro e w2 ⟨rfl, sv2, iv2, hz2, hb2⟩
          have R : Hid (D.NfAt w (A ++ (D.qs sx).take (j + 1)) w2) := by
            show D.NfAt _ _ _
            rw [hstep.out]
            refine ⟨⟨sv2, iv2, ?_⟩, hba.out.trans hb2⟩
            rw [D.st_snoc]; exact hz2
          clear hz2 hb2 Hadd hba
          go_wp2
          go_roundw
          case rel => exact ⟨j + 1, by omega, by go_num, R⟩
          case measure => simp [intOf]; omega
        · obtain rfl : j = sx.length := by omega
          have R : Hid (D.NfAt w (D.qs (D.flat (L.take (k + 1)))) wr) := by
            have := hy.out
            show D.NfAt _ _ _
            rw [hfl.out]
            rwa [List.take_of_length_le (by unfold D.qs; rw [List.length_map]; exact Nat.le_refl _)] at this
          go_wp2
          go_roundw
          case rel => exact ⟨k + 1, by omega, by go_num, R⟩
          case measure => simp [intOf]; omega
    · obtain rfl : k = L.length := by omega
      have hy := hm.out
      rw [List.take_length] at hy
      obtain ⟨a, ha⟩ : ∃ a, Hid (D.qs (D.flat L) = a) := ⟨_, rfl⟩
      rw [ha.out] at hy Pa Hn Hi Ho
      obtain ⟨⟨sv, iv, hz⟩, hbw⟩ := hy
      have hok := D.st_ok a Pa.out
      obtain ⟨t1, t2, t3, t4⟩ := D.S_bd hok
      have hfin := Lib.hid (D.Sok_fin hok)
      have i1 := Hi.out
      have i2 := Ho.out
      have i3 := Hn.out
      have hbs := hbw.size
      have H1 := Lib.hid (settleKept_any w.heap.size w.heap.size _ _ _ _ sv iv wr hz hbs (by omega) (by omega))
      have Hbw := Lib.hid hbw
      obtain ⟨S, hS⟩ : ∃ S, Hid (D.st a = S) := ⟨_, rfl⟩
      rw [hS.out] at H1 hfin t1 t2 t3 t4
      have hmade : Hid (∀ v w', w'.ownsRow w.heap.size 53 3 v S.fin.length (D.cellsL (S.fin.map D.raw)) → Below w.heap.size w w' → D.NfEnd (D.normP (D.flat L)) w (.returned v) w') := fun v w' ho hb => by
        refine ⟨v, rfl, ?_, hb⟩
        unfold D.normP
        rw [ha.out, ← hfin.out, List.length_map]
        exact ho
      clear hm hz hbw hok hfin i1 i2 i3 hS
      go_wp2_with fail
      refine H1.out.mono ?_
      rintro e w1 ⟨rfl, sv1, iv1, hz1, hb1, _⟩
      have hb1' := Hbw.out.trans hb1
      have hl1 : (S.set ++ D.oR S.kept).length ≤ 1000000 := by have h1 := D.oR_len S.kept; have h2 := Hn.out; rw [List.length_append]; omega
      have h8 := Ho.out
      have h9 := Hi.out
      have hbs1 := hb1'.size
      have H2 := Lib.hid (settleGap_any w.heap.size w.heap.size _ _ _ _ sv1 iv1 w1 hz1 hbs1 hl1 (by omega) (by omega))
      have Hb1 := Lib.hid hb1'
      clear hz1 hb1 hb1' h8 h9 H1
      go_wp2_with fail
      refine H2.out.mono ?_
      rintro e w2 ⟨rfl, sv2, iv2, hz2, hb2, _⟩
      obtain ⟨c0, _, _, _⟩ := hz2.cells
      have R := Lib.hid (hmade.out sv2 w2 hz2.os (Hb1.out.trans hb2))
      obtain ⟨kb, kc, hv⟩ := D.slice_of_own hz2.os
      subst hv
      obtain ⟨ln, hln⟩ : ∃ n, Hid ((((S.set ++ D.oR S.kept) ++ D.oI S.ins) ++ D.oD S.rem).length = n) := ⟨_, rfl⟩
      rw [hln.out] at c0 R
      clear hz2 hb2 H2
      go_wp2
      go_ret
      exact R.out
end Go.Proofs.Ytmbgcbgbdjiacaa
