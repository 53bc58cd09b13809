/- The contracts of package delta's normalizer: settleGap. -/
import Derived.Test.YtdilkoogjkabfaaDoorDeltaSettle
import Derived.Deep.DeepCutAuto
import Derived.Deep.CutBlock
import Derived.Deep.AppendLies
import Derived.Deep.RegionLaw
import Derived.OneCell
namespace Go.Proofs.YtdilkoogjkabfaaDoor
open Go.RowKit

/-- Within settleGap: the settled pieces have grown. -/
structure D.Mid (B b : Nat) (X : List D.Q) (K : Nat) (T : List UInt8) (N : Nat) (sv0 sv iv : Value) (w wr : World) : Prop where
  nz : D.Nz B b X K T N sv iv wr
  below : Below B w wr
  keep : D.Keep b sv0 w wr
  lies : ∀ k, sv.ownBlock = some k → sv0.ownBlock = some k ∨ w.heap.size ≤ k
theorem D.cut_own {w : World} {B : Nat} {v : Value} {n : Nat} {xs : List Value} {ao : Option Addr} {c : Nat} (h : w.ownsRow B 5 1 v n xs) (hv : v = .slice ao n c) : w.ownsRow B 5 1 (.slice ao 0 c) 0 [] := by
  subst hv
  obtain ⟨_, ⟨e, _⟩ | ⟨g, cap, cur, e, h1, h2, h3, h4, h5, _⟩⟩ := h
  · cases e; exact ⟨rfl, .inl ⟨rfl, rfl⟩⟩
  · cases e; exact ⟨rfl, .inr ⟨g, _, cur, rfl, h1, h2, Nat.zero_le _, h4, h5, by simp⟩⟩
set_option maxRecDepth 100000 in
set_option maxHeartbeats 4000000 in
theorem settleGap_any (B b : Nat) (X : List D.Q) (K : Nat) (T : List UInt8) (N : Nat) (sv iv : Value) (w : World) (h : D.Nz B b X K T N sv iv w) (hB : B ≤ w.heap.size) (hX : X.length ≤ 1000000) (hT : T.length ≤ 1000000000) (hN : N ≤ 1000000000) :
    Calls Tryd.prog 36 #[.pointer (some ⟨b, 0, none⟩)] w (D.NzEnd B b ((X ++ D.oI T) ++ D.oD N) K [] 0 sv w) := by
  obtain ⟨ip, hp, hp0, hp1, hp2⟩ := info_parts Tryd.infoPiece
  have Hp := Lib.hid (And.intro hp (And.intro hp0 (And.intro hp1 hp2)))
  clear hp hp0 hp1 hp2
  obtain ⟨c0, c1, c2, c3⟩ := h.cells
  have fz := h.free
  have H := Lib.hid h
  have hbl := h.lt
  have hbg := h.ge
  obtain ⟨tb, tc, rfl⟩ := D.slice_of_own h.os
  obtain ⟨ib, ic, rfl⟩ := D.slice_of_own h.oi
  clear h
  go_enter Tryd.func36, Tryd.ntmps36
  go_upto_if 7 with (fail)
  go_cut [7] (fun _ wx => ∃ sv', Hid (D.Mid B b (X ++ D.oI T) K T N (.slice tb X.length tc) sv' (.slice ib T.length ic) w wx))
  case first =>
    by_cases ht : T = []
    · have R : Hid (D.Mid B b (X ++ D.oI T) K T N (.slice tb X.length tc) (.slice tb X.length tc) (.slice ib T.length ic) w w) := by
        show D.Mid _ _ _ _ _ _ _ _ _ _ _
        rw [ht, D.oI_nil, List.append_nil]
        exact ⟨by rw [← ht]; exact H.out, Below.refl _ _, fun _ _ _ _ => rfl, fun _ h => .inl h⟩
      subst ht
      go_wp2
      go_meet
      case rel => exact ⟨_, R⟩
    · obtain ⟨gb, gc, hv, hby⟩ := D.bytes_of_own H.out.oi ht
      cases hv
      have hpos : 0 < T.length := by cases T with
        | nil => exact absurd rfl ht
        | cons => simp
      have hconv := Lib.run_convert_whole (P := Tryd.prog) w.drew 56 5 9 Tryd.underlying56 Tryd.underlying5 Tryd.underlying9 gb 0 ⟨T.toArray⟩ hby ic
      rw [D.size_l] at hconv
      have HTn := Lib.hid ht
      have d0 := D.cell_old c0
      have d2 := D.cell_old c2
      clear ht hby
      go_wp2_with fail
      go_region_law (first
        | (refine step_append_lies _ rfl (.tmp 12) (.tmp 19) 22 rfl B 29 ip (.agg #[.int .u8 0, .int .i64 0, .string ⟨#[]⟩]) 3 32 Tryd.underlying22 Hp.out.1 Hp.out.2.1 Hp.out.2.2.1 Hp.out.2.2.2 rfl (by decide) (.slice tb X.length tc) X.length (D.cellsL (X.map D.raw)) rfl ?own _ 1 1 [.int .u8 2, .int .i64 0, .string ⟨T.toArray⟩] rfl rfl ?news (fun u hu => by simp at hu; rcases hu with rfl | rfl | rfl <;> rfl) (by decide) (by unfold maxLen; omega) (by omega) ?base _ rfl ?_
           case own => repeat (first | exact H.out.os | refine World.ownsRow.drew ?_ | refine World.ownsRow.alloc ?_ _)
           case news => exact D.news _ _ _
           case base => first | omega | (simp; omega)
           intro g cp w3 hO3 hg3 hat3 hlt3
           have R : D.Nz B b (X ++ [.I T]) K T N (.slice (some ⟨g, 0, none⟩) (X.length + 1) cp) (.slice (some ⟨gb, 0, none⟩) T.length ic) (w3.setCell ⟨b, 0, none⟩ (.slice (some ⟨g, 0, none⟩) (X.length + 1) cp)) := by
             refine D.Nz.putS (X := X) ?h hg3 ?o
             case h => repeat (first | exact H.out | refine D.Nz.drew ?_ | refine D.Nz.alloc ?_ _)
             case o =>
               rw [List.map_append, D.cellsL_append, List.length_append]
               exact hO3
           have hB3 : Below B w w3 := by
             refine Below.grown ?_ hg3 ?_ (fun k e => (H.out.os.lt k e).1)
             · repeat (first | exact Below.refl _ _ | refine Below.drew ?_ | refine Below.alloc ?_ (by first | omega | (simp; omega)) _)
             · first | omega | (simp; omega)
           have hKp : D.Keep b (.slice tb X.length tc) w w3 := fun k hk _ hs => (hg3.block k (by first | omega | (simp; omega)) hs).trans (Below.heap_alloc _ _ _ hk)
           have hKp := Lib.hid hKp
           have hLi : ∀ k, Value.ownBlock (.slice (some ⟨g, 0, none⟩) (X.length + 1) cp) = some k → Value.ownBlock (.slice tb X.length tc) = some k ∨ w.heap.size ≤ k := fun k hk => by
             simp only [Value.ownBlock, Option.some.injEq] at hk
             subst hk
             exact hat3.elim .inl (fun h => .inr (by rw [h]; simp))
           have hLi := Lib.hid hLi
           have hbne := (D.block_ne H.out.os H.out.box (by decide)).symm
           have hbx : w3.heap[b]? = some (.cells #[.slice tb X.length tc, .int .i64 K, .slice (some ⟨gb, 0, none⟩) T.length ic, .int .i64 N] 63) := by
             refine (hg3.block b ?_ hbne).trans (D.Nz.box (B := B) (X := X) (T := T) ?_)
             · first | exact hbl | (simp; omega)
             · repeat (first | exact H.out | refine D.Nz.drew ?_ | refine D.Nz.alloc ?_ _)
           have c0 : w3.cell? ⟨b, 0, none⟩ = some (.slice tb X.length tc) := by rw [cell_of_row w3 b _ _ _ _ hbx]; rfl
           have fz : w3.frozen? ⟨b, 0, none⟩ = false := frozen_of_row _ _ _ _ _ hbx
           have R := Lib.hid R
           have hB3 := Lib.hid hB3
           clear hO3 hg3 hat3 hlt3 hbne hbx))
      all_goals
        have RR : Hid (D.Mid B b (X ++ D.oI T) K T N (.slice tb X.length tc) (.slice (some ⟨g, 0, none⟩) (X.length + 1) cp) (.slice (some ⟨gb, 0, none⟩) T.length ic) w (w3.setCell ⟨b, 0, none⟩ (.slice (some ⟨g, 0, none⟩) (X.length + 1) cp))) := by
          show D.Mid _ _ _ _ _ _ _ _ _ _ _
          rw [D.oI_pos HTn.out]
          exact ⟨R.out, hB3.out.setCell hbg _, hKp.out.set _ _, hLi.out⟩
        clear R
        go_wp2
        go_meet
        case rel => exact ⟨_, RR⟩
  case rest =>
    obtain ⟨sv1, hm⟩ := hcut
    obtain ⟨X1, hX1⟩ : ∃ Y : List D.Q, Hid (X ++ D.oI T = Y) := ⟨_, rfl⟩
    rw [hX1.out] at hm
    have hX1l : X1.length ≤ X.length + 1 := by rw [← hX1.out, List.length_append]; have := D.oI_len T; omega
    clear H c0 c1 c2 c3 fz hbl
    have H := Lib.hid hm.out.nz
    have hbw := Lib.hid hm.out.below
    have hB1 : B ≤ wc.heap.size := Nat.le_trans hB hm.out.below.size
    obtain ⟨c0, c1, c2, c3⟩ := H.out.cells
    have fz := H.out.free
    have hbl := H.out.lt
    have hkp0 := Lib.hid hm.out.keep
    have hli0 := Lib.hid hm.out.lies
    have hws := hm.out.below.size
    obtain ⟨tb1, tc1, hv⟩ := D.slice_of_own H.out.os
    subst hv
    clear hm
    obtain ⟨W1, rfl⟩ : ∃ W1 : World, W1 = wc := ⟨_, rfl⟩
    go_upto_if 27 with (fail)
    go_cut [27] (fun _ wx => ∃ sv', Hid (D.Mid B b (X1 ++ D.oD N) K T N (.slice tb X.length tc) sv' (.slice ib T.length ic) w wx))
    case first =>
      rcases Nat.eq_zero_or_pos N with hz | hz
      · have R : Hid (D.Mid B b (X1 ++ D.oD N) K T N (.slice tb X.length tc) (.slice tb1 X1.length tc1) (.slice ib T.length ic) w W1) := by
          show D.Mid _ _ _ _ _ _ _ _ _ _ _
          rw [hz, D.oD_zero, List.append_nil]
          exact ⟨by rw [← hz]; exact H.out, hbw.out, hkp0.out, hli0.out⟩
        subst hz
        go_wp2
        go_meet
        case rel => exact ⟨_, R⟩
      · have HZ := Lib.hid hz
        have d0 := D.cell_old c0
        have d3 := D.cell_old c3
        go_wp2_with fail
        go_region_law (first
          | (refine step_append_lies _ rfl (.tmp 32) (.tmp 38) 22 rfl B 29 ip (.agg #[.int .u8 0, .int .i64 0, .string ⟨#[]⟩]) 3 32 Tryd.underlying22 Hp.out.1 Hp.out.2.1 Hp.out.2.2.1 Hp.out.2.2.2 rfl (by decide) (.slice tb1 X1.length tc1) X1.length (D.cellsL (X1.map D.raw)) rfl ?own _ 1 1 [.int .u8 3, .int .i64 (N : Int), .string ⟨#[]⟩] rfl rfl ?news (fun u hu => by simp at hu; rcases hu with rfl | rfl | rfl <;> rfl) (by decide) (by unfold maxLen; omega) (by omega) ?base _ rfl ?_
             case own => repeat (first | exact H.out.os | refine World.ownsRow.drew ?_ | refine World.ownsRow.alloc ?_ _)
             case news => exact D.news _ _ _
             case base => first | omega | (simp; omega)
             intro g cp w3 hO3 hg3 hat3 hlt3
             have R : D.Nz B b (X1 ++ [.D N]) K T N (.slice (some ⟨g, 0, none⟩) (X1.length + 1) cp) (.slice ib T.length ic) (w3.setCell ⟨b, 0, none⟩ (.slice (some ⟨g, 0, none⟩) (X1.length + 1) cp)) := by
               refine D.Nz.putS (X := X1) ?h hg3 ?o
               case h => repeat (first | exact H.out | refine D.Nz.drew ?_ | refine D.Nz.alloc ?_ _)
               case o =>
                 rw [List.map_append, D.cellsL_append, List.length_append]
                 exact hO3
             have hB3 : Below B w w3 := by
               refine Below.grown ?_ hg3 ?_ (fun k e => (H.out.os.lt k e).1)
               · repeat (first | exact hbw.out | refine Below.drew ?_ | refine Below.alloc ?_ (by first | omega | (simp; omega)) _)
               · first | omega | (simp; omega)
             have hKp : D.Keep b (.slice tb X.length tc) w w3 := fun k hk hb hs => by
               refine ((hg3.block k (by first | omega | (simp; omega)) (fun e => ?_)).trans (Below.heap_alloc _ _ _ (by omega))).trans (hkp0.out k hk hb hs)
               rcases hli0.out k e.symm with h | h
               · exact hs h.symm
               · omega
             have hKp := Lib.hid hKp
             have hLi : ∀ k, Value.ownBlock (.slice (some ⟨g, 0, none⟩) (X1.length + 1) cp) = some k → Value.ownBlock (.slice tb X.length tc) = some k ∨ w.heap.size ≤ k := fun k hk => by
               simp only [Value.ownBlock, Option.some.injEq] at hk
               subst hk
               exact hat3.elim (fun h => hli0.out g h) (fun h => .inr (by rw [h]; simp; omega))
             have hLi := Lib.hid hLi
             have hbne := (D.block_ne H.out.os H.out.box (by decide)).symm
             have hbx : w3.heap[b]? = some (.cells #[.slice tb1 X1.length tc1, .int .i64 K, .slice ib T.length ic, .int .i64 N] 63) := by
               refine (hg3.block b ?_ hbne).trans (D.Nz.box (B := B) (X := X1) (T := T) ?_)
               · first | exact hbl | (simp; omega)
               · repeat (first | exact H.out | refine D.Nz.drew ?_ | refine D.Nz.alloc ?_ _)
             have c0 : w3.cell? ⟨b, 0, none⟩ = some (.slice tb1 X1.length tc1) := by rw [cell_of_row w3 b _ _ _ _ hbx]; rfl
             have fz : w3.frozen? ⟨b, 0, none⟩ = false := frozen_of_row _ _ _ _ _ hbx
             have R := Lib.hid R
             have hB3 := Lib.hid hB3
             clear hO3 hg3 hat3 hlt3 hbne hbx))
        all_goals
          have RR : Hid (D.Mid B b (X1 ++ D.oD N) K T N (.slice tb X.length tc) (.slice (some ⟨g, 0, none⟩) (X1.length + 1) cp) (.slice ib T.length ic) w (w3.setCell ⟨b, 0, none⟩ (.slice (some ⟨g, 0, none⟩) (X1.length + 1) cp))) := by
            show D.Mid _ _ _ _ _ _ _ _ _ _ _
            rw [D.oD_pos HZ.out]
            exact ⟨R.out, hB3.out.setCell hbg _, hKp.out.set _ _, hLi.out⟩
          clear R
          go_wp2
          go_meet
          case rel => exact ⟨_, RR⟩
    case rest =>
      obtain ⟨sv2, hm⟩ := hcut
      obtain ⟨X2, hX2⟩ : ∃ Y : List D.Q, Hid (X1 ++ D.oD N = Y) := ⟨_, rfl⟩
      rw [hX2.out] at hm
      clear H c0 c1 c2 c3 fz hbl hbw hB1
      have H := Lib.hid hm.out.nz
      have hbw := Lib.hid hm.out.below
      obtain ⟨c0, c1, c2, c3⟩ := H.out.cells
      have fz := H.out.free
      have RR : Hid (D.NzEnd B b ((X ++ D.oI T) ++ D.oD N) K [] 0 (.slice tb X.length tc) w (.returned (.tuple #[])) ((wc.setCell ⟨b, 2, none⟩ (.slice ib 0 ic)).setCell ⟨b, 3, none⟩ (.int .i64 0))) := by
        show D.NzEnd _ _ _ _ _ _ _ _ _ _
        rw [hX1.out, hX2.out]
        exact ⟨rfl, sv2, .slice ib 0 ic, (H.out.putI (T' := []) (World.grownBy.refl _ _) (D.cut_own H.out.oi rfl)).putN 0, ((hbw.out.setCell (p := ⟨b, 2, none⟩) hbg _).setCell (p := ⟨b, 3, none⟩) hbg _), (hm.out.keep.set _ _).set _ _⟩
      clear hm
      go_wp2
      go_end0
      exact RR.out
end Go.Proofs.YtdilkoogjkabfaaDoor
