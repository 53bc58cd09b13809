/- The contracts of the reference of layer 5: Fits, Both, Compose. -/
import Derived.Test.YtmljagkndnobdaaComposeOf
import Derived.Test.YtmljagkndnobdaaComposeDo
namespace Go.Proofs.Ytmljagkndnobdaa
open Go.RowKit

theorem C.own_cell {W : World} {base g n c : Nat} {e : TypeId} {xs : List Value} (h : W.ownsRow base e 1 (.slice (some ⟨g, 0, none⟩) n c) n xs) {i : Nat} {u : Value} (hu : xs[i]? = some u) : W.cell? ⟨g, i, none⟩ = some u ∧ W.frozen? ⟨g, i, none⟩ = false ∧ base ≤ g := by
  obtain ⟨hl, ⟨e', _⟩ | ⟨g', cap, cur, e', hb, hg, hnc, hcm, hcs, ht⟩⟩ := h
  · cases e'
  · cases e'
    have hi := (List.getElem?_eq_some_iff.1 hu).1
    rw [← ht, List.getElem?_take, if_pos (by omega)] at hu
    exact ⟨by rw [cell_of_row W g _ cur _ _ hg]; simpa using hu, frozen_of_row _ _ _ _ _ hg, hb⟩
theorem C.own_set {W : World} {base g n c : Nat} {e : TypeId} {xs : List Value} (h : W.ownsRow base e 1 (.slice (some ⟨g, 0, none⟩) n c) n xs) (i : Nat) (u : Value) : (W.setCell ⟨g, i, none⟩ u).ownsRow base e 1 (.slice (some ⟨g, 0, none⟩) n c) n (xs.set i u) := by
  obtain ⟨hl, ⟨e', _⟩ | ⟨g', cap, cur, e', hb, hg, hnc, hcm, hcs, ht⟩⟩ := h
  · cases e'
  · cases e'
    refine ⟨by rw [List.length_set]; exact hl, .inr ⟨g, c, cur.setIfInBounds i u, rfl, hb, by rw [heap_setCell_same W g i _ _ _ hg], hnc, hcm, by rw [Array.size_setIfInBounds]; exact hcs, ?_⟩⟩
    rw [Array.toList_setIfInBounds, List.take_set, ht]
def C.mix (M O : List Int) (i : Nat) : List Int := (O.take i).map (D.pick M) ++ O.drop i
theorem C.mix_len (M O : List Int) (i : Nat) : (C.mix M O i).length = O.length := by unfold C.mix; simp; omega
theorem C.mix_at (M O : List Int) (i : Nat) (z : Int) (h : O[i]? = some z) : (C.mix M O i)[i]? = some z := by
  have hi := (List.getElem?_eq_some_iff.1 h).1
  unfold C.mix
  rw [List.getElem?_append_right (by simp; omega)]
  simp [h, Nat.min_eq_left (Nat.le_of_lt hi)]
theorem C.mix_next (M O : List Int) (i : Nat) (z : Int) (h : O[i]? = some z) : C.mix M O (i + 1) = (C.mix M O i).set i (D.pick M z) := by
  have hi := (List.getElem?_eq_some_iff.1 h).1
  have hl : ((O.take i).map (D.pick M)).length = i := by simp; omega
  unfold C.mix
  rw [List.set_append_right _ _ (by omega), hl, Nat.sub_self, List.take_add_one, h, List.map_append]
  have hd : O.drop i = z :: O.drop (i + 1) := by
    rw [List.drop_eq_getElem_cons hi]
    have := (List.getElem?_eq_some_iff.1 h).2
    rw [this]
  rw [hd]
  simp
theorem C.mix_end (M O : List Int) : C.mix M O O.length = D.cmpA M O := by unfold C.mix D.cmpA; simp
theorem C.mix_zero (M O : List Int) : C.mix M O 0 = O := by unfold C.mix; simp
/-- Between two rounds. -/
structure C.MixAt (M O : List Int) (i : Nat) (w : World) (v : Value) (wr : World) : Prop where
  own : wr.ownsRow w.heap.size 3 1 v O.length (D.intsL (C.mix M O i))
  below : Below w.heap.size w wr
def C.BothEnd (x y : List D.P) (w : World) (e : Ending) (w' : World) : Prop := ∃ v, e = .returned v ∧ D.Made (D.cqP x y) w v w'
set_option maxRecDepth 100000 in
set_option maxHeartbeats 4000000 in
theorem refBoth_any (ao bo : Option Addr) (ca cb : Nat) (x y : List D.P) (w : World) (ha : D.Row w ao x) (hb : D.Row w bo y) (f : D.Fit x y) (h1 : D.inL (D.qs x) ≤ 100000) (h3 : D.outL (D.qs y) ≤ 100000) :
    Calls Try.prog 71 #[.slice ao x.length ca, .slice bo y.length cb] w (C.BothEnd x y w) := by
  obtain ⟨ea, pa, l1, l2, i1, o1⟩ := D.valid_qs f.a
  obtain ⟨eb, pb, l3, l4, i2, o2⟩ := D.valid_qs f.b
  have HS := Lib.hid (refSizes_any ao ca x w ha f.a)
  have HA := Lib.hid (refAtoms_any ao ca (D.qs x) w (by omega) (by omega) (by omega) (by rw [ea]; exact ha))
  have HB : Hid (∀ V, Below w.heap.size w V → Calls Try.prog 57 #[.slice bo (D.qs y).length cb] V (D.AtomEnd (D.qs y) V)) := fun V h => refAtoms_any bo cb (D.qs y) V (by omega) (by omega) (by omega) (by rw [eb]; exact hb.below h)
  rw [l1] at HA
  rw [l3] at HB
  have hin : D.inP x = (D.inL (D.qs x) : Int) := D.inP_qs f.a
  rw [hin] at HS
  have hM := D.good_atoms (D.inL (D.qs x)) (D.qs x) 0 (by omega)
  have hL0 : D.good (D.atoms 0 (D.qs x)).length 0 (D.atoms 0 (D.qs y)) := by rw [D.atoms_length, f.m]; exact D.good_atoms _ (D.qs y) 0 (by omega)
  have hgc := D.good_cmp hM (D.atoms 0 (D.qs y)) 0 0 hL0 (fun i _ _ h0 => by simpa using h0)
  have hrange := D.good_range hL0
  have hlenO : (D.atoms 0 (D.qs y)).length ≤ 100000 := by rw [D.atoms_length]; exact h3
  have hlenM : (D.atoms 0 (D.qs x)).length ≤ 1048576 := by rw [D.atoms_length]; exact o1
  have hcq : D.cqP x y = (D.nf (D.ofQ (D.inL (D.qs x)) 0 (D.cmpA (D.atoms 0 (D.qs x)) (D.atoms 0 (D.qs y))))).map D.raw := rfl
  have HG := Lib.hid (And.intro hgc (And.intro hrange hcq))
  unfold D.AtomEnd at HA HB
  generalize D.outP x = p0 at HS
  generalize D.inL (D.qs x) = N at HS HG h1
  generalize D.atoms 0 (D.qs x) = M at HA HG hlenM
  generalize D.atoms 0 (D.qs y) = O at HB HG hlenO
  clear ha hb f ea eb pa pb l1 l2 l3 l4 i1 i2 o1 o2 hin hM hL0 hgc hrange hcq h3
  go_enter Try.func71, Try.ntmps71
  go_wp2_with fail
  refine HS.out.mono ?_
  rintro e w1 ⟨rfl, rfl⟩
  clear HS
  go_wp2_with fail
  refine HA.out.mono ?_
  rintro e w2 ⟨v, rfl, hm⟩
  obtain ⟨mo, mc, hv, hmr⟩ := C.irow_of hm.own
  subst hv
  have HB := Lib.hid (HB.out w2 hm.below)
  have Hm := Lib.hid hmr
  have HBm := Lib.hid hm.below
  clear hm hmr HA
  go_wp2_with fail
  refine HB.out.mono ?_
  rintro e w3 ⟨v, rfl, ho⟩
  have H0 : Hid (C.MixAt M O 0 w2 v w3) := ⟨by rw [C.mix_zero]; exact ho.own, ho.below⟩
  obtain ⟨xo, xc, hv, hor⟩ := C.irow_of ho.own
  subst hv
  have hgo : O.length = 0 ∨ ∃ g, xo = some ⟨g, 0, none⟩ := by
    obtain ⟨_, ⟨e', h0⟩ | ⟨g, cap, cur, e', _⟩⟩ := ho.own
    · exact .inl h0
    · simp only [Value.slice.injEq] at e'; exact .inr ⟨g, e'.1⟩
  clear ho hor HB
  go_wp2
  go_loopw [9] (fun i wr => ∃ k : Nat, k ≤ O.length ∧ i = .int .i64 k ∧ Hid (C.MixAt M O k w2 (.slice xo O.length xc) wr)) (fun i _ => O.length - (intOf i).toNat)
  case atStart => exact ⟨0, Nat.zero_le _, rfl, H0⟩
  case round =>
    clear H0
    obtain ⟨k, hk, rfl, hx⟩ := hrel
    by_cases hlt : k < O.length
    · obtain ⟨z, hz⟩ : ∃ z, O[k]? = some z := ⟨O[k], List.getElem?_eq_getElem hlt⟩
      obtain ⟨g, hg⟩ := hgo.resolve_left (by omega)
      subst hg
      have hu : (D.intsL (C.mix M O k))[k]? = some (.int .i64 z) := by unfold D.intsL; rw [List.getElem?_map, C.mix_at M O k z hz]; rfl
      obtain ⟨c0, f0, hbg⟩ := C.own_cell hx.out.own hu
      have hnx := Lib.hid (C.mix_next M O k z hz)
      have hzr := HG.out.2.1 z (List.mem_of_getElem? hz)
      by_cases hz0 : z < 0
      · have R : Hid (C.MixAt M O (k + 1) w2 (.slice (some ⟨g, 0, none⟩) O.length xc) wr) := by
          refine ⟨?_, hx.out.below⟩
          have e : D.pick M z = z := if_pos hz0
          rw [hnx.out, e]
          have e2 : (C.mix M O k).set k z = C.mix M O k := by
            refine List.ext_getElem? fun i => ?_
            rw [List.getElem?_set]
            split
            · rename_i h; subst h
              rw [C.mix_at M O k z hz, if_pos (by rw [C.mix_len]; exact hlt)]
            · rfl
          rw [e2]; exact hx.out.own
        have hq : decide (0 ≤ z) = false := by simp; omega
        clear hz hu hnx hzr hx
        go_wp2
        go_roundw
        case rel => exact ⟨k + 1, by omega, by go_num, R⟩
        case measure => simp [intOf]; omega
      · obtain ⟨i, rfl⟩ := Int.eq_ofNat_of_zero_le (show 0 ≤ z by omega)
        have him : i < M.length := by
          rcases hzr with h | h
          · omega
          · simpa using h
        obtain ⟨u, hu2⟩ : ∃ u, M[i]? = some u := ⟨M[i], List.getElem?_eq_getElem him⟩
        obtain ⟨mb, mo', e, hml, hmc⟩ := Hm.out i u hu2
        subst e
        have d0 := ((D.bcell hx.out.below).1 mb (mo' + i) hml).trans hmc
        have hpk : D.pick M (i : Int) = u := by rw [D.pick_nat, List.getD_eq_getElem?_getD, hu2]; rfl
        have R : Hid (C.MixAt M O (k + 1) w2 (.slice (some ⟨g, 0, none⟩) O.length xc) (wr.setCell ⟨g, k, none⟩ (.int .i64 u))) := by
          refine ⟨?_, hx.out.below.setCell (p := ⟨g, k, none⟩) hbg _⟩
          have := C.own_set hx.out.own k (.int .i64 u)
          rw [hnx.out, hpk]
          unfold D.intsL at this ⊢
          rw [List.map_set]; exact this
        clear hz hu hnx hzr hx hu2 hmc hpk
        go_wp2
        go_roundw
        case rel => exact ⟨k + 1, by omega, by go_num, R⟩
        case measure => simp [intOf]; omega
    · obtain rfl : k = O.length := by omega
      have hown := hx.out.own
      rw [C.mix_end] at hown
      have hll : (D.cmpA M O).length = O.length := by unfold D.cmpA; simp
      rw [← hll] at hown
      obtain ⟨zo, zc, hv, hzr⟩ := C.irow_of hown
      rw [hll] at hv
      cases hv
      have HO := Lib.hid (refOf_any N xo xc (D.cmpA M O) wr h1 (by omega) hzr HG.out.1)
      rw [hll] at HO
      have HBB := Lib.hid (HBm.out.trans (hx.out.below.mono HBm.out.size))
      clear hown hll hzr hx
      go_wp2_with fail
      refine HO.out.mono ?_
      rintro e w4 ⟨v, rfl, hm⟩
      have R : Hid (C.BothEnd x y w (.returned v) w4) := ⟨v, rfl, by rw [HG.out.2.2]; exact ⟨D.own_mono hm.own HBB.out.size, HBB.out.trans (hm.below.mono HBB.out.size)⟩⟩
      clear hm HO
      go_wp2
      go_ret
      exact R.out
end Go.Proofs.Ytmljagkndnobdaa
