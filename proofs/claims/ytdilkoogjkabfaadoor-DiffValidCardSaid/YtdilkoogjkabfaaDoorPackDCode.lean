/- Texts joined: DiffCosts DiffShort DiffPieces -/
import Derived.Test.YtdilkoogjkabfaaDoorPackDTab
import Derived.Deep.DeepCutAuto
import Derived.Deep.CutBlock
import Derived.IntWalk
import Derived.RegionTactic
import Derived.ChangeAlike
import Derived.BigRegion
import Derived.Test.YtdilkoogjkabfaaDoorApplyDel
/- DiffCosts -/
namespace Go.Proofs.YtdilkoogjkabfaaDoor
open Go.RowKit

/-- What the table holds at a place, once it was visited. -/
def F.Good (x y : List (List UInt8)) (r c : Nat) (G : Nat → Int) (i j : Nat) : Prop :=
  G (F.ix r c 0 i j) = F.bV x y i j ∧ (¬ (i = x.length ∧ j = y.length) → G (F.ix r c 1 i j) = F.kV x y i j ∧ G (F.ix r c 2 i j) = F.iV x y i j)
/-- The rows from i on, and of row i - 1 what is from j on. -/
def F.Vis (x y : List (List UInt8)) (G : Nat → Int) (i j : Nat) : Prop :=
  G (F.ix (x.length + 1) (y.length + 1) 0 x.length y.length) = 0 ∧ (∀ i' j', i ≤ i' → i' ≤ x.length → j' ≤ y.length → F.Good x y (x.length + 1) (y.length + 1) G i' j') ∧ (∀ i' j', i' + 1 = i → j ≤ j' → j' ≤ y.length → F.Good x y (x.length + 1) (y.length + 1) G i' j')
theorem F.Vis.any {x y : List (List UInt8)} {G : Nat → Int} {j : Nat} (h : F.Vis x y G 0 j) : F.Vis x y G 0 0 := ⟨h.1, h.2.1, fun _ _ h1 _ _ => by omega⟩
theorem F.vis_zero (x y : List (List UInt8)) : F.Vis x y (fun _ => 0) (x.length + 1) (y.length + 1) := ⟨rfl, fun _ _ h1 h2 _ => by omega, fun _ _ _ h1 h2 => by omega⟩
theorem F.Vis.row {x y : List (List UInt8)} {G : Nat → Int} {i : Nat} (h : F.Vis x y G (i + 1) 0) : F.Vis x y G i (y.length + 1) :=
  ⟨h.1, fun i' j' h1 h2 h3 => by
    rcases Nat.lt_or_ge i i' with c | c
    · exact h.2.1 i' j' c h2 h3
    · exact h.2.2 i' j' (by omega) (Nat.zero_le _) h3, fun _ _ _ h1 h2 => by omega⟩
theorem F.Vis.end_ {x y : List (List UInt8)} {G : Nat → Int} {i j : Nat} (h : F.Vis x y G (i + 1) (j + 1)) (hi : i = x.length) (hj : j = y.length) : F.Vis x y G (i + 1) j :=
  ⟨h.1, h.2.1, fun i' j' h1 h2 h3 => by
    rcases Nat.lt_or_ge j j' with c | c
    · exact h.2.2 i' j' h1 c h3
    · obtain rfl : j' = j := by omega
      obtain rfl : i' = i := by omega
      refine ⟨?_, fun c => absurd ⟨hi, hj⟩ c⟩
      rw [hi, hj, h.1]; unfold F.bV; rw [F.bat_end]; rfl⟩
/-- One place more. -/
theorem F.Vis.put {x y : List (List UInt8)} {G G' : Nat → Int} {i j : Nat} (h : F.Vis x y G (i + 1) (j + 1)) (hi : i ≤ x.length) (hj : j ≤ y.length) (hn : ¬ (i = x.length ∧ j = y.length))
    (h0 : G' (F.ix (x.length + 1) (y.length + 1) 0 i j) = F.bV x y i j) (h1 : G' (F.ix (x.length + 1) (y.length + 1) 1 i j) = F.kV x y i j) (h2 : G' (F.ix (x.length + 1) (y.length + 1) 2 i j) = F.iV x y i j)
    (ho : ∀ k i' j', i' ≤ x.length → j' ≤ y.length → ¬ (i' = i ∧ j' = j) → G' (F.ix (x.length + 1) (y.length + 1) k i' j') = G (F.ix (x.length + 1) (y.length + 1) k i' j')) : F.Vis x y G' (i + 1) j := by
  have good : ∀ i' j', i' ≤ x.length → j' ≤ y.length → ¬ (i' = i ∧ j' = j) → F.Good x y (x.length + 1) (y.length + 1) G i' j' → F.Good x y (x.length + 1) (y.length + 1) G' i' j' := fun i' j' a b c g => by
    unfold F.Good
    rw [ho 0 i' j' a b c, ho 1 i' j' a b c, ho 2 i' j' a b c]; exact g
  refine ⟨?_, fun i' j' a b c => good i' j' b c (by omega) (h.2.1 i' j' a b c), fun i' j' a b c => ?_⟩
  · rw [ho 0 _ _ (Nat.le_refl _) (Nat.le_refl _) (fun e => hn ⟨e.1.symm, e.2.symm⟩)]; exact h.1
  · obtain rfl : i' = i := by omega
    rcases Nat.lt_or_ge j j' with d | d
    · exact good i' j' hi c (by omega) (h.2.2 i' j' a d c)
    · obtain rfl : j' = j := by omega
      exact ⟨h0, fun _ => ⟨h1, h2⟩⟩
/-- What costs answers. -/
def F.CostEnd (x y : List (List UInt8)) (w : World) (e : Ending) (w' : World) : Prop :=
  ∃ G g2 g1 b cap, e = .returned (.slice (some ⟨g2, 0, none⟩) 4 cap) ∧ F.Tbl (x.length + 1) (y.length + 1) G g2 g1 b w' ∧ F.Vis x y G 0 0 ∧ Below w.heap.size w w'
/-- A store into the table. -/
theorem F.Tbl.set {r c : Nat} {G : Nat → Int} {g2 g1 b : Nat} {W : World} (h : F.Tbl r c G g2 g1 b W) (t : Nat) (v : Int) (ht : t < 4 * r * c) : F.Tbl r c (fun u => if u = t then v else G u) g2 g1 b (W.setCell ⟨b, t, none⟩ (.int .i64 v)) := by
  have other : ∀ g o, g ≠ b → (W.setCell ⟨b, t, none⟩ (.int .i64 v)).cell? ⟨g, o, none⟩ = W.cell? ⟨g, o, none⟩ := fun g o hg => World.cell?_of_block (w := W) (a := ⟨g, o, none⟩) (Below.heap_setCell _ _ _ g hg)
  have hz : (W.setCell ⟨b, t, none⟩ (.int .i64 v)).heap.size = W.heap.size := by simp
  refine ⟨fun k hk => (other g2 k h.ne2.symm).trans (h.top k hk), fun i hi => (other g1 i h.ne1.symm).trans (h.mid i hi), fun j hj => ?_, fun j => ?_, h.ne1, h.ne2, by rw [hz]; exact h.l0, by rw [hz]; exact h.l1, by rw [hz]; exact h.l2⟩
  · by_cases e : j = t
    · subst e
      rw [if_pos rfl]
      exact World.cell?_setCell_same _ _ _ (h.cells j hj)
    · rw [if_neg e]
      exact (World.cell?_setCell_other _ ⟨b, t, none⟩ ⟨b, j, none⟩ _ (by simp only [ne_eq, Addr.mk.injEq, not_and]; intro _ c; exact absurd c (by omega))).trans (h.cells j hj)
  · exact (World.frozen?_setCell _ _ _ _).trans (h.free j)
set_option maxHeartbeats 400000 in
theorem size_any (s : ByteArray) (w : World) : Calls Tryd.prog 31 #[.string s] w fun e w' => e = .returned (.int .i64 (s.size : Int)) ∧ w = w' := by
  go_enter Tryd.func31, Tryd.ntmps31
  go_wp2
  go_ret
  exact ⟨rfl, rfl⟩
/-- A string of a row. -/
theorem V.Row.str {W W' : World} {ao : Option Addr} {x : List (List UInt8)} (h : V.Row W ao (x.map V.str)) (hb : Below W.heap.size W W') {i : Nat} {a : List UInt8} (ha : x[i]? = some a) : ∃ b o, ao = some ⟨b, o, none⟩ ∧ b < W.heap.size ∧ W'.cell? ⟨b, o + i, none⟩ = some (.string ⟨a.toArray⟩) := by
  obtain ⟨b, o, e, hl, hc⟩ := h i (V.str a) (by rw [List.getElem?_map, ha]; rfl)
  exact ⟨b, o, e, hl, (hb.cell (p := ⟨b, o + i, none⟩) hl).trans hc⟩
theorem F.drawn {w W : World} {B n : Nat} (h : Below B w W) : Below B w (W.drewN n) := below_drewN h n
set_option maxRecDepth 100000 in
set_option maxHeartbeats 16000000 in
theorem costs_any (x y : List (List UInt8)) (ao bo : Option Addr) (ca cb : Nat) (w : World) (hx : x.length ≤ 1024) (hy : y.length ≤ 1024) (sx : F.sumW List.length x ≤ 1048576) (sy : F.sumW List.length y ≤ 1048576)
    (ra : V.Row w ao (x.map V.str)) (rb : V.Row w bo (y.map V.str)) :
    Calls Tryd.prog 40 #[.slice ao x.length ca, .slice bo y.length cb, .func (.func 31) #[] #[]] w (F.CostEnd x y w) := by
  obtain ⟨n, hn⟩ : ∃ n, Hid (x.length = n) := ⟨_, rfl⟩
  obtain ⟨m, hm⟩ : ∃ m, Hid (y.length = m) := ⟨_, rfl⟩
  have HE : Hid (∀ e w', (∃ G g2 g1 b cap, e = .returned (.slice (some ⟨g2, 0, none⟩) 4 cap) ∧ F.Tbl (n + 1) (m + 1) G g2 g1 b w' ∧ F.Vis x y G 0 0 ∧ Below w.heap.size w w') → F.CostEnd x y w e w') := fun e w' h => by
    unfold F.CostEnd; rw [hn.out, hm.out]; exact h
  rw [hn.out] at hx ⊢
  rw [hm.out] at hy ⊢
  have RA := Lib.hid ra
  have RB := Lib.hid rb
  have SX := Lib.hid sx
  have SY := Lib.hid sy
  clear ra rb sx sy
  have HT : Hid (∀ W, Calls Tryd.prog 45 #[.int .i64 ((n + 1 : Nat) : Int), .int .i64 ((m + 1 : Nat) : Int)] W (F.NewEnd (n + 1) (m + 1) W)) := fun W => newTable_any (n + 1) (m + 1) W (by omega) (by omega) (by omega) (by omega)
  obtain ⟨r, hr⟩ : ∃ r, Hid (n + 1 = r) := ⟨_, rfl⟩
  obtain ⟨c, hc⟩ : ∃ c, Hid (m + 1 = c) := ⟨_, rfl⟩
  have hr1 : (n : Int) + 1 = (r : Int) := by have := hr.out; omega
  have hc1 : (m : Int) + 1 = (c : Int) := by have := hc.out; omega
  rw [hr.out, hc.out] at HT HE
  refine Calls.mono ?_ HE.out
  clear HE
  go_enter Tryd.func40, Tryd.ntmps40
  go_wp2_with fail
  refine (HT.out _).mono ?_
  rintro e w1 ⟨g2, g1, b, cap, rfl, hT, hB, hb⟩
  have hb0 := Lib.hid hb
  clear hb
  have V0 : Hid (F.Vis x y (fun _ => 0) r c) := by
    have := F.vis_zero x y
    rw [hn.out, hm.out, hr.out, hc.out] at this
    exact this
  have T0 := Lib.hid hT
  have B0 := Lib.hid hB
  clear hT hB HT hr1 hc1
  go_wp2
  go_loopw [8] (fun v wr => ∃ (i1 : Nat) (z : Int) (G : Nat → Int), i1 ≤ n + 1 ∧ v = .int .i64 z ∧ Hid (z = (i1 : Int) - 1) ∧ -1 ≤ z ∧ z ≤ 1024 ∧ Hid (F.Tbl r c G g2 g1 b wr) ∧ Hid (F.Vis x y G i1 c) ∧ Hid (Below w.heap.size w wr)) (fun v _ => (intOf v + 1).toNat)
  case atStart => exact ⟨r, (n : Int), fun _ => 0, by have := hr.out; omega, rfl, by show _ = _; have := hr.out; omega, by omega, by omega, T0, V0, B0⟩
  case round =>
    obtain ⟨i1, z, G, hi1, rfl, hz, hz0, hz1, hT, hV, hB⟩ := hrel
    obtain ⟨wo, rfl⟩ : ∃ wo : World, wo = wr := ⟨_, rfl⟩
    clear T0 B0 V0
    cases i1 with
    | zero =>
      obtain rfl : z = -1 := by have := hz.out; omega
      have R : Hid (∃ G' g2' g1' b' cap', Ending.returned (.slice (some ⟨g2, 0, none⟩) 4 cap) = .returned (.slice (some ⟨g2', 0, none⟩) 4 cap') ∧ F.Tbl r c G' g2' g1' b' wo ∧ F.Vis x y G' 0 0 ∧ Below w.heap.size w wo) := ⟨G, g2, g1, b, cap, rfl, hT.out, hV.out.any, hB.out⟩
      go_wp2
      go_ret
      exact R.out
    | succ i =>
      obtain rfl : z = (i : Int) := by have := hz.out; omega
      have hin : i ≤ n := by omega
      go_wp2
      go_loopw [9] (fun v wr => ∃ (j1 : Nat) (z2 : Int) (G : Nat → Int), j1 ≤ m + 1 ∧ v = .int .i64 z2 ∧ Hid (z2 = (j1 : Int) - 1) ∧ -1 ≤ z2 ∧ z2 ≤ 1024 ∧ Hid (F.Tbl r c G g2 g1 b wr) ∧ Hid (F.Vis x y G (i + 1) j1) ∧ Hid (Below w.heap.size w wr)) (fun v _ => (intOf v + 1).toNat)
      case atStart => exact ⟨c, (m : Int), G, by have := hc.out; omega, rfl, by show _ = _; have := hc.out; omega, by omega, by omega, hT, hV, hB⟩
      case round =>
        obtain ⟨j1, z2, G, hj1, rfl, hz2, hz20, hz21, hT, hV, hB⟩ := hrel
        cases j1 with
        | zero =>
          obtain rfl : z2 = -1 := by have := hz2.out; omega
          have V1 : Hid (F.Vis x y G i c) := by
            have := hV.out.row
            rw [hm.out, hc.out] at this
            exact this
          go_wp2
          go_roundw
          case rel => exact ⟨i, (i : Int) - 1, G, by omega, rfl, rfl, by omega, by omega, hT, V1, hB⟩
          case measure => simp [intOf]
        | succ j =>
          obtain rfl : z2 = (j : Int) := by have := hz2.out; omega
          have hjm : j ≤ m := by omega
          clear hz20 hz21 hz2 hz0 hz1 hz
          by_cases he : i = n ∧ j = m
          · obtain ⟨rfl, rfl⟩ := he
            have V1 := Lib.hid (hV.out.end_ hn.out.symm hm.out.symm)
            go_wp2
            go_roundw
            case rel => exact ⟨j, (j : Int) - 1, G, by omega, rfl, rfl, by omega, by omega, hT, V1, hB⟩
            case measure => simp [intOf]
          · obtain ⟨kb, hkb⟩ : ∃ kb : Bool, Hid (kb = decide (i < n ∧ j < m ∧ x[i]? = y[j]?)) := ⟨_, rfl⟩
            obtain ⟨W0, rfl⟩ : ∃ W0 : World, W0 = wr := ⟨_, rfl⟩
            go_upto_region 8 with (fail)
            go_cut [41] (fun v wx => v = .bool false ∧ Hid (wx = W0))
            case first =>
              by_cases hi : i = n
              · subst hi
                have hq : ((j : Int) == (m : Int)) = false := by simp; omega
                go_wp2
                go_meet
                case rel => exact ⟨rfl, rfl⟩
              · have hq : ((i : Int) == (n : Int)) = false := by simp; omega
                go_wp2
                go_meet
                case rel => exact ⟨rfl, rfl⟩
            case rest =>
            obtain ⟨rfl, hw⟩ := hcut
            obtain rfl := hw.out
            clear hw
            obtain ⟨W0, rfl⟩ : ∃ W0 : World, W0 = wc := ⟨_, rfl⟩
            go_upto_region 10 with (fail)
            go_cut [62] (fun v wx => v = .bool kb ∧ Hid (Below W0.heap.size W0 wx))
            case first =>
              by_cases hi : i < n
              · have qi : decide (i < n) = true := by simpa using hi
                by_cases hj : j < m
                · have qj : decide (j < m) = true := by simpa using hj
                  obtain ⟨a, ha⟩ : ∃ a, x[i]? = some a := ⟨_, List.getElem?_eq_getElem (by rw [hn.out]; exact hi)⟩
                  obtain ⟨d, hd⟩ : ∃ d, y[j]? = some d := ⟨_, List.getElem?_eq_getElem (by rw [hm.out]; exact hj)⟩
                  obtain ⟨b1, o1, rfl, _, f1⟩ := RA.out.str hB.out ha
                  obtain ⟨b2, o2, rfl, _, f2⟩ := RB.out.str hB.out hd
                  have K : Hid (kb = decide (a = d)) := by
                    show _ = _
                    rw [hkb.out, ha, hd, decide_eq_decide]
                    simp [hi, hj]
                  have ha := Lib.hid ha
                  have hd := Lib.hid hd
                  go_quiet (fail)
                  go_wp2
                  go_meet
                  case rel => exact ⟨by rw [K.out]; congr 1; rw [Bool.eq_iff_iff]; simp, below_drewN (Below.refl _ _) _⟩
                · have qj : decide (j < m) = false := by simpa using hj
                  have K : Hid (kb = false) := by
                    show _ = _
                    rw [hkb.out, decide_eq_false_iff_not]; exact fun e => hj e.2.1
                  go_quiet (fail)
                  go_wp2
                  go_meet
                  case rel => exact ⟨by rw [K.out], below_drewN (Below.refl _ _) _⟩
              · have qi : decide (i < n) = false := by simpa using hi
                have K : Hid (kb = false) := by
                  show _ = _
                  rw [hkb.out, decide_eq_false_iff_not]; exact fun e => hi e.1
                go_quiet (fail)
                go_wp2
                go_meet
                case rel => exact ⟨by rw [K.out], below_drewN (Below.refl _ _) _⟩
            case rest =>
            obtain ⟨rfl, hw⟩ := hcut
            have T1 := Lib.hid (hT.out.below hw.out)
            have B1 := Lib.hid (hB.out.trans (hw.out.mono hB.out.size))
            clear hT hB hw
            obtain ⟨W1, rfl⟩ : ∃ W1 : World, W1 = wc := ⟨_, rfl⟩
            have GG : Hid (∀ i' j', i' ≤ n → j' ≤ m → (i < i' ∨ (i' = i ∧ j < j')) → G (F.ix r c 0 i' j') = F.bV x y i' j') := fun i' j' h1 h2 h3 => by
              have h := hV.out
              unfold F.Vis F.Good at h
              rw [hn.out, hm.out, hr.out, hc.out] at h
              rcases h3 with h3 | ⟨h3, h4⟩
              · exact (h.2.1 i' j' h3 h1 h2).1
              · exact (h.2.2 i' j' (by omega) h4 h2).1
            go_upto_if 62 with (fail)
            go_cut [10] (fun v wx => v = .int .i64 (F.kV x y i j) ∧ Hid (wx = W1))
            case first =>
              cases kb with
              | true =>
                have h := hkb.out.symm
                rw [decide_eq_true_eq] at h
                obtain ⟨h1, h2, h3⟩ := h
                obtain ⟨p, q, t1, t2, t3, e1⟩ := T1.out.at (show 0 < 4 by omega) (show i + 1 < r by have := hr.out; omega) (show j + 1 < c by have := hc.out; omega)
                have K : Hid (F.kV x y i j = G (F.ix r c 0 (i + 1) (j + 1))) := by
                  show _ = _
                  rw [GG.out (i + 1) (j + 1) h1 h2 (.inl (by omega))]
                  unfold F.kV F.bV
                  rw [hn.out, hm.out, if_pos ⟨h1, h2, h3⟩]
                generalize G (F.ix r c 0 (i + 1) (j + 1)) = u at t3 K
                have l1 : i + 1 < r := by have := hr.out; omega
                have l2 : j + 1 < c := by have := hc.out; omega
                have l3 : (i : Int) + 1 < (r : Int) := by omega
                have l4 : (j : Int) + 1 < (c : Int) := by omega
                clear e1 h3
                go_wp2
                go_meet
                case rel => exact ⟨by rw [K.out], rfl⟩
              | false =>
                have K : Hid (F.kV x y i j = 9223372036854775807) := by
                  have h := hkb.out.symm
                  rw [decide_eq_false_iff_not] at h
                  show _ = _
                  unfold F.kV
                  rw [hn.out, hm.out, if_neg h]; rfl
                go_wp2
                go_meet
                case rel => exact ⟨by rw [K.out], rfl⟩
            case rest =>
            obtain ⟨rfl, hw⟩ := hcut
            obtain rfl := hw.out
            clear hw hkb
            obtain ⟨W1, rfl⟩ : ∃ W1 : World, W1 = wc := ⟨_, rfl⟩
            obtain ⟨kv, hkv⟩ : ∃ kv, Hid (F.kV x y i j = kv) := ⟨_, rfl⟩
            rw [hkv.out]
            go_upto_if 77 with (fail)
            go_cut [11] (fun v wx => v = .int .i64 (F.iV x y i j) ∧ Hid (Below W1.heap.size W1 wx))
            case first =>
              by_cases hj : j < m
              · have qj : decide (j < m) = true := by simpa using hj
                obtain ⟨d, hd⟩ : ∃ d, y[j]? = some d := ⟨_, List.getElem?_eq_getElem (by rw [hm.out]; exact hj)⟩
                obtain ⟨b2, o2, rfl, _, f2⟩ := RB.out.str B1.out hd
                obtain ⟨p, q, t1, t2, t3, e1⟩ := T1.out.at (show 0 < 4 by omega) (show i < r by have := hr.out; omega) (show j + 1 < c by have := hc.out; omega)
                have K : Hid (F.iV x y i j = (d.length : Int) + G (F.ix r c 0 i (j + 1))) := by
                  show _ = _
                  rw [GG.out i (j + 1) hin hj (.inr ⟨rfl, by omega⟩)]
                  unfold F.iV F.bV
                  rw [hd]
                  simp only
                  omega
                have ub : 0 ≤ G (F.ix r c 0 i (j + 1)) ∧ G (F.ix r c 0 i (j + 1)) ≤ 2097152 := by
                  rw [GG.out i (j + 1) hin hj (.inr ⟨rfl, by omega⟩)]; exact F.bV_bd SX.out SY.out _ _
                have db := F.sum_at hd
                have db2 := SY.out
                generalize G (F.ix r c 0 i (j + 1)) = u at t3 K ub
                obtain ⟨s, hs⟩ : ∃ s : ByteArray, s = ⟨d.toArray⟩ := ⟨_, rfl⟩
                have hsz : s.size = d.length := by rw [hs]; exact D.size_l d
                rw [← hs] at f2
                obtain ⟨v, hv⟩ : ∃ v : Int, (s.size : Int) + u = v := ⟨_, rfl⟩
                have K2 : Hid (F.iV x y i j = v) := by show _ = _; rw [K.out, ← hsz, hv]
                have wr1 : IntKind.i64.wrap ((s.size : Int) + u) = v := by rw [hv]; exact IntWalk.i64_in _ (by omega)
                have wr2 : IntKind.i64.wrap ((j : Int) + 1) = (j : Int) + 1 := IntWalk.i64_in _ (by omega)
                have l1 : i < r := by have := hr.out; omega
                have l2 : j + 1 < c := by have := hc.out; omega
                have l3 : (i : Int) < (r : Int) := by omega
                have l4 : (j : Int) + 1 < (c : Int) := by omega
                have l5 : ((j : Int) + 1).toNat = j + 1 := by omega
                clear e1 hd hv hs K db db2 hsz
                go_wp2
                go_quiet ((go_at_call 31; exact Calls.quiet_of_same ((size_any _ _).mono fun _ _ h => ⟨h.1, h.2.symm⟩)))
                go_wp2
                go_meet
                case rel => exact ⟨by rw [K2.out], below_drewN (Below.refl _ _) _⟩
              · have qj : decide (j < m) = false := by simpa using hj
                have K : Hid (F.iV x y i j = 9223372036854775807) := by
                  show _ = _
                  unfold F.iV
                  rw [List.getElem?_eq_none (by rw [hm.out]; omega)]; rfl
                go_wp2
                go_meet
                case rel => exact ⟨by rw [K.out], Below.refl _ _⟩
            case rest =>
            obtain ⟨rfl, hw⟩ := hcut
            have T2 := Lib.hid (T1.out.below hw.out)
            have B2 := Lib.hid (B1.out.trans (hw.out.mono B1.out.size))
            clear T1 B1 hw
            obtain ⟨W2, rfl⟩ : ∃ W2 : World, W2 = wc := ⟨_, rfl⟩
            obtain ⟨iv, hiv⟩ : ∃ iv, Hid (F.iV x y i j = iv) := ⟨_, rfl⟩
            rw [hiv.out]
            go_upto_if 98 with (fail)
            go_cut [12] (fun v wx => v = .int .i64 (F.dV x y i j) ∧ Hid (Below W2.heap.size W2 wx))
            case first =>
              by_cases hj : i < n
              · have qj : decide (i < n) = true := by simpa using hj
                obtain ⟨d, hd⟩ : ∃ d, x[i]? = some d := ⟨_, List.getElem?_eq_getElem (by rw [hn.out]; exact hj)⟩
                obtain ⟨b2, o2, rfl, _, f2⟩ := RA.out.str B2.out hd
                obtain ⟨p, q, t1, t2, t3, e1⟩ := T2.out.at (show 0 < 4 by omega) (show i + 1 < r by have := hr.out; omega) (show j < c by have := hc.out; omega)
                have K : Hid (F.dV x y i j = (d.length : Int) + G (F.ix r c 0 (i + 1) j)) := by
                  show _ = _
                  rw [GG.out (i + 1) j hj hjm (.inl (by omega))]
                  unfold F.dV F.bV
                  rw [hd]
                  simp only
                  omega
                have ub : 0 ≤ G (F.ix r c 0 (i + 1) j) ∧ G (F.ix r c 0 (i + 1) j) ≤ 2097152 := by
                  rw [GG.out (i + 1) j hj hjm (.inl (by omega))]; exact F.bV_bd SX.out SY.out _ _
                have db := F.sum_at hd
                have db2 := SX.out
                generalize G (F.ix r c 0 (i + 1) j) = u at t3 K ub
                obtain ⟨s, hs⟩ : ∃ s : ByteArray, s = ⟨d.toArray⟩ := ⟨_, rfl⟩
                have hsz : s.size = d.length := by rw [hs]; exact D.size_l d
                rw [← hs] at f2
                obtain ⟨v, hv⟩ : ∃ v : Int, (s.size : Int) + u = v := ⟨_, rfl⟩
                have K2 : Hid (F.dV x y i j = v) := by show _ = _; rw [K.out, ← hsz, hv]
                have wr1 : IntKind.i64.wrap ((s.size : Int) + u) = v := by rw [hv]; exact IntWalk.i64_in _ (by omega)
                have wr2 : IntKind.i64.wrap ((i : Int) + 1) = (i : Int) + 1 := IntWalk.i64_in _ (by omega)
                have l1 : i + 1 < r := by have := hr.out; omega
                have l2 : j < c := by have := hc.out; omega
                have l3 : (i : Int) + 1 < (r : Int) := by omega
                have l4 : (j : Int) < (c : Int) := by omega
                have l5 : ((i : Int) + 1).toNat = i + 1 := by omega
                clear e1 hd hv hs K db db2 hsz
                go_wp2
                go_quiet ((go_at_call 31; exact Calls.quiet_of_same ((size_any _ _).mono fun _ _ h => ⟨h.1, h.2.symm⟩)))
                go_wp2
                go_meet
                case rel => exact ⟨by rw [K2.out], below_drewN (Below.refl _ _) _⟩
              · have qj : decide (i < n) = false := by simpa using hj
                have K : Hid (F.dV x y i j = 9223372036854775807) := by
                  show _ = _
                  unfold F.dV
                  rw [List.getElem?_eq_none (by rw [hn.out]; omega)]; rfl
                go_wp2
                go_meet
                case rel => exact ⟨by rw [K.out], Below.refl _ _⟩
            case rest =>
            obtain ⟨rfl, hw⟩ := hcut
            have T3 := Lib.hid (T2.out.below hw.out)
            have B3 := Lib.hid (B2.out.trans (hw.out.mono B2.out.size))
            clear T2 B2 hw GG
            obtain ⟨W3, rfl⟩ : ∃ W3 : World, W3 = wc := ⟨_, rfl⟩
            have st : F.bV x y i j = min (min kv iv) (F.dV x y i j) := by
              have := F.step_least SX.out SY.out (i := i) (j := j) (by rw [hn.out]; exact hin) (by rw [hm.out]; exact hjm) (by rw [hn.out, hm.out]; exact he)
              rwa [hkv.out, hiv.out] at this
            obtain ⟨dv, hdv⟩ : ∃ dv, Hid (F.dV x y i j = dv) := ⟨_, rfl⟩
            obtain ⟨bv, hbv⟩ : ∃ bv, Hid (F.bV x y i j = bv) := ⟨_, rfl⟩
            rw [hdv.out, hbv.out] at st
            have ST := Lib.hid st
            clear st
            rw [hdv.out]
            have l1 : i < r := by have := hr.out; omega
            have l2 : j < c := by have := hc.out; omega
            have l3 : (i : Int) < (r : Int) := by omega
            have l4 : (j : Int) < (c : Int) := by omega
            have hb1 := Lib.hid (show w.heap.size ≤ b from hb0.out)
            go_upto_region 16 with (fail)
            go_cut [116] (fun _ wx => Hid (Below w.heap.size w wx) ∧ Hid (F.Tbl r c (fun u => if u = F.ix r c 3 i j then dv else if u = F.ix r c 2 i j then iv else if u = F.ix r c 1 i j then kv else G u) g2 g1 b wx))
            case first =>
              obtain ⟨p1, q1, t10, t11, t12, e1⟩ := T3.out.at (show 1 < 4 by omega) l1 l2
              obtain ⟨p2, q2, t20, t21, t22, e2⟩ := T3.out.at (show 2 < 4 by omega) l1 l2
              obtain ⟨p3, q3, t30, t31, t32, e3⟩ := T3.out.at (show 3 < 4 by omega) l1 l2
              have E : Hid ((q1 + j = F.ix r c 1 i j ∧ q2 + j = F.ix r c 2 i j ∧ q3 + j = F.ix r c 3 i j) ∧ F.ix r c 1 i j < 4 * r * c ∧ F.ix r c 2 i j < 4 * r * c ∧ F.ix r c 3 i j < 4 * r * c) := ⟨⟨e1, e2, e3⟩, F.ix_lt (by omega) l1 l2, F.ix_lt (by omega) l1 l2, F.ix_lt (by omega) l1 l2⟩
              have n12 : ¬ q1 = q2 := fun h => by
                have := (F.ix_inj (k := 1) (k' := 2) l1 l2 l1 l2 (by rw [← e1, ← e2, h])).1
                omega
              have n13 : ¬ q1 = q3 := fun h => by
                have := (F.ix_inj (k := 1) (k' := 3) l1 l2 l1 l2 (by rw [← e1, ← e3, h])).1
                omega
              have n23 : ¬ q2 = q3 := fun h => by
                have := (F.ix_inj (k := 2) (k' := 3) l1 l2 l1 l2 (by rw [← e2, ← e3, h])).1
                omega
              have n21 : ¬ q2 = q1 := fun h => n12 h.symm
              have n31 : ¬ q3 = q1 := fun h => n13 h.symm
              have n32 : ¬ q3 = q2 := fun h => n23 h.symm
              have f1 := T3.out.free (q1 + j)
              have f2 := T3.out.free (q2 + j)
              have f3 := T3.out.free (q3 + j)
              have m1 : ¬ g1 = b := T3.out.ne1.symm
              have m2 : ¬ g2 = b := T3.out.ne2.symm
              generalize G (F.ix r c 1 i j) = x1 at t12
              generalize G (F.ix r c 2 i j) = x2 at t22
              generalize G (F.ix r c 3 i j) = x3 at t32
              have R : Hid (∀ V, V = ((W3.setCell ⟨b, q1 + j, none⟩ (.int .i64 kv)).setCell ⟨b, q2 + j, none⟩ (.int .i64 iv)).setCell ⟨b, q3 + j, none⟩ (.int .i64 dv) → Below w.heap.size w V ∧ F.Tbl r c (fun u => if u = F.ix r c 3 i j then dv else if u = F.ix r c 2 i j then iv else if u = F.ix r c 1 i j then kv else G u) g2 g1 b V) := fun V hV => by
                subst hV
                refine ⟨((B3.out.setCell (p := ⟨b, _, none⟩) hb1.out _).setCell (p := ⟨b, _, none⟩) hb1.out _).setCell (p := ⟨b, _, none⟩) hb1.out _, ?_⟩
                have := ((T3.out.set _ kv E.out.2.1).set _ iv E.out.2.2.1).set _ dv E.out.2.2.2
                rw [E.out.1.1, E.out.1.2.1, E.out.1.2.2]
                exact this
              clear e1 e2 e3 
              go_region
              all_goals
                go_wp2
                go_meet
                case rel => exact ⟨(R.out _ rfl).1.drew, (R.out _ rfl).2.below (Below.refl _ _).drew⟩
            case rest =>
            obtain ⟨hB4, hT4⟩ := hcut
            obtain ⟨W4, rfl⟩ : ∃ W4 : World, W4 = wc := ⟨_, rfl⟩
            clear T3 B3
            have VV : Hid (∀ bv', bv' = bv → F.Vis x y (fun u => if u = F.ix r c 0 i j then bv' else if u = F.ix r c 3 i j then dv else if u = F.ix r c 2 i j then iv else if u = F.ix r c 1 i j then kv else G u) (i + 1) j) := fun bv' hb' => by
              have hi : i ≤ x.length := by rw [hn.out]; exact hin
              have hj : j ≤ y.length := by rw [hm.out]; exact hjm
              have ne : ∀ k k', ¬ k = k' → ¬ F.ix r c k i j = F.ix r c k' i j := fun k k' h e => h (F.ix_inj l1 l2 l1 l2 e).1
              refine hV.out.put hi hj (by rw [hn.out, hm.out]; exact he) ?_ ?_ ?_ ?_
              · rw [hn.out, hm.out, hr.out, hc.out, if_pos rfl, hb', hbv.out]
              · rw [hn.out, hm.out, hr.out, hc.out, if_neg (ne _ _ (by decide)), if_neg (ne _ _ (by decide)), if_neg (ne _ _ (by decide)), if_pos rfl, hkv.out]
              · rw [hn.out, hm.out, hr.out, hc.out, if_neg (ne _ _ (by decide)), if_neg (ne _ _ (by decide)), if_pos rfl, hiv.out]
              · intro k i' j' h1 h2 h3
                rw [hn.out, hm.out, hr.out, hc.out]
                rw [hn.out] at h1
                rw [hm.out] at h2
                have hr' := hr.out
                have hc' := hc.out
                have ne2 : ∀ k', ¬ F.ix r c k i' j' = F.ix r c k' i j := fun k' e => h3 (F.ix_inj (by omega) (by omega) l1 l2 e).2
                rw [if_neg (ne2 _), if_neg (ne2 _), if_neg (ne2 _), if_neg (ne2 _)]
            obtain ⟨p1, q1, t10, t11, t12, e1⟩ := hT4.out.at (show 0 < 4 by omega) l1 l2
            have f1 := hT4.out.free (q1 + j)
            have R : Hid (∀ v, v = bv → ∃ G', Hid (F.Tbl r c G' g2 g1 b (W4.setCell ⟨b, q1 + j, none⟩ (.int .i64 v))) ∧ Hid (F.Vis x y G' (i + 1) j) ∧ Hid (Below w.heap.size w (W4.setCell ⟨b, q1 + j, none⟩ (.int .i64 v)))) := fun v hv => by
              refine ⟨_, ?_, VV.out v hv, hB4.out.setCell (p := ⟨b, _, none⟩) hb1.out _⟩
              have := hT4.out.set (F.ix r c 0 i j) v (F.ix_lt (by omega) l1 l2)
              rw [e1]; exact this
            generalize (if F.ix r c 0 i j = F.ix r c 3 i j then dv else if F.ix r c 0 i j = F.ix r c 2 i j then iv else if F.ix r c 0 i j = F.ix r c 1 i j then kv else G (F.ix r c 0 i j)) = xx at t12
            clear e1 VV hT4 hB4
            obtain ⟨G', r1, r2, r3⟩ := R.out (if dv < (if iv < kv then iv else kv) then dv else if iv < kv then iv else kv) (by rw [ST.out]; (repeat' split) <;> omega)
            clear R
            go_wp2
            go_roundw
            case rel => exact ⟨j, (j : Int) - 1, G', by omega, rfl, rfl, by omega, by omega, r1, r2, r3⟩
            case measure => simp [intOf]
end Go.Proofs.YtdilkoogjkabfaaDoor
/- DiffShort -/
namespace Go.Proofs.YtdilkoogjkabfaaDoor
open Go.RowKit

def F.kdV (o : F.Op) : Value := .int .u8 (F.opK o : Nat)
/-- What shortest answers. -/
def F.ShEnd (x y : List (List UInt8)) (w : World) (e : Ending) (w' : World) : Prop :=
  ∃ ao c, e = .returned (.slice ao (F.pk x y).length c) ∧ V.Row w' ao ((F.pk x y).map F.kdV) ∧ Below w.heap.size w w'
theorem F.fs3_fst {x y : List (List UInt8)} {G : Nat → Int} {i j : Nat} (hV : F.Vis x y G 0 0) (hi : i ≤ x.length) (hj : j ≤ y.length) (hn : ¬ (i = x.length ∧ j = y.length)) :
    F.fs3 (G (F.ix (x.length + 1) (y.length + 1) 0 i j)) (G (F.ix (x.length + 1) (y.length + 1) 1 i j)) (G (F.ix (x.length + 1) (y.length + 1) 2 i j)) = F.fst x y i j := by
  obtain ⟨h0, h1⟩ := hV.2.1 i j (Nat.zero_le _) hi hj
  obtain ⟨h1, h2⟩ := h1 hn
  rw [h0, h1, h2]; rfl
set_option maxRecDepth 100000 in
set_option maxHeartbeats 8000000 in
theorem shortest_any (x y : List (List UInt8)) (ao bo : Option Addr) (ca cb : Nat) (w : World) (hx : x.length ≤ 1024) (hy : y.length ≤ 1024) (sx : F.sumW List.length x ≤ 1048576) (sy : F.sumW List.length y ≤ 1048576)
    (ra : V.Row w ao (x.map V.str)) (rb : V.Row w bo (y.map V.str)) :
    Calls Tryd.prog 30 #[.slice ao x.length ca, .slice bo y.length cb, .func (.func 31) #[] #[]] w (F.ShEnd x y w) := by
  obtain ⟨i0, hi, hz0, hz1, hz2⟩ := info_parts Tryd.infoByte
  have HI := Lib.hid (And.intro hi (And.intro hz0 (And.intro hz1 hz2)))
  clear hi hz0 hz1 hz2
  have HC := Lib.hid (costs_any x y ao bo ca cb w hx hy sx sy ra rb)
  obtain ⟨n, hn⟩ : ∃ n, Hid (x.length = n) := ⟨_, rfl⟩
  obtain ⟨m, hm⟩ : ∃ m, Hid (y.length = m) := ⟨_, rfl⟩
  have SX := Lib.hid sx
  have SY := Lib.hid sy
  clear ra rb sx sy
  rw [hn.out] at hx
  rw [hm.out] at hy
  have PL := F.pk_len x y
  rw [hn.out, hm.out] at PL
  unfold F.CostEnd at HC
  rw [hn.out, hm.out] at HC
  rw [hn.out, hm.out]
  have FS : Hid (∀ G i j, F.Vis x y G 0 0 → i ≤ n → j ≤ m → ¬ (i = n ∧ j = m) → F.fs3 (G (F.ix (n + 1) (m + 1) 0 i j)) (G (F.ix (n + 1) (m + 1) 1 i j)) (G (F.ix (n + 1) (m + 1) 2 i j)) = F.fst x y i j) := fun G i j h1 h2 h3 h4 => by
    have := F.fs3_fst (i := i) (j := j) h1 (by rw [hn.out]; exact h2) (by rw [hm.out]; exact h3) (by rw [hn.out, hm.out]; exact h4)
    rwa [hn.out, hm.out] at this
  go_enter Tryd.func30, Tryd.ntmps30
  go_wp2_with fail
  refine HC.out.mono ?_
  rintro e w1 ⟨G, g2, g1, b, cap, rfl, hT, hV, hB⟩
  have T := Lib.hid hT
  have HV := Lib.hid hV
  have HB := Lib.hid hB
  clear hT hV hB HC
  go_wp2
  go_loopw [8, 9, 10] (fun v u z wr => ∃ (i j : Nat) (P : List F.Op), i ≤ n ∧ j ≤ m ∧ u = .int .i64 (i : Int) ∧ z = .int .i64 (j : Int) ∧ Hid (P ++ F.pk (x.drop i) (y.drop j) = F.pk x y) ∧ Hid (V.Made 5 (P.map F.kdV) w1 v wr)) (fun _ u z _ => (n - (intOf u).toNat) + (m - (intOf z).toNat))
  case atStart => exact ⟨0, 0, [], Nat.zero_le _, Nat.zero_le _, rfl, rfl, rfl, V.Made.nil _ _ (Below.refl _ _)⟩
  case round =>
    obtain ⟨i, j, P, hin, hjm, rfl, rfl, hP, hM⟩ := hrel
    obtain ⟨W0, rfl⟩ : ∃ W0 : World, W0 = wr := ⟨_, rfl⟩
    by_cases he : i = n ∧ j = m
    · obtain ⟨rfl, rfl⟩ := he
      have e : Hid (P = F.pk x y) := by
        show _ = _
        rw [← hP.out, ← hn.out, ← hm.out, List.drop_length, List.drop_length, F.pk_nn, List.append_nil]
      have q1 : decide (i < i) = false := by simp
      have q2 : decide (j < j) = false := by simp
      obtain ⟨ao', c', hv, hr⟩ := hM.out.row
      have R : F.ShEnd x y w (.returned u8) W0 := ⟨ao', c', by rw [hv, ← e.out, List.length_map], by rw [← e.out]; exact hr, HB.out.trans (hM.out.below.mono HB.out.size)⟩
      have R := Lib.hid R
      clear hv hr
      go_wp2
      go_ret
      exact R.out
    · have F1 := F.fst_pk SX.out SY.out (i := i) (j := j) (by rw [hn.out]; exact hin) (by rw [hm.out]; exact hjm) (by rw [hn.out, hm.out]; exact he)
      have hF : Hid (Calls Tryd.prog 41 #[.slice (some ⟨g2, 0, none⟩) 4 cap, .int .i64 (i : Int), .int .i64 (j : Int)] W0 fun e w' => e = .returned (.int .u8 (F.fst x y i j : Nat)) ∧ Below W0.heap.size W0 w') := by
        have := first_any (n + 1) (m + 1) i j cap G g2 g1 b W0 (by omega) (by omega) (by omega) (by omega) (T.out.below hM.out.below)
        rwa [FS.out G i j HV.out hin hjm he] at this
      have PLn : P.length ≤ 2048 := by
        have := congrArg List.length hP.out
        rw [List.length_append] at this
        omega
      go_upto_region 4 with (fail)
      go_cut [25] (fun v wx => v = .bool true ∧ Hid (wx = W0))
      case first =>
        by_cases hi : i < n
        · have q1 : decide (i < n) = true := by simpa using hi
          go_wp2
          go_meet
          case rel => exact ⟨rfl, rfl⟩
        · have q1 : decide (i < n) = false := by simpa using hi
          have q2 : decide (j < m) = true := by simp; omega
          go_wp2
          go_meet
          case rel => exact ⟨rfl, rfl⟩
      case rest =>
      obtain ⟨rfl, hw⟩ := hcut
      obtain rfl := hw.out
      clear hw
      obtain ⟨W0, rfl⟩ : ∃ W0 : World, W0 = wc := ⟨_, rfl⟩
      rw [hn.out, hm.out] at F1
      have mk : ∀ (op : F.Op) (W1 : World) (v' : Value) (W2 : World) (Z : List Value), Below W0.heap.size W0 W1 → Hid (Z = P.map F.kdV ++ [F.kdV op]) → W2.ownsRow w1.heap.size 5 1 v' Z.length Z → W1.grownBy W2 u8.ownBlock → V.Made 5 ((P ++ [op]).map F.kdV) w1 v' W2 := fun op W1 v' W2 Z h1 h2 h3 h4 => by
        have : (P ++ [op]).map F.kdV = Z := by rw [h2.out, List.map_append]; rfl
        rw [this]
        have h5 : V.Made 5 (P.map F.kdV) w1 u8 W1 := ⟨hM.out.own.kept (row := none) ⟨h1.os, h1.tape, h1.output, h1.size, fun k hk _ => h1.block k hk⟩ (by cases u8.ownBlock <;> simp), hM.out.below.trans (h1.mono hM.out.below.size)⟩
        exact h5.on h3 h4
      have mk := Lib.hid mk
      have PO : Hid (∀ op i' j', F.pk (x.drop i) (y.drop j) = op :: F.pk (x.drop i') (y.drop j') → (P ++ [op]) ++ F.pk (x.drop i') (y.drop j') = F.pk x y) := fun op i' j' h => by
        rw [← hP.out, h, List.append_assoc]; rfl
      rcases F1 with ⟨e1, a, h1, h2, ha, hb, hp⟩ | ⟨e1, a, h2, ha, hp⟩ | ⟨e1, a, h1, ha, hp⟩
      · rw [e1] at hF
        have PO := Lib.hid (PO.out (.keep a) (i + 1) (j + 1) hp)
        have mk := Lib.hid (mk.out (.keep a))
        obtain ⟨X, hX⟩ : ∃ X, Hid (P.map F.kdV = X) := ⟨_, rfl⟩
        have hXl : X.length ≤ 2048 := by rw [← hX.out, List.length_map]; exact PLn
        have hMo := hM.out.own
        have hMz := hM.out.below.size
        rw [hX.out] at hMo mk
        obtain ⟨pa, pc, rfl⟩ : ∃ pa pc, u8 = .slice pa X.length pc := by rw [← hX.out]; exact hM.out.slice
        have HO := Lib.hid hMo
        clear hp e1 hM hMo
        go_wp2_with fail
        refine hF.out.mono ?_
        rintro e w2 ⟨rfl, hb2⟩
        have hb2s := hb2.size
        have HO2 : w2.ownsRow w1.heap.size 5 1 (.slice pa X.length pc) X.length X := HO.out.kept (row := none) ⟨hb2.os, hb2.tape, hb2.output, hb2.size, fun k hk _ => hb2.block k hk⟩ (by cases (Value.slice pa X.length pc).ownBlock <;> simp)
        have HO2 := Lib.hid HO2
        have HB2 := Lib.hid hb2
        clear hb2 hF HO
        go_wp2_with (at_builtin; refine V.append_one Tryd.underlying56 HI.out.1 HI.out.2.1 HI.out.2.2.1 HI.out.2.2.2 rfl (by decide) rfl _ _ rfl w1.heap.size _ X rfl HO2.out (.int .u8 1) rfl 1 rfl ?a1 ?a2 ?_)
        case a1 => omega
        case a2 => omega
        intro Z v' w3 hZ h1' h2'
        have R := Lib.hid (mk.out w2 v' w3 Z HB2.out hZ h1' h2')
        clear h1' h2' hZ mk HO2 HB2
        go_wp2
        go_roundw
        case rel => exact ⟨i + 1, j + 1, P ++ [.keep a], by omega, by omega, by go_num, by go_num, PO, R⟩
        case measure => simp [intOf]; omega
      · rw [e1] at hF
        have PO := Lib.hid (PO.out (.ins a) (i) (j + 1) hp)
        have mk := Lib.hid (mk.out (.ins a))
        obtain ⟨X, hX⟩ : ∃ X, Hid (P.map F.kdV = X) := ⟨_, rfl⟩
        have hXl : X.length ≤ 2048 := by rw [← hX.out, List.length_map]; exact PLn
        have hMo := hM.out.own
        have hMz := hM.out.below.size
        rw [hX.out] at hMo mk
        obtain ⟨pa, pc, rfl⟩ : ∃ pa pc, u8 = .slice pa X.length pc := by rw [← hX.out]; exact hM.out.slice
        have HO := Lib.hid hMo
        clear hp e1 hM hMo
        go_wp2_with fail
        refine hF.out.mono ?_
        rintro e w2 ⟨rfl, hb2⟩
        have hb2s := hb2.size
        have HO2 : w2.ownsRow w1.heap.size 5 1 (.slice pa X.length pc) X.length X := HO.out.kept (row := none) ⟨hb2.os, hb2.tape, hb2.output, hb2.size, fun k hk _ => hb2.block k hk⟩ (by cases (Value.slice pa X.length pc).ownBlock <;> simp)
        have HO2 := Lib.hid HO2
        have HB2 := Lib.hid hb2
        clear hb2 hF HO
        go_wp2_with (at_builtin; refine V.append_one Tryd.underlying56 HI.out.1 HI.out.2.1 HI.out.2.2.1 HI.out.2.2.2 rfl (by decide) rfl _ _ rfl w1.heap.size _ X rfl HO2.out (.int .u8 2) rfl 1 rfl ?b1 ?b2 ?_)
        case b1 => omega
        case b2 => omega
        intro Z v' w3 hZ h1' h2'
        have R := Lib.hid (mk.out w2 v' w3 Z HB2.out hZ h1' h2')
        clear h1' h2' hZ mk HO2 HB2
        go_wp2
        go_roundw
        case rel => exact ⟨i, j + 1, P ++ [.ins a], by omega, by omega, by go_num, by go_num, PO, R⟩
        case measure => simp [intOf]; omega
      · rw [e1] at hF
        have PO := Lib.hid (PO.out (.del a) (i + 1) (j) hp)
        have mk := Lib.hid (mk.out (.del a))
        obtain ⟨X, hX⟩ : ∃ X, Hid (P.map F.kdV = X) := ⟨_, rfl⟩
        have hXl : X.length ≤ 2048 := by rw [← hX.out, List.length_map]; exact PLn
        have hMo := hM.out.own
        have hMz := hM.out.below.size
        rw [hX.out] at hMo mk
        obtain ⟨pa, pc, rfl⟩ : ∃ pa pc, u8 = .slice pa X.length pc := by rw [← hX.out]; exact hM.out.slice
        have HO := Lib.hid hMo
        clear hp e1 hM hMo
        go_wp2_with fail
        refine hF.out.mono ?_
        rintro e w2 ⟨rfl, hb2⟩
        have hb2s := hb2.size
        have HO2 : w2.ownsRow w1.heap.size 5 1 (.slice pa X.length pc) X.length X := HO.out.kept (row := none) ⟨hb2.os, hb2.tape, hb2.output, hb2.size, fun k hk _ => hb2.block k hk⟩ (by cases (Value.slice pa X.length pc).ownBlock <;> simp)
        have HO2 := Lib.hid HO2
        have HB2 := Lib.hid hb2
        clear hb2 hF HO
        go_wp2_with (at_builtin; refine V.append_one Tryd.underlying56 HI.out.1 HI.out.2.1 HI.out.2.2.1 HI.out.2.2.2 rfl (by decide) rfl _ _ rfl w1.heap.size _ X rfl HO2.out (.int .u8 3) rfl 1 rfl ?d1 ?d2 ?_)
        case d1 => omega
        case d2 => omega
        intro Z v' w3 hZ h1' h2'
        have R := Lib.hid (mk.out w2 v' w3 Z HB2.out hZ h1' h2')
        clear h1' h2' hZ mk HO2 HB2
        go_wp2
        go_roundw
        case rel => exact ⟨i + 1, j, P ++ [.del a], by omega, by omega, by go_num, by go_num, PO, R⟩
        case measure => simp [intOf]; omega
end Go.Proofs.YtdilkoogjkabfaaDoor
/- DiffPieces -/
namespace Go.Proofs.YtdilkoogjkabfaaDoor
open Go.RowKit

set_option maxRecDepth 100000 in
theorem V.slice_one (W0 : World) (lo : Option Addr) (L : List Value) (c : Nat) (hl : L.length ≤ c) (h1 : 1 ≤ L.length) (hr : V.Row W0 lo L) :
    ∃ lo' c', (∀ W, (Instr.slice 51 (.slice lo L.length c) (some (.int .i64 1)) none none).run Tryd.prog W = .ok (.slice lo' (L.drop 1).length c') W) ∧ V.Row W0 lo' (L.drop 1) ∧ (L.drop 1).length ≤ c' := by
  obtain ⟨x, hx⟩ : ∃ x, L[0]? = some x := ⟨_, List.getElem?_eq_getElem (by omega)⟩
  obtain ⟨b, o, rfl, hb, _⟩ := hr 0 x hx
  have h := fun W => run_slice_l (P := Tryd.prog) (w := W) 51 (some ⟨b, o, none⟩) L.length c Tryd.underlying51 .i64 1 (by omega) (by omega)
  have hs : ∀ W, (sizeOf (Tryd.prog.elem 51)).run Tryd.prog W = .ok 1 W := fun W => by kernel_rfl
  have e : ∀ W, (Instr.slice 51 (.slice (some ⟨b, o, none⟩) L.length c) (some (.int .i64 1)) none none).run Tryd.prog W = .ok (sliced (some ⟨b, o, none⟩) 1 L.length c 1) W := fun W => by
    rw [h, hs]; rfl
  have hld : (L.drop 1).length = L.length - 1 := List.length_drop
  by_cases hc : c = 1
  · have hd : L.drop 1 = [] := List.drop_eq_nil_of_le (by omega)
    refine ⟨some ⟨b, o, none⟩, c - 1, fun W => ?_, by rw [hd]; exact fun i s hs => by simp at hs, by omega⟩
    rw [e W, hld]
    simp [sliced, hc]
  · refine ⟨some ⟨b, o + 1, none⟩, c - 1, fun W => ?_, fun i s hs => ?_, by omega⟩
    · rw [e W, hld]
      simp [sliced, hc, Addr.add]
    · rw [List.getElem?_drop] at hs
      obtain ⟨b', o', e', hb', hc'⟩ := hr (1 + i) s hs
      cases e'
      exact ⟨b, o + 1, rfl, hb, by rw [show o + 1 + i = o + (1 + i) by omega]; exact hc'⟩
/-! ### The pieces, laid one after another -/
def F.p0 : D.P := ⟨0, 0, ⟨#[]⟩⟩
def F.opP (o : F.Op) : D.P := D.raw (F.opQ o)
theorem F.made3 (a b c : Value) : ∀ n : Nat, (madeCells #[a, b, c] (n * 3)).toList = (List.replicate n [a, b, c]).flatten
  | 0 => by simp [madeCells]
  | n + 1 => by
    have ih := F.made3 a b c n
    unfold madeCells at ih ⊢
    simp only [Array.toList_map, Array.toList_range] at ih ⊢
    rw [show (n + 1) * 3 = n * 3 + 1 + 1 + 1 by omega, List.range_succ, List.range_succ, List.range_succ, List.map_append, List.map_append, List.map_append, ih]
    rw [List.replicate_succ', List.flatten_append]
    have e0 : n * 3 % 3 = 0 := by omega
    have e1 : (n * 3 + 1) % 3 = 1 := by omega
    have e2 : (n * 3 + 1 + 1) % 3 = 2 := by omega
    simp [e0, e1, e2]
theorem F.made_p0 (n : Nat) : madeCells #[.int .u8 0, .int .i64 0, .string ⟨#[]⟩] (n * 3) = (D.cellsL (List.replicate n F.p0)).toArray := by
  rw [← Array.toList_inj, F.made3]
  unfold D.cellsL
  rw [List.flatMap_def, List.map_replicate]
  rfl
theorem F.set_same {α : Type} {l : List α} {i : Nat} {c : α} (h : l[i]? = some c) : l.set i c = l := by
  refine List.ext_getElem? fun j => ?_
  rw [List.getElem?_set]
  split
  · rename_i e; subst e; rw [h, if_pos (List.getElem?_eq_some_iff.1 h).1]
  · rfl
theorem F.blk_n {b k : Nat} {m : List D.P} {W : World} (h : A.Blk b m W) {p : D.P} (hp : m[k]? = some p) (q n : Int) : A.Blk b (m.set k ⟨q, n, p.t⟩) ((W.setCell ⟨b, k * 3, none⟩ (.int .u8 q)).setCell ⟨b, k * 3 + 1, none⟩ (.int .i64 n)) := by
  have hi := (List.getElem?_eq_some_iff.1 hp).1
  have hc := (D.cellsL_at m k p hp).2.2
  unfold A.Blk
  rw [← A.cells_set m k ⟨q, n, p.t⟩ hi, F.set_same (i := k * 3 + 2) (by rw [List.getElem?_set_ne (by omega), List.getElem?_set_ne (by omega)]; exact hc)]
  exact A.set_one (A.set_one h)
theorem F.blk_t {b k : Nat} {m : List D.P} {W : World} (h : A.Blk b m W) {p : D.P} (hp : m[k]? = some p) (q : Int) (t : ByteArray) : A.Blk b (m.set k ⟨q, p.n, t⟩) ((W.setCell ⟨b, k * 3, none⟩ (.int .u8 q)).setCell ⟨b, k * 3 + 2, none⟩ (.string t)) := by
  have hi := (List.getElem?_eq_some_iff.1 hp).1
  have hc := (D.cellsL_at m k p hp).2.1
  unfold A.Blk
  rw [← A.cells_set m k ⟨q, p.n, t⟩ hi, F.set_same (l := (D.cellsL m).set (k * 3) (.int .u8 q)) (i := k * 3 + 1) (by rw [List.getElem?_set_ne (by omega)]; exact hc)]
  exact A.set_one (A.set_one h)
/-- The pieces behind the first k operations. -/
def F.mk (o : List F.Op) (k : Nat) : List D.P := (o.take k).map F.opP ++ List.replicate (o.length - k) F.p0
theorem F.mk_at {o : List F.Op} {k : Nat} (h : k < o.length) : (F.mk o k)[k]? = some F.p0 := by
  unfold F.mk
  have hl : ((o.take k).map F.opP).length = k := by rw [List.length_map, List.length_take]; omega
  rw [List.getElem?_append_right (by omega), hl, Nat.sub_self, List.getElem?_replicate, if_pos (by omega)]
theorem F.mk_set {o : List F.Op} {k : Nat} {op : F.Op} (h : o[k]? = some op) : (F.mk o k).set k (F.opP op) = F.mk o (k + 1) := by
  have hk := (List.getElem?_eq_some_iff.1 h).1
  unfold F.mk
  have hl : ((o.take k).map F.opP).length = k := by rw [List.length_map, List.length_take]; omega
  rw [List.set_append_right _ _ (by omega), hl, Nat.sub_self, List.take_add_one, h, List.map_append, List.append_assoc, show o.length - k = (o.length - (k + 1)) + 1 by omega, List.replicate_succ, List.set_cons_zero]
  rfl
theorem F.mk_end (o : List F.Op) : F.mk o o.length = o.map F.opP := by unfold F.mk; rw [List.take_length, Nat.sub_self]; simp
theorem F.drop_op {o : List F.Op} {k : Nat} {op : F.Op} (h : o[k]? = some op) : o.drop k = op :: o.drop (k + 1) := by
  obtain ⟨hl, e⟩ := List.getElem?_eq_some_iff.1 h
  rw [List.drop_eq_getElem_cons hl, e]
/-- What pieces answers. -/
def F.PcEnd (o : List F.Op) (w : World) (e : Ending) (w' : World) : Prop := ∃ g, e = .returned (.slice (some ⟨g, 0, none⟩) o.length o.length) ∧ D.Row w' (some ⟨g, 0, none⟩) (o.map F.opP) ∧ Below w.heap.size w w'
/-- Where a row of lines lies. -/
structure F.LnAt (w : World) (x : List (List UInt8)) (v : Value) : Prop where
  is : ∃ ao c, v = .slice ao x.length c ∧ x.length ≤ c ∧ V.Row w ao (x.map V.str)
/-- The first line, and the rest. -/
theorem F.LnAt.first {w : World} {r : List UInt8} {x : List (List UInt8)} {v : Value} (h : F.LnAt w (r :: x) v) :
    ∃ b o c v', v = .slice (some ⟨b, o, none⟩) (x.length + 1) c ∧ b < w.heap.size ∧ w.cell? ⟨b, o, none⟩ = some (.string ⟨r.toArray⟩) ∧ (∀ W, (Instr.slice 51 (.slice (some ⟨b, o, none⟩) (x.length + 1) c) (some (.int .i64 1)) none none).run Tryd.prog W = .ok v' W) ∧ F.LnAt w x v' := by
  obtain ⟨ao, c, rfl, hc, hr⟩ := h.is
  obtain ⟨b, o, e, hb, hcell⟩ := hr 0 (V.str r) rfl
  subst e
  obtain ⟨lo', c', h1, h2, h3⟩ := V.slice_one w (some ⟨b, o, none⟩) ((r :: x).map V.str) c (by simpa using hc) (by simp) hr
  refine ⟨b, o, c, .slice lo' x.length c', by rfl, hb, by rw [Nat.add_zero] at hcell; exact hcell, fun W => ?_, ⟨lo', c', rfl, by simpa using h3, by simpa using h2⟩⟩
  have := h1 W
  simpa using this
set_option maxRecDepth 100000 in
set_option maxHeartbeats 8000000 in
theorem pieces8_any (o : List F.Op) (va vb : Value) (ko : Option Addr) (kc : Nat) (w : World) (ho : o.length ≤ 4096) (ra : F.LnAt w (F.frm o) va) (rb : F.LnAt w (F.too o) vb) (rk : V.Row w ko (o.map F.kdV)) :
    Calls Tryd.prog 32 #[va, vb, .slice ko o.length kc] w (F.PcEnd o w) := by
  obtain ⟨ip, hp, hp0, hp1, hp2⟩ := info_parts Tryd.infoPiece
  obtain ⟨n, hn⟩ : ∃ n, Hid (o.length = n) := ⟨_, rfl⟩
  have hmk : ∀ W, (Instr.makeSlice 22 (.int .i64 (n : Int)) (.int .i64 (n : Int))).run Tryd.prog W = .ok (.slice (some ⟨W.heap.size, 0, none⟩) n n) (W.alloc (.cells (D.cellsL (List.replicate n F.p0)).toArray 29)) := fun W => by
    have h := run_make (P := Tryd.prog) W 22 29 ip _ Tryd.underlying22 hp hp0 .i64 .i64 (n : Int) (n : Int) (by omega) (by omega) (by rw [hp2]; have := hn.out; omega) (by have := hn.out; omega)
    rw [h, hp1, Int.toNat_natCast]
    have e : (Value.agg #[.int .u8 0, .int .i64 0, .string ⟨#[]⟩]).cells = #[.int .u8 0, .int .i64 0, .string ⟨#[]⟩] := by simp [Value.cells]
    rw [e, F.made_p0]
  have RK := Lib.hid rk
  have RA := Lib.hid ra
  have RB := Lib.hid rb
  clear hp hp0 hp1 hp2 rk ra rb
  rw [hn.out] at ho ⊢
  have ED : Hid (∀ wr, A.Blk w.heap.size (F.mk o n) wr → Below w.heap.size w wr → F.PcEnd o w (.returned (.slice (some ⟨w.heap.size, 0, none⟩) n n)) wr) := fun wr h1 h2 => by
    refine ⟨w.heap.size, by rw [hn.out], ?_, h2⟩
    have := h1.row
    rwa [← hn.out, F.mk_end] at this
  have M0 : Hid (A.Blk w.heap.size (F.mk o 0) (w.alloc (.cells (D.cellsL (List.replicate n F.p0)).toArray 29))) := by
    show A.Blk _ _ _
    unfold F.mk A.Blk
    rw [List.take_zero, List.map_nil, List.nil_append, Nat.sub_zero, hn.out]
    exact heap_alloc_new w _
  have B0 : Hid (Below w.heap.size w (w.alloc (.cells (D.cellsL (List.replicate n F.p0)).toArray 29))) := (Below.refl _ _).alloc (Nat.le_refl _) _
  generalize (D.cellsL (List.replicate n F.p0)).toArray = Z0 at *
  obtain ⟨g, hg⟩ : ∃ g, Hid (w.heap.size = g) := ⟨_, rfl⟩
  go_enter Tryd.func32, Tryd.ntmps32
  go_wp2
  rw [hg.out]
  rw [hg.out] at M0 ED
  go_loopw [0, 1, 15] (fun v u i wr => ∃ k : Nat, k ≤ n ∧ i = .int .i64 (k : Int) ∧ Hid (F.LnAt w (F.frm (o.drop k)) v) ∧ Hid (F.LnAt w (F.too (o.drop k)) u) ∧ Hid (A.Blk g (F.mk o k) wr) ∧ Hid (Below w.heap.size w wr)) (fun _ _ i _ => n - (intOf i).toNat)
  case atStart => exact ⟨0, Nat.zero_le _, rfl, RA, RB, M0, B0⟩
  case round =>
    obtain ⟨k, hk, rfl, hA, hB, hM, hb⟩ := hrel
    obtain ⟨W0, rfl⟩ : ∃ W0 : World, W0 = wr := ⟨_, rfl⟩
    by_cases hlt : k < n
    · obtain ⟨op, hop⟩ : ∃ op, o[k]? = some op := ⟨_, List.getElem?_eq_getElem (by rw [hn.out]; exact hlt)⟩
      obtain ⟨b1, o1, e1, hl1, hc1⟩ := RK.out k (F.kdV op) (by rw [List.getElem?_map, hop]; rfl)
      subst e1
      replace hc1 : W0.cell? ⟨b1, o1 + k, none⟩ = some (F.kdV op) := (hb.out.cell (p := ⟨b1, o1 + k, none⟩) hl1).trans hc1
      have hd := F.drop_op hop
      have HB3 : Hid (∀ W, (∃ q n : Int, W = (W0.setCell ⟨g, k * 3, none⟩ (.int .u8 q)).setCell ⟨g, k * 3 + 1, none⟩ (.int .i64 n)) ∨ (∃ (q : Int) (t : ByteArray), W = (W0.setCell ⟨g, k * 3, none⟩ (.int .u8 q)).setCell ⟨g, k * 3 + 2, none⟩ (.string t)) → Below w.heap.size w W) := fun W h => by
        have hgg := hg.out
        rcases h with ⟨q, n, rfl⟩ | ⟨q, t, rfl⟩
        · exact (hb.out.setCell (p := ⟨g, _, none⟩) (by show _ ≤ g; omega) _).setCell (p := ⟨g, _, none⟩) (by show _ ≤ g; omega) _
        · exact (hb.out.setCell (p := ⟨g, _, none⟩) (by show _ ≤ g; omega) _).setCell (p := ⟨g, _, none⟩) (by show _ ≤ g; omega) _
      have hm := F.mk_at (o := o) (k := k) (by rw [hn.out]; exact hlt)
      have M3 : Hid (∀ W, (∀ q n : Int, W = (W0.setCell ⟨g, k * 3, none⟩ (.int .u8 q)).setCell ⟨g, k * 3 + 1, none⟩ (.int .i64 n) → F.opP op = ⟨q, n, ⟨#[]⟩⟩ → A.Blk g (F.mk o (k + 1)) W) ∧ (∀ (q : Int) (t : ByteArray), W = (W0.setCell ⟨g, k * 3, none⟩ (.int .u8 q)).setCell ⟨g, k * 3 + 2, none⟩ (.string t) → F.opP op = ⟨q, 0, t⟩ → A.Blk g (F.mk o (k + 1)) W)) := fun W => by
        refine ⟨fun q n e h => ?_, fun q t e h => ?_⟩
        · subst e; rw [← F.mk_set hop, h]; exact F.blk_n hM.out hm q n
        · subst e; rw [← F.mk_set hop, h]; exact F.blk_t hM.out hm q t
      obtain ⟨d0, d1, d2⟩ := D.cellsL_at _ k _ hm
      have key : ∀ j u, (D.cellsL (F.mk o k))[j]? = some u → W0.cell? ⟨g, j, none⟩ = some u := fun j u hu => by rw [Lib.cell_of_heap hM.out]; simpa using hu
      have x0 := key _ _ d0
      have x1 := key _ _ d1
      have x2 := key _ _ d2
      have fz : ∀ j, W0.frozen? ⟨g, j, none⟩ = false := fun j => frozen_of_row _ _ _ _ _ hM.out
      simp only [F.p0] at x0 x1 x2
      clear d0 d1 d2 key hm hop hM
      rw [hd] at hA hB
      cases op with
      | keep r =>
        replace hc1 : W0.cell? ⟨b1, o1 + k, none⟩ = some (.int .u8 1) := hc1
        obtain ⟨bA, oA, cA, vA, rfl, hlA, hcA, hsA, hA'⟩ := (show F.LnAt w (r :: F.frm (o.drop (k + 1))) _ from hA.out).first
        replace hcA : W0.cell? ⟨bA, oA, none⟩ = some (.string ⟨r.toArray⟩) := (hb.out.cell (p := ⟨bA, oA, none⟩) hlA).trans hcA
        have nA : ¬ bA = g := by have := hg.out; omega
        have hA' := Lib.hid hA'
        have pA : 0 < (F.frm (o.drop (k + 1))).length + 1 := Nat.succ_pos _
        generalize (F.frm (o.drop (k + 1))).length + 1 = zA at *
        obtain ⟨bB, oB, cB, vB, rfl, hlB, hcB, hsB, hB'⟩ := (show F.LnAt w (r :: F.too (o.drop (k + 1))) _ from hB.out).first
        replace hcB : W0.cell? ⟨bB, oB, none⟩ = some (.string ⟨r.toArray⟩) := (hb.out.cell (p := ⟨bB, oB, none⟩) hlB).trans hcB
        have nB : ¬ bB = g := by have := hg.out; omega
        have hB' := Lib.hid hB'
        have pB : 0 < (F.too (o.drop (k + 1))).length + 1 := Nat.succ_pos _
        generalize (F.too (o.drop (k + 1))).length + 1 = zB at *
        have hz : (⟨r.toArray⟩ : ByteArray).size = r.length := D.size_l r
        have hop : F.opP (.keep r) = ⟨1, ((⟨r.toArray⟩ : ByteArray).size : Int), ⟨#[]⟩⟩ := by rw [hz]; rfl
        have M4 := Lib.hid ((M3.out _).1 _ _ rfl hop)
        clear hop
        generalize (⟨r.toArray⟩ : ByteArray) = T at *
        have n1 : ¬ b1 = g := by have := hg.out; omega
        clear hA hB hd hlA hlB hl1 hz
        go_wp2
        go_roundw
        case rel => exact ⟨k + 1, by omega, by go_num, hA', hB', M4, HB3.out _ (.inl ⟨_, _, rfl⟩)⟩
        case measure => simp [intOf]; omega
      | del r =>
        replace hc1 : W0.cell? ⟨b1, o1 + k, none⟩ = some (.int .u8 3) := hc1
        obtain ⟨bA, oA, cA, vA, rfl, hlA, hcA, hsA, hA'⟩ := (show F.LnAt w (r :: F.frm (o.drop (k + 1))) _ from hA.out).first
        replace hcA : W0.cell? ⟨bA, oA, none⟩ = some (.string ⟨r.toArray⟩) := (hb.out.cell (p := ⟨bA, oA, none⟩) hlA).trans hcA
        have nA : ¬ bA = g := by have := hg.out; omega
        have hA' := Lib.hid hA'
        have pA : 0 < (F.frm (o.drop (k + 1))).length + 1 := Nat.succ_pos _
        generalize (F.frm (o.drop (k + 1))).length + 1 = zA at *
        have hB' : Hid (F.LnAt w (F.too (o.drop (k + 1))) _) := hB.out
        have hz : (⟨r.toArray⟩ : ByteArray).size = r.length := D.size_l r
        have hop : F.opP (.del r) = ⟨3, ((⟨r.toArray⟩ : ByteArray).size : Int), ⟨#[]⟩⟩ := by rw [hz]; rfl
        have M4 := Lib.hid ((M3.out _).1 _ _ rfl hop)
        clear hop
        generalize (⟨r.toArray⟩ : ByteArray) = T at *
        have n1 : ¬ b1 = g := by have := hg.out; omega
        clear hA hB hd hlA hl1 hz
        go_wp2
        go_roundw
        case rel => exact ⟨k + 1, by omega, by go_num, hA', hB', M4, HB3.out _ (.inl ⟨_, _, rfl⟩)⟩
        case measure => simp [intOf]; omega
      | ins r =>
        replace hc1 : W0.cell? ⟨b1, o1 + k, none⟩ = some (.int .u8 2) := hc1
        obtain ⟨bB, oB, cB, vB, rfl, hlB, hcB, hsB, hB'⟩ := (show F.LnAt w (r :: F.too (o.drop (k + 1))) _ from hB.out).first
        replace hcB : W0.cell? ⟨bB, oB, none⟩ = some (.string ⟨r.toArray⟩) := (hb.out.cell (p := ⟨bB, oB, none⟩) hlB).trans hcB
        have nB : ¬ bB = g := by have := hg.out; omega
        have hB' := Lib.hid hB'
        have pB : 0 < (F.too (o.drop (k + 1))).length + 1 := Nat.succ_pos _
        generalize (F.too (o.drop (k + 1))).length + 1 = zB at *
        have hA' : Hid (F.LnAt w (F.frm (o.drop (k + 1))) _) := hA.out
        have hz : (⟨r.toArray⟩ : ByteArray).size = r.length := D.size_l r
        have hop : F.opP (.ins r) = ⟨2, 0, (⟨r.toArray⟩ : ByteArray)⟩ := rfl
        have M4 := Lib.hid ((M3.out _).2 _ _ rfl hop)
        clear hop
        generalize (⟨r.toArray⟩ : ByteArray) = T at *
        have n1 : ¬ b1 = g := by have := hg.out; omega
        clear hA hB hd hlB hl1 hz
        go_wp2
        go_roundw
        case rel => exact ⟨k + 1, by omega, by go_num, hA', hB', M4, HB3.out _ (.inr ⟨_, _, rfl⟩)⟩
        case measure => simp [intOf]; omega
    · obtain rfl : k = n := by omega
      have R := Lib.hid (ED.out _ hM.out (by rw [← hg.out]; exact hb.out))
      clear hA hB hM
      go_wp2
      go_ret
      exact R.out
end Go.Proofs.YtdilkoogjkabfaaDoor
