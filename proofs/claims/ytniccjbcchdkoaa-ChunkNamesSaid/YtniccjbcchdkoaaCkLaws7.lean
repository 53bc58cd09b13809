/- The walk of layer 14's law Names. -/
import Derived.Test.YtniccjbcchdkoaaCkTab
import Derived.Deep.CutBlock
import Derived.Deep.RegionWith
import Derived.Deep.DeepCutAuto
namespace Go.Proofs.Ytniccjbcchdkoaa
open Go.RowKit

set_option maxRecDepth 100000 in
set_option maxHeartbeats 8000000 in
theorem chunkNames_walk (w : World) : Calls Try.prog 4 #[] w fun e w' => e = .returned (.bool true) ∧ Below w.heap.size w w' := by
  have HW := Ck.hW
  have H1 := Lib.hid (fun W => chunks14_any ⟨#[]⟩ W (by decide))
  unfold Ck.ChEnd at H1
  have H2 := Lib.hid (fun W => chunks14_any ⟨#[97, 98, 99]⟩ W (by decide))
  unfold Ck.ChEnd at H2
  have e1 : C14.chunks (⟨#[]⟩ : ByteArray).data.toList = [] := Ck.chunks_nil
  have e2 : C14.chunks (⟨#[97, 98, 99]⟩ : ByteArray).data.toList = [[97, 98, 99]] := Ck.chunks_abc
  rw [e1] at H1
  rw [e2] at H2
  have HT := Ck.hTexts (L := [[97, 98, 99]]) (k := 1) rfl (by decide)
  have K0 := Lib.hid (Ck.kn0 w)
  clear e1 e2
  go_enter Try.func4, Try.ntmps4
  go_wp2_with fail
  refine (HW.out _).mono ?_
  rintro e w1 ⟨rfl, hb⟩
  have K1 := Lib.hid (K0.out.on hb)
  clear hb K0 HW
  go_wp2_with fail
  refine (H1.out _).mono ?_
  rintro e w2 ⟨v, rfl, hm⟩
  obtain ⟨a1, c1, rfl, K2⟩ := K1.out.made hm (n := 0) rfl
  clear hm K1 H1
  go_wp2_with fail
  refine (H2.out _).mono ?_
  rintro e w3 ⟨v, rfl, hm⟩
  obtain ⟨a2, c2, rfl, K3⟩ := K2.out.made hm (n := 1) rfl
  clear hm K2 H2
  have K4 := Lib.hid (Ck.Kn.lit K3.out (Ck.strs [[97, 98, 99]]) 9 #[.string ⟨#[97, 98, 99]⟩] rfl w3.heap.size rfl)
  go_wp2_with fail
  refine (HT.out _ _ _ _ _ K4.out.tl.r0 K4.out.r0).mono ?_
  rintro e w5 ⟨rfl, hb⟩
  have K5 : Hid (Ck.Kn w w5 []) := ⟨(K4.out.on hb).below, fun p hp => by cases hp⟩
  clear hb K3 K4 HT
  obtain ⟨h, hh⟩ : ∃ h, w5.heap.size = h := ⟨_, rfl⟩
  go_upto_region 4 with (fail)
  (try simp only [hh])
  have L0 := Ck.Kn.lit K5.out (Ck.ints [9, 8]) 3 #[.int .i64 9, .int .i64 8] rfl (h) (hh)
  have L1 := Ck.Kn.lit L0 (Ck.ints [11, 11, 11]) 3 #[.int .i64 11, .int .i64 11, .int .i64 11] rfl (h + 1) (Ck.size_alloc _ _ (hh))
  have L2 := Ck.Kn.lit L1 (Ck.ints [3, 2]) 3 #[.int .i64 3, .int .i64 2] rfl (h + 1 + 1) (Ck.size_alloc _ _ (Ck.size_alloc _ _ (hh)))
  have L3 := Ck.Kn.lit L2 (Ck.ints [65536]) 3 #[.int .i64 65536] rfl (h + 1 + 1 + 1) (Ck.size_alloc _ _ (Ck.size_alloc _ _ (Ck.size_alloc _ _ (hh))))
  have L4 := Ck.Kn.lit L3 (Ck.ints [1]) 3 #[.int .i64 1] rfl (h + 1 + 1 + 1 + 1) (Ck.size_alloc _ _ (Ck.size_alloc _ _ (Ck.size_alloc _ _ (Ck.size_alloc _ _ (hh)))))
  refine Ck.Tb.all Ck.Ev.cs 4 (fun _ => rfl) (rs := Ck.evr h) L4 (Ck.evs h) _ _ rfl (h + 1 + 1 + 1 + 1 + 1) (Ck.size_alloc _ _ (Ck.size_alloc _ _ (Ck.size_alloc _ _ (Ck.size_alloc _ _ (Ck.size_alloc _ _ (hh)))))) (R := fun V => Code.wp _ _ _ _ V) ?_
  intro V0 T0
  clear L0 L1 L2 L3 L4 K5 hh
  generalize h + 1 + 1 + 1 + 1 + 1 = g at T0 ⊢
  go_wp2
  go_loopw [2] (fun u wx => ∃ i : Nat, i ≤ 11 ∧ u = .int .i64 i ∧ Hid (Ck.Tb Ck.Ev.cs 4 w g (Ck.evs h) (Ck.evr h) wx)) (fun u _ => 11 - (intOf u).toNat)
  case atStart => exact ⟨0, by omega, rfl, T0⟩
  case round =>
    clear T0
    obtain ⟨i, hi, rfl, hT⟩ := hrel
    by_cases hli : i < 11
    · have hi2 : (i : Int) < 11 := by omega
      have I0 : Hid (i < 11) := hli
      obtain ⟨⟨n, m, a, c, L, e⟩, hx⟩ : ∃ x, (Ck.evs h)[i]? = some x := ⟨_, List.getElem?_eq_getElem (show i < (Ck.evs h).length from hli)⟩
      obtain ⟨k1, k2, k3, k4, k5, k6, k7⟩ := Ck.evs_ok h _ (List.mem_of_getElem? hx)
      dsimp only at k1 k2 k3 k4 k5 k6 k7
      have HE := fun W => even14_any n m W k4 k5 k6 k7
      unfold Ck.EvEnd at HE
      rw [k1, k2] at HE
      have HE := Lib.hid HE
      have HR : Hid (∀ Z, Ck.Tb Ck.Ev.cs 4 w g (Ck.evs h) (Ck.evr h) Z → V.Row Z a (Ck.ints L)) := fun Z hV => Ck.tb_row hV (k3.imp (fun k => by rw [k]; rfl) id)
      have hlen : L.length ≤ 65536 := by rw [← k2]; exact Ck.evL_len n m
      obtain ⟨z, hz⟩ : ∃ z, L.length = z := ⟨_, rfl⟩
      have HI := Ck.hInts hz (by unfold maxLen; omega)
      have HC : Hid (∀ Z, Ck.Tb Ck.Ev.cs 4 w g (Ck.evs h) (Ck.evr h) Z → Z.cell? ⟨g, i * 4, none⟩ = some (.int .i64 n) ∧ Z.cell? ⟨g, i * 4 + 1, none⟩ = some (.int .i64 m) ∧ Z.cell? ⟨g, i * 4 + 2, none⟩ = some (.slice a z c) ∧ Z.cell? ⟨g, i * 4 + 3, none⟩ = some (.int .i64 e)) := fun Z hV => by
        have := fun j v hv => hV.cell i _ hx j v hv
        refine ⟨this 0 _ rfl, this 1 _ rfl, ?_, this 3 _ rfl⟩
        have h2 := this 2 _ rfl
        dsimp only at h2
        rw [hz] at h2
        exact h2
      have hz2 := Lib.hid ((Ck.ints_len L).trans hz)
      clear hx k1 k2 k3 k4 k5 k6 k7 hi hli hz hlen
      obtain ⟨c0, c1, c2, c3⟩ := HC.out _ hT.out
      have hTd := Lib.hid (hT.out.on (Below.refl _ _).drew)
      go_upto_region 7 with (fail)
      go_cut [3, 4] (fun v f wx => ∃ o3 d3, v = .slice o3 z d3 ∧ f = .int .i64 e ∧ Hid (Ck.Tb Ck.Ev.cs 4 w g (Ck.evs h) (Ck.evr h) wx ∧ V.Row wx o3 (Ck.ints L)))
      case first =>
        go_region_with (go_at_call 29; (with_reducible refine (HE.out _).mono ?_); rintro f w6 ⟨v, rfl, hm⟩; obtain ⟨o3, d3, hv, r3⟩ := hm.row; rw [hz2.out] at hv; subst hv; have T6 := Lib.hid (And.intro (hTd.out.on hm.below) r3); clear hm r3)
        all_goals
          go_wp2_with fail
          go_meet
          case rel => exact ⟨_, _, rfl, rfl, T6⟩
      case rest =>
      obtain ⟨o3, d3, rfl, rfl, T6⟩ := hcut
      obtain ⟨w6, rfl⟩ : ∃ w6 : World, w6 = wc := ⟨_, rfl⟩
      clear hT hTd HE c0 c1 c2 c3
      obtain ⟨c0, c1, c2, c3⟩ := HC.out _ T6.out.1
      go_wp2_with fail
      refine (HI.out _ _ _ _ _ T6.out.2 (HR.out _ T6.out.1)).mono ?_
      rintro f w7 ⟨rfl, hb⟩
      have T7 := Lib.hid (T6.out.1.on hb)
      clear hb T6 c0 c1 c2 c3
      go_wp2
      go_roundw
      case rel => exact ⟨i + 1, by have := I0.out; omega, by go_num, T7⟩
      case measure => have := I0.out; simp [intOf]; omega
    · obtain rfl : i = 11 := by omega
      rw [show ((11 : Nat) : Int) = 11 from rfl]
      have K6 : Hid (Ck.Kn w wr []) := ⟨hT.out.kn.below, fun p hp => by cases hp⟩
      clear hT hi hli
      obtain ⟨h, hh⟩ : ∃ h, wr.heap.size = h := ⟨_, rfl⟩
      go_upto_region 11 with (fail)
      (try simp only [hh])
      have L0 := Ck.Kn.lit K6.out (Ck.strs [[97, 98, 99, 100, 101, 102]]) 9 #[.string ⟨#[97, 98, 99, 100, 101, 102]⟩] rfl (h) (hh)
      have L1 := Ck.Kn.lit L0 (Ck.strs [[97, 98, 99, 100, 101, 102, 103, 104], [105, 106, 107, 108, 109, 110, 111, 112, 113]]) 9 #[.string ⟨#[97, 98, 99, 100, 101, 102, 103, 104]⟩, .string ⟨#[105, 106, 107, 108, 109, 110, 111, 112, 113]⟩] rfl (h + 1) (Ck.size_alloc _ _ (hh))
      have L2 := Ck.Kn.lit L1 (Ck.strs [[97, 98, 99, 100, 101, 102, 103, 104, 105, 106], [107, 108, 109, 110, 111, 112, 113, 114, 115]]) 9 #[.string ⟨#[97, 98, 99, 100, 101, 102, 103, 104, 105, 106]⟩, .string ⟨#[107, 108, 109, 110, 111, 112, 113, 114, 115]⟩] rfl (h + 1 + 1) (Ck.size_alloc _ _ (Ck.size_alloc _ _ (hh)))
      have L3 := Ck.Kn.lit L2 (Ck.strs [[97, 98, 99, 100, 101, 102, 103, 104, 105, 106, 107, 108, 109, 110, 111, 112]]) 9 #[.string ⟨#[97, 98, 99, 100, 101, 102, 103, 104, 105, 106, 107, 108, 109, 110, 111, 112]⟩] rfl (h + 1 + 1 + 1) (Ck.size_alloc _ _ (Ck.size_alloc _ _ (Ck.size_alloc _ _ (hh))))
      refine Ck.Tb.all Ck.Jt.cs 4 (fun _ => rfl) (rs := Ck.jtr h) L3 (Ck.jts h) _ _ rfl (h + 1 + 1 + 1 + 1) (Ck.size_alloc _ _ (Ck.size_alloc _ _ (Ck.size_alloc _ _ (Ck.size_alloc _ _ (hh))))) (R := fun V => Code.wp _ _ _ _ V) ?_
      intro V0 T0
      clear L0 L1 L2 L3 K6 hh
      generalize h + 1 + 1 + 1 + 1 = g at T0 ⊢
      go_wp2
      go_loopw [6] (fun u wx => ∃ i : Nat, i ≤ 7 ∧ u = .int .i64 i ∧ Hid (Ck.Tb Ck.Jt.cs 4 w g (Ck.jts h) (Ck.jtr h) wx)) (fun u _ => 7 - (intOf u).toNat)
      case atStart => exact ⟨0, by omega, rfl, T0⟩
      case round =>
        clear T0
        obtain ⟨i, hi, rfl, hT⟩ := hrel
        by_cases hli : i < 7
        · have hi2 : (i : Int) < 7 := by omega
          have I0 : Hid (i < 7) := hli
          obtain ⟨⟨s, t, a, c, L, e⟩, hx⟩ : ∃ x, (Ck.jts h)[i]? = some x := ⟨_, List.getElem?_eq_getElem (show i < (Ck.jts h).length from hli)⟩
          obtain ⟨k1, k2, k3⟩ := Ck.jts_ok h _ (List.mem_of_getElem? hx)
          dsimp only at k1 k2 k3
          have HE := fun W => join14_any s t W
          unfold Ck.JnEnd at HE
          rw [k1, k2] at HE
          have HE := Lib.hid HE
          have HR : Hid (∀ Z, Ck.Tb Ck.Jt.cs 4 w g (Ck.jts h) (Ck.jtr h) Z → V.Row Z a (Ck.strs L)) := fun Z hV => Ck.tb_row hV (k3.imp (fun k => by rw [k]; rfl) id)
          have hlen : L.length ≤ 2 := by rw [← k2]; exact Ck.jnL_len _ _
          obtain ⟨z, hz⟩ : ∃ z, L.length = z := ⟨_, rfl⟩
          have HI := Ck.hTexts hz (by unfold maxLen; omega)
          have HC : Hid (∀ Z, Ck.Tb Ck.Jt.cs 4 w g (Ck.jts h) (Ck.jtr h) Z → Z.cell? ⟨g, i * 4, none⟩ = some (.string s) ∧ Z.cell? ⟨g, i * 4 + 1, none⟩ = some (.string t) ∧ Z.cell? ⟨g, i * 4 + 2, none⟩ = some (.slice a z c) ∧ Z.cell? ⟨g, i * 4 + 3, none⟩ = some (.int .i64 e)) := fun Z hV => by
            have := fun j v hv => hV.cell i _ hx j v hv
            refine ⟨this 0 _ rfl, this 1 _ rfl, ?_, this 3 _ rfl⟩
            have h2 := this 2 _ rfl
            dsimp only at h2
            rw [hz] at h2
            exact h2
          have hz2 := Lib.hid ((Ck.strs_len L).trans hz)
          clear hx k1 k2 k3 hi hli hz hlen
          obtain ⟨c0, c1, c2, c3⟩ := HC.out _ hT.out
          have hTd := Lib.hid (hT.out.on (Below.refl _ _).drew)
          go_upto_region 14 with (fail)
          go_cut [7, 8] (fun v f wx => ∃ o3 d3, v = .slice o3 z d3 ∧ f = .int .i64 e ∧ Hid (Ck.Tb Ck.Jt.cs 4 w g (Ck.jts h) (Ck.jtr h) wx ∧ V.Row wx o3 (Ck.strs L)))
          case first =>
            go_region_with (go_at_call 31; (with_reducible refine (HE.out _).mono ?_); rintro f w6 ⟨v, rfl, hm⟩; obtain ⟨o3, d3, hv, r3⟩ := hm.row; rw [hz2.out] at hv; subst hv; have T6 := Lib.hid (And.intro (hTd.out.on hm.below) r3); clear hm r3)
            all_goals
              go_wp2_with fail
              go_meet
              case rel => exact ⟨_, _, rfl, rfl, T6⟩
          case rest =>
          obtain ⟨o3, d3, rfl, rfl, T6⟩ := hcut
          obtain ⟨w6, rfl⟩ : ∃ w6 : World, w6 = wc := ⟨_, rfl⟩
          clear hT hTd HE c0 c1 c2 c3
          obtain ⟨c0, c1, c2, c3⟩ := HC.out _ T6.out.1
          go_wp2_with fail
          refine (HI.out _ _ _ _ _ T6.out.2 (HR.out _ T6.out.1)).mono ?_
          rintro f w7 ⟨rfl, hb⟩
          have T7 := Lib.hid (T6.out.1.on hb)
          clear hb T6 c0 c1 c2 c3
          go_wp2
          go_roundw
          case rel => exact ⟨i + 1, by have := I0.out; omega, by go_num, T7⟩
          case measure => have := I0.out; simp [intOf]; omega
        · obtain rfl : i = 7 := by omega
          rw [show ((7 : Nat) : Int) = 7 from rfl]
          have K7 : Hid (Ck.Kn w wr []) := ⟨hT.out.kn.below, fun p hp => by cases hp⟩
          clear hT hi hli
          obtain ⟨g, hg⟩ : ∃ g, wr.heap.size = g := ⟨_, rfl⟩
          go_upto_region 18 with (fail)
          (try simp only [hg])
          refine Ck.Tb.all Ck.Ct.cs 5 (fun _ => rfl) K7.out Ck.cts _ _ rfl g hg (R := fun V => Code.wp _ _ _ _ V) ?_
          intro V0 T0
          clear K7 hg
          go_wp2
          go_loopw [10] (fun u wx => ∃ i : Nat, i ≤ 7 ∧ u = .int .i64 i ∧ Hid (Ck.Tb Ck.Ct.cs 5 w g Ck.cts [] wx)) (fun u _ => 7 - (intOf u).toNat)
          case atStart => exact ⟨0, by omega, rfl, T0⟩
          case round =>
            clear T0
            obtain ⟨i, hi, rfl, hT⟩ := hrel
            by_cases hli : i < 7
            · have hi2 : (i : Int) < 7 := by omega
              have I0 : Hid (i < 7) := hli
              obtain ⟨⟨s, n, x, y, e⟩, hx⟩ : ∃ x, Ck.cts[i]? = some x := ⟨_, List.getElem?_eq_getElem (show i < Ck.cts.length from hli)⟩
              obtain ⟨k1, k2, k3, k4, k5⟩ := Ck.cts_ok _ (List.mem_of_getElem? hx)
              dsimp only at k1 k2 k3 k4 k5
              have HE := fun W => cut14_any s n W k4 k5
              unfold Ck.CtEnd at HE
              rw [k1, k2, k3, ← V.str_of x, ← V.str_of y] at HE
              have HE := Lib.hid HE
              have HC : Hid (∀ Z, Ck.Tb Ck.Ct.cs 5 w g Ck.cts [] Z → Z.cell? ⟨g, i * 5, none⟩ = some (.string s) ∧ Z.cell? ⟨g, i * 5 + 1, none⟩ = some (.int .i64 n) ∧ Z.cell? ⟨g, i * 5 + 2, none⟩ = some (.string x) ∧ Z.cell? ⟨g, i * 5 + 3, none⟩ = some (.string y) ∧ Z.cell? ⟨g, i * 5 + 4, none⟩ = some (.int .i64 e)) := fun Z hV => by
                have := fun j v hv => hV.cell i _ hx j v hv
                exact ⟨this 0 _ rfl, this 1 _ rfl, this 2 _ rfl, this 3 _ rfl, this 4 _ rfl⟩
              clear hx k1 k2 k3 k4 k5 hi hli
              obtain ⟨c0, c1, c2, c3, c4⟩ := HC.out _ hT.out
              have hTd := Lib.hid (hT.out.on (Below.refl _ _).drew)
              go_upto_region 21 with (fail)
              go_region_with (go_at_call 32; (with_reducible refine (HE.out _).mono ?_); rintro f w6 ⟨rfl, hb⟩; have T6 := Lib.hid (hTd.out.on hb); clear hb c0 c1 c2 c3 c4; obtain ⟨c0, c1, c2, c3, c4⟩ := HC.out _ T6.out)
              all_goals
                clear hT hTd HE
                (try go_wp2)
                go_roundw
                case rel => exact ⟨i + 1, by have := I0.out; omega, by go_num, T6⟩
                case measure => have := I0.out; simp [intOf]; omega
            · obtain rfl : i = 7 := by omega
              rw [show ((7 : Nat) : Int) = 7 from rfl]
              have B := Lib.hid hT.out.kn.below
              clear hT hi hli
              go_wp2
              go_ret
              exact ⟨rfl, B.out⟩
end Go.Proofs.Ytniccjbcchdkoaa
