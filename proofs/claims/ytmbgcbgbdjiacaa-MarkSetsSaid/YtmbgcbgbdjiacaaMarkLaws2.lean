/- The walks of MarkSets. -/
import Derived.Test.YtmbgcbgbdjiacaaMarkKnown
namespace Go.Proofs.Ytmbgcbgbdjiacaa
open Go.RowKit

set_option maxRecDepth 100000 in
set_option maxHeartbeats 4000000 in
theorem markSets_walk (s : K.Src) (m : K.M) (i : Int) (w : World) (hs : K.ArgOk w s) (fm : K.Fit m) (_ : 0 ≤ i) (_ : i ≤ 4294967295) :
    Calls Try.prog 4 #[.slice s.a s.x.length s.c, .agg #[.int .u32 m.id, .int .i64 m.at_, .int .u8 m.g], .int .u32 i] w fun e w' => e = .returned (.bool true) ∧ Below w.heap.size w w' := by
  have HK := J.hKnown
  have laS : s.x.length ≤ maxLen := by have := hs.fit; unfold maxLen; omega
  have hfS : J.Fits s.x := hs.fits
  have HOS := J.hOwn s.x hs.fit
  have Z : Hid (K.Kn w w [] [(s.a, s.x)]) := J.Kn.addm (J.Kn0 w) hs.row
  have nS : Hid ((s.a = none → s.c = 0) ∧ s.x.length ≤ s.c) := ⟨hs.nil, hs.cap⟩
  obtain ⟨oS, cS, S⟩ := s
  dsimp only at *
  clear hs
  have H1 := J.hSet' S m laS hfS fm
  have H2 := J.hDrp' S i laS hfS
  have G1 := J.hSet S m laS hfS fm
  have G2 := J.hDrp S i laS hfS
  have lA := J.setL_le S m
  have lB := J.drpL_le S i
  have SA := J.hSame (K.setL S m) (by unfold maxLen; omega)
  have SB := J.hSame (K.drpL S i) (by unfold maxLen; omega)
  have SS := J.hSame S laS
  have N1 := J.hFnd S i laS
  have N2 := J.hFnd' S i laS
  generalize K.setL S m = A at *
  generalize K.setE S m = E at *
  generalize K.drpL S i = B at *
  generalize K.drpE S i = F at *
  generalize K.fnd S i = X at *
  generalize (K.find S i).isSome = hX at *
  clear laS hfS fm
  have hrun := J.eqT X
  have Zb : Hid (K.Kn w (w.alloc (.cells #[.int .u32 m.id, .int .i64 m.at_, .int .u8 m.g] 32)) [] [(some ⟨w.heap.size, 0, none⟩, [m]), (oS, S)]) := J.mlit Z.out [m]
  clear Z
  go_enter Try.func4, Try.ntmps4
  go_upto_region 1 with (fail)
  generalize w.alloc (.cells #[.int .u32 m.id, .int .i64 m.at_, .int .u8 m.g] 32) = w0 at Zb ⊢
  go_wp2_with fail
  refine (HOS.out _ _ _ Zb.out.mt.m0 nS.out.1).mono ?_
  rintro e w1 ⟨v, rfl, hm⟩
  obtain ⟨ox, cx, hv, nx, Z1⟩ := J.mmade Zb.out hm
  subst hv
  clear hm Zb
  obtain ⟨x0, x1, x2⟩ := J.box Z1.out.mt.m0
  go_wp2_with fail
  refine (H1.out _ _ _ Z1.out.mt.mt.m0).mono ?_
  rintro e w2 ⟨v, rfl, hm⟩
  obtain ⟨owant, cwant, hv, nwant, Z2⟩ := J.mmade Z1.out hm
  subst hv
  clear hm Z1
  clear x0 x1 x2
  go_wp2_with fail
  refine (H2.out _ _ _ Z2.out.mt.mt.mt.m0).mono ?_
  rintro e w3 ⟨v, rfl, hm⟩
  obtain ⟨orest, crest, hv, nrest, Z3⟩ := J.mmade Z2.out hm
  subst hv
  clear hm Z2
  have ZL := Lib.hid Z3.out
  clear Z3
  go_wp2
  go_loopw [12] (fun i wr => ∃ n : Nat, n ≤ 2 ∧ i = .int .i64 n ∧ Hid (K.Kn w wr [] [(orest, B), (owant, A), (ox, S), (some ⟨w.heap.size, 0, none⟩, [m]), (oS, S)])) (fun i _ => 2 - (intOf i).toNat)
  case atStart => exact ⟨0, by omega, rfl, ZL.out⟩
  case round =>
    obtain ⟨n, hn, rfl, Z0⟩ := hrel
    clear ZL
    by_cases hlt : n < 2
    · have g1 : (n : Int) < 2 := by omega
      obtain ⟨x0, x1, x2⟩ := J.box Z0.out.mt.mt.mt.m0
      go_wp2_with fail
      refine (G1.out _ _ _ Z0.out.mt.mt.m0 nx.out.1).mono ?_
      rintro e w21 ⟨v, rfl, hm⟩
      obtain ⟨og, cg, hv, ng, Z21⟩ := J.mmade Z0.out hm
      subst hv
      have Gg := Lib.hid hm
      have Bg := Lib.hid Z0.out
      clear hm Z0
      clear x0 x1 x2
      go_wp2_with fail
      refine (G2.out _ _ _ Z21.out.mt.mt.mt.m0 nx.out.1).mono ?_
      rintro e w22 ⟨v, rfl, hm⟩
      obtain ⟨ol, cl, hv, nl, Z22⟩ := J.mmade Z21.out hm
      subst hv
      have Gl := Lib.hid hm
      have Bl := Lib.hid Z21.out
      clear hm Z21
      have O22 : Hid (J.Ow2 wr og cg A.length B (.slice ol B.length cl) w22) := J.Ow2.of Gg.out Gl.out
      clear Gg Gl Bl
      go_wp2_with fail
      refine (SA.out _ _ _ _ _ Z22.out.mt.m0 Z22.out.mt.mt.mt.m0).mono ?_
      rintro e w23 ⟨rfl, hb⟩
      have O23 := Lib.hid (O22.out.on hb)
      clear O22
      have Z23 := Lib.hid (Z22.out.on hb)
      clear hb Z22
      go_wp2_with fail
      refine (SB.out _ _ _ _ _ Z23.out.m0 Z23.out.mt.mt.m0).mono ?_
      rintro e w24 ⟨rfl, hb⟩
      have O24 := Lib.hid (O23.out.on hb)
      clear O23
      have Z24 := Lib.hid (Z23.out.on hb)
      clear hb Z23
      clear Z24
      obtain ⟨W0, rfl⟩ : ∃ W0 : World, W0 = wr := ⟨_, rfl⟩
      go_wp2
      go_loopw [17] (fun i wx => ∃ j : Nat, j ≤ A.length ∧ i = .int .i64 j ∧ Hid (J.Ow2 W0 og cg A.length B (.slice ol B.length cl) wx)) (fun i _ => A.length - (intOf i).toNat)
      case atStart => exact ⟨0, Nat.zero_le _, rfl, O24⟩
      case round =>
        obtain ⟨j, hj, rfl, hO⟩ := hrel
        clear O24
        by_cases hlt : j < A.length
        · obtain ⟨g, mm, e, ⟨_, c0, c1, c2, f0, f1, f2⟩, hp⟩ := hO.out.at hlt
          subst e
          have R := Lib.hid (hp ⟨77, -5, 0⟩)
          clear hO hp
          go_wp2
          go_roundw
          case rel => exact ⟨j + 1, by omega, by go_num, R⟩
          case measure => simp [intOf]; omega
        · obtain rfl : j = A.length := by omega
          have Z0 := Lib.hid (Bg.out.on hO.out.below)
          have rl := Lib.hid hO.out.less.row
          have O30 := Lib.hid (J.Ow.of hO.out.less)
          clear hO
          go_wp2_with fail
          refine (SB.out _ _ _ _ _ rl.out Z0.out.m0).mono ?_
          rintro e w31 ⟨rfl, hb⟩
          have O31 := Lib.hid (O30.out.on hb)
          clear hb Z0 O30 rl
          go_wp2
          go_loopw [18] (fun i wx => ∃ j : Nat, j ≤ B.length ∧ i = .int .i64 j ∧ Hid (J.Ow W0 ol cl B.length wx)) (fun i _ => B.length - (intOf i).toNat)
          case atStart => exact ⟨0, Nat.zero_le _, rfl, O31⟩
          case round =>
            obtain ⟨j, hj, rfl, hO⟩ := hrel
            clear O31
            by_cases hlt : j < B.length
            · obtain ⟨g, mm, e, ⟨_, c0, c1, c2, f0, f1, f2⟩, hp⟩ := hO.out.at hlt
              subst e
              have R := Lib.hid (hp ⟨78, -6, 0⟩)
              clear hO hp
              go_wp2
              go_roundw
              case rel => exact ⟨j + 1, by omega, by go_num, R⟩
              case measure => simp [intOf]; omega
            · obtain rfl : j = B.length := by omega
              have Z0 := Lib.hid (Bg.out.on hO.out.below)
              clear hO
              go_wp2_with fail
              refine (SS.out _ _ _ _ _ Z0.out.mt.mt.m0 Z0.out.mt.mt.mt.mt.m0).mono ?_
              rintro e w41 ⟨rfl, hb⟩
              have Z41 := Lib.hid (Z0.out.on hb)
              clear hb Z0
              go_wp2
              go_roundw
              case rel => exact ⟨n + 1, by omega, by go_num, Z41⟩
              case measure => simp [intOf]; omega
    · obtain rfl : n = 2 := by omega
      go_wp2_with fail
      refine (N1.out _ _ _ Z0.out.mt.mt.m0).mono ?_
      rintro e w51 ⟨rfl, hb⟩
      have Z51 := Lib.hid (Z0.out.on hb)
      clear hb Z0
      have Zc : Hid (K.Kn w (w51.alloc (.cells #[.int .u32 X.id, .int .i64 X.at_, .int .u8 X.g] 32)) [] ((some ⟨w51.heap.size, 0, none⟩, [X]) :: [(orest, B), (owant, A), (ox, S), (some ⟨w.heap.size, 0, none⟩, [m]), (oS, S)])) := J.mlit Z51.out [X]
      clear Z51
      obtain ⟨ba, hba⟩ : ∃ ba, ba = w51.heap.size := ⟨_, rfl⟩
      go_upto_region 24 with (fail)
      rw [← hba] at Zc ⊢
      generalize w51.alloc (.cells #[.int .u32 X.id, .int .i64 X.at_, .int .u8 X.g] 32) = wa at Zc ⊢
      clear hba
      go_wp2_with fail
      refine (N2.out _ _ _ Zc.out.mt.mt.mt.mt.mt.m0).mono ?_
      rintro e w61 ⟨rfl, hb⟩
      have Z61 := Lib.hid (Zc.out.on hb)
      clear hb Zc
      have Zd : Hid (K.Kn w (w61.alloc (.cells #[.int .u32 X.id, .int .i64 X.at_, .int .u8 X.g] 32)) [] ((some ⟨w61.heap.size, 0, none⟩, [X]) :: (some ⟨ba, 0, none⟩, [X]) :: [(orest, B), (owant, A), (ox, S), (some ⟨w.heap.size, 0, none⟩, [m]), (oS, S)])) := J.mlit Z61.out [X]
      clear Z61
      obtain ⟨bb, hbb⟩ : ∃ bb, bb = w61.heap.size := ⟨_, rfl⟩
      go_upto_region 25 with (fail)
      rw [← hbb] at Zd ⊢
      generalize w61.alloc (.cells #[.int .u32 X.id, .int .i64 X.at_, .int .u8 X.g] 32) = wb at Zd ⊢
      clear hbb
      obtain ⟨x0, x1, x2⟩ := J.box Zd.out.mt.m0
      obtain ⟨y0, y1, y2⟩ := J.box Zd.out.m0
      go_wp2_with fail
      refine (SS.out _ _ _ _ _ Zd.out.mt.mt.mt.mt.m0 Zd.out.mt.mt.mt.mt.mt.mt.m0).mono ?_
      rintro e w71 ⟨rfl, hb⟩
      have Z71 := Lib.hid (Zd.out.on hb)
      clear hb Zd
      clear x0 x1 x2 y0 y1 y2
      have KB := Lib.hid Z71.out.below
      clear Z71
      go_wp2_with fail
      refine (HK.out _).mono ?_
      rintro e wk ⟨rfl, hb⟩
      have KC := Lib.hid (KB.out.trans (hb.mono KB.out.size))
      clear hb
      go_wp2
      go_ret
      exact ⟨rfl, KC.out⟩
end Go.Proofs.Ytmbgcbgbdjiacaa
