/- The walk of ComposeGroups. -/
import Derived.Test.YteondigaklonpaaComposeLawKit
namespace Go.Proofs.Yteondigaklonpaa
open Go.RowKit

set_option maxRecDepth 100000 in
set_option maxHeartbeats 4000000 in
theorem composeGroups_walk (s r q : D.Src) (w : World) (hs : D.ArgOk w s) (hr : D.ArgOk w r) (hq : D.ArgOk w q) :
    Calls Try.prog 7 #[.slice s.a s.x.length s.c, .slice r.a r.x.length r.c, .slice q.a q.x.length q.c] w fun e w' => e = .returned (.bool true) ∧ Below w.heap.size w w' := by
  have HA := C.hOwn s.x hs.fit
  have HB := C.hOwn r.x hr.fit
  have HC := C.hOwn q.x hq.fit
  have H1 := C.hCmp s.x r.x (C.bd_arg hs) (C.bd_arg hr)
  have H2 := C.hCmp r.x q.x (C.bd_arg hr) (C.bd_arg hq)
  have HK := C.hKnown
  have K : Hid (D.Kn w w [(s.a, s.x), (r.a, r.x), (q.a, q.x)]) := ⟨Below.refl _ _, fun x hx => by
    simp at hx
    rcases hx with rfl | rfl | rfl
    · exact hs.src.row
    · exact hr.src.row
    · exact hq.src.row⟩
  have nS : Hid ((s.a = none → s.c = 0) ∧ s.x.length ≤ s.c) := ⟨hs.src.nil, hs.cap⟩
  have nR : Hid ((r.a = none → r.c = 0) ∧ r.x.length ≤ r.c) := ⟨hr.src.nil, hr.cap⟩
  have nQ : Hid ((q.a = none → q.c = 0) ∧ q.x.length ≤ q.c) := ⟨hq.src.nil, hq.cap⟩
  by_cases h1 : D.cmpE s.x r.x = 0
  · by_cases h2 : D.cmpE r.x q.x = 0
    · have g := D.grp5 h1 h2
      have H3 := C.hCmp (D.cmpP s.x r.x) q.x (C.cmp_bd _ _) (C.bd_arg hq)
      have H4 := C.hCmp s.x (D.cmpP r.x q.x) (C.bd_arg hs) (C.cmp_bd _ _)
      have H5 := C.hNorm s.x g.a
      have H6 := C.hNorm r.x g.b
      have H7 := C.hCmp (D.normP s.x) (D.normP r.x) (D.bd_of (D.chk_normP g.a)) (D.bd_of (D.chk_normP g.b))
      have S1 := C.hSame (D.cmpP s.x (D.cmpP r.x q.x)) (C.cmp_bd _ _).1
      have S2 := C.hSame (D.cmpP s.x r.x) (C.cmp_bd _ _).1
      rw [h1] at H1
      rw [h2] at H2
      rw [g.e, g.p] at H3
      rw [g.n, g.m] at H7
      obtain ⟨oS, cS, S⟩ := s
      obtain ⟨oR, cR, R⟩ := r
      obtain ⟨oQ, cQ, Q⟩ := q
      dsimp only at *
      generalize D.cmpP S R = AB at H1 H3 H7 S2 H4
      generalize D.cmpP R Q = BC at H2 H3 H4 S1
      generalize D.cmpP S BC = X at H3 H4 S1
      generalize D.cmpE S BC = k at H3 H4
      generalize D.normP S = N1 at H5 H7
      generalize D.normP R = N2 at H6 H7
      clear hs hr hq h1 h2 g
      go_enter Try.func7, Try.ntmps7
      go_wp2_with fail
      refine (HA.out _ _ _ K.out.r0 nS.out.1).mono ?_
      rintro e w1 ⟨v, rfl, hm⟩
      obtain ⟨ox1, cx1, hv, nx1, K1⟩ := C.made5 K.out hm
      subst hv
      clear hm K
      go_wp2_with fail
      refine (HB.out _ _ _ K1.out.tl.tl.r0 nR.out.1).mono ?_
      rintro e w2 ⟨v, rfl, hm⟩
      obtain ⟨oy1, cy1, hv, ny1, K2⟩ := C.made5 K1.out hm
      subst hv
      clear hm K1
      go_wp2_with fail
      refine (H1.out _ _ _ _ _ K2.out.tl.r0 K2.out.r0 nx1.out.2 ny1.out.2).mono ?_
      rintro e w3 ⟨v, rfl, hm⟩
      obtain ⟨oab, cab, hv, nab, K3⟩ := C.made5 K2.out hm
      subst hv
      clear hm K2
      go_wp2_with fail
      refine (HB.out _ _ _ K3.out.tl.tl.tl.tl.r0 nR.out.1).mono ?_
      rintro e w4 ⟨v, rfl, hm⟩
      obtain ⟨oy2, cy2, hv, ny2, K4⟩ := C.made5 K3.out hm
      subst hv
      clear hm K3
      go_wp2_with fail
      refine (HC.out _ _ _ K4.out.tl.tl.tl.tl.tl.tl.r0 nQ.out.1).mono ?_
      rintro e w5 ⟨v, rfl, hm⟩
      obtain ⟨oz2, cz2, hv, nz2, K5⟩ := C.made5 K4.out hm
      subst hv
      clear hm K4
      go_wp2_with fail
      refine (H2.out _ _ _ _ _ K5.out.tl.r0 K5.out.r0 ny2.out.2 nz2.out.2).mono ?_
      rintro e w6 ⟨v, rfl, hm⟩
      obtain ⟨obc, cbc, hv, nbc, K6⟩ := C.made5 K5.out hm
      subst hv
      clear hm K5
      go_wp2_with fail
      refine (HC.out _ _ _ K6.out.tl.tl.tl.tl.tl.tl.tl.tl.r0 nQ.out.1).mono ?_
      rintro e w7 ⟨v, rfl, hm⟩
      obtain ⟨oz3, cz3, hv, nz3, K7⟩ := C.made5 K6.out hm
      subst hv
      clear hm K6
      go_wp2_with fail
      refine (H3.out _ _ _ _ _ K7.out.tl.tl.tl.tl.r0 K7.out.r0 nab.out.2 nz3.out.2).mono ?_
      rintro e w8 ⟨v, rfl, hm⟩
      obtain ⟨ox, cx, hv, nx, K8⟩ := C.made5 K7.out hm
      subst hv
      clear hm K7
      go_wp2_with fail
      refine (HA.out _ _ _ K8.out.tl.tl.tl.tl.tl.tl.tl.tl.r0 nS.out.1).mono ?_
      rintro e w9 ⟨v, rfl, hm⟩
      obtain ⟨ox4, cx4, hv, nx4, K9⟩ := C.made5 K8.out hm
      subst hv
      clear hm K8
      go_wp2_with fail
      refine (H4.out _ _ _ _ _ K9.out.r0 K9.out.tl.tl.tl.r0 nx4.out.2 nbc.out.2).mono ?_
      rintro e w10 ⟨v, rfl, hm⟩
      obtain ⟨oy, cy, hv, ny, K10⟩ := C.made5 K9.out hm
      subst hv
      clear hm K9
      go_wp2_with fail
      refine (HA.out _ _ _ K10.out.tl.tl.tl.tl.tl.tl.tl.tl.tl.tl.r0 nS.out.1).mono ?_
      rintro e w11 ⟨v, rfl, hm⟩
      obtain ⟨ox5, cx5, hv, nx5, K11⟩ := C.made5 K10.out hm
      subst hv
      clear hm K10
      go_wp2_with fail
      refine (H5.out _ _ _ K11.out.r0).mono ?_
      rintro e w12 ⟨v, rfl, hm⟩
      obtain ⟨on0, cn0, hv, nn0, K12⟩ := C.made5 K11.out hm
      subst hv
      clear hm K11
      go_wp2_with fail
      refine (HB.out _ _ _ K12.out.tl.tl.tl.tl.tl.tl.tl.tl.tl.tl.tl.tl.tl.r0 nR.out.1).mono ?_
      rintro e w13 ⟨v, rfl, hm⟩
      obtain ⟨oy5, cy5, hv, ny5, K13⟩ := C.made5 K12.out hm
      subst hv
      clear hm K12
      go_wp2_with fail
      refine (H6.out _ _ _ K13.out.r0).mono ?_
      rintro e w14 ⟨v, rfl, hm⟩
      obtain ⟨om0, cm0, hv, nm0, K14⟩ := C.made5 K13.out hm
      subst hv
      clear hm K13
      go_wp2_with fail
      refine (H7.out _ _ _ _ _ K14.out.tl.tl.r0 K14.out.r0 nn0.out.2 nm0.out.2).mono ?_
      rintro e w15 ⟨v, rfl, hm⟩
      obtain ⟨oz, cz, hv, nz, K15⟩ := C.made5 K14.out hm
      subst hv
      clear hm K14
      go_wp2_with fail
      refine (S1.out _ _ _ _ _ K15.out.tl.tl.tl.tl.tl.tl.tl.r0 K15.out.tl.tl.tl.tl.tl.r0).mono ?_
      rintro e w16 ⟨rfl, hb⟩
      have K16 := Lib.hid (K15.out.on hb)
      clear hb K15
      go_wp2_with fail
      refine (S2.out _ _ _ _ _ K16.out.r0 K16.out.tl.tl.tl.tl.tl.tl.tl.tl.tl.tl.tl.tl.r0).mono ?_
      rintro e w17 ⟨rfl, hb⟩
      have K17 := Lib.hid (K16.out.on hb)
      clear hb K16
      have KB := Lib.hid K17.out.below
      clear K17
      go_wp2_with fail
      refine (HK.out _).mono ?_
      rintro e wk ⟨rfl, hb⟩
      have KC := Lib.hid (KB.out.trans (hb.mono KB.out.size))
      clear hb
      go_wp2
      go_ret
      exact ⟨rfl, KC.out⟩
    · have q2 : (D.cmpE r.x q.x != 0) = true := by simpa using h2
      rw [h1] at H1
      obtain ⟨oS, cS, S⟩ := s
      obtain ⟨oR, cR, R⟩ := r
      obtain ⟨oQ, cQ, Q⟩ := q
      dsimp only at *
      generalize D.cmpP S R = AB at H1
      generalize D.cmpP R Q = BC at H2
      generalize D.cmpE R Q = k at H2 q2
      clear hs hr hq h1 h2
      go_enter Try.func7, Try.ntmps7
      go_wp2_with fail
      refine (HA.out _ _ _ K.out.r0 nS.out.1).mono ?_
      rintro e w1 ⟨v, rfl, hm⟩
      obtain ⟨ox1, cx1, hv, nx1, K1⟩ := C.made5 K.out hm
      subst hv
      clear hm K
      go_wp2_with fail
      refine (HB.out _ _ _ K1.out.tl.tl.r0 nR.out.1).mono ?_
      rintro e w2 ⟨v, rfl, hm⟩
      obtain ⟨oy1, cy1, hv, ny1, K2⟩ := C.made5 K1.out hm
      subst hv
      clear hm K1
      go_wp2_with fail
      refine (H1.out _ _ _ _ _ K2.out.tl.r0 K2.out.r0 nx1.out.2 ny1.out.2).mono ?_
      rintro e w3 ⟨v, rfl, hm⟩
      obtain ⟨oab, cab, hv, nab, K3⟩ := C.made5 K2.out hm
      subst hv
      clear hm K2
      go_wp2_with fail
      refine (HB.out _ _ _ K3.out.tl.tl.tl.tl.r0 nR.out.1).mono ?_
      rintro e w4 ⟨v, rfl, hm⟩
      obtain ⟨oy2, cy2, hv, ny2, K4⟩ := C.made5 K3.out hm
      subst hv
      clear hm K3
      go_wp2_with fail
      refine (HC.out _ _ _ K4.out.tl.tl.tl.tl.tl.tl.r0 nQ.out.1).mono ?_
      rintro e w5 ⟨v, rfl, hm⟩
      obtain ⟨oz2, cz2, hv, nz2, K5⟩ := C.made5 K4.out hm
      subst hv
      clear hm K4
      go_wp2_with fail
      refine (H2.out _ _ _ _ _ K5.out.tl.r0 K5.out.r0 ny2.out.2 nz2.out.2).mono ?_
      rintro e w6 ⟨v, rfl, hm⟩
      obtain ⟨obc, cbc, hv, nbc, K6⟩ := C.made5 K5.out hm
      subst hv
      clear hm K5
      have KB := Lib.hid K6.out.below
      clear K6
      go_wp2_with fail
      refine (HK.out _).mono ?_
      rintro e wk ⟨rfl, hb⟩
      have KC := Lib.hid (KB.out.trans (hb.mono KB.out.size))
      clear hb
      go_wp2
      go_ret
      exact ⟨rfl, KC.out⟩
  · have q1 : (D.cmpE s.x r.x != 0) = true := by simpa using h1
    obtain ⟨oS, cS, S⟩ := s
    obtain ⟨oR, cR, R⟩ := r
    obtain ⟨oQ, cQ, Q⟩ := q
    dsimp only at *
    generalize D.cmpP S R = AB at H1
    generalize D.cmpP R Q = BC at H2
    generalize D.cmpE R Q = k at H2
    generalize D.cmpE S R = j at H1 q1
    clear hs hr hq h1
    go_enter Try.func7, Try.ntmps7
    go_wp2_with fail
    refine (HA.out _ _ _ K.out.r0 nS.out.1).mono ?_
    rintro e w1 ⟨v, rfl, hm⟩
    obtain ⟨ox1, cx1, hv, nx1, K1⟩ := C.made5 K.out hm
    subst hv
    clear hm K
    go_wp2_with fail
    refine (HB.out _ _ _ K1.out.tl.tl.r0 nR.out.1).mono ?_
    rintro e w2 ⟨v, rfl, hm⟩
    obtain ⟨oy1, cy1, hv, ny1, K2⟩ := C.made5 K1.out hm
    subst hv
    clear hm K1
    go_wp2_with fail
    refine (H1.out _ _ _ _ _ K2.out.tl.r0 K2.out.r0 nx1.out.2 ny1.out.2).mono ?_
    rintro e w3 ⟨v, rfl, hm⟩
    obtain ⟨oab, cab, hv, nab, K3⟩ := C.made5 K2.out hm
    subst hv
    clear hm K2
    go_wp2_with fail
    refine (HB.out _ _ _ K3.out.tl.tl.tl.tl.r0 nR.out.1).mono ?_
    rintro e w4 ⟨v, rfl, hm⟩
    obtain ⟨oy2, cy2, hv, ny2, K4⟩ := C.made5 K3.out hm
    subst hv
    clear hm K3
    go_wp2_with fail
    refine (HC.out _ _ _ K4.out.tl.tl.tl.tl.tl.tl.r0 nQ.out.1).mono ?_
    rintro e w5 ⟨v, rfl, hm⟩
    obtain ⟨oz2, cz2, hv, nz2, K5⟩ := C.made5 K4.out hm
    subst hv
    clear hm K4
    go_wp2_with fail
    refine (H2.out _ _ _ _ _ K5.out.tl.r0 K5.out.r0 ny2.out.2 nz2.out.2).mono ?_
    rintro e w6 ⟨v, rfl, hm⟩
    obtain ⟨obc, cbc, hv, nbc, K6⟩ := C.made5 K5.out hm
    subst hv
    clear hm K5
    have KB := Lib.hid K6.out.below
    clear K6
    go_wp2_with fail
    refine (HK.out _).mono ?_
    rintro e wk ⟨rfl, hb⟩
    have KC := Lib.hid (KB.out.trans (hb.mono KB.out.size))
    clear hb
    go_wp2
    go_ret
    exact ⟨rfl, KC.out⟩
end Go.Proofs.Yteondigaklonpaa
