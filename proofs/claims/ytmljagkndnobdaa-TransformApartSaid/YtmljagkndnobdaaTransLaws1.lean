/- The walks of TransformPairs, TransformApart, TransformNeutral, TransformForms, TransformSplits. -/
import Derived.Test.YtmljagkndnobdaaTransLawKit
namespace Go.Proofs.Ytmljagkndnobdaa
open Go.RowKit

set_option maxRecDepth 100000 in
set_option maxHeartbeats 4000000 in
theorem transformPairs_walk (s r : D.Src) (w : World) (hs : D.ArgOk w s) (hr : D.ArgOk w r) :
    Calls Try.prog 4 #[.slice s.a s.x.length s.c, .slice r.a r.x.length r.c] w fun e w' => e = .returned (.bool true) ∧ Below w.heap.size w w' := by
  have HA := L.hOwn s.x hs.fit
  have HB := L.hOwn r.x hr.fit
  have HK := L.hKnown7
  have K : Hid (D.Kn w w [(s.a, s.x), (r.a, r.x)]) := ⟨Below.refl _ _, fun x hx => by
    simp at hx
    rcases hx with rfl | rfl
    · exact hs.src.row
    · exact hr.src.row⟩
  have nS : Hid ((s.a = none → s.c = 0) ∧ s.x.length ≤ s.c) := ⟨hs.src.nil, hs.cap⟩
  have nR : Hid ((r.a = none → r.c = 0) ∧ r.x.length ≤ r.c) := ⟨hr.src.nil, hr.cap⟩
  have G1 := L.hLarge s.x (L.bd_arg hs) hs.num
  have G2 := L.hLarge r.x (L.bd_arg hr) hr.num
  have bS := L.bd_arg hs
  have bR := L.bd_arg hr
  obtain ⟨oS, cS, S⟩ := s
  obtain ⟨oR, cR, R⟩ := r
  dsimp only at *
  clear hs hr
  cases hg1 : D.large S with
  | true =>
    rw [hg1] at G1
    clear hg1 bS bR
    go_enter Try.func4, Try.ntmps4
    go_wp2_with fail
    refine (G1.out _ _ _ K.out.r0).mono ?_
    rintro e w1 ⟨rfl, hb⟩
    have K1 := Lib.hid (K.out.on hb)
    clear hb K
    have KB := Lib.hid K1.out.below
    clear K1
    go_wp2_with fail
    refine (HK.out _).mono ?_
    rintro e wk ⟨rfl, hb⟩
    have KC := Lib.hid (KB.out.trans (hb.mono KB.out.size))
    clear hb
    go_wp2
    go_ret
    exact ⟨rfl, KC.out⟩
  | false =>
    rw [hg1] at G1
    cases hg2 : D.large R with
    | true =>
      rw [hg2] at G2
      clear hg1 hg2 bS bR
      go_enter Try.func4, Try.ntmps4
      go_wp2_with fail
      refine (G1.out _ _ _ K.out.r0).mono ?_
      rintro e w1 ⟨rfl, hb⟩
      have K1 := Lib.hid (K.out.on hb)
      clear hb K
      go_wp2_with fail
      refine (G2.out _ _ _ K1.out.tl.r0).mono ?_
      rintro e w2 ⟨rfl, hb⟩
      have K2 := Lib.hid (K1.out.on hb)
      clear hb K1
      have KB := Lib.hid K2.out.below
      clear K2
      go_wp2_with fail
      refine (HK.out _).mono ?_
      rintro e wk ⟨rfl, hb⟩
      have KC := Lib.hid (KB.out.trans (hb.mono KB.out.size))
      clear hb
      go_wp2
      go_ret
      exact ⟨rfl, KC.out⟩
    | false =>
      rw [hg2] at G2
      have sm := L.sm_of hg1 hg2
      have H1 := L.hPr S R bS bR
      have H2 := L.hPr' S R bS bR sm
      have H3 := L.hMr S R bS bR
      have H4 := L.hMr' S R bS bR sm (fun b => by have := (L.large_bd b.a hg1).1; omega)
      have S1 := L.hSame (D.prA S R) (T.pr_bd S R).1.1
      have S2 := L.hSame (D.prB S R) (T.pr_bd S R).2.1
      have S3 := L.hSame (D.mrP S R) (T.mr_bd S R).1
      have S4 := L.hSame S bS.1
      have S5 := L.hSame R bR.1
      generalize D.prA S R = PA at *
      generalize D.prB S R = PB at *
      generalize D.mrP S R = PM at *
      generalize D.prE S R = k1 at *
      generalize D.mrE S R = k2 at *
      clear sm
      clear hg1 hg2 bS bR
      go_enter Try.func4, Try.ntmps4
      go_wp2_with fail
      refine (G1.out _ _ _ K.out.r0).mono ?_
      rintro e w1 ⟨rfl, hb⟩
      have K1 := Lib.hid (K.out.on hb)
      clear hb K
      go_wp2_with fail
      refine (G2.out _ _ _ K1.out.tl.r0).mono ?_
      rintro e w2 ⟨rfl, hb⟩
      have K2 := Lib.hid (K1.out.on hb)
      clear hb K1
      go_wp2_with fail
      refine (HA.out _ _ _ K2.out.r0 nS.out.1).mono ?_
      rintro e w3 ⟨v, rfl, hm⟩
      obtain ⟨ox, cx, hv, nx, K3⟩ := L.made5 K2.out hm
      subst hv
      clear hm K2
      go_wp2_with fail
      refine (HB.out _ _ _ K3.out.tl.tl.r0 nR.out.1).mono ?_
      rintro e w4 ⟨v, rfl, hm⟩
      obtain ⟨oy, cy, hv, ny, K4⟩ := L.made5 K3.out hm
      subst hv
      clear hm K3
      go_wp2_with fail
      refine (H1.out _ _ _ _ _ K4.out.tl.r0 K4.out.r0).mono ?_
      rintro e w5 ⟨v, u, rfl, hm, hm2⟩
      obtain ⟨op, cp, oq, cq, hv, hv2, np, nq, K5⟩ := L.made6 K4.out hm hm2
      subst hv hv2
      clear hm hm2 K4
      go_wp2_with fail
      refine (H2.out _ _ _ _ _ K5.out.tl.tl.tl.tl.r0 K5.out.tl.tl.tl.tl.tl.r0).mono ?_
      rintro e w6 ⟨v, u, rfl, hm, hm2⟩
      obtain ⟨or, cr, os, cs, hv, hv2, nr, ns, K6⟩ := L.made6 K5.out hm hm2
      subst hv hv2
      clear hm hm2 K5
      go_wp2_with fail
      refine (H3.out _ _ _ _ _ K6.out.tl.tl.tl.tl.tl.r0 K6.out.tl.tl.tl.tl.r0 nx.out.2 ny.out.2).mono ?_
      rintro e w7 ⟨v, rfl, hm⟩
      obtain ⟨om, cm, hv, nm, K7⟩ := L.made5 K6.out hm
      subst hv
      clear hm K6
      go_wp2_with fail
      refine (H4.out _ _ _ _ _ K7.out.tl.tl.tl.tl.tl.tl.tl.r0 K7.out.tl.tl.tl.tl.tl.tl.tl.tl.r0).mono ?_
      rintro e w8 ⟨v, rfl, hm⟩
      obtain ⟨on, cn, hv, nn, K8⟩ := L.made5 K7.out hm
      subst hv
      clear hm K7
      go_wp2_with fail
      refine (S1.out _ _ _ _ _ K8.out.tl.tl.tl.tl.tl.r0 K8.out.tl.tl.tl.r0).mono ?_
      rintro e w9 ⟨rfl, hb⟩
      have K9 := Lib.hid (K8.out.on hb)
      clear hb K8
      go_wp2_with fail
      refine (S2.out _ _ _ _ _ K9.out.tl.tl.tl.tl.r0 K9.out.tl.tl.r0).mono ?_
      rintro e w10 ⟨rfl, hb⟩
      have K10 := Lib.hid (K9.out.on hb)
      clear hb K9
      go_wp2_with fail
      refine (S3.out _ _ _ _ _ K10.out.tl.r0 K10.out.r0).mono ?_
      rintro e w11 ⟨rfl, hb⟩
      have K11 := Lib.hid (K10.out.on hb)
      clear hb K10
      go_wp2_with fail
      refine (S4.out _ _ _ _ _ K11.out.tl.tl.tl.tl.tl.tl.tl.r0 K11.out.tl.tl.tl.tl.tl.tl.tl.tl.r0).mono ?_
      rintro e w12 ⟨rfl, hb⟩
      have K12 := Lib.hid (K11.out.on hb)
      clear hb K11
      go_wp2_with fail
      refine (S5.out _ _ _ _ _ K12.out.tl.tl.tl.tl.tl.tl.r0 K12.out.tl.tl.tl.tl.tl.tl.tl.tl.tl.r0).mono ?_
      rintro e w13 ⟨rfl, hb⟩
      have K13 := Lib.hid (K12.out.on hb)
      clear hb K12
      have KB := Lib.hid K13.out.below
      clear K13
      go_wp2_with fail
      refine (HK.out _).mono ?_
      rintro e wk ⟨rfl, hb⟩
      have KC := Lib.hid (KB.out.trans (hb.mono KB.out.size))
      clear hb
      go_wp2
      go_ret
      exact ⟨rfl, KC.out⟩
set_option maxRecDepth 100000 in
set_option maxHeartbeats 4000000 in
theorem transformApart_walk (s r : D.Src) (w : World) (hs : D.ArgOk w s) (hr : D.ArgOk w r) :
    Calls Try.prog 6 #[.slice s.a s.x.length s.c, .slice r.a r.x.length r.c] w fun e w' => e = .returned (.bool true) ∧ Below w.heap.size w w' := by
  have HA := L.hOwn s.x hs.fit
  have HB := L.hOwn r.x hr.fit
  have HK := L.hKnown7
  have K : Hid (D.Kn w w [(s.a, s.x), (r.a, r.x)]) := ⟨Below.refl _ _, fun x hx => by
    simp at hx
    rcases hx with rfl | rfl
    · exact hs.src.row
    · exact hr.src.row⟩
  have nS : Hid ((s.a = none → s.c = 0) ∧ s.x.length ≤ s.c) := ⟨hs.src.nil, hs.cap⟩
  have nR : Hid ((r.a = none → r.c = 0) ∧ r.x.length ≤ r.c) := ⟨hr.src.nil, hr.cap⟩
  have G1 := L.hLarge s.x (L.bd_arg hs) hs.num
  have G2 := L.hLarge r.x (L.bd_arg hr) hr.num
  have bS := L.bd_arg hs
  have bR := L.bd_arg hr
  obtain ⟨oS, cS, S⟩ := s
  obtain ⟨oR, cR, R⟩ := r
  dsimp only at *
  clear hs hr
  cases hg1 : D.large S with
  | true =>
    rw [hg1] at G1
    clear hg1 bS bR
    go_enter Try.func6, Try.ntmps6
    go_wp2_with fail
    refine (G1.out _ _ _ K.out.r0).mono ?_
    rintro e w1 ⟨rfl, hb⟩
    have K1 := Lib.hid (K.out.on hb)
    clear hb K
    have KB := Lib.hid K1.out.below
    clear K1
    go_wp2_with fail
    refine (HK.out _).mono ?_
    rintro e wk ⟨rfl, hb⟩
    have KC := Lib.hid (KB.out.trans (hb.mono KB.out.size))
    clear hb
    go_wp2
    go_ret
    exact ⟨rfl, KC.out⟩
  | false =>
    rw [hg1] at G1
    cases hg2 : D.large R with
    | true =>
      rw [hg2] at G2
      clear hg1 hg2 bS bR
      go_enter Try.func6, Try.ntmps6
      go_wp2_with fail
      refine (G1.out _ _ _ K.out.r0).mono ?_
      rintro e w1 ⟨rfl, hb⟩
      have K1 := Lib.hid (K.out.on hb)
      clear hb K
      go_wp2_with fail
      refine (G2.out _ _ _ K1.out.tl.r0).mono ?_
      rintro e w2 ⟨rfl, hb⟩
      have K2 := Lib.hid (K1.out.on hb)
      clear hb K1
      have KB := Lib.hid K2.out.below
      clear K2
      go_wp2_with fail
      refine (HK.out _).mono ?_
      rintro e wk ⟨rfl, hb⟩
      have KC := Lib.hid (KB.out.trans (hb.mono KB.out.size))
      clear hb
      go_wp2
      go_ret
      exact ⟨rfl, KC.out⟩
    | false =>
      rw [hg2] at G2
      have H1 := L.hDs S R bS bR
      have H2 := L.hDs' S R bS bR
      have S4 := L.hSame S bS.1
      have S5 := L.hSame R bR.1
      generalize D.dsB S R = b1 at *
      generalize D.bas2 S R = k1 at *
      clear hg1 hg2 bS bR
      go_enter Try.func6, Try.ntmps6
      go_wp2_with fail
      refine (G1.out _ _ _ K.out.r0).mono ?_
      rintro e w1 ⟨rfl, hb⟩
      have K1 := Lib.hid (K.out.on hb)
      clear hb K
      go_wp2_with fail
      refine (G2.out _ _ _ K1.out.tl.r0).mono ?_
      rintro e w2 ⟨rfl, hb⟩
      have K2 := Lib.hid (K1.out.on hb)
      clear hb K1
      go_wp2_with fail
      refine (HA.out _ _ _ K2.out.r0 nS.out.1).mono ?_
      rintro e w3 ⟨v, rfl, hm⟩
      obtain ⟨ox, cx, hv, nx, K3⟩ := L.made5 K2.out hm
      subst hv
      clear hm K2
      go_wp2_with fail
      refine (HB.out _ _ _ K3.out.tl.tl.r0 nR.out.1).mono ?_
      rintro e w4 ⟨v, rfl, hm⟩
      obtain ⟨oy, cy, hv, ny, K4⟩ := L.made5 K3.out hm
      subst hv
      clear hm K3
      go_wp2_with fail
      refine (H1.out _ _ _ _ _ K4.out.tl.r0 K4.out.r0).mono ?_
      rintro e w5 ⟨rfl, hb⟩
      have K5 := Lib.hid (K4.out.on hb)
      clear hb K4
      go_wp2_with fail
      refine (H2.out _ _ _ _ _ K5.out.tl.tl.r0 K5.out.tl.tl.tl.r0).mono ?_
      rintro e w6 ⟨rfl, hb⟩
      have K6 := Lib.hid (K5.out.on hb)
      clear hb K5
      go_wp2_with fail
      refine (S4.out _ _ _ _ _ K6.out.tl.r0 K6.out.tl.tl.r0).mono ?_
      rintro e w7 ⟨rfl, hb⟩
      have K7 := Lib.hid (K6.out.on hb)
      clear hb K6
      go_wp2_with fail
      refine (S5.out _ _ _ _ _ K7.out.r0 K7.out.tl.tl.tl.r0).mono ?_
      rintro e w8 ⟨rfl, hb⟩
      have K8 := Lib.hid (K7.out.on hb)
      clear hb K7
      have KB := Lib.hid K8.out.below
      clear K8
      go_wp2_with fail
      refine (HK.out _).mono ?_
      rintro e wk ⟨rfl, hb⟩
      have KC := Lib.hid (KB.out.trans (hb.mono KB.out.size))
      clear hb
      go_wp2
      go_ret
      exact ⟨rfl, KC.out⟩
set_option maxRecDepth 100000 in
set_option maxHeartbeats 4000000 in
theorem transformNeutral_walk (s : D.Src) (f : Bool) (w : World) (hs : D.ArgOk w s) :
    Calls Try.prog 8 #[.slice s.a s.x.length s.c, .bool f] w fun e w' => e = .returned (.bool true) ∧ Below w.heap.size w w' := by
  have HA := L.hOwn s.x hs.fit
  have HK := L.hKnown7
  have H1 := L.hLen s.x (L.bd_arg hs)
  have K : Hid (D.Kn w w [(s.a, s.x)]) := ⟨Below.refl _ _, fun x hx => by simp at hx; subst hx; exact hs.src.row⟩
  have nS : Hid ((s.a = none → s.c = 0) ∧ s.x.length ≤ s.c) := ⟨hs.src.nil, hs.cap⟩
  by_cases h0 : D.chk s.x = 0
  · obtain ⟨n, m, l1, l2, n1, m1, e1, e2, e3, e4⟩ := D.neutral7 h0 f
    rw [h0, l1, l2] at H1
    have H2 := L.hNorm s.x h0
    have I1 := L.hId n n1
    have I2 := L.hId m m1
    have bi : D.Bd (D.idP n) := D.bd_of (D.idP_qs n1).2.2.1
    have H3 := L.hTr f (D.idP n) s.x bi (L.bd_arg hs)
    have H4 := L.hTr f s.x (D.idP n) (L.bd_arg hs) bi
    rw [e1, e2] at H3
    rw [e3, e4] at H4
    have S1 := L.hSame (D.normP s.x) (D.bd_of (D.chk_normP h0)).1
    have S2 := L.hSame (D.idP m) (D.bd_of (D.idP_qs m1).2.2.1).1
    clear h0 l1 l2 n1 m1 e1 e2 e3 e4 bi
    obtain ⟨oS, cS, S⟩ := s
    dsimp only at *
    generalize D.normP S = NP at *
    generalize D.idP n = IN at *
    generalize D.idP m = IM at *
    clear hs
    go_enter Try.func8, Try.ntmps8
    go_wp2_with fail
    refine (HA.out _ _ _ K.out.r0 nS.out.1).mono ?_
    rintro e w1 ⟨v, rfl, hm⟩
    obtain ⟨ox0, cx0, hv, nx0, K1⟩ := L.made5 K.out hm
    subst hv
    clear hm K
    go_wp2_with fail
    refine (H1.out _ _ _ K1.out.r0).mono ?_
    rintro e w2 ⟨rfl, hb⟩
    have K2 := Lib.hid (K1.out.on hb)
    clear hb K1
    go_wp2_with fail
    refine (HA.out _ _ _ K2.out.tl.r0 nS.out.1).mono ?_
    rintro e w3 ⟨v, rfl, hm⟩
    obtain ⟨ox1, cx1, hv, nx1, K3⟩ := L.made5 K2.out hm
    subst hv
    clear hm K2
    go_wp2_with fail
    refine (H2.out _ _ _ K3.out.r0).mono ?_
    rintro e w4 ⟨v, rfl, hm⟩
    obtain ⟨on, cn, hv, nn, K4⟩ := L.made5 K3.out hm
    subst hv
    clear hm K3
    go_wp2_with fail
    refine (I1.out _).mono ?_
    rintro e w5 ⟨v, rfl, hm⟩
    obtain ⟨oa, ca, hv, na, K5⟩ := L.made5 K4.out hm
    subst hv
    clear hm K4
    go_wp2_with fail
    refine (I2.out _).mono ?_
    rintro e w6 ⟨v, rfl, hm⟩
    obtain ⟨ob, cb, hv, nb, K6⟩ := L.made5 K5.out hm
    subst hv
    clear hm K5
    go_wp2_with fail
    refine (HA.out _ _ _ K6.out.tl.tl.tl.tl.tl.r0 nS.out.1).mono ?_
    rintro e w7 ⟨v, rfl, hm⟩
    obtain ⟨ox2, cx2, hv, nx2, K7⟩ := L.made5 K6.out hm
    subst hv
    clear hm K6
    go_wp2_with fail
    refine (H3.out _ _ _ _ _ K7.out.tl.tl.r0 K7.out.r0).mono ?_
    rintro e w8 ⟨v, rfl, hm⟩
    obtain ⟨ox, cx, hv, nx, K8⟩ := L.made5 K7.out hm
    subst hv
    clear hm K7
    go_wp2_with fail
    refine (HA.out _ _ _ K8.out.tl.tl.tl.tl.tl.tl.tl.r0 nS.out.1).mono ?_
    rintro e w9 ⟨v, rfl, hm⟩
    obtain ⟨ox3, cx3, hv, nx3, K9⟩ := L.made5 K8.out hm
    subst hv
    clear hm K8
    go_wp2_with fail
    refine (H4.out _ _ _ _ _ K9.out.r0 K9.out.tl.tl.tl.tl.r0).mono ?_
    rintro e w10 ⟨v, rfl, hm⟩
    obtain ⟨oy, cy, hv, ny, K10⟩ := L.made5 K9.out hm
    subst hv
    clear hm K9
    go_wp2_with fail
    refine (S1.out _ _ _ _ _ K10.out.tl.tl.r0 K10.out.tl.tl.tl.tl.tl.tl.r0).mono ?_
    rintro e w11 ⟨rfl, hb⟩
    have K11 := Lib.hid (K10.out.on hb)
    clear hb K10
    go_wp2_with fail
    refine (S2.out _ _ _ _ _ K11.out.r0 K11.out.tl.tl.tl.tl.r0).mono ?_
    rintro e w12 ⟨rfl, hb⟩
    have K12 := Lib.hid (K11.out.on hb)
    clear hb K11
    have KB := Lib.hid K12.out.below
    clear K12
    go_wp2_with fail
    refine (HK.out _).mono ?_
    rintro e wk ⟨rfl, hb⟩
    have KC := Lib.hid (KB.out.trans (hb.mono KB.out.size))
    clear hb
    go_wp2
    go_ret
    exact ⟨rfl, KC.out⟩
  · have q9 : (D.chk s.x != 0) = true := by simpa using h0
    clear h0
    obtain ⟨oS, cS, S⟩ := s
    dsimp only at *
    generalize D.lenI S = n at *
    generalize D.lenO S = m at *
    generalize D.chk S = k at *
    clear hs
    go_enter Try.func8, Try.ntmps8
    go_wp2_with fail
    refine (HA.out _ _ _ K.out.r0 nS.out.1).mono ?_
    rintro e w1 ⟨v, rfl, hm⟩
    obtain ⟨ox0, cx0, hv, nx0, K1⟩ := L.made5 K.out hm
    subst hv
    clear hm K
    go_wp2_with fail
    refine (H1.out _ _ _ K1.out.r0).mono ?_
    rintro e w2 ⟨rfl, hb⟩
    have K2 := Lib.hid (K1.out.on hb)
    clear hb K1
    have KB := Lib.hid K2.out.below
    clear K2
    go_wp2_with fail
    refine (HK.out _).mono ?_
    rintro e wk ⟨rfl, hb⟩
    have KC := Lib.hid (KB.out.trans (hb.mono KB.out.size))
    clear hb
    go_wp2
    go_ret
    exact ⟨rfl, KC.out⟩
set_option maxRecDepth 100000 in
set_option maxHeartbeats 4000000 in
theorem transformForms_walk (s r : D.Src) (f : Bool) (w : World) (hs : D.ArgOk w s) (hr : D.ArgOk w r) :
    Calls Try.prog 9 #[.slice s.a s.x.length s.c, .slice r.a r.x.length r.c, .bool f] w fun e w' => e = .returned (.bool true) ∧ Below w.heap.size w w' := by
  have HA := L.hOwn s.x hs.fit
  have HB := L.hOwn r.x hr.fit
  have HK := L.hKnown7
  have K : Hid (D.Kn w w [(s.a, s.x), (r.a, r.x)]) := ⟨Below.refl _ _, fun x hx => by
    simp at hx
    rcases hx with rfl | rfl
    · exact hs.src.row
    · exact hr.src.row⟩
  have nS : Hid ((s.a = none → s.c = 0) ∧ s.x.length ≤ s.c) := ⟨hs.src.nil, hs.cap⟩
  have nR : Hid ((r.a = none → r.c = 0) ∧ r.x.length ≤ r.c) := ⟨hr.src.nil, hr.cap⟩
  have H1 := L.hNormG s.x (L.bd_arg hs)
  have H2 := L.hNormG r.x (L.bd_arg hr)
  by_cases h0 : D.chk s.x = 0
  · rw [h0, if_pos rfl] at H1
    by_cases h1 : D.chk r.x = 0
    · rw [h1, if_pos rfl] at H2
      obtain ⟨e1, e2⟩ := D.forms7 h0 h1 f
      have H3 := L.hTr f s.x r.x (L.bd_arg hs) (L.bd_arg hr)
      have H4 := L.hTr f (D.normP s.x) (D.normP r.x) (D.bd_of (D.chk_normP h0)) (D.bd_of (D.chk_normP h1))
      rw [e1, e2] at H4
      have S1 := L.hSame (D.trP f s.x r.x) (T.tr_bd _ _ _).1
      by_cases h2 : D.trE f s.x r.x = 0
      · have H5 := L.hNormal (D.trP f s.x r.x) (D.tr_of h2).ok (D.tr_normal h2).1
        rw [h2] at H3 H4
        clear h0 h1 h2 e1 e2
        obtain ⟨oS, cS, S⟩ := s
        obtain ⟨oR, cR, R⟩ := r
        dsimp only at *
        generalize D.normP S = NS at *
        generalize D.normP R = NR at *
        generalize D.trP f S R = TP at *
        clear hs hr
        go_enter Try.func9, Try.ntmps9
        go_wp2_with fail
        refine (HA.out _ _ _ K.out.r0 nS.out.1).mono ?_
        rintro e w1 ⟨v, rfl, hm⟩
        obtain ⟨ox0, cx0, hv, nx0, K1⟩ := L.made5 K.out hm
        subst hv
        clear hm K
        go_wp2_with fail
        refine (H1.out _ _ _ K1.out.r0).mono ?_
        rintro e w2 ⟨v, rfl, hm⟩
        obtain ⟨ox, cx, hv, nx, K2⟩ := L.made5 K1.out hm
        subst hv
        clear hm K1
        go_wp2_with fail
        refine (HB.out _ _ _ K2.out.tl.tl.tl.r0 nR.out.1).mono ?_
        rintro e w3 ⟨v, rfl, hm⟩
        obtain ⟨oy0, cy0, hv, ny0, K3⟩ := L.made5 K2.out hm
        subst hv
        clear hm K2
        go_wp2_with fail
        refine (H2.out _ _ _ K3.out.r0).mono ?_
        rintro e w4 ⟨v, rfl, hm⟩
        obtain ⟨oy, cy, hv, ny, K4⟩ := L.made5 K3.out hm
        subst hv
        clear hm K3
        go_wp2_with fail
        refine (HA.out _ _ _ K4.out.tl.tl.tl.tl.r0 nS.out.1).mono ?_
        rintro e w5 ⟨v, rfl, hm⟩
        obtain ⟨ox1, cx1, hv, nx1, K5⟩ := L.made5 K4.out hm
        subst hv
        clear hm K4
        go_wp2_with fail
        refine (HB.out _ _ _ K5.out.tl.tl.tl.tl.tl.tl.r0 nR.out.1).mono ?_
        rintro e w6 ⟨v, rfl, hm⟩
        obtain ⟨oy1, cy1, hv, ny1, K6⟩ := L.made5 K5.out hm
        subst hv
        clear hm K5
        go_wp2_with fail
        refine (H3.out _ _ _ _ _ K6.out.tl.r0 K6.out.r0).mono ?_
        rintro e w7 ⟨v, rfl, hm⟩
        obtain ⟨oc, cc, hv, nc, K7⟩ := L.made5 K6.out hm
        subst hv
        clear hm K6
        go_wp2_with fail
        refine (H4.out _ _ _ _ _ K7.out.tl.tl.tl.tl.tl.r0 K7.out.tl.tl.tl.r0).mono ?_
        rintro e w8 ⟨v, rfl, hm⟩
        obtain ⟨od, cd, hv, nd, K8⟩ := L.made5 K7.out hm
        subst hv
        clear hm K7
        go_wp2_with fail
        refine (S1.out _ _ _ _ _ K8.out.tl.r0 K8.out.r0).mono ?_
        rintro e w9 ⟨rfl, hb⟩
        have K9 := Lib.hid (K8.out.on hb)
        clear hb K8
        go_wp2_with fail
        refine (H5.out _ _ _ K9.out.tl.r0).mono ?_
        rintro e w10 ⟨rfl, hb⟩
        have K10 := Lib.hid (K9.out.on hb)
        clear hb K9
        have KB := Lib.hid K10.out.below
        clear K10
        go_wp2_with fail
        refine (HK.out _).mono ?_
        rintro e wk ⟨rfl, hb⟩
        have KC := Lib.hid (KB.out.trans (hb.mono KB.out.size))
        clear hb
        go_wp2
        go_ret
        exact ⟨rfl, KC.out⟩
      · have q9 : (D.trE f s.x r.x != 0) = true := by simpa using h2
        clear h0 h1 h2 e1 e2
        obtain ⟨oS, cS, S⟩ := s
        obtain ⟨oR, cR, R⟩ := r
        dsimp only at *
        generalize D.normP S = NS at *
        generalize D.normP R = NR at *
        generalize D.trP f S R = TP at *
        clear hs hr
        generalize D.trE f S R = k at *
        go_enter Try.func9, Try.ntmps9
        go_wp2_with fail
        refine (HA.out _ _ _ K.out.r0 nS.out.1).mono ?_
        rintro e w1 ⟨v, rfl, hm⟩
        obtain ⟨ox0, cx0, hv, nx0, K1⟩ := L.made5 K.out hm
        subst hv
        clear hm K
        go_wp2_with fail
        refine (H1.out _ _ _ K1.out.r0).mono ?_
        rintro e w2 ⟨v, rfl, hm⟩
        obtain ⟨ox, cx, hv, nx, K2⟩ := L.made5 K1.out hm
        subst hv
        clear hm K1
        go_wp2_with fail
        refine (HB.out _ _ _ K2.out.tl.tl.tl.r0 nR.out.1).mono ?_
        rintro e w3 ⟨v, rfl, hm⟩
        obtain ⟨oy0, cy0, hv, ny0, K3⟩ := L.made5 K2.out hm
        subst hv
        clear hm K2
        go_wp2_with fail
        refine (H2.out _ _ _ K3.out.r0).mono ?_
        rintro e w4 ⟨v, rfl, hm⟩
        obtain ⟨oy, cy, hv, ny, K4⟩ := L.made5 K3.out hm
        subst hv
        clear hm K3
        go_wp2_with fail
        refine (HA.out _ _ _ K4.out.tl.tl.tl.tl.r0 nS.out.1).mono ?_
        rintro e w5 ⟨v, rfl, hm⟩
        obtain ⟨ox1, cx1, hv, nx1, K5⟩ := L.made5 K4.out hm
        subst hv
        clear hm K4
        go_wp2_with fail
        refine (HB.out _ _ _ K5.out.tl.tl.tl.tl.tl.tl.r0 nR.out.1).mono ?_
        rintro e w6 ⟨v, rfl, hm⟩
        obtain ⟨oy1, cy1, hv, ny1, K6⟩ := L.made5 K5.out hm
        subst hv
        clear hm K5
        go_wp2_with fail
        refine (H3.out _ _ _ _ _ K6.out.tl.r0 K6.out.r0).mono ?_
        rintro e w7 ⟨v, rfl, hm⟩
        obtain ⟨oc, cc, hv, nc, K7⟩ := L.made5 K6.out hm
        subst hv
        clear hm K6
        go_wp2_with fail
        refine (H4.out _ _ _ _ _ K7.out.tl.tl.tl.tl.tl.r0 K7.out.tl.tl.tl.r0).mono ?_
        rintro e w8 ⟨v, rfl, hm⟩
        obtain ⟨od, cd, hv, nd, K8⟩ := L.made5 K7.out hm
        subst hv
        clear hm K7
        go_wp2_with fail
        refine (S1.out _ _ _ _ _ K8.out.tl.r0 K8.out.r0).mono ?_
        rintro e w9 ⟨rfl, hb⟩
        have K9 := Lib.hid (K8.out.on hb)
        clear hb K8
        have KB := Lib.hid K9.out.below
        clear K9
        go_wp2_with fail
        refine (HK.out _).mono ?_
        rintro e wk ⟨rfl, hb⟩
        have KC := Lib.hid (KB.out.trans (hb.mono KB.out.size))
        clear hb
        go_wp2
        go_ret
        exact ⟨rfl, KC.out⟩
    · have q9 : (D.chk r.x != 0) = true := by simpa using h1
      rw [if_neg h1] at H2
      clear h0 h1
      obtain ⟨oS, cS, S⟩ := s
      obtain ⟨oR, cR, R⟩ := r
      dsimp only at *
      generalize D.normP S = NS at *
      generalize D.chk R = k at *
      clear hs hr
      go_enter Try.func9, Try.ntmps9
      go_wp2_with fail
      refine (HA.out _ _ _ K.out.r0 nS.out.1).mono ?_
      rintro e w1 ⟨v, rfl, hm⟩
      obtain ⟨ox0, cx0, hv, nx0, K1⟩ := L.made5 K.out hm
      subst hv
      clear hm K
      go_wp2_with fail
      refine (H1.out _ _ _ K1.out.r0).mono ?_
      rintro e w2 ⟨v, rfl, hm⟩
      obtain ⟨ox, cx, hv, nx, K2⟩ := L.made5 K1.out hm
      subst hv
      clear hm K1
      go_wp2_with fail
      refine (HB.out _ _ _ K2.out.tl.tl.tl.r0 nR.out.1).mono ?_
      rintro e w3 ⟨v, rfl, hm⟩
      obtain ⟨oy0, cy0, hv, ny0, K3⟩ := L.made5 K2.out hm
      subst hv
      clear hm K2
      go_wp2_with fail
      refine (H2.out _ _ _ K3.out.r0).mono ?_
      rintro e w4 ⟨v, rfl, hm⟩
      obtain ⟨oy, cy, hv, ny, K4⟩ := L.made5 K3.out hm
      subst hv
      clear hm K3
      have KB := Lib.hid K4.out.below
      clear K4
      go_wp2_with fail
      refine (HK.out _).mono ?_
      rintro e wk ⟨rfl, hb⟩
      have KC := Lib.hid (KB.out.trans (hb.mono KB.out.size))
      clear hb
      go_wp2
      go_ret
      exact ⟨rfl, KC.out⟩
  · have q9 : (D.chk s.x != 0) = true := by simpa using h0
    rw [if_neg h0] at H1
    clear h0
    obtain ⟨oS, cS, S⟩ := s
    obtain ⟨oR, cR, R⟩ := r
    dsimp only at *
    generalize (if D.chk R = 0 then D.normP R else []) = NR at *
    generalize D.chk R = j at *
    generalize D.chk S = k at *
    clear hs hr
    go_enter Try.func9, Try.ntmps9
    go_wp2_with fail
    refine (HA.out _ _ _ K.out.r0 nS.out.1).mono ?_
    rintro e w1 ⟨v, rfl, hm⟩
    obtain ⟨ox0, cx0, hv, nx0, K1⟩ := L.made5 K.out hm
    subst hv
    clear hm K
    go_wp2_with fail
    refine (H1.out _ _ _ K1.out.r0).mono ?_
    rintro e w2 ⟨v, rfl, hm⟩
    obtain ⟨ox, cx, hv, nx, K2⟩ := L.made5 K1.out hm
    subst hv
    clear hm K1
    go_wp2_with fail
    refine (HB.out _ _ _ K2.out.tl.tl.tl.r0 nR.out.1).mono ?_
    rintro e w3 ⟨v, rfl, hm⟩
    obtain ⟨oy0, cy0, hv, ny0, K3⟩ := L.made5 K2.out hm
    subst hv
    clear hm K2
    go_wp2_with fail
    refine (H2.out _ _ _ K3.out.r0).mono ?_
    rintro e w4 ⟨v, rfl, hm⟩
    obtain ⟨oy, cy, hv, ny, K4⟩ := L.made5 K3.out hm
    subst hv
    clear hm K3
    have KB := Lib.hid K4.out.below
    clear K4
    go_wp2_with fail
    refine (HK.out _).mono ?_
    rintro e wk ⟨rfl, hb⟩
    have KC := Lib.hid (KB.out.trans (hb.mono KB.out.size))
    clear hb
    go_wp2
    go_ret
    exact ⟨rfl, KC.out⟩
set_option maxRecDepth 100000 in
set_option maxHeartbeats 4000000 in
theorem transformSplits_walk (s r : D.Src) (w : World) (hs : D.ArgOk w s) (hr : D.ArgOk w r) :
    Calls Try.prog 10 #[.slice s.a s.x.length s.c, .slice r.a r.x.length r.c] w fun e w' => e = .returned (.bool true) ∧ Below w.heap.size w w' := by
  have HA := L.hOwn s.x hs.fit
  have HB := L.hOwn r.x hr.fit
  have HK := L.hKnown7
  have K : Hid (D.Kn w w [(s.a, s.x), (r.a, r.x)]) := ⟨Below.refl _ _, fun x hx => by
    simp at hx
    rcases hx with rfl | rfl
    · exact hs.src.row
    · exact hr.src.row⟩
  have nS : Hid ((s.a = none → s.c = 0) ∧ s.x.length ≤ s.c) := ⟨hs.src.nil, hs.cap⟩
  have nR : Hid ((r.a = none → r.c = 0) ∧ r.x.length ≤ r.c) := ⟨hr.src.nil, hr.cap⟩
  have H1 := L.hDs s.x r.x (L.bd_arg hs) (L.bd_arg hr)
  by_cases h0 : D.bas2 s.x r.x = 0
  · rw [h0] at H1
    cases hd : D.dsB s.x r.x with
    | false =>
      rw [hd] at H1
      clear h0 hd
      obtain ⟨oS, cS, S⟩ := s
      obtain ⟨oR, cR, R⟩ := r
      dsimp only at *
      clear hs hr
      go_enter Try.func10, Try.ntmps10
      go_wp2_with fail
      refine (HA.out _ _ _ K.out.r0 nS.out.1).mono ?_
      rintro e w1 ⟨v, rfl, hm⟩
      obtain ⟨ox0, cx0, hv, nx0, K1⟩ := L.made5 K.out hm
      subst hv
      clear hm K
      go_wp2_with fail
      refine (HB.out _ _ _ K1.out.tl.tl.r0 nR.out.1).mono ?_
      rintro e w2 ⟨v, rfl, hm⟩
      obtain ⟨oy0, cy0, hv, ny0, K2⟩ := L.made5 K1.out hm
      subst hv
      clear hm K1
      go_wp2_with fail
      refine (H1.out _ _ _ _ _ K2.out.tl.r0 K2.out.r0).mono ?_
      rintro e w3 ⟨rfl, hb⟩
      have K3 := Lib.hid (K2.out.on hb)
      clear hb K2
      have KB := Lib.hid K3.out.below
      clear K3
      go_wp2_with fail
      refine (HK.out _).mono ?_
      rintro e wk ⟨rfl, hb⟩
      have KC := Lib.hid (KB.out.trans (hb.mono KB.out.size))
      clear hb
      go_wp2
      go_ret
      exact ⟨rfl, KC.out⟩
    | true =>
      rw [hd] at H1
      have b := D.bas_of h0
      have sp := D.splits7 b hd
      have H2 := L.hTr true s.x r.x (L.bd_arg hs) (L.bd_arg hr)
      have H3 := L.hTr false s.x r.x (L.bd_arg hs) (L.bd_arg hr)
      rw [sp.e, sp.p] at H3
      have H4 := L.hMr s.x r.x (L.bd_arg hs) (L.bd_arg hr)
      have S1 := L.hSame (D.trP true s.x r.x) (T.tr_bd _ _ _).1
      by_cases h1 : D.mrE s.x r.x = 0
      · obtain ⟨m1, m2, m3⟩ := sp.len h1
        have H5 := L.hLen s.x (L.bd_arg hs)
        have H6 := L.hLen r.x (L.bd_arg hr)
        have H7 := L.hLen (D.mrP s.x r.x) (T.mr_bd _ _)
        obtain ⟨l1, l2⟩ := D.len_qs b.a
        obtain ⟨l3, l4⟩ := D.len_qs b.b
        obtain ⟨l5, l6⟩ := D.len_qs m1
        rw [b.a, l1, l2] at H5
        rw [b.b, l3, l4] at H6
        rw [m1, l5, l6, m2] at H7
        rw [h1] at H4
        have i1 := (D.valid_qs b.a).2.2.2.2
        have i2 := (D.valid_qs b.b).2.2.2.2
        have i3 := (D.valid_qs m1).2.2.2.2
        clear h0 hd b sp h1 m1 m2 l1 l2 l3 l4 l5 l6
        obtain ⟨oS, cS, S⟩ := s
        obtain ⟨oR, cR, R⟩ := r
        dsimp only at *
        generalize D.trP true S R = TP at *
        generalize D.trE true S R = k at *
        generalize D.mrP S R = MP at *
        generalize D.inL (D.qs S) = n at *
        generalize D.outL (D.qs S) = p at *
        generalize D.inL (D.qs R) = n2 at *
        generalize D.outL (D.qs R) = q at *
        generalize D.outL (D.qs MP) = o at *
        have ho : (o : Int) = (p : Int) + (q : Int) - (n : Int) := by omega
        have hp : p ≤ 1048576 := by omega
        have hq : q ≤ 1048576 := by omega
        have hn : n ≤ 1048576 := by omega
        clear m3 i1 i2 i3 hs hr
        go_enter Try.func10, Try.ntmps10
        go_wp2_with fail
        refine (HA.out _ _ _ K.out.r0 nS.out.1).mono ?_
        rintro e w1 ⟨v, rfl, hm⟩
        obtain ⟨ox0, cx0, hv, nx0, K1⟩ := L.made5 K.out hm
        subst hv
        clear hm K
        go_wp2_with fail
        refine (HB.out _ _ _ K1.out.tl.tl.r0 nR.out.1).mono ?_
        rintro e w2 ⟨v, rfl, hm⟩
        obtain ⟨oy0, cy0, hv, ny0, K2⟩ := L.made5 K1.out hm
        subst hv
        clear hm K1
        go_wp2_with fail
        refine (H1.out _ _ _ _ _ K2.out.tl.r0 K2.out.r0).mono ?_
        rintro e w3 ⟨rfl, hb⟩
        have K3 := Lib.hid (K2.out.on hb)
        clear hb K2
        go_wp2_with fail
        refine (HA.out _ _ _ K3.out.tl.tl.r0 nS.out.1).mono ?_
        rintro e w4 ⟨v, rfl, hm⟩
        obtain ⟨ox1, cx1, hv, nx1, K4⟩ := L.made5 K3.out hm
        subst hv
        clear hm K3
        go_wp2_with fail
        refine (HB.out _ _ _ K4.out.tl.tl.tl.tl.r0 nR.out.1).mono ?_
        rintro e w5 ⟨v, rfl, hm⟩
        obtain ⟨oy1, cy1, hv, ny1, K5⟩ := L.made5 K4.out hm
        subst hv
        clear hm K4
        go_wp2_with fail
        refine (H2.out _ _ _ _ _ K5.out.tl.r0 K5.out.r0).mono ?_
        rintro e w6 ⟨v, rfl, hm⟩
        obtain ⟨ox, cx, hv, nx, K6⟩ := L.made5 K5.out hm
        subst hv
        clear hm K5
        go_wp2_with fail
        refine (HA.out _ _ _ K6.out.tl.tl.tl.tl.tl.r0 nS.out.1).mono ?_
        rintro e w7 ⟨v, rfl, hm⟩
        obtain ⟨ox2, cx2, hv, nx2, K7⟩ := L.made5 K6.out hm
        subst hv
        clear hm K6
        go_wp2_with fail
        refine (HB.out _ _ _ K7.out.tl.tl.tl.tl.tl.tl.tl.r0 nR.out.1).mono ?_
        rintro e w8 ⟨v, rfl, hm⟩
        obtain ⟨oy2, cy2, hv, ny2, K8⟩ := L.made5 K7.out hm
        subst hv
        clear hm K7
        go_wp2_with fail
        refine (H3.out _ _ _ _ _ K8.out.tl.r0 K8.out.r0).mono ?_
        rintro e w9 ⟨v, rfl, hm⟩
        obtain ⟨oy, cy, hv, ny, K9⟩ := L.made5 K8.out hm
        subst hv
        clear hm K8
        go_wp2_with fail
        refine (S1.out _ _ _ _ _ K9.out.tl.tl.tl.r0 K9.out.r0).mono ?_
        rintro e w10 ⟨rfl, hb⟩
        have K10 := Lib.hid (K9.out.on hb)
        clear hb K9
        go_wp2_with fail
        refine (HA.out _ _ _ K10.out.tl.tl.tl.tl.tl.tl.tl.tl.r0 nS.out.1).mono ?_
        rintro e w11 ⟨v, rfl, hm⟩
        obtain ⟨ox3, cx3, hv, nx3, K11⟩ := L.made5 K10.out hm
        subst hv
        clear hm K10
        go_wp2_with fail
        refine (HB.out _ _ _ K11.out.tl.tl.tl.tl.tl.tl.tl.tl.tl.tl.r0 nR.out.1).mono ?_
        rintro e w12 ⟨v, rfl, hm⟩
        obtain ⟨oy3, cy3, hv, ny3, K12⟩ := L.made5 K11.out hm
        subst hv
        clear hm K11
        go_wp2_with fail
        refine (H4.out _ _ _ _ _ K12.out.tl.r0 K12.out.r0 nx3.out.2 ny3.out.2).mono ?_
        rintro e w13 ⟨v, rfl, hm⟩
        obtain ⟨om, cm, hv, nm, K13⟩ := L.made5 K12.out hm
        subst hv
        clear hm K12
        go_wp2_with fail
        refine (HA.out _ _ _ K13.out.tl.tl.tl.tl.tl.tl.tl.tl.tl.tl.tl.r0 nS.out.1).mono ?_
        rintro e w14 ⟨v, rfl, hm⟩
        obtain ⟨ox4, cx4, hv, nx4, K14⟩ := L.made5 K13.out hm
        subst hv
        clear hm K13
        go_wp2_with fail
        refine (H5.out _ _ _ K14.out.r0).mono ?_
        rintro e w15 ⟨rfl, hb⟩
        have K15 := Lib.hid (K14.out.on hb)
        clear hb K14
        go_wp2_with fail
        refine (HB.out _ _ _ K15.out.tl.tl.tl.tl.tl.tl.tl.tl.tl.tl.tl.tl.tl.r0 nR.out.1).mono ?_
        rintro e w16 ⟨v, rfl, hm⟩
        obtain ⟨oy4, cy4, hv, ny4, K16⟩ := L.made5 K15.out hm
        subst hv
        clear hm K15
        go_wp2_with fail
        refine (H6.out _ _ _ K16.out.r0).mono ?_
        rintro e w17 ⟨rfl, hb⟩
        have K17 := Lib.hid (K16.out.on hb)
        clear hb K16
        go_wp2_with fail
        refine (H7.out _ _ _ K17.out.tl.tl.r0).mono ?_
        rintro e w18 ⟨rfl, hb⟩
        have K18 := Lib.hid (K17.out.on hb)
        clear hb K17
        have KB := Lib.hid K18.out.below
        clear K18
        go_wp2_with fail
        refine (HK.out _).mono ?_
        rintro e wk ⟨rfl, hb⟩
        have KC := Lib.hid (KB.out.trans (hb.mono KB.out.size))
        clear hb
        go_wp2
        go_ret
        exact ⟨rfl, KC.out⟩
      · have h5 : D.mrE s.x r.x = 5 := sp.two.resolve_left h1
        rw [h5] at H4
        clear h0 hd b sp h1 h5
        obtain ⟨oS, cS, S⟩ := s
        obtain ⟨oR, cR, R⟩ := r
        dsimp only at *
        generalize D.trP true S R = TP at *
        generalize D.trE true S R = k at *
        generalize D.mrP S R = MP at *
        clear hs hr
        go_enter Try.func10, Try.ntmps10
        go_wp2_with fail
        refine (HA.out _ _ _ K.out.r0 nS.out.1).mono ?_
        rintro e w1 ⟨v, rfl, hm⟩
        obtain ⟨ox0, cx0, hv, nx0, K1⟩ := L.made5 K.out hm
        subst hv
        clear hm K
        go_wp2_with fail
        refine (HB.out _ _ _ K1.out.tl.tl.r0 nR.out.1).mono ?_
        rintro e w2 ⟨v, rfl, hm⟩
        obtain ⟨oy0, cy0, hv, ny0, K2⟩ := L.made5 K1.out hm
        subst hv
        clear hm K1
        go_wp2_with fail
        refine (H1.out _ _ _ _ _ K2.out.tl.r0 K2.out.r0).mono ?_
        rintro e w3 ⟨rfl, hb⟩
        have K3 := Lib.hid (K2.out.on hb)
        clear hb K2
        go_wp2_with fail
        refine (HA.out _ _ _ K3.out.tl.tl.r0 nS.out.1).mono ?_
        rintro e w4 ⟨v, rfl, hm⟩
        obtain ⟨ox1, cx1, hv, nx1, K4⟩ := L.made5 K3.out hm
        subst hv
        clear hm K3
        go_wp2_with fail
        refine (HB.out _ _ _ K4.out.tl.tl.tl.tl.r0 nR.out.1).mono ?_
        rintro e w5 ⟨v, rfl, hm⟩
        obtain ⟨oy1, cy1, hv, ny1, K5⟩ := L.made5 K4.out hm
        subst hv
        clear hm K4
        go_wp2_with fail
        refine (H2.out _ _ _ _ _ K5.out.tl.r0 K5.out.r0).mono ?_
        rintro e w6 ⟨v, rfl, hm⟩
        obtain ⟨ox, cx, hv, nx, K6⟩ := L.made5 K5.out hm
        subst hv
        clear hm K5
        go_wp2_with fail
        refine (HA.out _ _ _ K6.out.tl.tl.tl.tl.tl.r0 nS.out.1).mono ?_
        rintro e w7 ⟨v, rfl, hm⟩
        obtain ⟨ox2, cx2, hv, nx2, K7⟩ := L.made5 K6.out hm
        subst hv
        clear hm K6
        go_wp2_with fail
        refine (HB.out _ _ _ K7.out.tl.tl.tl.tl.tl.tl.tl.r0 nR.out.1).mono ?_
        rintro e w8 ⟨v, rfl, hm⟩
        obtain ⟨oy2, cy2, hv, ny2, K8⟩ := L.made5 K7.out hm
        subst hv
        clear hm K7
        go_wp2_with fail
        refine (H3.out _ _ _ _ _ K8.out.tl.r0 K8.out.r0).mono ?_
        rintro e w9 ⟨v, rfl, hm⟩
        obtain ⟨oy, cy, hv, ny, K9⟩ := L.made5 K8.out hm
        subst hv
        clear hm K8
        go_wp2_with fail
        refine (S1.out _ _ _ _ _ K9.out.tl.tl.tl.r0 K9.out.r0).mono ?_
        rintro e w10 ⟨rfl, hb⟩
        have K10 := Lib.hid (K9.out.on hb)
        clear hb K9
        go_wp2_with fail
        refine (HA.out _ _ _ K10.out.tl.tl.tl.tl.tl.tl.tl.tl.r0 nS.out.1).mono ?_
        rintro e w11 ⟨v, rfl, hm⟩
        obtain ⟨ox3, cx3, hv, nx3, K11⟩ := L.made5 K10.out hm
        subst hv
        clear hm K10
        go_wp2_with fail
        refine (HB.out _ _ _ K11.out.tl.tl.tl.tl.tl.tl.tl.tl.tl.tl.r0 nR.out.1).mono ?_
        rintro e w12 ⟨v, rfl, hm⟩
        obtain ⟨oy3, cy3, hv, ny3, K12⟩ := L.made5 K11.out hm
        subst hv
        clear hm K11
        go_wp2_with fail
        refine (H4.out _ _ _ _ _ K12.out.tl.r0 K12.out.r0 nx3.out.2 ny3.out.2).mono ?_
        rintro e w13 ⟨v, rfl, hm⟩
        obtain ⟨om, cm, hv, nm, K13⟩ := L.made5 K12.out hm
        subst hv
        clear hm K12
        have KB := Lib.hid K13.out.below
        clear K13
        go_wp2_with fail
        refine (HK.out _).mono ?_
        rintro e wk ⟨rfl, hb⟩
        have KC := Lib.hid (KB.out.trans (hb.mono KB.out.size))
        clear hb
        go_wp2
        go_ret
        exact ⟨rfl, KC.out⟩
  · have q9 : (D.bas2 s.x r.x != 0) = true := by simpa using h0
    clear h0
    obtain ⟨oS, cS, S⟩ := s
    obtain ⟨oR, cR, R⟩ := r
    dsimp only at *
    generalize D.bas2 S R = k at *
    generalize D.dsB S R = b1 at *
    clear hs hr
    go_enter Try.func10, Try.ntmps10
    go_wp2_with fail
    refine (HA.out _ _ _ K.out.r0 nS.out.1).mono ?_
    rintro e w1 ⟨v, rfl, hm⟩
    obtain ⟨ox0, cx0, hv, nx0, K1⟩ := L.made5 K.out hm
    subst hv
    clear hm K
    go_wp2_with fail
    refine (HB.out _ _ _ K1.out.tl.tl.r0 nR.out.1).mono ?_
    rintro e w2 ⟨v, rfl, hm⟩
    obtain ⟨oy0, cy0, hv, ny0, K2⟩ := L.made5 K1.out hm
    subst hv
    clear hm K1
    go_wp2_with fail
    refine (H1.out _ _ _ _ _ K2.out.tl.r0 K2.out.r0).mono ?_
    rintro e w3 ⟨rfl, hb⟩
    have K3 := Lib.hid (K2.out.on hb)
    clear hb K2
    have KB := Lib.hid K3.out.below
    clear K3
    go_wp2_with fail
    refine (HK.out _).mono ?_
    rintro e wk ⟨rfl, hb⟩
    have KC := Lib.hid (KB.out.trans (hb.mono KB.out.size))
    clear hb
    go_wp2
    go_ret
    exact ⟨rfl, KC.out⟩
end Go.Proofs.Ytmljagkndnobdaa
