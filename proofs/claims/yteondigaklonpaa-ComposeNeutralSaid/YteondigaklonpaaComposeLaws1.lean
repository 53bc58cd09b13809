/- The walks of ComposeSplits and ComposeNeutral. -/
import Derived.Test.YteondigaklonpaaComposeLawKit
namespace Go.Proofs.Yteondigaklonpaa
open Go.RowKit

set_option maxRecDepth 100000 in
set_option maxHeartbeats 4000000 in
theorem composeSplits_walk (s : D.Src) (w : World) (hs : D.ArgOk w s) :
    Calls Try.prog 5 #[.slice s.a s.x.length s.c] w fun e w' => e = .returned (.bool true) ∧ Below w.heap.size w w' := by
  have HO := C.hOwn s.x hs.fit
  have H1 := C.hSplit s.x (C.bd_arg hs)
  have H2 := C.hSplit' s.x (C.bd_arg hs)
  have S1 := C.hSame (D.spI s.x) (Nat.le_trans (C.sp_len s.x).1 (by decide))
  have S2 := C.hSame (D.spD s.x) (Nat.le_trans (C.sp_len s.x).2 (by decide))
  have S3 := C.hSame s.x hs.src.len
  have HK := C.hKnown
  have K : Hid (D.Kn w w [(s.a, s.x)]) := ⟨Below.refl _ _, fun x hx => by simp at hx; subst hx; exact hs.src.row⟩
  have nS : Hid ((s.a = none → s.c = 0) ∧ s.x.length ≤ s.c) := ⟨hs.src.nil, hs.cap⟩
  obtain ⟨oS, cS, S⟩ := s
  dsimp only at *
  generalize D.spI S = P1 at H1 H2 S1
  generalize D.spD S = P2 at H1 H2 S2
  generalize D.spE S = k at H1 H2
  clear hs
  go_enter Try.func5, Try.ntmps5
  go_wp2_with fail
  refine (HO.out _ _ _ K.out.r0 nS.out.1).mono ?_
  rintro e w1 ⟨v, rfl, hm⟩
  obtain ⟨ox, cx, hv, nx, K1⟩ := C.made5 K.out hm
  subst hv
  clear hm K
  go_wp2_with fail
  refine (H1.out _ _ _ K1.out.r0).mono ?_
  rintro e w3 ⟨v, u, rfl, hm, hm2⟩
  obtain ⟨oa1, ca1, hv, na1, K2⟩ := C.made5 K1.out hm
  subst hv
  obtain ⟨ob1, cb1, hv, hrr, hcc⟩ := hm2.src
  subst hv
  have K3 := Lib.hid (D.Kn.add K2.out ob1 _ hrr)
  clear hm hm2 hrr hcc K1 K2
  go_wp2_with fail
  refine (H2.out _ _ _ K3.out.tl.tl.tl.r0).mono ?_
  rintro e w5 ⟨v, u, rfl, hm, hm2⟩
  obtain ⟨oa2, ca2, hv, na2, K4⟩ := C.made5 K3.out hm
  subst hv
  obtain ⟨ob2, cb2, hv, hrr, hcc⟩ := hm2.src
  subst hv
  have K5 := Lib.hid (D.Kn.add K4.out ob2 _ hrr)
  clear hm hm2 hrr hcc K3 K4
  go_wp2_with fail
  refine (S1.out _ _ _ _ _ K5.out.tl.tl.tl.r0 K5.out.tl.r0).mono ?_
  rintro e w6 ⟨rfl, hb⟩
  have K6 := Lib.hid (K5.out.on hb)
  clear hb K5
  go_wp2_with fail
  refine (S2.out _ _ _ _ _ K6.out.tl.tl.r0 K6.out.r0).mono ?_
  rintro e w7 ⟨rfl, hb⟩
  have K7 := Lib.hid (K6.out.on hb)
  clear hb K6
  go_wp2_with fail
  refine (S3.out _ _ _ _ _ K7.out.tl.tl.tl.tl.r0 K7.out.tl.tl.tl.tl.tl.r0).mono ?_
  rintro e w8 ⟨rfl, hb⟩
  have K8 := Lib.hid (K7.out.on hb)
  clear hb K7
  have KB := Lib.hid K8.out.below
  clear K8
  go_wp2_with fail
  refine (HK.out _).mono ?_
  rintro e wk ⟨rfl, hb⟩
  have KC := Lib.hid (KB.out.trans (hb.mono KB.out.size))
  clear hb
  go_wp2
  go_ret
  exact ⟨rfl, KC.out⟩
set_option maxRecDepth 100000 in
set_option maxHeartbeats 4000000 in
theorem composeNeutral_walk (s : D.Src) (w : World) (hs : D.ArgOk w s) :
    Calls Try.prog 8 #[.slice s.a s.x.length s.c] w fun e w' => e = .returned (.bool true) ∧ Below w.heap.size w w' := by
  have HO := C.hOwn s.x hs.fit
  have H1 := C.hLen s.x (C.bd_arg hs)
  have HK := C.hKnown
  have K : Hid (D.Kn w w [(s.a, s.x)]) := ⟨Below.refl _ _, fun x hx => by simp at hx; subst hx; exact hs.src.row⟩
  have nS : Hid ((s.a = none → s.c = 0) ∧ s.x.length ≤ s.c) := ⟨hs.src.nil, hs.cap⟩
  by_cases h0 : D.chk s.x = 0
  · obtain ⟨n, m, e1, e2, b1, b2, _, _, k1, k2, k3, k4⟩ := D.neutral h0
    have H2 := C.hNorm s.x h0
    have H3 := C.hId n b1
    have H4 := C.hId m b2
    have H5 := C.hCmp (D.idP n) s.x (D.bd_of (D.idP_qs b1).2.2.1) (C.bd_arg hs)
    have H6 := C.hCmp s.x (D.idP m) (C.bd_arg hs) (D.bd_of (D.idP_qs b2).2.2.1)
    have S1 := C.hSame (D.normP s.x) (D.bd_of (D.chk_normP h0)).1
    rw [e1, e2, h0] at H1
    rw [k1, k2] at H5
    rw [k3, k4] at H6
    obtain ⟨oS, cS, S⟩ := s
    dsimp only at *
    generalize D.normP S = N at H2 H5 H6 S1
    generalize D.idP n = I1 at H3 H5
    generalize D.idP m = I2 at H4 H6
    clear hs h0 e1 e2 b1 b2 k1 k2 k3 k4
    go_enter Try.func8, Try.ntmps8
    go_wp2_with fail
    refine (HO.out _ _ _ K.out.r0 nS.out.1).mono ?_
    rintro e w1 ⟨v, rfl, hm⟩
    obtain ⟨ox1, cx1, hv, nx1, K1⟩ := C.made5 K.out hm
    subst hv
    clear hm K
    go_wp2_with fail
    refine (H1.out _ _ _ K1.out.r0).mono ?_
    rintro e w2 ⟨rfl, hb⟩
    have K2 := Lib.hid (K1.out.on hb)
    clear hb K1
    go_wp2_with fail
    refine (HO.out _ _ _ K2.out.tl.r0 nS.out.1).mono ?_
    rintro e w3 ⟨v, rfl, hm⟩
    obtain ⟨ox2, cx2, hv, nx2, K3⟩ := C.made5 K2.out hm
    subst hv
    clear hm K2
    go_wp2_with fail
    refine (H2.out _ _ _ K3.out.r0).mono ?_
    rintro e w4 ⟨v, rfl, hm⟩
    obtain ⟨on0, cn0, hv, nn0, K4⟩ := C.made5 K3.out hm
    subst hv
    clear hm K3
    go_wp2_with fail
    refine (H3.out _ ).mono ?_
    rintro e w5 ⟨v, rfl, hm⟩
    obtain ⟨oa, ca, hv, na, K5⟩ := C.made5 K4.out hm
    subst hv
    clear hm K4
    go_wp2_with fail
    refine (H4.out _ ).mono ?_
    rintro e w6 ⟨v, rfl, hm⟩
    obtain ⟨ob, cb, hv, nb, K6⟩ := C.made5 K5.out hm
    subst hv
    clear hm K5
    go_wp2_with fail
    refine (HO.out _ _ _ K6.out.tl.tl.tl.tl.tl.r0 nS.out.1).mono ?_
    rintro e w7 ⟨v, rfl, hm⟩
    obtain ⟨ox3, cx3, hv, nx3, K7⟩ := C.made5 K6.out hm
    subst hv
    clear hm K6
    go_wp2_with fail
    refine (H5.out _ _ _ _ _ K7.out.tl.tl.r0 K7.out.r0 na.out.2 nx3.out.2).mono ?_
    rintro e w8 ⟨v, rfl, hm⟩
    obtain ⟨ox, cx, hv, nx, K8⟩ := C.made5 K7.out hm
    subst hv
    clear hm K7
    go_wp2_with fail
    refine (HO.out _ _ _ K8.out.tl.tl.tl.tl.tl.tl.tl.r0 nS.out.1).mono ?_
    rintro e w9 ⟨v, rfl, hm⟩
    obtain ⟨ox4, cx4, hv, nx4, K9⟩ := C.made5 K8.out hm
    subst hv
    clear hm K8
    go_wp2_with fail
    refine (H6.out _ _ _ _ _ K9.out.r0 K9.out.tl.tl.tl.r0 nx4.out.2 nb.out.2).mono ?_
    rintro e w10 ⟨v, rfl, hm⟩
    obtain ⟨oy, cy, hv, ny, K10⟩ := C.made5 K9.out hm
    subst hv
    clear hm K9
    go_wp2_with fail
    refine (S1.out _ _ _ _ _ K10.out.tl.tl.r0 K10.out.tl.tl.tl.tl.tl.tl.r0).mono ?_
    rintro e w11 ⟨rfl, hb⟩
    have K11 := Lib.hid (K10.out.on hb)
    clear hb K10
    go_wp2_with fail
    refine (S1.out _ _ _ _ _ K11.out.r0 K11.out.tl.tl.tl.tl.tl.tl.r0).mono ?_
    rintro e w12 ⟨rfl, hb⟩
    have K12 := Lib.hid (K11.out.on hb)
    clear hb K11
    have KB := Lib.hid K12.out.below
    clear K12
    go_wp2_with fail
    refine (HK.out _).mono ?_
    rintro e wk ⟨rfl, hb⟩
    have KC := Lib.hid (KB.out.trans (hb.mono KB.out.size))
    clear hb
    go_wp2
    go_ret
    exact ⟨rfl, KC.out⟩
  · have q : (D.chk s.x != 0) = true := by simpa using h0
    obtain ⟨oS, cS, S⟩ := s
    dsimp only at *
    generalize D.chk S = k at H1 q
    generalize D.lenI S = p1 at H1
    generalize D.lenO S = p2 at H1
    clear hs h0
    go_enter Try.func8, Try.ntmps8
    go_wp2_with fail
    refine (HO.out _ _ _ K.out.r0 nS.out.1).mono ?_
    rintro e w1 ⟨v, rfl, hm⟩
    obtain ⟨ox1, cx1, hv, nx1, K1⟩ := C.made5 K.out hm
    subst hv
    clear hm K
    go_wp2_with fail
    refine (H1.out _ _ _ K1.out.r0).mono ?_
    rintro e w2 ⟨rfl, hb⟩
    have K2 := Lib.hid (K1.out.on hb)
    clear hb K1
    have KB := Lib.hid K2.out.below
    clear K2
    go_wp2_with fail
    refine (HK.out _).mono ?_
    rintro e wk ⟨rfl, hb⟩
    have KC := Lib.hid (KB.out.trans (hb.mono KB.out.size))
    clear hb
    go_wp2
    go_ret
    exact ⟨rfl, KC.out⟩
end Go.Proofs.Yteondigaklonpaa
