/- The walk of ShiftComposes. -/
import Derived.Test.YtampekldlnlhdaaShiftIns
namespace Go.Proofs.Ytampekldlnlhdaa
open Go.RowKit

set_option maxRecDepth 100000 in
set_option maxHeartbeats 4000000 in
theorem shiftComposes_walk (s r : D.Src) (p : Int) (w : World) (hs : D.ArgOk w s) (hr : D.ArgOk w r) (_ : -9223372036854775808 ≤ p) (_ : p < 9223372036854775808) :
    Calls Try.prog 10 #[.slice s.a s.x.length s.c, .slice r.a r.x.length r.c, .int .i64 p] w fun e w' => e = .returned (.bool true) ∧ Below w.heap.size w w' := by
  have HA := L.hOwn s.x hs.fit
  have HB := L.hOwn r.x hr.fit
  have HK := L.hKnown
  have H1 := L.hCmp s.x r.x (L.bd_arg hs) (L.bd_arg hr)
  have H2 := L.hLen s.x (L.bd_arg hs)
  have K : Hid (D.Kn w w [(s.a, s.x), (r.a, r.x)]) := ⟨Below.refl _ _, fun x hx => by
    simp at hx
    rcases hx with rfl | rfl
    · exact hs.src.row
    · exact hr.src.row⟩
  have nS : Hid ((s.a = none → s.c = 0) ∧ s.x.length ≤ s.c) := ⟨hs.src.nil, hs.cap⟩
  have nR : Hid ((r.a = none → r.c = 0) ∧ r.x.length ≤ r.c) := ⟨hr.src.nil, hr.cap⟩
  by_cases h0 : D.cmpE s.x r.x = 0
  · have hc := D.cmp_of h0
    have ha : D.chk s.x = 0 := hc.fit.a
    have hb0 : D.chk r.x = 0 := hc.fit.b
    obtain ⟨l1, l2⟩ := D.len_qs ha
    rw [ha, l1, l2] at H2
    rw [h0] at H1
    by_cases hp : 0 ≤ p ∧ p ≤ (D.inL (D.qs s.x) : Int)
    · obtain ⟨p0, p1⟩ := hp
      obtain ⟨e1, e2, e3, e4, le1, le2, eq⟩ := D.shift_composes h0 p0 p1
      have cl : (D.cmpP s.x r.x).length * 32 ≤ 140737488351232 := by have := (D.valid_qs hc.ok).2.2.2.1; omega
      have B1 := L.hBoth (D.cmpP s.x r.x) cl (D.bd_of hc.ok) p
      have B2 := L.hBoth s.x hs.fit (L.bd_arg hs) p
      have B3 := L.hBoth r.x hr.fit (L.bd_arg hr) (D.posV s.x p 0)
      have B4 := L.hBoth r.x hr.fit (L.bd_arg hr) (D.posV s.x p 1)
      have I1 := L.hIns s.x ha
      have I2 := L.hRem6 r.x hb0
      rw [decide_eq_true e1] at B1
      rw [decide_eq_true e2] at B2
      rw [decide_eq_true e3] at B3
      rw [decide_eq_true e4] at B4
      have p2 : ¬ p < 0 := by omega
      have p3 : ¬ (D.inL (D.qs s.x) : Int) < p := by omega
      clear h0 hc ha hb0 l1 l2 e1 e2 e3 e4 cl p0 p1
      obtain ⟨oS, cS, S⟩ := s
      obtain ⟨oR, cR, R⟩ := r
      dsimp only at *
      generalize D.inL (D.qs S) = n at *
      generalize D.outL (D.qs S) = m at *
      generalize D.cmpP S R = C0 at *
      generalize D.posV R (D.posV S p 0) 0 = u1 at *
      generalize D.posV R (D.posV S p 0) 1 = u2 at *
      generalize D.posV R (D.posV S p 1) 0 = v1 at *
      generalize D.posV R (D.posV S p 1) 1 = v2 at *
      generalize D.posV S p 0 = x1 at *
      generalize D.posV S p 1 = x2 at *
      generalize D.posV C0 p 0 = c1 at *
      generalize D.posV C0 p 1 = c2 at *
      generalize (D.qs S).any D.isI = i1 at *
      generalize (D.qs R).any D.isD = i2 at *
      clear hs hr
      have le3 : ¬ u1 < c1 := by omega
      have le4 : ¬ c2 < v2 := by omega
      clear le1 le2
      cases i1 with
      | false =>
        obtain ⟨q1, q2⟩ := eq (.inl rfl)
        subst q1
        subst q2
        clear eq
        go_enter Try.func10, Try.ntmps10
        go_wp2_with fail
        refine (HA.out _ _ _ K.out.r0 nS.out.1).mono ?_
        rintro e w1 ⟨v, rfl, hm⟩
        obtain ⟨oa0, ca0, hv, na0, K1⟩ := L.made5 K.out hm
        subst hv
        clear hm K
        go_wp2_with fail
        refine (HB.out _ _ _ K1.out.tl.tl.r0 nR.out.1).mono ?_
        rintro e w2 ⟨v, rfl, hm⟩
        obtain ⟨ob0, cb0, hv, nb0, K2⟩ := L.made5 K1.out hm
        subst hv
        clear hm K1
        go_wp2_with fail
        refine (H1.out _ _ _ _ _ K2.out.tl.r0 K2.out.r0 na0.out.2 nb0.out.2).mono ?_
        rintro e w3 ⟨v, rfl, hm⟩
        obtain ⟨oc, cc, hv, nc, K3⟩ := L.made5 K2.out hm
        subst hv
        clear hm K2
        go_wp2_with fail
        refine (HA.out _ _ _ K3.out.tl.tl.tl.r0 nS.out.1).mono ?_
        rintro e w4 ⟨v, rfl, hm⟩
        obtain ⟨oa1, ca1, hv, na1, K4⟩ := L.made5 K3.out hm
        subst hv
        clear hm K3
        go_wp2_with fail
        refine (H2.out _ _ _ K4.out.r0).mono ?_
        rintro e w5 ⟨rfl, hb⟩
        have K5 := Lib.hid (K4.out.on hb)
        clear hb K4
        go_wp2_with fail
        refine (B1.out _ _ _ K5.out.tl.r0 nc.out.1).mono ?_
        rintro e w6 ⟨rfl, hb⟩
        have K6 := Lib.hid (K5.out.on hb)
        clear hb K5
        go_wp2_with fail
        refine (B2.out _ _ _ K6.out.tl.tl.tl.tl.r0 nS.out.1).mono ?_
        rintro e w7 ⟨rfl, hb⟩
        have K7 := Lib.hid (K6.out.on hb)
        clear hb K6
        go_wp2_with fail
        refine (B3.out _ _ _ K7.out.tl.tl.tl.tl.tl.r0 nR.out.1).mono ?_
        rintro e w8 ⟨rfl, hb⟩
        have K8 := Lib.hid (K7.out.on hb)
        clear hb K7
        go_wp2_with fail
        refine (B4.out _ _ _ K8.out.tl.tl.tl.tl.tl.r0 nR.out.1).mono ?_
        rintro e w9 ⟨rfl, hb⟩
        have K9 := Lib.hid (K8.out.on hb)
        clear hb K8
        go_wp2_with fail
        refine (I1.out _ _ _ K9.out.tl.tl.tl.tl.r0).mono ?_
        rintro e w10 ⟨rfl, hb⟩
        have K10 := Lib.hid (K9.out.on hb)
        clear hb K9
        have KB := Lib.hid K10.out.below
        clear K10
        go_wp2_with fail
        refine (HK.out _).mono ?_
        rintro e wk ⟨rfl, hb⟩
        have KC := Lib.hid (KB.out.trans (hb.mono KB.out.size))
        clear hb
        go_wp2
        go_ret
        exact ⟨rfl, KC.out⟩
      | true =>
        cases i2 with
        | false =>
          obtain ⟨q1, q2⟩ := eq (.inr rfl)
          subst q1
          subst q2
          clear eq
          go_enter Try.func10, Try.ntmps10
          go_wp2_with fail
          refine (HA.out _ _ _ K.out.r0 nS.out.1).mono ?_
          rintro e w1 ⟨v, rfl, hm⟩
          obtain ⟨oa0, ca0, hv, na0, K1⟩ := L.made5 K.out hm
          subst hv
          clear hm K
          go_wp2_with fail
          refine (HB.out _ _ _ K1.out.tl.tl.r0 nR.out.1).mono ?_
          rintro e w2 ⟨v, rfl, hm⟩
          obtain ⟨ob0, cb0, hv, nb0, K2⟩ := L.made5 K1.out hm
          subst hv
          clear hm K1
          go_wp2_with fail
          refine (H1.out _ _ _ _ _ K2.out.tl.r0 K2.out.r0 na0.out.2 nb0.out.2).mono ?_
          rintro e w3 ⟨v, rfl, hm⟩
          obtain ⟨oc, cc, hv, nc, K3⟩ := L.made5 K2.out hm
          subst hv
          clear hm K2
          go_wp2_with fail
          refine (HA.out _ _ _ K3.out.tl.tl.tl.r0 nS.out.1).mono ?_
          rintro e w4 ⟨v, rfl, hm⟩
          obtain ⟨oa1, ca1, hv, na1, K4⟩ := L.made5 K3.out hm
          subst hv
          clear hm K3
          go_wp2_with fail
          refine (H2.out _ _ _ K4.out.r0).mono ?_
          rintro e w5 ⟨rfl, hb⟩
          have K5 := Lib.hid (K4.out.on hb)
          clear hb K4
          go_wp2_with fail
          refine (B1.out _ _ _ K5.out.tl.r0 nc.out.1).mono ?_
          rintro e w6 ⟨rfl, hb⟩
          have K6 := Lib.hid (K5.out.on hb)
          clear hb K5
          go_wp2_with fail
          refine (B2.out _ _ _ K6.out.tl.tl.tl.tl.r0 nS.out.1).mono ?_
          rintro e w7 ⟨rfl, hb⟩
          have K7 := Lib.hid (K6.out.on hb)
          clear hb K6
          go_wp2_with fail
          refine (B3.out _ _ _ K7.out.tl.tl.tl.tl.tl.r0 nR.out.1).mono ?_
          rintro e w8 ⟨rfl, hb⟩
          have K8 := Lib.hid (K7.out.on hb)
          clear hb K7
          go_wp2_with fail
          refine (B4.out _ _ _ K8.out.tl.tl.tl.tl.tl.r0 nR.out.1).mono ?_
          rintro e w9 ⟨rfl, hb⟩
          have K9 := Lib.hid (K8.out.on hb)
          clear hb K8
          go_wp2_with fail
          refine (I1.out _ _ _ K9.out.tl.tl.tl.tl.r0).mono ?_
          rintro e w10 ⟨rfl, hb⟩
          have K10 := Lib.hid (K9.out.on hb)
          clear hb K9
          go_wp2_with fail
          refine (I2.out _ _ _ K10.out.tl.tl.tl.tl.tl.r0).mono ?_
          rintro e w11 ⟨rfl, hb⟩
          have K11 := Lib.hid (K10.out.on hb)
          clear hb K10
          have KB := Lib.hid K11.out.below
          clear K11
          go_wp2_with fail
          refine (HK.out _).mono ?_
          rintro e wk ⟨rfl, hb⟩
          have KC := Lib.hid (KB.out.trans (hb.mono KB.out.size))
          clear hb
          go_wp2
          go_ret
          exact ⟨rfl, KC.out⟩
        | true =>
          clear eq
          go_enter Try.func10, Try.ntmps10
          go_wp2_with fail
          refine (HA.out _ _ _ K.out.r0 nS.out.1).mono ?_
          rintro e w1 ⟨v, rfl, hm⟩
          obtain ⟨oa0, ca0, hv, na0, K1⟩ := L.made5 K.out hm
          subst hv
          clear hm K
          go_wp2_with fail
          refine (HB.out _ _ _ K1.out.tl.tl.r0 nR.out.1).mono ?_
          rintro e w2 ⟨v, rfl, hm⟩
          obtain ⟨ob0, cb0, hv, nb0, K2⟩ := L.made5 K1.out hm
          subst hv
          clear hm K1
          go_wp2_with fail
          refine (H1.out _ _ _ _ _ K2.out.tl.r0 K2.out.r0 na0.out.2 nb0.out.2).mono ?_
          rintro e w3 ⟨v, rfl, hm⟩
          obtain ⟨oc, cc, hv, nc, K3⟩ := L.made5 K2.out hm
          subst hv
          clear hm K2
          go_wp2_with fail
          refine (HA.out _ _ _ K3.out.tl.tl.tl.r0 nS.out.1).mono ?_
          rintro e w4 ⟨v, rfl, hm⟩
          obtain ⟨oa1, ca1, hv, na1, K4⟩ := L.made5 K3.out hm
          subst hv
          clear hm K3
          go_wp2_with fail
          refine (H2.out _ _ _ K4.out.r0).mono ?_
          rintro e w5 ⟨rfl, hb⟩
          have K5 := Lib.hid (K4.out.on hb)
          clear hb K4
          go_wp2_with fail
          refine (B1.out _ _ _ K5.out.tl.r0 nc.out.1).mono ?_
          rintro e w6 ⟨rfl, hb⟩
          have K6 := Lib.hid (K5.out.on hb)
          clear hb K5
          go_wp2_with fail
          refine (B2.out _ _ _ K6.out.tl.tl.tl.tl.r0 nS.out.1).mono ?_
          rintro e w7 ⟨rfl, hb⟩
          have K7 := Lib.hid (K6.out.on hb)
          clear hb K6
          go_wp2_with fail
          refine (B3.out _ _ _ K7.out.tl.tl.tl.tl.tl.r0 nR.out.1).mono ?_
          rintro e w8 ⟨rfl, hb⟩
          have K8 := Lib.hid (K7.out.on hb)
          clear hb K7
          go_wp2_with fail
          refine (B4.out _ _ _ K8.out.tl.tl.tl.tl.tl.r0 nR.out.1).mono ?_
          rintro e w9 ⟨rfl, hb⟩
          have K9 := Lib.hid (K8.out.on hb)
          clear hb K8
          go_wp2_with fail
          refine (I1.out _ _ _ K9.out.tl.tl.tl.tl.r0).mono ?_
          rintro e w10 ⟨rfl, hb⟩
          have K10 := Lib.hid (K9.out.on hb)
          clear hb K9
          go_wp2_with fail
          refine (I2.out _ _ _ K10.out.tl.tl.tl.tl.tl.r0).mono ?_
          rintro e w11 ⟨rfl, hb⟩
          have K11 := Lib.hid (K10.out.on hb)
          clear hb K10
          have KB := Lib.hid K11.out.below
          clear K11
          go_wp2_with fail
          refine (HK.out _).mono ?_
          rintro e wk ⟨rfl, hb⟩
          have KC := Lib.hid (KB.out.trans (hb.mono KB.out.size))
          clear hb
          go_wp2
          go_ret
          exact ⟨rfl, KC.out⟩
    · have hp2 : p < 0 ∨ (¬ p < 0 ∧ (D.inL (D.qs s.x) : Int) < p) := by omega
      clear h0 hc ha hb0 l1 l2 hp
      obtain ⟨oS, cS, S⟩ := s
      obtain ⟨oR, cR, R⟩ := r
      dsimp only at *
      generalize D.inL (D.qs S) = n at *
      generalize D.outL (D.qs S) = m at *
      generalize D.cmpP S R = C0 at *
      clear hs hr
      rcases hp2 with d1 | ⟨d1, d2⟩
      all_goals
        go_enter Try.func10, Try.ntmps10
        go_wp2_with fail
        refine (HA.out _ _ _ K.out.r0 nS.out.1).mono ?_
        rintro e w1 ⟨v, rfl, hm⟩
        obtain ⟨oa0, ca0, hv, na0, K1⟩ := L.made5 K.out hm
        subst hv
        clear hm K
        go_wp2_with fail
        refine (HB.out _ _ _ K1.out.tl.tl.r0 nR.out.1).mono ?_
        rintro e w2 ⟨v, rfl, hm⟩
        obtain ⟨ob0, cb0, hv, nb0, K2⟩ := L.made5 K1.out hm
        subst hv
        clear hm K1
        go_wp2_with fail
        refine (H1.out _ _ _ _ _ K2.out.tl.r0 K2.out.r0 na0.out.2 nb0.out.2).mono ?_
        rintro e w3 ⟨v, rfl, hm⟩
        obtain ⟨oc, cc, hv, nc, K3⟩ := L.made5 K2.out hm
        subst hv
        clear hm K2
        go_wp2_with fail
        refine (HA.out _ _ _ K3.out.tl.tl.tl.r0 nS.out.1).mono ?_
        rintro e w4 ⟨v, rfl, hm⟩
        obtain ⟨oa1, ca1, hv, na1, K4⟩ := L.made5 K3.out hm
        subst hv
        clear hm K3
        go_wp2_with fail
        refine (H2.out _ _ _ K4.out.r0).mono ?_
        rintro e w5 ⟨rfl, hb⟩
        have K5 := Lib.hid (K4.out.on hb)
        clear hb K4
        have KB := Lib.hid K5.out.below
        clear K5
        go_wp2_with fail
        refine (HK.out _).mono ?_
        rintro e wk ⟨rfl, hb⟩
        have KC := Lib.hid (KB.out.trans (hb.mono KB.out.size))
        clear hb
        go_wp2
        go_ret
        exact ⟨rfl, KC.out⟩
  · have q9 : (D.cmpE s.x r.x != 0) = true := by simpa using h0
    clear h0
    obtain ⟨oS, cS, S⟩ := s
    obtain ⟨oR, cR, R⟩ := r
    dsimp only at *
    generalize D.lenI S = n at *
    generalize D.lenO S = m at *
    generalize D.chk S = k at *
    generalize D.cmpP S R = C0 at *
    generalize D.cmpE S R = k0 at *
    clear hs hr
    go_enter Try.func10, Try.ntmps10
    go_wp2_with fail
    refine (HA.out _ _ _ K.out.r0 nS.out.1).mono ?_
    rintro e w1 ⟨v, rfl, hm⟩
    obtain ⟨oa0, ca0, hv, na0, K1⟩ := L.made5 K.out hm
    subst hv
    clear hm K
    go_wp2_with fail
    refine (HB.out _ _ _ K1.out.tl.tl.r0 nR.out.1).mono ?_
    rintro e w2 ⟨v, rfl, hm⟩
    obtain ⟨ob0, cb0, hv, nb0, K2⟩ := L.made5 K1.out hm
    subst hv
    clear hm K1
    go_wp2_with fail
    refine (H1.out _ _ _ _ _ K2.out.tl.r0 K2.out.r0 na0.out.2 nb0.out.2).mono ?_
    rintro e w3 ⟨v, rfl, hm⟩
    obtain ⟨oc, cc, hv, nc, K3⟩ := L.made5 K2.out hm
    subst hv
    clear hm K2
    go_wp2_with fail
    refine (HA.out _ _ _ K3.out.tl.tl.tl.r0 nS.out.1).mono ?_
    rintro e w4 ⟨v, rfl, hm⟩
    obtain ⟨oa1, ca1, hv, na1, K4⟩ := L.made5 K3.out hm
    subst hv
    clear hm K3
    go_wp2_with fail
    refine (H2.out _ _ _ K4.out.r0).mono ?_
    rintro e w5 ⟨rfl, hb⟩
    have K5 := Lib.hid (K4.out.on hb)
    clear hb K4
    have KB := Lib.hid K5.out.below
    clear K5
    go_wp2_with fail
    refine (HK.out _).mono ?_
    rintro e wk ⟨rfl, hb⟩
    have KC := Lib.hid (KB.out.trans (hb.mono KB.out.size))
    clear hb
    go_wp2
    go_ret
    exact ⟨rfl, KC.out⟩
end Go.Proofs.Ytampekldlnlhdaa
