/- The walks of ShiftOrders, ShiftAdjoint, ShiftInverts. -/
import Derived.Test.YtampekldlnlhdaaShiftLawKit
namespace Go.Proofs.Ytampekldlnlhdaa
open Go.RowKit

set_option maxRecDepth 100000 in
set_option maxHeartbeats 4000000 in
theorem shiftOrders_walk (s : D.Src) (p q : Int) (w : World) (hs : D.ArgOk w s) (_ : -9223372036854775808 ≤ p) (_ : p < 9223372036854775808) (_ : -9223372036854775808 ≤ q) (_ : q < 9223372036854775808) :
    Calls Try.prog 8 #[.slice s.a s.x.length s.c, .int .i64 p, .int .i64 q] w fun e w' => e = .returned (.bool true) ∧ Below w.heap.size w w' := by
  have HO := L.hOwn s.x hs.fit
  have HK := L.hKnown
  have B1 := L.hBoth s.x hs.fit (L.bd_arg hs) p
  have B2 := L.hBoth s.x hs.fit (L.bd_arg hs) q
  have T1 := L.hKep s.x (L.bd_arg hs) p
  have T2 := L.hKep s.x (L.bd_arg hs) q
  have K : Hid (D.Kn w w [(s.a, s.x)]) := ⟨Below.refl _ _, fun x hx => by simp at hx; subst hx; exact hs.src.row⟩
  have nS : Hid ((s.a = none → s.c = 0) ∧ s.x.length ≤ s.c) := ⟨hs.src.nil, hs.cap⟩
  by_cases h1 : D.posE s.x p 0 = 0
  · rw [decide_eq_true h1] at B1
    by_cases h2 : D.posE s.x q 0 = 0
    · rw [decide_eq_true h2] at B2
      by_cases h3 : p ≤ q
      · have o1 := D.shift_orders h1 h2 h3
        have o2 := D.shift_orders h2 h2 (Int.le_refl q)
        have ko := fun a b c d e => D.kep_order (x := s.x) (p := p) (q := q) a b c d e
        have h3' : ¬ q < p := by omega
        obtain ⟨oS, cS, S⟩ := s
        dsimp only at *
        generalize D.posV S p 0 = a1 at *
        generalize D.posV S p 1 = a2 at *
        generalize D.posV S q 0 = b1 at *
        generalize D.posV S q 1 = b2 at *
        generalize D.kepE S p = f1 at *
        generalize D.kepE S q = f2 at *
        generalize D.kepI S p = i1 at *
        generalize D.kepI S q = i2 at *
        generalize D.kepV S p = k1 at *
        generalize D.kepV S q = k2 at *
        clear hs
        have r1 : a1 ≤ b1 := o1.1
        have r2 : a2 ≤ b2 := o1.2.1
        have r3 : a1 ≤ a2 := o1.2.2
        have r4 : b1 ≤ b2 := o2.2.2
        have KO := Lib.hid ko
        clear o1 o2 ko h1 h2 h3
        by_cases c1 : p < q
        · by_cases c2 : f1 = 0
          · subst c2
            by_cases c3 : f2 = 0
            · subst c3
              cases i1 with
              | true =>
                cases i2 with
                | true =>
                  have hk : ¬ k2 ≤ k1 := by have := KO.out rfl rfl rfl rfl c1; omega
                  clear KO
                  go_enter Try.func8, Try.ntmps8
                  go_wp2_with fail
                  refine (B1.out _ _ _ K.out.r0 nS.out.1).mono ?_
                  rintro e w1 ⟨rfl, hb⟩
                  have K1 := Lib.hid (K.out.on hb)
                  clear hb K
                  go_wp2_with fail
                  refine (B2.out _ _ _ K1.out.r0 nS.out.1).mono ?_
                  rintro e w2 ⟨rfl, hb⟩
                  have K2 := Lib.hid (K1.out.on hb)
                  clear hb K1
                  go_wp2_with fail
                  refine (HO.out _ _ _ K2.out.r0 nS.out.1).mono ?_
                  rintro e w3 ⟨v, rfl, hm⟩
                  obtain ⟨ox1, cx1, hv, nx1, K3⟩ := L.made5 K2.out hm
                  subst hv
                  clear hm K2
                  go_wp2_with fail
                  refine (T1.out _ _ _ K3.out.r0).mono ?_
                  rintro e w4 ⟨rfl, hb⟩
                  have K4 := Lib.hid (K3.out.on hb)
                  clear hb K3
                  go_wp2_with fail
                  refine (HO.out _ _ _ K4.out.tl.r0 nS.out.1).mono ?_
                  rintro e w5 ⟨v, rfl, hm⟩
                  obtain ⟨ox2, cx2, hv, nx2, K5⟩ := L.made5 K4.out hm
                  subst hv
                  clear hm K4
                  go_wp2_with fail
                  refine (T2.out _ _ _ K5.out.r0).mono ?_
                  rintro e w6 ⟨rfl, hb⟩
                  have K6 := Lib.hid (K5.out.on hb)
                  clear hb K5
                  have KB := Lib.hid K6.out.below
                  clear K6
                  go_wp2_with fail
                  refine (HK.out _).mono ?_
                  rintro e wk ⟨rfl, hb⟩
                  have KC := Lib.hid (KB.out.trans (hb.mono KB.out.size))
                  clear hb
                  go_wp2
                  go_ret
                  exact ⟨rfl, KC.out⟩
                | false =>
                  clear KO
                  go_enter Try.func8, Try.ntmps8
                  go_wp2_with fail
                  refine (B1.out _ _ _ K.out.r0 nS.out.1).mono ?_
                  rintro e w1 ⟨rfl, hb⟩
                  have K1 := Lib.hid (K.out.on hb)
                  clear hb K
                  go_wp2_with fail
                  refine (B2.out _ _ _ K1.out.r0 nS.out.1).mono ?_
                  rintro e w2 ⟨rfl, hb⟩
                  have K2 := Lib.hid (K1.out.on hb)
                  clear hb K1
                  go_wp2_with fail
                  refine (HO.out _ _ _ K2.out.r0 nS.out.1).mono ?_
                  rintro e w3 ⟨v, rfl, hm⟩
                  obtain ⟨ox1, cx1, hv, nx1, K3⟩ := L.made5 K2.out hm
                  subst hv
                  clear hm K2
                  go_wp2_with fail
                  refine (T1.out _ _ _ K3.out.r0).mono ?_
                  rintro e w4 ⟨rfl, hb⟩
                  have K4 := Lib.hid (K3.out.on hb)
                  clear hb K3
                  go_wp2_with fail
                  refine (HO.out _ _ _ K4.out.tl.r0 nS.out.1).mono ?_
                  rintro e w5 ⟨v, rfl, hm⟩
                  obtain ⟨ox2, cx2, hv, nx2, K5⟩ := L.made5 K4.out hm
                  subst hv
                  clear hm K4
                  go_wp2_with fail
                  refine (T2.out _ _ _ K5.out.r0).mono ?_
                  rintro e w6 ⟨rfl, hb⟩
                  have K6 := Lib.hid (K5.out.on hb)
                  clear hb K5
                  have KB := Lib.hid K6.out.below
                  clear K6
                  go_wp2_with fail
                  refine (HK.out _).mono ?_
                  rintro e wk ⟨rfl, hb⟩
                  have KC := Lib.hid (KB.out.trans (hb.mono KB.out.size))
                  clear hb
                  go_wp2
                  go_ret
                  exact ⟨rfl, KC.out⟩
              | false =>
                clear KO
                go_enter Try.func8, Try.ntmps8
                go_wp2_with fail
                refine (B1.out _ _ _ K.out.r0 nS.out.1).mono ?_
                rintro e w1 ⟨rfl, hb⟩
                have K1 := Lib.hid (K.out.on hb)
                clear hb K
                go_wp2_with fail
                refine (B2.out _ _ _ K1.out.r0 nS.out.1).mono ?_
                rintro e w2 ⟨rfl, hb⟩
                have K2 := Lib.hid (K1.out.on hb)
                clear hb K1
                go_wp2_with fail
                refine (HO.out _ _ _ K2.out.r0 nS.out.1).mono ?_
                rintro e w3 ⟨v, rfl, hm⟩
                obtain ⟨ox1, cx1, hv, nx1, K3⟩ := L.made5 K2.out hm
                subst hv
                clear hm K2
                go_wp2_with fail
                refine (T1.out _ _ _ K3.out.r0).mono ?_
                rintro e w4 ⟨rfl, hb⟩
                have K4 := Lib.hid (K3.out.on hb)
                clear hb K3
                go_wp2_with fail
                refine (HO.out _ _ _ K4.out.tl.r0 nS.out.1).mono ?_
                rintro e w5 ⟨v, rfl, hm⟩
                obtain ⟨ox2, cx2, hv, nx2, K5⟩ := L.made5 K4.out hm
                subst hv
                clear hm K4
                go_wp2_with fail
                refine (T2.out _ _ _ K5.out.r0).mono ?_
                rintro e w6 ⟨rfl, hb⟩
                have K6 := Lib.hid (K5.out.on hb)
                clear hb K5
                have KB := Lib.hid K6.out.below
                clear K6
                go_wp2_with fail
                refine (HK.out _).mono ?_
                rintro e wk ⟨rfl, hb⟩
                have KC := Lib.hid (KB.out.trans (hb.mono KB.out.size))
                clear hb
                go_wp2
                go_ret
                exact ⟨rfl, KC.out⟩
            · have q2 : (f2 == 0) = false := by simpa using c3
              clear KO c3
              go_enter Try.func8, Try.ntmps8
              go_wp2_with fail
              refine (B1.out _ _ _ K.out.r0 nS.out.1).mono ?_
              rintro e w1 ⟨rfl, hb⟩
              have K1 := Lib.hid (K.out.on hb)
              clear hb K
              go_wp2_with fail
              refine (B2.out _ _ _ K1.out.r0 nS.out.1).mono ?_
              rintro e w2 ⟨rfl, hb⟩
              have K2 := Lib.hid (K1.out.on hb)
              clear hb K1
              go_wp2_with fail
              refine (HO.out _ _ _ K2.out.r0 nS.out.1).mono ?_
              rintro e w3 ⟨v, rfl, hm⟩
              obtain ⟨ox1, cx1, hv, nx1, K3⟩ := L.made5 K2.out hm
              subst hv
              clear hm K2
              go_wp2_with fail
              refine (T1.out _ _ _ K3.out.r0).mono ?_
              rintro e w4 ⟨rfl, hb⟩
              have K4 := Lib.hid (K3.out.on hb)
              clear hb K3
              go_wp2_with fail
              refine (HO.out _ _ _ K4.out.tl.r0 nS.out.1).mono ?_
              rintro e w5 ⟨v, rfl, hm⟩
              obtain ⟨ox2, cx2, hv, nx2, K5⟩ := L.made5 K4.out hm
              subst hv
              clear hm K4
              go_wp2_with fail
              refine (T2.out _ _ _ K5.out.r0).mono ?_
              rintro e w6 ⟨rfl, hb⟩
              have K6 := Lib.hid (K5.out.on hb)
              clear hb K5
              have KB := Lib.hid K6.out.below
              clear K6
              go_wp2_with fail
              refine (HK.out _).mono ?_
              rintro e wk ⟨rfl, hb⟩
              have KC := Lib.hid (KB.out.trans (hb.mono KB.out.size))
              clear hb
              go_wp2
              go_ret
              exact ⟨rfl, KC.out⟩
          · have q2 : (f1 == 0) = false := by simpa using c2
            clear KO c2
            go_enter Try.func8, Try.ntmps8
            go_wp2_with fail
            refine (B1.out _ _ _ K.out.r0 nS.out.1).mono ?_
            rintro e w1 ⟨rfl, hb⟩
            have K1 := Lib.hid (K.out.on hb)
            clear hb K
            go_wp2_with fail
            refine (B2.out _ _ _ K1.out.r0 nS.out.1).mono ?_
            rintro e w2 ⟨rfl, hb⟩
            have K2 := Lib.hid (K1.out.on hb)
            clear hb K1
            go_wp2_with fail
            refine (HO.out _ _ _ K2.out.r0 nS.out.1).mono ?_
            rintro e w3 ⟨v, rfl, hm⟩
            obtain ⟨ox1, cx1, hv, nx1, K3⟩ := L.made5 K2.out hm
            subst hv
            clear hm K2
            go_wp2_with fail
            refine (T1.out _ _ _ K3.out.r0).mono ?_
            rintro e w4 ⟨rfl, hb⟩
            have K4 := Lib.hid (K3.out.on hb)
            clear hb K3
            go_wp2_with fail
            refine (HO.out _ _ _ K4.out.tl.r0 nS.out.1).mono ?_
            rintro e w5 ⟨v, rfl, hm⟩
            obtain ⟨ox2, cx2, hv, nx2, K5⟩ := L.made5 K4.out hm
            subst hv
            clear hm K4
            go_wp2_with fail
            refine (T2.out _ _ _ K5.out.r0).mono ?_
            rintro e w6 ⟨rfl, hb⟩
            have K6 := Lib.hid (K5.out.on hb)
            clear hb K5
            have KB := Lib.hid K6.out.below
            clear K6
            go_wp2_with fail
            refine (HK.out _).mono ?_
            rintro e wk ⟨rfl, hb⟩
            have KC := Lib.hid (KB.out.trans (hb.mono KB.out.size))
            clear hb
            go_wp2
            go_ret
            exact ⟨rfl, KC.out⟩
        · clear KO
          go_enter Try.func8, Try.ntmps8
          go_wp2_with fail
          refine (B1.out _ _ _ K.out.r0 nS.out.1).mono ?_
          rintro e w1 ⟨rfl, hb⟩
          have K1 := Lib.hid (K.out.on hb)
          clear hb K
          go_wp2_with fail
          refine (B2.out _ _ _ K1.out.r0 nS.out.1).mono ?_
          rintro e w2 ⟨rfl, hb⟩
          have K2 := Lib.hid (K1.out.on hb)
          clear hb K1
          go_wp2_with fail
          refine (HO.out _ _ _ K2.out.r0 nS.out.1).mono ?_
          rintro e w3 ⟨v, rfl, hm⟩
          obtain ⟨ox1, cx1, hv, nx1, K3⟩ := L.made5 K2.out hm
          subst hv
          clear hm K2
          go_wp2_with fail
          refine (T1.out _ _ _ K3.out.r0).mono ?_
          rintro e w4 ⟨rfl, hb⟩
          have K4 := Lib.hid (K3.out.on hb)
          clear hb K3
          go_wp2_with fail
          refine (HO.out _ _ _ K4.out.tl.r0 nS.out.1).mono ?_
          rintro e w5 ⟨v, rfl, hm⟩
          obtain ⟨ox2, cx2, hv, nx2, K5⟩ := L.made5 K4.out hm
          subst hv
          clear hm K4
          go_wp2_with fail
          refine (T2.out _ _ _ K5.out.r0).mono ?_
          rintro e w6 ⟨rfl, hb⟩
          have K6 := Lib.hid (K5.out.on hb)
          clear hb K5
          have KB := Lib.hid K6.out.below
          clear K6
          go_wp2_with fail
          refine (HK.out _).mono ?_
          rintro e wk ⟨rfl, hb⟩
          have KC := Lib.hid (KB.out.trans (hb.mono KB.out.size))
          clear hb
          go_wp2
          go_ret
          exact ⟨rfl, KC.out⟩
      · have h3' : q < p := by omega
        clear h1 h2 h3 T1 T2
        obtain ⟨oS, cS, S⟩ := s
        dsimp only at *
        generalize D.posV S p 0 = a1 at *
        generalize D.posV S p 1 = a2 at *
        generalize D.posV S q 0 = b1 at *
        generalize D.posV S q 1 = b2 at *
        clear hs
        go_enter Try.func8, Try.ntmps8
        go_wp2_with fail
        refine (B1.out _ _ _ K.out.r0 nS.out.1).mono ?_
        rintro e w1 ⟨rfl, hb⟩
        have K1 := Lib.hid (K.out.on hb)
        clear hb K
        go_wp2_with fail
        refine (B2.out _ _ _ K1.out.r0 nS.out.1).mono ?_
        rintro e w2 ⟨rfl, hb⟩
        have K2 := Lib.hid (K1.out.on hb)
        clear hb K1
        have KB := Lib.hid K2.out.below
        clear K2
        go_wp2_with fail
        refine (HK.out _).mono ?_
        rintro e wk ⟨rfl, hb⟩
        have KC := Lib.hid (KB.out.trans (hb.mono KB.out.size))
        clear hb
        go_wp2
        go_ret
        exact ⟨rfl, KC.out⟩
    · rw [decide_eq_false h2] at B2
      clear h1 h2 T1 T2
      obtain ⟨oS, cS, S⟩ := s
      dsimp only at *
      generalize D.posV S p 0 = a1 at *
      generalize D.posV S p 1 = a2 at *
      generalize D.posV S q 0 = b1 at *
      generalize D.posV S q 1 = b2 at *
      clear hs
      go_enter Try.func8, Try.ntmps8
      go_wp2_with fail
      refine (B1.out _ _ _ K.out.r0 nS.out.1).mono ?_
      rintro e w1 ⟨rfl, hb⟩
      have K1 := Lib.hid (K.out.on hb)
      clear hb K
      go_wp2_with fail
      refine (B2.out _ _ _ K1.out.r0 nS.out.1).mono ?_
      rintro e w2 ⟨rfl, hb⟩
      have K2 := Lib.hid (K1.out.on hb)
      clear hb K1
      have KB := Lib.hid K2.out.below
      clear K2
      go_wp2_with fail
      refine (HK.out _).mono ?_
      rintro e wk ⟨rfl, hb⟩
      have KC := Lib.hid (KB.out.trans (hb.mono KB.out.size))
      clear hb
      go_wp2
      go_ret
      exact ⟨rfl, KC.out⟩
  · rw [decide_eq_false h1] at B1
    clear h1 T1 T2
    obtain ⟨oS, cS, S⟩ := s
    dsimp only at *
    generalize D.posV S p 0 = a1 at *
    generalize D.posV S p 1 = a2 at *
    generalize D.posV S q 0 = b1 at *
    generalize D.posV S q 1 = b2 at *
    generalize decide (D.posE S q 0 = 0) = e2 at *
    clear hs
    go_enter Try.func8, Try.ntmps8
    go_wp2_with fail
    refine (B1.out _ _ _ K.out.r0 nS.out.1).mono ?_
    rintro e w1 ⟨rfl, hb⟩
    have K1 := Lib.hid (K.out.on hb)
    clear hb K
    go_wp2_with fail
    refine (B2.out _ _ _ K1.out.r0 nS.out.1).mono ?_
    rintro e w2 ⟨rfl, hb⟩
    have K2 := Lib.hid (K1.out.on hb)
    clear hb K1
    have KB := Lib.hid K2.out.below
    clear K2
    go_wp2_with fail
    refine (HK.out _).mono ?_
    rintro e wk ⟨rfl, hb⟩
    have KC := Lib.hid (KB.out.trans (hb.mono KB.out.size))
    clear hb
    go_wp2
    go_ret
    exact ⟨rfl, KC.out⟩
set_option maxRecDepth 100000 in
set_option maxHeartbeats 4000000 in
theorem shiftAdjoint_walk (s : D.Src) (p q : Int) (w : World) (hs : D.ArgOk w s) (_ : -9223372036854775808 ≤ p) (_ : p < 9223372036854775808) (_ : -9223372036854775808 ≤ q) (_ : q < 9223372036854775808) :
    Calls Try.prog 9 #[.slice s.a s.x.length s.c, .int .i64 p, .int .i64 q] w fun e w' => e = .returned (.bool true) ∧ Below w.heap.size w w' := by
  have HO := L.hOwn s.x hs.fit
  have HK := L.hKnown
  have H1 := L.hLen s.x (L.bd_arg hs)
  have K : Hid (D.Kn w w [(s.a, s.x)]) := ⟨Below.refl _ _, fun x hx => by simp at hx; subst hx; exact hs.src.row⟩
  have nS : Hid ((s.a = none → s.c = 0) ∧ s.x.length ≤ s.c) := ⟨hs.src.nil, hs.cap⟩
  by_cases h0 : D.chk s.x = 0
  · obtain ⟨l1, l2⟩ := D.len_qs h0
    rw [h0, l1, l2] at H1
    by_cases hc : 0 ≤ p ∧ p ≤ (D.inL (D.qs s.x) : Int) ∧ 0 ≤ q ∧ q ≤ (D.outL (D.qs s.x) : Int)
    · obtain ⟨p0, p1, q0, q1⟩ := hc
      have B1 := L.hBoth s.x hs.fit (L.bd_arg hs) p
      have T1 := L.hBck s.x (L.bd_arg hs) q 1 (by decide)
      have T2 := L.hBck s.x (L.bd_arg hs) q 0 (by decide)
      obtain ⟨j1, j2⟩ := D.shift_adjoint h0 p0 p1 q0 q1
      rw [decide_eq_true ((D.posE_iff (by decide)).2 ⟨h0, by decide, p0, p1⟩)] at B1
      rw [(D.bckE_iff (by decide)).2 ⟨h0, by decide, q0, q1⟩] at T1 T2
      have p2 : ¬ p < 0 := by omega
      have p3 : ¬ (D.inL (D.qs s.x) : Int) < p := by omega
      have q2 : ¬ q < 0 := by omega
      have q3 : ¬ (D.outL (D.qs s.x) : Int) < q := by omega
      clear h0 l1 l2 p0 p1 q0 q1
      obtain ⟨oS, cS, S⟩ := s
      dsimp only at *
      generalize D.inL (D.qs S) = n at *
      generalize D.outL (D.qs S) = m at *
      generalize D.posV S p 0 = a1 at *
      generalize D.posV S p 1 = a2 at *
      generalize D.bckV S q 0 = b1 at *
      generalize D.bckV S q 1 = b2 at *
      clear hs
      by_cases c1 : a1 ≤ q
      · have d1 : p ≤ b2 := j1.1 c1
        clear j1
        by_cases c2 : q ≤ a2
        · have d2 : b1 ≤ p := j2.1 c2
          clear j2
          go_enter Try.func9, Try.ntmps9
          go_wp2_with fail
          refine (HO.out _ _ _ K.out.r0 nS.out.1).mono ?_
          rintro e w1 ⟨v, rfl, hm⟩
          obtain ⟨ox0, cx0, hv, nx0, K1⟩ := L.made5 K.out hm
          subst hv
          clear hm K
          go_wp2_with fail
          refine (H1.out _ _ _ K1.out.r0).mono ?_
          rintro e w2 ⟨rfl, hb⟩
          have K2 := Lib.hid (K1.out.on hb)
          clear hb K1
          go_wp2_with fail
          refine (B1.out _ _ _ K2.out.tl.r0 nS.out.1).mono ?_
          rintro e w3 ⟨rfl, hb⟩
          have K3 := Lib.hid (K2.out.on hb)
          clear hb K2
          go_wp2_with fail
          refine (HO.out _ _ _ K3.out.tl.r0 nS.out.1).mono ?_
          rintro e w4 ⟨v, rfl, hm⟩
          obtain ⟨ox1, cx1, hv, nx1, K4⟩ := L.made5 K3.out hm
          subst hv
          clear hm K3
          go_wp2_with fail
          refine (T1.out _ _ _ K4.out.r0).mono ?_
          rintro e w5 ⟨rfl, hb⟩
          have K5 := Lib.hid (K4.out.on hb)
          clear hb K4
          go_wp2_with fail
          refine (HO.out _ _ _ K5.out.tl.tl.r0 nS.out.1).mono ?_
          rintro e w6 ⟨v, rfl, hm⟩
          obtain ⟨ox2, cx2, hv, nx2, K6⟩ := L.made5 K5.out hm
          subst hv
          clear hm K5
          go_wp2_with fail
          refine (T2.out _ _ _ K6.out.r0).mono ?_
          rintro e w7 ⟨rfl, hb⟩
          have K7 := Lib.hid (K6.out.on hb)
          clear hb K6
          have KB := Lib.hid K7.out.below
          clear K7
          go_wp2_with fail
          refine (HK.out _).mono ?_
          rintro e wk ⟨rfl, hb⟩
          have KC := Lib.hid (KB.out.trans (hb.mono KB.out.size))
          clear hb
          go_wp2
          go_ret
          exact ⟨rfl, KC.out⟩
        · have d2 : ¬ b1 ≤ p := fun h => c2 (j2.2 h)
          clear j2
          go_enter Try.func9, Try.ntmps9
          go_wp2_with fail
          refine (HO.out _ _ _ K.out.r0 nS.out.1).mono ?_
          rintro e w1 ⟨v, rfl, hm⟩
          obtain ⟨ox0, cx0, hv, nx0, K1⟩ := L.made5 K.out hm
          subst hv
          clear hm K
          go_wp2_with fail
          refine (H1.out _ _ _ K1.out.r0).mono ?_
          rintro e w2 ⟨rfl, hb⟩
          have K2 := Lib.hid (K1.out.on hb)
          clear hb K1
          go_wp2_with fail
          refine (B1.out _ _ _ K2.out.tl.r0 nS.out.1).mono ?_
          rintro e w3 ⟨rfl, hb⟩
          have K3 := Lib.hid (K2.out.on hb)
          clear hb K2
          go_wp2_with fail
          refine (HO.out _ _ _ K3.out.tl.r0 nS.out.1).mono ?_
          rintro e w4 ⟨v, rfl, hm⟩
          obtain ⟨ox1, cx1, hv, nx1, K4⟩ := L.made5 K3.out hm
          subst hv
          clear hm K3
          go_wp2_with fail
          refine (T1.out _ _ _ K4.out.r0).mono ?_
          rintro e w5 ⟨rfl, hb⟩
          have K5 := Lib.hid (K4.out.on hb)
          clear hb K4
          go_wp2_with fail
          refine (HO.out _ _ _ K5.out.tl.tl.r0 nS.out.1).mono ?_
          rintro e w6 ⟨v, rfl, hm⟩
          obtain ⟨ox2, cx2, hv, nx2, K6⟩ := L.made5 K5.out hm
          subst hv
          clear hm K5
          go_wp2_with fail
          refine (T2.out _ _ _ K6.out.r0).mono ?_
          rintro e w7 ⟨rfl, hb⟩
          have K7 := Lib.hid (K6.out.on hb)
          clear hb K6
          have KB := Lib.hid K7.out.below
          clear K7
          go_wp2_with fail
          refine (HK.out _).mono ?_
          rintro e wk ⟨rfl, hb⟩
          have KC := Lib.hid (KB.out.trans (hb.mono KB.out.size))
          clear hb
          go_wp2
          go_ret
          exact ⟨rfl, KC.out⟩
      · have d1 : ¬ p ≤ b2 := fun h => c1 (j1.2 h)
        clear j1
        by_cases c2 : q ≤ a2
        · have d2 : b1 ≤ p := j2.1 c2
          clear j2
          go_enter Try.func9, Try.ntmps9
          go_wp2_with fail
          refine (HO.out _ _ _ K.out.r0 nS.out.1).mono ?_
          rintro e w1 ⟨v, rfl, hm⟩
          obtain ⟨ox0, cx0, hv, nx0, K1⟩ := L.made5 K.out hm
          subst hv
          clear hm K
          go_wp2_with fail
          refine (H1.out _ _ _ K1.out.r0).mono ?_
          rintro e w2 ⟨rfl, hb⟩
          have K2 := Lib.hid (K1.out.on hb)
          clear hb K1
          go_wp2_with fail
          refine (B1.out _ _ _ K2.out.tl.r0 nS.out.1).mono ?_
          rintro e w3 ⟨rfl, hb⟩
          have K3 := Lib.hid (K2.out.on hb)
          clear hb K2
          go_wp2_with fail
          refine (HO.out _ _ _ K3.out.tl.r0 nS.out.1).mono ?_
          rintro e w4 ⟨v, rfl, hm⟩
          obtain ⟨ox1, cx1, hv, nx1, K4⟩ := L.made5 K3.out hm
          subst hv
          clear hm K3
          go_wp2_with fail
          refine (T1.out _ _ _ K4.out.r0).mono ?_
          rintro e w5 ⟨rfl, hb⟩
          have K5 := Lib.hid (K4.out.on hb)
          clear hb K4
          go_wp2_with fail
          refine (HO.out _ _ _ K5.out.tl.tl.r0 nS.out.1).mono ?_
          rintro e w6 ⟨v, rfl, hm⟩
          obtain ⟨ox2, cx2, hv, nx2, K6⟩ := L.made5 K5.out hm
          subst hv
          clear hm K5
          go_wp2_with fail
          refine (T2.out _ _ _ K6.out.r0).mono ?_
          rintro e w7 ⟨rfl, hb⟩
          have K7 := Lib.hid (K6.out.on hb)
          clear hb K6
          have KB := Lib.hid K7.out.below
          clear K7
          go_wp2_with fail
          refine (HK.out _).mono ?_
          rintro e wk ⟨rfl, hb⟩
          have KC := Lib.hid (KB.out.trans (hb.mono KB.out.size))
          clear hb
          go_wp2
          go_ret
          exact ⟨rfl, KC.out⟩
        · have d2 : ¬ b1 ≤ p := fun h => c2 (j2.2 h)
          clear j2
          go_enter Try.func9, Try.ntmps9
          go_wp2_with fail
          refine (HO.out _ _ _ K.out.r0 nS.out.1).mono ?_
          rintro e w1 ⟨v, rfl, hm⟩
          obtain ⟨ox0, cx0, hv, nx0, K1⟩ := L.made5 K.out hm
          subst hv
          clear hm K
          go_wp2_with fail
          refine (H1.out _ _ _ K1.out.r0).mono ?_
          rintro e w2 ⟨rfl, hb⟩
          have K2 := Lib.hid (K1.out.on hb)
          clear hb K1
          go_wp2_with fail
          refine (B1.out _ _ _ K2.out.tl.r0 nS.out.1).mono ?_
          rintro e w3 ⟨rfl, hb⟩
          have K3 := Lib.hid (K2.out.on hb)
          clear hb K2
          go_wp2_with fail
          refine (HO.out _ _ _ K3.out.tl.r0 nS.out.1).mono ?_
          rintro e w4 ⟨v, rfl, hm⟩
          obtain ⟨ox1, cx1, hv, nx1, K4⟩ := L.made5 K3.out hm
          subst hv
          clear hm K3
          go_wp2_with fail
          refine (T1.out _ _ _ K4.out.r0).mono ?_
          rintro e w5 ⟨rfl, hb⟩
          have K5 := Lib.hid (K4.out.on hb)
          clear hb K4
          go_wp2_with fail
          refine (HO.out _ _ _ K5.out.tl.tl.r0 nS.out.1).mono ?_
          rintro e w6 ⟨v, rfl, hm⟩
          obtain ⟨ox2, cx2, hv, nx2, K6⟩ := L.made5 K5.out hm
          subst hv
          clear hm K5
          go_wp2_with fail
          refine (T2.out _ _ _ K6.out.r0).mono ?_
          rintro e w7 ⟨rfl, hb⟩
          have K7 := Lib.hid (K6.out.on hb)
          clear hb K6
          have KB := Lib.hid K7.out.below
          clear K7
          go_wp2_with fail
          refine (HK.out _).mono ?_
          rintro e wk ⟨rfl, hb⟩
          have KC := Lib.hid (KB.out.trans (hb.mono KB.out.size))
          clear hb
          go_wp2
          go_ret
          exact ⟨rfl, KC.out⟩
    · have hc2 : p < 0 ∨ (¬ p < 0 ∧ (D.inL (D.qs s.x) : Int) < p) ∨ (¬ p < 0 ∧ ¬ (D.inL (D.qs s.x) : Int) < p ∧ q < 0) ∨ (¬ p < 0 ∧ ¬ (D.inL (D.qs s.x) : Int) < p ∧ ¬ q < 0 ∧ (D.outL (D.qs s.x) : Int) < q) := by omega
      clear h0 l1 l2 hc
      obtain ⟨oS, cS, S⟩ := s
      dsimp only at *
      generalize D.inL (D.qs S) = n at *
      generalize D.outL (D.qs S) = m at *
      clear hs
      rcases hc2 with c1 | ⟨c1, c2⟩ | ⟨c1, c2, c3⟩ | ⟨c1, c2, c3, c4⟩
      all_goals
        go_enter Try.func9, Try.ntmps9
        go_wp2_with fail
        refine (HO.out _ _ _ K.out.r0 nS.out.1).mono ?_
        rintro e w1 ⟨v, rfl, hm⟩
        obtain ⟨ox0, cx0, hv, nx0, K1⟩ := L.made5 K.out hm
        subst hv
        clear hm K
        go_wp2_with fail
        refine (H1.out _ _ _ K1.out.r0).mono ?_
        rintro e w2 ⟨rfl, hb⟩
        have K2 := Lib.hid (K1.out.on hb)
        clear hb K1
        have KB := Lib.hid K2.out.below
        clear K2
        go_wp2_with fail
        refine (HK.out _).mono ?_
        rintro e wk ⟨rfl, hb⟩
        have KC := Lib.hid (KB.out.trans (hb.mono KB.out.size))
        clear hb
        go_wp2
        go_ret
        exact ⟨rfl, KC.out⟩
  · have q9 : (D.chk s.x != 0) = true := by simpa using h0
    clear h0
    obtain ⟨oS, cS, S⟩ := s
    dsimp only at *
    generalize D.lenI S = n at *
    generalize D.lenO S = m at *
    generalize D.chk S = k at *
    clear hs
    go_enter Try.func9, Try.ntmps9
    go_wp2_with fail
    refine (HO.out _ _ _ K.out.r0 nS.out.1).mono ?_
    rintro e w1 ⟨v, rfl, hm⟩
    obtain ⟨ox0, cx0, hv, nx0, K1⟩ := L.made5 K.out hm
    subst hv
    clear hm K
    go_wp2_with fail
    refine (H1.out _ _ _ K1.out.r0).mono ?_
    rintro e w2 ⟨rfl, hb⟩
    have K2 := Lib.hid (K1.out.on hb)
    clear hb K1
    have KB := Lib.hid K2.out.below
    clear K2
    go_wp2_with fail
    refine (HK.out _).mono ?_
    rintro e wk ⟨rfl, hb⟩
    have KC := Lib.hid (KB.out.trans (hb.mono KB.out.size))
    clear hb
    go_wp2
    go_ret
    exact ⟨rfl, KC.out⟩
set_option maxRecDepth 100000 in
set_option maxHeartbeats 4000000 in
theorem shiftInverts_walk (z : ByteArray) (s : D.Src) (p g : Int) (w : World) (hz : z.size ≤ 140737488351232) (hs : D.ArgOk w s) (_ : -9223372036854775808 ≤ p) (_ : p < 9223372036854775808) (g0 : 0 ≤ g) (_ : g ≤ 255) :
    Calls Try.prog 11 #[.string z, .slice s.a s.x.length s.c, .int .i64 p, .int .u8 g] w fun e w' => e = .returned (.bool true) ∧ Below w.heap.size w w' := by
  have HO := L.hOwn s.x hs.fit
  have HK := L.hKnown
  have H1 := L.hInv z s.x hz (L.bd_arg hs)
  have K : Hid (D.Kn w w [(s.a, s.x)]) := ⟨Below.refl _ _, fun x hx => by simp at hx; subst hx; exact hs.src.row⟩
  have nS : Hid ((s.a = none → s.c = 0) ∧ s.x.length ≤ s.c) := ⟨hs.src.nil, hs.cap⟩
  have hv := L.invP_len z.data.toList s.x
  by_cases h0 : D.fitE z.data.toList s.x = 0
  · obtain ⟨i1, i2, i3, i4⟩ := D.shift_inverts h0 p g
    have hvb : D.Bd (D.invP z.data.toList s.x) := by
      obtain ⟨h1, _⟩ := D.fitE_zero h0
      exact D.bd_of (by rw [← D.normP_inv h0]; exact D.chk_normP (D.chk_inv h0))
    have HV := L.hOwn (D.invP z.data.toList s.x) (by omega)
    have T1 := L.hBck s.x (L.bd_arg hs) p g g0
    have T2 := L.hPos (D.invP z.data.toList s.x) hvb p g g0
    have T3 := L.hPos s.x (L.bd_arg hs) p g g0
    have T4 := L.hBck (D.invP z.data.toList s.x) hvb p g g0
    rw [i1, i2] at T2
    rw [i3, i4] at T4
    rw [h0] at H1
    clear i1 i2 i3 i4 h0 hvb hv
    obtain ⟨oS, cS, S⟩ := s
    dsimp only at *
    generalize D.invP z.data.toList S = V at *
    generalize D.posV S p g = a1 at *
    generalize D.posE S p g = a2 at *
    generalize D.bckV S p g = b1 at *
    generalize D.bckE S p g = b2 at *
    clear hs hz
    go_enter Try.func11, Try.ntmps11
    go_wp2_with fail
    refine (HO.out _ _ _ K.out.r0 nS.out.1).mono ?_
    rintro e w1 ⟨v, rfl, hm⟩
    obtain ⟨ox0, cx0, hv, nx0, K1⟩ := L.made5 K.out hm
    subst hv
    clear hm K
    go_wp2_with fail
    refine (H1.out _ _ _ K1.out.r0).mono ?_
    rintro e w2 ⟨v, rfl, hm⟩
    obtain ⟨ov, cv, hv, nv, K2⟩ := L.made5 K1.out hm
    subst hv
    clear hm K1
    go_wp2_with fail
    refine (HO.out _ _ _ K2.out.tl.tl.r0 nS.out.1).mono ?_
    rintro e w3 ⟨v, rfl, hm⟩
    obtain ⟨ox1, cx1, hv, nx1, K3⟩ := L.made5 K2.out hm
    subst hv
    clear hm K2
    go_wp2_with fail
    refine (T1.out _ _ _ K3.out.r0).mono ?_
    rintro e w4 ⟨rfl, hb⟩
    have K4 := Lib.hid (K3.out.on hb)
    clear hb K3
    go_wp2_with fail
    refine (HV.out _ _ _ K4.out.tl.r0 nv.out.1).mono ?_
    rintro e w5 ⟨v, rfl, hm⟩
    obtain ⟨oy1, cy1, hv, ny1, K5⟩ := L.made5 K4.out hm
    subst hv
    clear hm K4
    go_wp2_with fail
    refine (T2.out _ _ _ K5.out.r0).mono ?_
    rintro e w6 ⟨rfl, hb⟩
    have K6 := Lib.hid (K5.out.on hb)
    clear hb K5
    go_wp2_with fail
    refine (HO.out _ _ _ K6.out.tl.tl.tl.tl.r0 nS.out.1).mono ?_
    rintro e w7 ⟨v, rfl, hm⟩
    obtain ⟨ox2, cx2, hv, nx2, K7⟩ := L.made5 K6.out hm
    subst hv
    clear hm K6
    go_wp2_with fail
    refine (T3.out _ _ _ K7.out.r0).mono ?_
    rintro e w8 ⟨rfl, hb⟩
    have K8 := Lib.hid (K7.out.on hb)
    clear hb K7
    go_wp2_with fail
    refine (HV.out _ _ _ K8.out.tl.tl.tl.r0 nv.out.1).mono ?_
    rintro e w9 ⟨v, rfl, hm⟩
    obtain ⟨oy2, cy2, hv, ny2, K9⟩ := L.made5 K8.out hm
    subst hv
    clear hm K8
    go_wp2_with fail
    refine (T4.out _ _ _ K9.out.r0).mono ?_
    rintro e w10 ⟨rfl, hb⟩
    have K10 := Lib.hid (K9.out.on hb)
    clear hb K9
    have KB := Lib.hid K10.out.below
    clear K10
    go_wp2_with fail
    refine (HK.out _).mono ?_
    rintro e wk ⟨rfl, hb⟩
    have KC := Lib.hid (KB.out.trans (hb.mono KB.out.size))
    clear hb
    go_wp2
    go_ret
    exact ⟨rfl, KC.out⟩
  · have q9 : (D.fitE z.data.toList s.x != 0) = true := by simpa using h0
    clear h0 hv
    obtain ⟨oS, cS, S⟩ := s
    dsimp only at *
    generalize D.invP z.data.toList S = V at *
    generalize D.fitE z.data.toList S = k at *
    clear hs hz
    go_enter Try.func11, Try.ntmps11
    go_wp2_with fail
    refine (HO.out _ _ _ K.out.r0 nS.out.1).mono ?_
    rintro e w1 ⟨v, rfl, hm⟩
    obtain ⟨ox0, cx0, hv, nx0, K1⟩ := L.made5 K.out hm
    subst hv
    clear hm K
    go_wp2_with fail
    refine (H1.out _ _ _ K1.out.r0).mono ?_
    rintro e w2 ⟨v, rfl, hm⟩
    obtain ⟨ov, cv, hv, nv, K2⟩ := L.made5 K1.out hm
    subst hv
    clear hm K1
    have KB := Lib.hid K2.out.below
    clear K2
    go_wp2_with fail
    refine (HK.out _).mono ?_
    rintro e wk ⟨rfl, hb⟩
    have KC := Lib.hid (KB.out.trans (hb.mono KB.out.size))
    clear hb
    go_wp2
    go_ret
    exact ⟨rfl, KC.out⟩
end Go.Proofs.Ytampekldlnlhdaa
