/- The walk of ApplySame. -/
import Derived.Test.YtdpjnhmnmpmkmaaApplyLawKit
namespace Go.Proofs.Ytdpjnhmnmpmkmaa
open Go.RowKit

set_option maxRecDepth 100000 in
set_option maxHeartbeats 4000000 in
theorem applySame_walk (z : ByteArray) (s r : D.Src) (w : World) (hz : z.size ≤ 140737488351232) (hs : D.ArgOk w s) (hr : D.ArgOk w r) :
    Calls Try.prog 8 #[.string z, .slice s.a s.x.length s.c, .slice r.a r.x.length r.c] w fun e w' => e = .returned (.bool true) ∧ Below w.heap.size w w' := by
  have HA := A.hOwn s.x hs.fit
  have HB := A.hOwn r.x hr.fit
  have H1 := A.hApp z s.x hz (A.bd_arg hs)
  have HK := A.hKnown
  have K : Hid (D.Kn w w [(s.a, s.x), (r.a, r.x)]) := ⟨Below.refl _ _, fun x hx => by
    simp at hx
    rcases hx with rfl | rfl
    · exact hs.src.row
    · exact hr.src.row⟩
  have nS : Hid (s.a = none → s.c = 0) := hs.src.nil
  have nR : Hid (r.a = none → r.c = 0) := hr.src.nil
  by_cases hf : D.fitE z.data.toList s.x = 0
  · have hc := (D.fitE_zero hf).1
    obtain ⟨f1, f2⟩ := D.same_norm hf
    have H2 := A.hNorm s.x hc
    have H3 := A.hApp z (D.normP s.x) hz (D.bd_of (D.chk_normP hc))
    have H4 := A.hEqv s.x r.x (A.bd_arg hs) (A.bd_arg hr)
    rw [hf] at H1
    rw [f1, f2] at H3
    by_cases hq : D.chk r.x = 0 ∧ D.normP s.x = D.normP r.x
    · obtain ⟨g1, g2⟩ := D.same_eqv hf hq.1 hq.2
      have H5 := A.hApp z r.x hz (A.bd_arg hr)
      have q1 : D.eqv s.x r.x = true := by unfold D.eqv; rw [hc, hq.1, hq.2, (D.same_iff _ _).2 rfl]; rfl
      have q2 : D.eqvE s.x r.x = 0 := by unfold D.eqvE; rw [if_pos hc, hq.1]
      rw [g1, g2] at H5
      rw [q1, q2] at H4
      obtain ⟨oS, cS, S⟩ := s
      obtain ⟨oR, cR, R⟩ := r
      dsimp only at *
      generalize (⟨(D.resP z.data.toList S).toArray⟩ : ByteArray) = X at H1 H3 H5
      generalize D.normP S = N at H2 H3
      clear hs hr hz hf hc f1 f2 hq g1 g2 q1 q2
      go_enter Try.func8, Try.ntmps8
      go_wp2_with fail
      refine (HA.out _ _ _ K.out.r0 nS.out).mono ?_
      rintro e w1 ⟨v, rfl, hm⟩
      obtain ⟨ox1, cx1, hv, nx1, K1⟩ := K.out.made' hm
      subst hv
      clear hm K
      go_wp2_with fail
      refine (H1.out _ _ _ K1.out.r0).mono ?_
      rintro e w2 ⟨rfl, hb⟩
      have K2 := Lib.hid (K1.out.on hb)
      clear hb K1
      go_wp2_with fail
      refine (HA.out _ _ _ K2.out.tl.r0 nS.out).mono ?_
      rintro e w3 ⟨v, rfl, hm⟩
      obtain ⟨ox2, cx2, hv, nx2, K3⟩ := K2.out.made' hm
      subst hv
      clear hm K2
      go_wp2_with fail
      refine (H2.out _ _ _ K3.out.r0).mono ?_
      rintro e w4 ⟨v, rfl, hm⟩
      obtain ⟨on, cn, hv, nn, K4⟩ := K3.out.made' hm
      subst hv
      clear hm K3
      go_wp2_with fail
      refine (H3.out _ _ _ K4.out.r0).mono ?_
      rintro e w5 ⟨rfl, hb⟩
      have K5 := Lib.hid (K4.out.on hb)
      clear hb K4
      go_wp2_with fail
      refine (HA.out _ _ _ K5.out.tl.tl.tl.r0 nS.out).mono ?_
      rintro e w6 ⟨v, rfl, hm⟩
      obtain ⟨ox3, cx3, hv, nx3, K6⟩ := K5.out.made' hm
      subst hv
      clear hm K5
      go_wp2_with fail
      refine (HB.out _ _ _ K6.out.tl.tl.tl.tl.tl.r0 nR.out).mono ?_
      rintro e w7 ⟨v, rfl, hm⟩
      obtain ⟨oy3, cy3, hv, ny3, K7⟩ := K6.out.made' hm
      subst hv
      clear hm K6
      go_wp2_with fail
      refine (H4.out _ _ _ _ _ K7.out.tl.r0 K7.out.r0).mono ?_
      rintro e w8 ⟨rfl, hb⟩
      have K8 := Lib.hid (K7.out.on hb)
      clear hb K7
      go_wp2_with fail
      refine (HB.out _ _ _ K8.out.tl.tl.tl.tl.tl.tl.r0 nR.out).mono ?_
      rintro e w9 ⟨v, rfl, hm⟩
      obtain ⟨oy4, cy4, hv, ny4, K9⟩ := K8.out.made' hm
      subst hv
      clear hm K8
      go_wp2_with fail
      refine (H5.out _ _ _ K9.out.r0).mono ?_
      rintro e w10 ⟨rfl, hb⟩
      have K10 := Lib.hid (K9.out.on hb)
      clear hb K9
      have KB := Lib.hid K10.out.below
      clear K10
      go_wp2_with fail
      refine (HK.out _).mono ?_
      rintro e wk ⟨rfl, hb⟩
      have KC := Lib.hid (KB.out.trans (hb.mono KB.out.size))
      clear hb
      go_wp2
      go_ret
      exact ⟨rfl, KC.out⟩
    · by_cases hd : D.chk r.x = 0
      · have q1 : D.eqv s.x r.x = false := by
          unfold D.eqv
          rw [hc, hd, Bool.eq_false_iff]
          intro e
          simp only [decide_true, Bool.true_and] at e
          exact hq ⟨hd, (D.same_iff _ _).1 e⟩
        have q2 : D.eqvE s.x r.x = 0 := by unfold D.eqvE; rw [if_pos hc, hd]
        rw [q1, q2] at H4
        obtain ⟨oS, cS, S⟩ := s
        obtain ⟨oR, cR, R⟩ := r
        dsimp only at *
        generalize (⟨(D.resP z.data.toList S).toArray⟩ : ByteArray) = X at H1 H3
        generalize D.normP S = N at H2 H3
        clear hs hr hz hf hc f1 f2 hq q1 q2 hd
        go_enter Try.func8, Try.ntmps8
        go_wp2_with fail
        refine (HA.out _ _ _ K.out.r0 nS.out).mono ?_
        rintro e w1 ⟨v, rfl, hm⟩
        obtain ⟨ox1, cx1, hv, nx1, K1⟩ := K.out.made' hm
        subst hv
        clear hm K
        go_wp2_with fail
        refine (H1.out _ _ _ K1.out.r0).mono ?_
        rintro e w2 ⟨rfl, hb⟩
        have K2 := Lib.hid (K1.out.on hb)
        clear hb K1
        go_wp2_with fail
        refine (HA.out _ _ _ K2.out.tl.r0 nS.out).mono ?_
        rintro e w3 ⟨v, rfl, hm⟩
        obtain ⟨ox2, cx2, hv, nx2, K3⟩ := K2.out.made' hm
        subst hv
        clear hm K2
        go_wp2_with fail
        refine (H2.out _ _ _ K3.out.r0).mono ?_
        rintro e w4 ⟨v, rfl, hm⟩
        obtain ⟨on, cn, hv, nn, K4⟩ := K3.out.made' hm
        subst hv
        clear hm K3
        go_wp2_with fail
        refine (H3.out _ _ _ K4.out.r0).mono ?_
        rintro e w5 ⟨rfl, hb⟩
        have K5 := Lib.hid (K4.out.on hb)
        clear hb K4
        go_wp2_with fail
        refine (HA.out _ _ _ K5.out.tl.tl.tl.r0 nS.out).mono ?_
        rintro e w6 ⟨v, rfl, hm⟩
        obtain ⟨ox3, cx3, hv, nx3, K6⟩ := K5.out.made' hm
        subst hv
        clear hm K5
        go_wp2_with fail
        refine (HB.out _ _ _ K6.out.tl.tl.tl.tl.tl.r0 nR.out).mono ?_
        rintro e w7 ⟨v, rfl, hm⟩
        obtain ⟨oy3, cy3, hv, ny3, K7⟩ := K6.out.made' hm
        subst hv
        clear hm K6
        go_wp2_with fail
        refine (H4.out _ _ _ _ _ K7.out.tl.r0 K7.out.r0).mono ?_
        rintro e w8 ⟨rfl, hb⟩
        have K8 := Lib.hid (K7.out.on hb)
        clear hb K7
        have KB := Lib.hid K8.out.below
        clear K8
        go_wp2_with fail
        refine (HK.out _).mono ?_
        rintro e wk ⟨rfl, hb⟩
        have KC := Lib.hid (KB.out.trans (hb.mono KB.out.size))
        clear hb
        go_wp2
        go_ret
        exact ⟨rfl, KC.out⟩
      · have q2 : D.eqvE s.x r.x = D.chk r.x := by unfold D.eqvE; rw [if_pos hc]
        have q3 : (D.chk r.x == 0) = false := by simpa using hd
        rw [q2] at H4
        obtain ⟨oS, cS, S⟩ := s
        obtain ⟨oR, cR, R⟩ := r
        dsimp only at *
        generalize D.eqv S R = qb at H4
        generalize D.chk R = k at H4 q3
        generalize (⟨(D.resP z.data.toList S).toArray⟩ : ByteArray) = X at H1 H3
        generalize D.normP S = N at H2 H3
        clear hs hr hz hf hc f1 f2 hq q2 hd
        go_enter Try.func8, Try.ntmps8
        go_wp2_with fail
        refine (HA.out _ _ _ K.out.r0 nS.out).mono ?_
        rintro e w1 ⟨v, rfl, hm⟩
        obtain ⟨ox1, cx1, hv, nx1, K1⟩ := K.out.made' hm
        subst hv
        clear hm K
        go_wp2_with fail
        refine (H1.out _ _ _ K1.out.r0).mono ?_
        rintro e w2 ⟨rfl, hb⟩
        have K2 := Lib.hid (K1.out.on hb)
        clear hb K1
        go_wp2_with fail
        refine (HA.out _ _ _ K2.out.tl.r0 nS.out).mono ?_
        rintro e w3 ⟨v, rfl, hm⟩
        obtain ⟨ox2, cx2, hv, nx2, K3⟩ := K2.out.made' hm
        subst hv
        clear hm K2
        go_wp2_with fail
        refine (H2.out _ _ _ K3.out.r0).mono ?_
        rintro e w4 ⟨v, rfl, hm⟩
        obtain ⟨on, cn, hv, nn, K4⟩ := K3.out.made' hm
        subst hv
        clear hm K3
        go_wp2_with fail
        refine (H3.out _ _ _ K4.out.r0).mono ?_
        rintro e w5 ⟨rfl, hb⟩
        have K5 := Lib.hid (K4.out.on hb)
        clear hb K4
        go_wp2_with fail
        refine (HA.out _ _ _ K5.out.tl.tl.tl.r0 nS.out).mono ?_
        rintro e w6 ⟨v, rfl, hm⟩
        obtain ⟨ox3, cx3, hv, nx3, K6⟩ := K5.out.made' hm
        subst hv
        clear hm K5
        go_wp2_with fail
        refine (HB.out _ _ _ K6.out.tl.tl.tl.tl.tl.r0 nR.out).mono ?_
        rintro e w7 ⟨v, rfl, hm⟩
        obtain ⟨oy3, cy3, hv, ny3, K7⟩ := K6.out.made' hm
        subst hv
        clear hm K6
        go_wp2_with fail
        refine (H4.out _ _ _ _ _ K7.out.tl.r0 K7.out.r0).mono ?_
        rintro e w8 ⟨rfl, hb⟩
        have K8 := Lib.hid (K7.out.on hb)
        clear hb K7
        have KB := Lib.hid K8.out.below
        clear K8
        go_wp2_with fail
        refine (HK.out _).mono ?_
        rintro e wk ⟨rfl, hb⟩
        have KC := Lib.hid (KB.out.trans (hb.mono KB.out.size))
        clear hb
        go_wp2
        go_ret
        exact ⟨rfl, KC.out⟩
  · have h' : (D.fitE z.data.toList s.x != 0) = true := by simpa using hf
    obtain ⟨oS, cS, S⟩ := s
    obtain ⟨oR, cR, R⟩ := r
    dsimp only at *
    generalize D.fitE z.data.toList S = k at H1 h'
    generalize (⟨(D.resP z.data.toList S).toArray⟩ : ByteArray) = X at H1
    clear hs hr hz hf
    go_enter Try.func8, Try.ntmps8
    go_wp2_with fail
    refine (HA.out _ _ _ K.out.r0 nS.out).mono ?_
    rintro e w1 ⟨v, rfl, hm⟩
    obtain ⟨ox1, cx1, hv, nx1, K1⟩ := K.out.made' hm
    subst hv
    clear hm K
    go_wp2_with fail
    refine (H1.out _ _ _ K1.out.r0).mono ?_
    rintro e w2 ⟨rfl, hb⟩
    have K2 := Lib.hid (K1.out.on hb)
    clear hb K1
    have KB := Lib.hid K2.out.below
    clear K2
    go_wp2_with fail
    refine (HK.out _).mono ?_
    rintro e wk ⟨rfl, hb⟩
    have KC := Lib.hid (KB.out.trans (hb.mono KB.out.size))
    clear hb
    go_wp2
    go_ret
    exact ⟨rfl, KC.out⟩
end Go.Proofs.Ytdpjnhmnmpmkmaa
