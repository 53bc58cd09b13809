/- The walk of MarkFollows. -/
import Derived.Test.YtmbgcbgbdjiacaaMarkKnown
namespace Go.Proofs.Ytmbgcbgbdjiacaa
open Go.RowKit

set_option maxRecDepth 100000 in
set_option maxHeartbeats 4000000 in
theorem markFollows_walk (s : K.Src) (p q : D.Src) (w : World) (hs : K.ArgOk w s) (hp : D.ArgOk w p) (hq : D.ArgOk w q) :
    Calls Try.prog 10 #[.slice s.a s.x.length s.c, .slice p.a p.x.length p.c, .slice q.a q.x.length q.c] w fun e w' => e = .returned (.bool true) ∧ Below w.heap.size w w' := by
  have HK := J.hKnown
  have laS : s.x.length ≤ maxLen := by have := hs.fit; unfold maxLen; omega
  have hfS : J.Fits s.x := hs.fits
  have HOS := J.hOwn s.x hs.fit
  have bdP := L.bd_arg hp
  have HPP := L.hOwn p.x hp.fit
  have bdQ := L.bd_arg hq
  have HPQ := L.hOwn q.x hq.fit
  have Z : Hid (K.Kn w w [(p.a, p.x), (q.a, q.x)] [(s.a, s.x)]) := J.Kn.addp (J.Kn.addp (J.Kn.addm (J.Kn0 w) hs.row) hq.src.row) hp.src.row
  have nS : Hid ((s.a = none → s.c = 0) ∧ s.x.length ≤ s.c) := ⟨hs.nil, hs.cap⟩
  have nP : Hid ((p.a = none → p.c = 0) ∧ p.x.length ≤ p.c) := ⟨hp.src.nil, hp.cap⟩
  have nQ : Hid ((q.a = none → q.c = 0) ∧ q.x.length ≤ q.c) := ⟨hq.src.nil, hq.cap⟩
  obtain ⟨oS, cS, S⟩ := s
  obtain ⟨oP, cP, P⟩ := p
  obtain ⟨oQ, cQ, Q⟩ := q
  dsimp only at *
  clear hs hp hq
  have HC := L.hCmp P Q bdP bdQ
  by_cases hE : D.cmpE P Q = 0
  · have F := K.follows (l := S) hE
    have H1 := J.hSh S (D.cmpP P Q) laS hfS (L.cmp_bd P Q)
    have H2 := J.hSh S P laS hfS bdP
    rw [F.err] at H1
    rw [hE] at HC
    by_cases hs0 : K.shE S P = 0
    · have H3 := J.hSh (K.shL S P) Q (J.shL_le S P laS) (J.shL_fit S P hfS) bdQ
      rw [F.step hs0] at H3
      rw [hs0] at H1 H2
      have e1 : K.shE S (D.cmpP P Q) = 0 := F.err.trans hs0
      have lX : (K.shL S (D.cmpP P Q)).length = S.length := by rw [K.shL_ok e1, List.length_map]
      have lZ : (K.shL (K.shL S P) Q).length = S.length := by rw [K.shL_ok (F.step hs0), List.length_map, K.shL_ok hs0, List.length_map]
      have HA : Hid (∀ (i : Nat) (m : K.M), S[i]? = some m → ∃ u v, (K.shL S (D.cmpP P Q))[i]? = some u ∧ (K.shL (K.shL S P) Q)[i]? = some v ∧ (u.g = 0 → u.at_ ≤ v.at_) ∧ (u.g ≠ 0 → v.at_ ≤ u.at_)) := fun i m hm => by
        obtain ⟨u, v, h1, h2, h3, h4⟩ := F.at_ hs0 i m hm
        have hg : u.g = m.g := by rw [K.shL_at e1, hm] at h1; cases h1; rfl
        exact ⟨u, v, h1, h2, by rw [hg]; exact h3, by rw [hg]; exact h4⟩
      clear F e1 hfS bdP bdQ hE hs0
      have hSl : S.length ≤ 9223372036854775807 := by unfold maxLen at laS; omega
      clear laS
      generalize K.shL S (D.cmpP P Q) = X at *
      generalize K.shL (K.shL S P) Q = U at *
      generalize K.shL S P = Y at *
      generalize D.cmpP P Q = C at *
      have qX : ((X.length : Int) != (S.length : Int)) = false := by rw [lX]; simp
      have qZ : ((U.length : Int) != (S.length : Int)) = false := by rw [lZ]; simp
      go_enter Try.func10, Try.ntmps10
      go_wp2_with fail
      refine (HPP.out _ _ _ Z.out.p0 nP.out.1).mono ?_
      rintro e w1 ⟨v, rfl, hm⟩
      obtain ⟨oa, ca, hv, na, Z1⟩ := J.pmade Z.out hm
      subst hv
      clear hm Z
      go_wp2_with fail
      refine (HPQ.out _ _ _ Z1.out.pt.pt.p0 nQ.out.1).mono ?_
      rintro e w2 ⟨v, rfl, hm⟩
      obtain ⟨ob, cb, hv, nb, Z2⟩ := J.pmade Z1.out hm
      subst hv
      clear hm Z1
      go_wp2_with fail
      refine (HC.out _ _ _ _ _ Z2.out.pt.p0 Z2.out.p0 na.out.2 nb.out.2).mono ?_
      rintro e w3 ⟨v, rfl, hm⟩
      obtain ⟨oc, cc, hv, nc, Z3⟩ := J.pmade Z2.out hm
      subst hv
      clear hm Z2
      go_wp2_with fail
      refine (HOS.out _ _ _ Z3.out.m0 nS.out.1).mono ?_
      rintro e w4 ⟨v, rfl, hm⟩
      obtain ⟨ox0, cx0, hv, nx0, Z4⟩ := J.mmade Z3.out hm
      subst hv
      clear hm Z3
      go_wp2_with fail
      refine (H1.out _ _ _ _ _ Z4.out.m0 nx0.out.1 Z4.out.p0).mono ?_
      rintro e w5 ⟨v, rfl, hm⟩
      obtain ⟨ox, cx, hv, nx, Z5⟩ := J.mmade Z4.out hm
      subst hv
      clear hm Z4
      go_wp2_with fail
      refine (HOS.out _ _ _ Z5.out.mt.mt.m0 nS.out.1).mono ?_
      rintro e w6 ⟨v, rfl, hm⟩
      obtain ⟨oy0, cy0, hv, ny0, Z6⟩ := J.mmade Z5.out hm
      subst hv
      clear hm Z5
      go_wp2_with fail
      refine (HPP.out _ _ _ Z6.out.pt.pt.pt.p0 nP.out.1).mono ?_
      rintro e w7 ⟨v, rfl, hm⟩
      obtain ⟨oa2, ca2, hv, na2, Z7⟩ := J.pmade Z6.out hm
      subst hv
      clear hm Z6
      go_wp2_with fail
      refine (H2.out _ _ _ _ _ Z7.out.m0 ny0.out.1 Z7.out.p0).mono ?_
      rintro e w8 ⟨v, rfl, hm⟩
      obtain ⟨oy, cy, hv, ny, Z8⟩ := J.mmade Z7.out hm
      subst hv
      clear hm Z7
      go_wp2_with fail
      refine (HPQ.out _ _ _ Z8.out.pt.pt.pt.pt.pt.p0 nQ.out.1).mono ?_
      rintro e w9 ⟨v, rfl, hm⟩
      obtain ⟨ob2, cb2, hv, nb2, Z9⟩ := J.pmade Z8.out hm
      subst hv
      clear hm Z8
      go_wp2_with fail
      refine (H3.out _ _ _ _ _ Z9.out.m0 ny.out.1 Z9.out.p0).mono ?_
      rintro e w10 ⟨v, rfl, hm⟩
      obtain ⟨oz, cz, hv, nz, Z10⟩ := J.mmade Z9.out hm
      subst hv
      clear hm Z9
      have ZS : Hid (K.Kn w w10 [] [(oz, U), (ox, X)]) := J.Kn.addm (J.Kn.addm (J.Kn.base Z10.out.below) Z10.out.mt.mt.mt.m0) Z10.out.m0
      clear Z10 H1 H2 H3 HC HPP HPQ HOS
      go_wp2
      go_loopw [14] (fun i wr => ∃ k : Nat, k ≤ S.length ∧ i = .int .i64 k ∧ Hid (K.Kn w wr [] [(oz, U), (ox, X)])) (fun i _ => S.length - (intOf i).toNat)
      case atStart => exact ⟨0, Nat.zero_le _, rfl, ZS.out⟩
      case round =>
        obtain ⟨k, hk, rfl, ZL⟩ := hrel
        clear ZS
        by_cases hlt : k < S.length
        · obtain ⟨m, hm⟩ : ∃ m, S[k]? = some m := ⟨S[k]'hlt, List.getElem?_eq_getElem _⟩
          obtain ⟨u, v, hu, hv, h3, h4⟩ := HA.out k m hm
          obtain ⟨bx, px, ex, _, c0, c1, c2⟩ := ZL.out.mt.m0 k u hu
          obtain ⟨bz, pz, ez, _, d0, d1, d2⟩ := ZL.out.m0 k v hv
          subst ex ez
          have kx : k < X.length := by omega
          have kz : k < U.length := by omega
          clear hu hv hm
          by_cases hg : u.g = 0
          · have q1 : (u.g == 0) = true := by simpa using hg
            have q2 : decide (v.at_ < u.at_) = false := by have := h3 hg; simp; omega
            have q3 : (u.g == 1) = false := by simp; omega
            clear h3 h4 hg
            go_wp2_with fail
            go_quiet (fail)
            go_wp2
            go_roundw
            case rel => exact ⟨k + 1, by omega, by go_num, J.Kn.drewN ZL.out _⟩
            case measure => simp [intOf]; omega
          · have q1 : (u.g == 0) = false := by simpa using hg
            have q4 : decide (u.at_ < v.at_) = false := by have := h4 hg; simp; omega
            clear h3 h4
            by_cases hg1 : u.g = 1
            · have q3 : (u.g == 1) = true := by simpa using hg1
              clear hg hg1
              go_wp2_with fail
              go_quiet (fail)
              go_wp2
              go_roundw
              case rel => exact ⟨k + 1, by omega, by go_num, J.Kn.drewN ZL.out _⟩
              case measure => simp [intOf]; omega
            · have q3 : (u.g == 1) = false := by simpa using hg1
              clear hg hg1
              go_wp2_with fail
              go_quiet (fail)
              go_wp2
              go_roundw
              case rel => exact ⟨k + 1, by omega, by go_num, J.Kn.drewN ZL.out _⟩
              case measure => simp [intOf]; omega
        · obtain rfl : k = S.length := by omega
          have KB := Lib.hid ZL.out.below
          clear ZL
          go_wp2_with fail
          refine (HK.out _).mono ?_
          rintro e wk ⟨rfl, hb⟩
          have KC := Lib.hid (KB.out.trans (hb.mono KB.out.size))
          clear hb
          go_wp2
          go_ret
          exact ⟨rfl, KC.out⟩
    · have q1 : (K.shE S P != 0) = true := by simpa using hs0
      clear F hfS bdP bdQ hE laS hs0
      generalize K.shL S (D.cmpP P Q) = X at *
      generalize K.shL S P = Y at *
      generalize K.shE S P = E at *
      generalize D.cmpP P Q = C at *
      go_enter Try.func10, Try.ntmps10
      go_wp2_with fail
      refine (HPP.out _ _ _ Z.out.p0 nP.out.1).mono ?_
      rintro e w1 ⟨v, rfl, hm⟩
      obtain ⟨oa, ca, hv, na, Z1⟩ := J.pmade Z.out hm
      subst hv
      clear hm Z
      go_wp2_with fail
      refine (HPQ.out _ _ _ Z1.out.pt.pt.p0 nQ.out.1).mono ?_
      rintro e w2 ⟨v, rfl, hm⟩
      obtain ⟨ob, cb, hv, nb, Z2⟩ := J.pmade Z1.out hm
      subst hv
      clear hm Z1
      go_wp2_with fail
      refine (HC.out _ _ _ _ _ Z2.out.pt.p0 Z2.out.p0 na.out.2 nb.out.2).mono ?_
      rintro e w3 ⟨v, rfl, hm⟩
      obtain ⟨oc, cc, hv, nc, Z3⟩ := J.pmade Z2.out hm
      subst hv
      clear hm Z2
      go_wp2_with fail
      refine (HOS.out _ _ _ Z3.out.m0 nS.out.1).mono ?_
      rintro e w4 ⟨v, rfl, hm⟩
      obtain ⟨ox0, cx0, hv, nx0, Z4⟩ := J.mmade Z3.out hm
      subst hv
      clear hm Z3
      go_wp2_with fail
      refine (H1.out _ _ _ _ _ Z4.out.m0 nx0.out.1 Z4.out.p0).mono ?_
      rintro e w5 ⟨v, rfl, hm⟩
      obtain ⟨ox, cx, hv, nx, Z5⟩ := J.mmade Z4.out hm
      subst hv
      clear hm Z4
      go_wp2_with fail
      refine (HOS.out _ _ _ Z5.out.mt.mt.m0 nS.out.1).mono ?_
      rintro e w6 ⟨v, rfl, hm⟩
      obtain ⟨oy0, cy0, hv, ny0, Z6⟩ := J.mmade Z5.out hm
      subst hv
      clear hm Z5
      go_wp2_with fail
      refine (HPP.out _ _ _ Z6.out.pt.pt.pt.p0 nP.out.1).mono ?_
      rintro e w7 ⟨v, rfl, hm⟩
      obtain ⟨oa2, ca2, hv, na2, Z7⟩ := J.pmade Z6.out hm
      subst hv
      clear hm Z6
      go_wp2_with fail
      refine (H2.out _ _ _ _ _ Z7.out.m0 ny0.out.1 Z7.out.p0).mono ?_
      rintro e w8 ⟨v, rfl, hm⟩
      obtain ⟨oy, cy, hv, ny, Z8⟩ := J.mmade Z7.out hm
      subst hv
      clear hm Z7
      have KB := Lib.hid Z8.out.below
      clear Z8
      go_wp2_with fail
      refine (HK.out _).mono ?_
      rintro e wk ⟨rfl, hb⟩
      have KC := Lib.hid (KB.out.trans (hb.mono KB.out.size))
      clear hb
      go_wp2
      go_ret
      exact ⟨rfl, KC.out⟩
  · have q0 : (D.cmpE P Q != 0) = true := by simpa using hE
    clear laS hfS bdP bdQ hE
    generalize D.cmpE P Q = E at *
    generalize D.cmpP P Q = C at *
    go_enter Try.func10, Try.ntmps10
    go_wp2_with fail
    refine (HPP.out _ _ _ Z.out.p0 nP.out.1).mono ?_
    rintro e w1 ⟨v, rfl, hm⟩
    obtain ⟨oa, ca, hv, na, Z1⟩ := J.pmade Z.out hm
    subst hv
    clear hm Z
    go_wp2_with fail
    refine (HPQ.out _ _ _ Z1.out.pt.pt.p0 nQ.out.1).mono ?_
    rintro e w2 ⟨v, rfl, hm⟩
    obtain ⟨ob, cb, hv, nb, Z2⟩ := J.pmade Z1.out hm
    subst hv
    clear hm Z1
    go_wp2_with fail
    refine (HC.out _ _ _ _ _ Z2.out.pt.p0 Z2.out.p0 na.out.2 nb.out.2).mono ?_
    rintro e w3 ⟨v, rfl, hm⟩
    obtain ⟨oc, cc, hv, nc, Z3⟩ := J.pmade Z2.out hm
    subst hv
    clear hm Z2
    have KB := Lib.hid Z3.out.below
    clear Z3
    go_wp2_with fail
    refine (HK.out _).mono ?_
    rintro e wk ⟨rfl, hb⟩
    have KC := Lib.hid (KB.out.trans (hb.mono KB.out.size))
    clear hb
    go_wp2
    go_ret
    exact ⟨rfl, KC.out⟩
end Go.Proofs.Ytmbgcbgbdjiacaa
