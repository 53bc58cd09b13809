/- The walk of TransformDoes. -/
import Derived.Test.YtmljagkndnobdaaTransLawKit
import Derived.Test.YtmljagkndnobdaaPackSrc
namespace Go.Proofs.Ytmljagkndnobdaa
open Go.RowKit

theorem T.got_on {ao : Option Addr} {n : Nat} {w W W' : World} (G : D.Got ao n w W) (h : Below W.heap.size W W') : D.Got ao n w W' :=
  ⟨G.below.trans (h.mono G.below.size), fun h0 => by
    obtain ⟨g, cur, e1, e2, e3, e4⟩ := G.row h0
    exact ⟨g, cur, e1, e2, (h.block g (Array.getElem?_eq_some_iff.1 e3).1).trans e3, e4⟩⟩
set_option maxRecDepth 100000 in
set_option maxHeartbeats 4000000 in
theorem transformDoes_walk (s r : D.Src) (f : Bool) (w : World) (hs : D.ArgOk w s) (hr : D.ArgOk w r) :
    Calls Try.prog 3 #[.slice s.a s.x.length s.c, .slice r.a r.x.length r.c, .bool f] w fun e w' => e = .returned (.bool true) ∧ Below w.heap.size w w' := by
  have HA := L.hOwn s.x hs.fit
  have HB := L.hOwn r.x hr.fit
  have HK := L.hKnown7
  have K : Hid (D.Kn w w [(s.a, s.x), (r.a, r.x)]) := ⟨Below.refl _ _, fun x hx => by
    simp at hx
    rcases hx with rfl | rfl
    · exact hs.src.row
    · exact hr.src.row⟩
  have nS : Hid ((s.a = none → s.c = 0) ∧ s.x.length ≤ s.c) := ⟨hs.src.nil, hs.cap⟩
  have nR : Hid ((r.a = none → r.c = 0) ∧ r.x.length ≤ r.c) := ⟨hr.src.nil, hr.cap⟩
  have G1 := L.hLarge s.x (L.bd_arg hs) hs.num
  have G2 := L.hLarge r.x (L.bd_arg hr) hr.num
  have bS := L.bd_arg hs
  have bR := L.bd_arg hr
  obtain ⟨oS, cS, S⟩ := s
  obtain ⟨oR, cR, R⟩ := r
  dsimp only at *
  clear hs hr
  cases hg1 : D.large S with
  | true =>
    rw [hg1] at G1
    clear hg1 bS bR
    go_enter Try.func3, Try.ntmps3
    go_wp2_with fail
    refine (G1.out _ _ _ K.out.r0).mono ?_
    rintro e w1 ⟨rfl, hb⟩
    have KB := Lib.hid (K.out.on hb).below
    clear hb K
    go_wp2_with fail
    refine (HK.out _).mono ?_
    rintro e wk ⟨rfl, hb⟩
    have KC := Lib.hid (KB.out.trans (hb.mono KB.out.size))
    clear hb
    go_wp2
    go_ret
    exact ⟨rfl, KC.out⟩
  | false =>
    rw [hg1] at G1
    cases hg2 : D.large R with
    | true =>
      rw [hg2] at G2
      clear hg1 hg2 bS bR
      go_enter Try.func3, Try.ntmps3
      go_wp2_with fail
      refine (G1.out _ _ _ K.out.r0).mono ?_
      rintro e w1 ⟨rfl, hb⟩
      have K1 := Lib.hid (K.out.on hb)
      clear hb K
      go_wp2_with fail
      refine (G2.out _ _ _ K1.out.tl.r0).mono ?_
      rintro e w1 ⟨rfl, hb⟩
      have KB := Lib.hid (K1.out.on hb).below
      clear hb K1
      go_wp2_with fail
      refine (HK.out _).mono ?_
      rintro e wk ⟨rfl, hb⟩
      have KC := Lib.hid (KB.out.trans (hb.mono KB.out.size))
      clear hb
      go_wp2
      go_ret
      exact ⟨rfl, KC.out⟩
    | false =>
      rw [hg2] at G2
      have H1 := L.hTr f S R bS bR
      have H2 := L.hTr' f S R bS bR (L.sm_of hg1 hg2)
      have S1 := L.hSame (D.trP f S R) (T.tr_bd f S R).1
      have S2 := L.hSame S bS.1
      have S3 := L.hSame R bR.1
      have hnb : (D.trP f S R).length ≤ 10000000000000 := by have := D.trP_len f S R; omega
      generalize D.trP f S R = nm at *
      generalize D.trE f S R = k at *
      clear hg1 hg2 bS bR
      go_enter Try.func3, Try.ntmps3
      go_wp2_with fail
      refine (G1.out _ _ _ K.out.r0).mono ?_
      rintro e w1 ⟨rfl, hb⟩
      have K1 := Lib.hid (K.out.on hb)
      clear hb K
      go_wp2_with fail
      refine (G2.out _ _ _ K1.out.tl.r0).mono ?_
      rintro e w1 ⟨rfl, hb⟩
      have K2 := Lib.hid (K1.out.on hb)
      clear hb K1
      go_wp2_with fail
      refine (HA.out _ _ _ K2.out.r0 nS.out.1).mono ?_
      rintro e w3 ⟨v, rfl, hm⟩
      obtain ⟨xa, xc, hv, nx, K3⟩ := L.made5 K2.out hm
      subst hv
      clear hm K2
      go_wp2_with fail
      refine (HB.out _ _ _ K3.out.tl.tl.r0 nR.out.1).mono ?_
      rintro e w4 ⟨v, rfl, hm⟩
      obtain ⟨ya, yc, hv, ny, K4⟩ := L.made5 K3.out hm
      subst hv
      clear hm K3
      go_wp2_with fail
      refine (H2.out _ _ _ _ _ K4.out.tl.tl.r0 K4.out.tl.tl.tl.r0).mono ?_
      rintro e w5 ⟨v, rfl, hm⟩
      obtain ⟨wa, wc, hv, nw, K5⟩ := L.made5 K4.out hm
      subst hv
      clear hm K4
      have K := Lib.hid K5.out
      clear K5
      go_wp2
      go_loopw [11] (fun i wr => ∃ n : Nat, n ≤ 2 ∧ i = .int .i64 n ∧ Hid (D.Kn w wr [(wa, nm), (ya, R), (xa, S), (oS, S), (oR, R)])) (fun i _ => 2 - (intOf i).toNat)
      case atStart => exact ⟨0, by omega, rfl, K.out⟩
      case round =>
        obtain ⟨n, hn, rfl, K⟩ := hrel
        by_cases hlt : n < 2
        · have g1 : (n : Int) < 2 := by omega
          go_wp2_with fail
          refine (H1.out _ _ _ _ _ K.out.tl.tl.r0 K.out.tl.r0).mono ?_
          rintro e w8 ⟨v, rfl, hm⟩
          obtain ⟨ga, gc, hv, ng, K8⟩ := L.made5 K.out hm
          subst hv
          have G := Lib.hid (D.got_of_own hm.own hm.below)
          clear hm
          go_wp2_with fail
          refine (S1.out _ _ _ _ _ K8.out.r0 K8.out.tl.r0).mono ?_
          rintro e w9 ⟨rfl, hb⟩
          have K9 := Lib.hid (K8.out.on hb)
          have Ga := Lib.hid (T.got_on G.out hb)
          clear hb K8 G
          go_wp2_with fail
          refine (S2.out _ _ _ _ _ K9.out.tl.tl.tl.r0 K9.out.tl.tl.tl.tl.r0).mono ?_
          rintro e w10 ⟨rfl, hb⟩
          have K10 := Lib.hid (K9.out.on hb)
          have Gb := Lib.hid (T.got_on Ga.out hb)
          clear hb K9 Ga
          go_wp2_with fail
          refine (S3.out _ _ _ _ _ K10.out.tl.tl.r0 K10.out.tl.tl.tl.tl.tl.r0).mono ?_
          rintro e w11 ⟨rfl, hb⟩
          have G6 := Lib.hid (T.got_on Gb.out hb)
          clear hb K10 Gb
          obtain ⟨W0, rfl⟩ : ∃ W0 : World, W0 = wr := ⟨_, rfl⟩
          go_wp2
          go_loopw [14] (fun i wx => ∃ j : Nat, j ≤ nm.length ∧ i = .int .i64 j ∧ Hid (D.Got ga nm.length W0 wx)) (fun i _ => nm.length - (intOf i).toNat)
          case atStart => exact ⟨0, Nat.zero_le _, rfl, G6.out⟩
          case round =>
            obtain ⟨j, hj, rfl, G⟩ := hrel
            clear G6
            by_cases hjl : j < nm.length
            · obtain ⟨g, cur, e1, e2, e3, e4⟩ := G.out.row (by omega)
              subst e1
              obtain ⟨u0, d0⟩ := D.got_cell e3 (i := j * 3) (by omega)
              obtain ⟨u1, d1⟩ := D.got_cell e3 (i := j * 3 + 1) (by omega)
              obtain ⟨u2, d2⟩ := D.got_cell e3 (i := j * 3 + 2) (by omega)
              have f0 := frozen_of_row _ _ (j * 3) _ _ e3
              have f1 := frozen_of_row _ _ (j * 3 + 1) _ _ e3
              have f2 := frozen_of_row _ _ (j * 3 + 2) _ _ e3
              obtain ⟨cur', h5, h6⟩ := D.got_three e3 (j * 3) (j * 3 + 1) (j * 3 + 2) (.int .u8 77) (.int .i64 0) (.string ⟨#[]⟩)
              have R : Hid (D.Got (some ⟨g, 0, none⟩) nm.length W0 (((wr.setCell ⟨g, j * 3, none⟩ (.int .u8 77)).setCell ⟨g, j * 3 + 1, none⟩ (.int .i64 0)).setCell ⟨g, j * 3 + 2, none⟩ (.string ⟨#[]⟩))) :=
                ⟨((G.out.below.setCell (p := ⟨g, _, none⟩) e2 _).setCell (p := ⟨g, _, none⟩) e2 _).setCell (p := ⟨g, _, none⟩) e2 _, fun _ => ⟨g, cur', rfl, e2, h5, by omega⟩⟩
              clear e3 h5 e4 h6 G K
              go_wp2
              go_roundw
              case rel => exact ⟨j + 1, by omega, by go_num, R⟩
              case measure => simp [intOf]; omega
            · obtain rfl : j = nm.length := by omega
              have R := Lib.hid (K.out.on G.out.below)
              clear G K
              go_wp2
              go_roundw
              case rel => exact ⟨n + 1, by omega, by go_num, R⟩
              case measure => simp [intOf]; omega
        · obtain rfl : n = 2 := by omega
          go_wp2_with fail
          refine (S2.out _ _ _ _ _ K.out.tl.tl.r0 K.out.tl.tl.tl.r0).mono ?_
          rintro e w8 ⟨rfl, hb⟩
          have K5 := Lib.hid (K.out.on hb)
          clear hb K
          go_wp2_with fail
          refine (S3.out _ _ _ _ _ K5.out.tl.r0 K5.out.tl.tl.tl.tl.r0).mono ?_
          rintro e w9 ⟨rfl, hb⟩
          have K6 := Lib.hid (K5.out.on hb).below
          clear hb K5
          go_wp2_with fail
          refine (HK.out _).mono ?_
          rintro e wk ⟨rfl, hb⟩
          have KC := Lib.hid (K6.out.trans (hb.mono K6.out.size))
          clear hb
          go_wp2
          go_ret
          exact ⟨rfl, KC.out⟩
end Go.Proofs.Ytmljagkndnobdaa
