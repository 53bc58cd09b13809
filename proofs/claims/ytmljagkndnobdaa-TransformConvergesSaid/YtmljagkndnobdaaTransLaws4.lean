/- The walk of TransformConverges. -/
import Derived.Test.YtmljagkndnobdaaTransKept
namespace Go.Proofs.Ytmljagkndnobdaa
open Go.RowKit

theorem T.conv_kept {S : List UInt8} {x y : List D.P} (c : D.Conv S x y) (h : D.cmpE x (D.prB x y) = 0) (i : Nat) : decide ((i : Int) ∈ D.atoms 0 (D.qs (D.cmpP x (D.prB x y)))) = (decide ((i : Int) ∈ D.atoms 0 (D.qs x)) && decide ((i : Int) ∈ D.atoms 0 (D.qs y))) := by
  have := c.keeps h i
  rw [Bool.eq_iff_iff, Bool.and_eq_true, decide_eq_true_iff, decide_eq_true_iff, decide_eq_true_iff]
  exact this
set_option maxRecDepth 100000 in
set_option maxHeartbeats 4000000 in
theorem transformConverges_walk (z : ByteArray) (s r : D.Src) (w : World) (hz : z.size ≤ 140737488351232) (hs : D.ArgOk w s) (hr : D.ArgOk w r) :
    Calls Try.prog 7 #[.string z, .slice s.a s.x.length s.c, .slice r.a r.x.length r.c] w fun e w' => e = .returned (.bool true) ∧ Below w.heap.size w w' := by
  have HA := L.hOwn s.x hs.fit
  have HB := L.hOwn r.x hr.fit
  have HK := L.hKnown7
  have K : Hid (D.Kn w w [(s.a, s.x), (r.a, r.x)]) := ⟨Below.refl _ _, fun x hx => by
    simp at hx
    rcases hx with rfl | rfl
    · exact hs.src.row
    · exact hr.src.row⟩
  have nS : Hid ((s.a = none → s.c = 0) ∧ s.x.length ≤ s.c) := ⟨hs.src.nil, hs.cap⟩
  have nR : Hid ((r.a = none → r.c = 0) ∧ r.x.length ≤ r.c) := ⟨hr.src.nil, hr.cap⟩
  have bS := L.bd_arg hs
  have bR := L.bd_arg hr
  have H1 := L.hApp z s.x hz bS
  have H2 := L.hApp z r.x hz bR
  by_cases h0 : D.fitE z.data.toList s.x = 0
  · rw [h0] at H1
    by_cases h1 : D.fitE z.data.toList r.x = 0
    · rw [h1] at H2
      have H3 := L.hPr s.x r.x bS bR
      by_cases h2 : D.prE s.x r.x = 0
      · rw [h2] at H3
        have c := D.conv7 h0 h1 h2
        have hts : (⟨(D.resP z.data.toList s.x).toArray⟩ : ByteArray).size ≤ 140737488351232 := by have := D.res_len h0; rw [D.size_l]; omega
        have htr : (⟨(D.resP z.data.toList r.x).toArray⟩ : ByteArray).size ≤ 140737488351232 := by have := D.res_len h1; rw [D.size_l]; omega
        have htd : ∀ l : List UInt8, (⟨l.toArray⟩ : ByteArray).data.toList = l := fun l => by simp
        have HPB := L.hOwn (D.prB s.x r.x) (by have := (D.valid_qs c.okB).2.2.2.1; omega)
        have HPA := L.hOwn (D.prA s.x r.x) (by have := (D.valid_qs c.okA).2.2.2.1; omega)
        have H4 := L.hApp ⟨(D.resP z.data.toList s.x).toArray⟩ (D.prB s.x r.x) hts (D.bd_of c.okB)
        have H5 := L.hApp ⟨(D.resP z.data.toList r.x).toArray⟩ (D.prA s.x r.x) htr (D.bd_of c.okA)
        rw [htd, c.f1] at H4
        rw [htd, c.f2, ← c.e] at H5
        have H6 := L.hCmp s.x (D.prB s.x r.x) bS (D.bd_of c.okB)
        have H7 := L.hCmp r.x (D.prA s.x r.x) bR (D.bd_of c.okA)
        have H8 := L.hMr s.x r.x bS bR
        rw [c.c1, c.c2] at H7
        rw [c.m1, c.m2] at H8
        have S1 := L.hSame (D.cmpP s.x (D.prB s.x r.x)) (L.cmp_bd _ _).1
        by_cases h3 : D.cmpE s.x (D.prB s.x r.x) = 0
        · rw [h3] at H6 H7 H8
          have cc := (D.cmp_of h3).ok
          have G1 := L.hLarge s.x bS hs.num
          have G2 := L.hLarge r.x bR hr.num
          have G3 := L.hLarge (D.cmpP s.x (D.prB s.x r.x)) (L.cmp_bd _ _) (L.num_of cc)
          obtain ⟨ca, fa⟩ := D.fitE_zero h0
          obtain ⟨cr, fr⟩ := D.fitE_zero h1
          have hzl : z.data.toList.length = z.size := by simp
          have hzs : z.size ≤ 1048576 := by have := (D.valid_qs ca).2.2.2.2.1; omega
          have KP : Hid (∀ ao c W, D.Row W ao s.x → Calls Try.prog 28 #[.string z, .slice ao s.x.length c] W (T.KtEnd s.x z.size W)) := fun ao c W h => tkept_any z ao c s.x W h ca hzs
          have KQ : Hid (∀ ao c W, D.Row W ao r.x → Calls Try.prog 28 #[.string z, .slice ao r.x.length c] W (T.KtEnd r.x z.size W)) := fun ao c W h => tkept_any z ao c r.x W h cr hzs
          have KR : Hid (∀ ao d W, D.Row W ao (D.cmpP s.x (D.prB s.x r.x)) → Calls Try.prog 28 #[.string z, .slice ao (D.cmpP s.x (D.prB s.x r.x)).length d] W (T.KtEnd (D.cmpP s.x (D.prB s.x r.x)) z.size W)) := fun ao d W h => tkept_any z ao d _ W h cc hzs
          have HV : Hid (∀ i, i < z.size → ∃ p q, ((T.keptL (D.atoms 0 (D.qs s.x)) z.size).map Value.bool)[i]? = some (.bool p) ∧ ((T.keptL (D.atoms 0 (D.qs r.x)) z.size).map Value.bool)[i]? = some (.bool q) ∧ ((T.keptL (D.atoms 0 (D.qs (D.cmpP s.x (D.prB s.x r.x)))) z.size).map Value.bool)[i]? = some (.bool (p && q))) := fun i hi => ⟨_, _, T.keptL_at _ _ i hi, T.keptL_at _ _ i hi, by rw [T.keptL_at _ _ i hi, T.conv_kept c h3 i]⟩
          have l1 : ((T.keptL (D.atoms 0 (D.qs s.x)) z.size).map Value.bool).length = z.size := by rw [List.length_map, T.keptL_len]
          have l2 : ((T.keptL (D.atoms 0 (D.qs r.x)) z.size).map Value.bool).length = z.size := by rw [List.length_map, T.keptL_len]
          have l3 : ((T.keptL (D.atoms 0 (D.qs (D.cmpP s.x (D.prB s.x r.x)))) z.size).map Value.bool).length = z.size := by rw [List.length_map, T.keptL_len]
          unfold T.KtEnd at KP KQ KR
          rw [l1] at KP
          rw [l2] at KQ
          rw [l3] at KR
          generalize (T.keptL (D.atoms 0 (D.qs s.x)) z.size).map Value.bool = PL at KP HV l1
          generalize (T.keptL (D.atoms 0 (D.qs r.x)) z.size).map Value.bool = QL at KQ HV l2
          generalize (T.keptL (D.atoms 0 (D.qs (D.cmpP s.x (D.prB s.x r.x)))) z.size).map Value.bool = RL at KR HV l3
          clear h0 h1 h2 h3 c cc hts htr htd ca fa cr fr hzl bS bR hz
          obtain ⟨oS, cS, S⟩ := s
          obtain ⟨oR, cR, R⟩ := r
          dsimp only at *
          generalize D.resP (D.resP z.data.toList S) (D.prB S R) = U0 at *
          generalize (⟨U0.toArray⟩ : ByteArray) = U at *
          generalize (⟨(D.resP z.data.toList S).toArray⟩ : ByteArray) = X at *
          generalize (⟨(D.resP z.data.toList R).toArray⟩ : ByteArray) = Y at *
          generalize D.cmpP S (D.prB S R) = C0 at *
          generalize D.prA S R = PA at *
          generalize D.prB S R = PB at *
          clear hs hr
          cases hg1 : D.large S with
          | true =>
            rw [hg1] at G1
            clear hg1 KP KQ KR HV l1 l2 l3
            go_enter Try.func7, Try.ntmps7
            go_wp2_with fail
            refine (HA.out _ _ _ K.out.r0 nS.out.1).mono ?_
            rintro e w1 ⟨v, rfl, hm⟩
            obtain ⟨ox0, cx0, hv, nx0, K1⟩ := L.made5 K.out hm
            subst hv
            clear hm K
            go_wp2_with fail
            refine (H1.out _ _ _ K1.out.r0).mono ?_
            rintro e w2 ⟨rfl, hb⟩
            have K2 := Lib.hid (K1.out.on hb)
            clear hb K1
            go_wp2_with fail
            refine (HB.out _ _ _ K2.out.tl.tl.r0 nR.out.1).mono ?_
            rintro e w3 ⟨v, rfl, hm⟩
            obtain ⟨oy0, cy0, hv, ny0, K3⟩ := L.made5 K2.out hm
            subst hv
            clear hm K2
            go_wp2_with fail
            refine (H2.out _ _ _ K3.out.r0).mono ?_
            rintro e w4 ⟨rfl, hb⟩
            have K4 := Lib.hid (K3.out.on hb)
            clear hb K3
            go_wp2_with fail
            refine (HA.out _ _ _ K4.out.tl.tl.r0 nS.out.1).mono ?_
            rintro e w5 ⟨v, rfl, hm⟩
            obtain ⟨ox1, cx1, hv, nx1, K5⟩ := L.made5 K4.out hm
            subst hv
            clear hm K4
            go_wp2_with fail
            refine (HB.out _ _ _ K5.out.tl.tl.tl.tl.r0 nR.out.1).mono ?_
            rintro e w6 ⟨v, rfl, hm⟩
            obtain ⟨oy1, cy1, hv, ny1, K6⟩ := L.made5 K5.out hm
            subst hv
            clear hm K5
            go_wp2_with fail
            refine (H3.out _ _ _ _ _ K6.out.tl.r0 K6.out.r0).mono ?_
            rintro e w7 ⟨v, u, rfl, hm, hm2⟩
            obtain ⟨oa2, ca2, ob2, cb2, hv, hv2, na2, nb2, K7⟩ := L.made6 K6.out hm hm2
            subst hv hv2
            clear hm hm2 K6
            go_wp2_with fail
            refine (HPB.out _ _ _ K7.out.r0 nb2.out.1).mono ?_
            rintro e w8 ⟨v, rfl, hm⟩
            obtain ⟨ob3, cb3, hv, nb3, K8⟩ := L.made5 K7.out hm
            subst hv
            clear hm K7
            go_wp2_with fail
            refine (H4.out _ _ _ K8.out.r0).mono ?_
            rintro e w9 ⟨rfl, hb⟩
            have K9 := Lib.hid (K8.out.on hb)
            clear hb K8
            go_wp2_with fail
            refine (HPA.out _ _ _ K9.out.tl.tl.r0 na2.out.1).mono ?_
            rintro e w10 ⟨v, rfl, hm⟩
            obtain ⟨oa3, ca3, hv, na3, K10⟩ := L.made5 K9.out hm
            subst hv
            clear hm K9
            go_wp2_with fail
            refine (H5.out _ _ _ K10.out.r0).mono ?_
            rintro e w11 ⟨rfl, hb⟩
            have K11 := Lib.hid (K10.out.on hb)
            clear hb K10
            go_wp2_with fail
            refine (HA.out _ _ _ K11.out.tl.tl.tl.tl.tl.tl.tl.tl.r0 nS.out.1).mono ?_
            rintro e w12 ⟨v, rfl, hm⟩
            obtain ⟨ox2, cx2, hv, nx2, K12⟩ := L.made5 K11.out hm
            subst hv
            clear hm K11
            go_wp2_with fail
            refine (H6.out _ _ _ _ _ K12.out.r0 K12.out.tl.tl.tl.r0 nx2.out.2 nb2.out.2).mono ?_
            rintro e w13 ⟨v, rfl, hm⟩
            obtain ⟨oc, cc, hv, nc, K13⟩ := L.made5 K12.out hm
            subst hv
            clear hm K12
            go_wp2_with fail
            refine (HB.out _ _ _ K13.out.tl.tl.tl.tl.tl.tl.tl.tl.tl.tl.tl.r0 nR.out.1).mono ?_
            rintro e w14 ⟨v, rfl, hm⟩
            obtain ⟨oy2, cy2, hv, ny2, K14⟩ := L.made5 K13.out hm
            subst hv
            clear hm K13
            go_wp2_with fail
            refine (H7.out _ _ _ _ _ K14.out.r0 K14.out.tl.tl.tl.tl.tl.tl.r0 ny2.out.2 na2.out.2).mono ?_
            rintro e w15 ⟨v, rfl, hm⟩
            obtain ⟨od, cd, hv, nd, K15⟩ := L.made5 K14.out hm
            subst hv
            clear hm K14
            go_wp2_with fail
            refine (HA.out _ _ _ K15.out.tl.tl.tl.tl.tl.tl.tl.tl.tl.tl.tl.tl.r0 nS.out.1).mono ?_
            rintro e w16 ⟨v, rfl, hm⟩
            obtain ⟨ox3, cx3, hv, nx3, K16⟩ := L.made5 K15.out hm
            subst hv
            clear hm K15
            go_wp2_with fail
            refine (HB.out _ _ _ K16.out.tl.tl.tl.tl.tl.tl.tl.tl.tl.tl.tl.tl.tl.tl.r0 nR.out.1).mono ?_
            rintro e w17 ⟨v, rfl, hm⟩
            obtain ⟨oy3, cy3, hv, ny3, K17⟩ := L.made5 K16.out hm
            subst hv
            clear hm K16
            go_wp2_with fail
            refine (H8.out _ _ _ _ _ K17.out.tl.r0 K17.out.r0 nx3.out.2 ny3.out.2).mono ?_
            rintro e w18 ⟨v, rfl, hm⟩
            obtain ⟨om, cm, hv, nm, K18⟩ := L.made5 K17.out hm
            subst hv
            clear hm K17
            go_wp2_with fail
            refine (S1.out _ _ _ _ _ K18.out.tl.tl.tl.tl.tl.r0 K18.out.tl.tl.tl.r0).mono ?_
            rintro e w19 ⟨rfl, hb⟩
            have K19 := Lib.hid (K18.out.on hb)
            clear hb K18
            go_wp2_with fail
            refine (S1.out _ _ _ _ _ K19.out.tl.tl.tl.tl.tl.r0 K19.out.r0).mono ?_
            rintro e w20 ⟨rfl, hb⟩
            have K20 := Lib.hid (K19.out.on hb)
            clear hb K19
            go_wp2_with fail
            refine (G1.out _ _ _ K20.out.tl.tl.tl.tl.tl.tl.tl.tl.tl.tl.tl.tl.tl.tl.tl.r0).mono ?_
            rintro e w21 ⟨rfl, hb⟩
            have K21 := Lib.hid (K20.out.on hb)
            clear hb K20
            have KB := Lib.hid K21.out.below
            clear K21
            go_wp2_with fail
            refine (HK.out _).mono ?_
            rintro e wk ⟨rfl, hb⟩
            have KC := Lib.hid (KB.out.trans (hb.mono KB.out.size))
            clear hb
            go_wp2
            go_ret
            exact ⟨rfl, KC.out⟩
          | false =>
            rw [hg1] at G1
            cases hg2 : D.large R with
            | true =>
              rw [hg2] at G2
              clear hg1 hg2 KP KQ KR HV l1 l2 l3
              go_enter Try.func7, Try.ntmps7
              go_wp2_with fail
              refine (HA.out _ _ _ K.out.r0 nS.out.1).mono ?_
              rintro e w1 ⟨v, rfl, hm⟩
              obtain ⟨ox0, cx0, hv, nx0, K1⟩ := L.made5 K.out hm
              subst hv
              clear hm K
              go_wp2_with fail
              refine (H1.out _ _ _ K1.out.r0).mono ?_
              rintro e w2 ⟨rfl, hb⟩
              have K2 := Lib.hid (K1.out.on hb)
              clear hb K1
              go_wp2_with fail
              refine (HB.out _ _ _ K2.out.tl.tl.r0 nR.out.1).mono ?_
              rintro e w3 ⟨v, rfl, hm⟩
              obtain ⟨oy0, cy0, hv, ny0, K3⟩ := L.made5 K2.out hm
              subst hv
              clear hm K2
              go_wp2_with fail
              refine (H2.out _ _ _ K3.out.r0).mono ?_
              rintro e w4 ⟨rfl, hb⟩
              have K4 := Lib.hid (K3.out.on hb)
              clear hb K3
              go_wp2_with fail
              refine (HA.out _ _ _ K4.out.tl.tl.r0 nS.out.1).mono ?_
              rintro e w5 ⟨v, rfl, hm⟩
              obtain ⟨ox1, cx1, hv, nx1, K5⟩ := L.made5 K4.out hm
              subst hv
              clear hm K4
              go_wp2_with fail
              refine (HB.out _ _ _ K5.out.tl.tl.tl.tl.r0 nR.out.1).mono ?_
              rintro e w6 ⟨v, rfl, hm⟩
              obtain ⟨oy1, cy1, hv, ny1, K6⟩ := L.made5 K5.out hm
              subst hv
              clear hm K5
              go_wp2_with fail
              refine (H3.out _ _ _ _ _ K6.out.tl.r0 K6.out.r0).mono ?_
              rintro e w7 ⟨v, u, rfl, hm, hm2⟩
              obtain ⟨oa2, ca2, ob2, cb2, hv, hv2, na2, nb2, K7⟩ := L.made6 K6.out hm hm2
              subst hv hv2
              clear hm hm2 K6
              go_wp2_with fail
              refine (HPB.out _ _ _ K7.out.r0 nb2.out.1).mono ?_
              rintro e w8 ⟨v, rfl, hm⟩
              obtain ⟨ob3, cb3, hv, nb3, K8⟩ := L.made5 K7.out hm
              subst hv
              clear hm K7
              go_wp2_with fail
              refine (H4.out _ _ _ K8.out.r0).mono ?_
              rintro e w9 ⟨rfl, hb⟩
              have K9 := Lib.hid (K8.out.on hb)
              clear hb K8
              go_wp2_with fail
              refine (HPA.out _ _ _ K9.out.tl.tl.r0 na2.out.1).mono ?_
              rintro e w10 ⟨v, rfl, hm⟩
              obtain ⟨oa3, ca3, hv, na3, K10⟩ := L.made5 K9.out hm
              subst hv
              clear hm K9
              go_wp2_with fail
              refine (H5.out _ _ _ K10.out.r0).mono ?_
              rintro e w11 ⟨rfl, hb⟩
              have K11 := Lib.hid (K10.out.on hb)
              clear hb K10
              go_wp2_with fail
              refine (HA.out _ _ _ K11.out.tl.tl.tl.tl.tl.tl.tl.tl.r0 nS.out.1).mono ?_
              rintro e w12 ⟨v, rfl, hm⟩
              obtain ⟨ox2, cx2, hv, nx2, K12⟩ := L.made5 K11.out hm
              subst hv
              clear hm K11
              go_wp2_with fail
              refine (H6.out _ _ _ _ _ K12.out.r0 K12.out.tl.tl.tl.r0 nx2.out.2 nb2.out.2).mono ?_
              rintro e w13 ⟨v, rfl, hm⟩
              obtain ⟨oc, cc, hv, nc, K13⟩ := L.made5 K12.out hm
              subst hv
              clear hm K12
              go_wp2_with fail
              refine (HB.out _ _ _ K13.out.tl.tl.tl.tl.tl.tl.tl.tl.tl.tl.tl.r0 nR.out.1).mono ?_
              rintro e w14 ⟨v, rfl, hm⟩
              obtain ⟨oy2, cy2, hv, ny2, K14⟩ := L.made5 K13.out hm
              subst hv
              clear hm K13
              go_wp2_with fail
              refine (H7.out _ _ _ _ _ K14.out.r0 K14.out.tl.tl.tl.tl.tl.tl.r0 ny2.out.2 na2.out.2).mono ?_
              rintro e w15 ⟨v, rfl, hm⟩
              obtain ⟨od, cd, hv, nd, K15⟩ := L.made5 K14.out hm
              subst hv
              clear hm K14
              go_wp2_with fail
              refine (HA.out _ _ _ K15.out.tl.tl.tl.tl.tl.tl.tl.tl.tl.tl.tl.tl.r0 nS.out.1).mono ?_
              rintro e w16 ⟨v, rfl, hm⟩
              obtain ⟨ox3, cx3, hv, nx3, K16⟩ := L.made5 K15.out hm
              subst hv
              clear hm K15
              go_wp2_with fail
              refine (HB.out _ _ _ K16.out.tl.tl.tl.tl.tl.tl.tl.tl.tl.tl.tl.tl.tl.tl.r0 nR.out.1).mono ?_
              rintro e w17 ⟨v, rfl, hm⟩
              obtain ⟨oy3, cy3, hv, ny3, K17⟩ := L.made5 K16.out hm
              subst hv
              clear hm K16
              go_wp2_with fail
              refine (H8.out _ _ _ _ _ K17.out.tl.r0 K17.out.r0 nx3.out.2 ny3.out.2).mono ?_
              rintro e w18 ⟨v, rfl, hm⟩
              obtain ⟨om, cm, hv, nm, K18⟩ := L.made5 K17.out hm
              subst hv
              clear hm K17
              go_wp2_with fail
              refine (S1.out _ _ _ _ _ K18.out.tl.tl.tl.tl.tl.r0 K18.out.tl.tl.tl.r0).mono ?_
              rintro e w19 ⟨rfl, hb⟩
              have K19 := Lib.hid (K18.out.on hb)
              clear hb K18
              go_wp2_with fail
              refine (S1.out _ _ _ _ _ K19.out.tl.tl.tl.tl.tl.r0 K19.out.r0).mono ?_
              rintro e w20 ⟨rfl, hb⟩
              have K20 := Lib.hid (K19.out.on hb)
              clear hb K19
              go_wp2_with fail
              refine (G1.out _ _ _ K20.out.tl.tl.tl.tl.tl.tl.tl.tl.tl.tl.tl.tl.tl.tl.tl.r0).mono ?_
              rintro e w21 ⟨rfl, hb⟩
              have K21 := Lib.hid (K20.out.on hb)
              clear hb K20
              go_wp2_with fail
              refine (G2.out _ _ _ K21.out.tl.tl.tl.tl.tl.tl.tl.tl.tl.tl.tl.tl.tl.tl.tl.tl.r0).mono ?_
              rintro e w22 ⟨rfl, hb⟩
              have K22 := Lib.hid (K21.out.on hb)
              clear hb K21
              have KB := Lib.hid K22.out.below
              clear K22
              go_wp2_with fail
              refine (HK.out _).mono ?_
              rintro e wk ⟨rfl, hb⟩
              have KC := Lib.hid (KB.out.trans (hb.mono KB.out.size))
              clear hb
              go_wp2
              go_ret
              exact ⟨rfl, KC.out⟩
            | false =>
              rw [hg2] at G2
              cases hg3 : D.large C0 with
              | true =>
                rw [hg3] at G3
                clear hg1 hg2 hg3 KP KQ KR HV l1 l2 l3
                go_enter Try.func7, Try.ntmps7
                go_wp2_with fail
                refine (HA.out _ _ _ K.out.r0 nS.out.1).mono ?_
                rintro e w1 ⟨v, rfl, hm⟩
                obtain ⟨ox0, cx0, hv, nx0, K1⟩ := L.made5 K.out hm
                subst hv
                clear hm K
                go_wp2_with fail
                refine (H1.out _ _ _ K1.out.r0).mono ?_
                rintro e w2 ⟨rfl, hb⟩
                have K2 := Lib.hid (K1.out.on hb)
                clear hb K1
                go_wp2_with fail
                refine (HB.out _ _ _ K2.out.tl.tl.r0 nR.out.1).mono ?_
                rintro e w3 ⟨v, rfl, hm⟩
                obtain ⟨oy0, cy0, hv, ny0, K3⟩ := L.made5 K2.out hm
                subst hv
                clear hm K2
                go_wp2_with fail
                refine (H2.out _ _ _ K3.out.r0).mono ?_
                rintro e w4 ⟨rfl, hb⟩
                have K4 := Lib.hid (K3.out.on hb)
                clear hb K3
                go_wp2_with fail
                refine (HA.out _ _ _ K4.out.tl.tl.r0 nS.out.1).mono ?_
                rintro e w5 ⟨v, rfl, hm⟩
                obtain ⟨ox1, cx1, hv, nx1, K5⟩ := L.made5 K4.out hm
                subst hv
                clear hm K4
                go_wp2_with fail
                refine (HB.out _ _ _ K5.out.tl.tl.tl.tl.r0 nR.out.1).mono ?_
                rintro e w6 ⟨v, rfl, hm⟩
                obtain ⟨oy1, cy1, hv, ny1, K6⟩ := L.made5 K5.out hm
                subst hv
                clear hm K5
                go_wp2_with fail
                refine (H3.out _ _ _ _ _ K6.out.tl.r0 K6.out.r0).mono ?_
                rintro e w7 ⟨v, u, rfl, hm, hm2⟩
                obtain ⟨oa2, ca2, ob2, cb2, hv, hv2, na2, nb2, K7⟩ := L.made6 K6.out hm hm2
                subst hv hv2
                clear hm hm2 K6
                go_wp2_with fail
                refine (HPB.out _ _ _ K7.out.r0 nb2.out.1).mono ?_
                rintro e w8 ⟨v, rfl, hm⟩
                obtain ⟨ob3, cb3, hv, nb3, K8⟩ := L.made5 K7.out hm
                subst hv
                clear hm K7
                go_wp2_with fail
                refine (H4.out _ _ _ K8.out.r0).mono ?_
                rintro e w9 ⟨rfl, hb⟩
                have K9 := Lib.hid (K8.out.on hb)
                clear hb K8
                go_wp2_with fail
                refine (HPA.out _ _ _ K9.out.tl.tl.r0 na2.out.1).mono ?_
                rintro e w10 ⟨v, rfl, hm⟩
                obtain ⟨oa3, ca3, hv, na3, K10⟩ := L.made5 K9.out hm
                subst hv
                clear hm K9
                go_wp2_with fail
                refine (H5.out _ _ _ K10.out.r0).mono ?_
                rintro e w11 ⟨rfl, hb⟩
                have K11 := Lib.hid (K10.out.on hb)
                clear hb K10
                go_wp2_with fail
                refine (HA.out _ _ _ K11.out.tl.tl.tl.tl.tl.tl.tl.tl.r0 nS.out.1).mono ?_
                rintro e w12 ⟨v, rfl, hm⟩
                obtain ⟨ox2, cx2, hv, nx2, K12⟩ := L.made5 K11.out hm
                subst hv
                clear hm K11
                go_wp2_with fail
                refine (H6.out _ _ _ _ _ K12.out.r0 K12.out.tl.tl.tl.r0 nx2.out.2 nb2.out.2).mono ?_
                rintro e w13 ⟨v, rfl, hm⟩
                obtain ⟨oc, cc, hv, nc, K13⟩ := L.made5 K12.out hm
                subst hv
                clear hm K12
                go_wp2_with fail
                refine (HB.out _ _ _ K13.out.tl.tl.tl.tl.tl.tl.tl.tl.tl.tl.tl.r0 nR.out.1).mono ?_
                rintro e w14 ⟨v, rfl, hm⟩
                obtain ⟨oy2, cy2, hv, ny2, K14⟩ := L.made5 K13.out hm
                subst hv
                clear hm K13
                go_wp2_with fail
                refine (H7.out _ _ _ _ _ K14.out.r0 K14.out.tl.tl.tl.tl.tl.tl.r0 ny2.out.2 na2.out.2).mono ?_
                rintro e w15 ⟨v, rfl, hm⟩
                obtain ⟨od, cd, hv, nd, K15⟩ := L.made5 K14.out hm
                subst hv
                clear hm K14
                go_wp2_with fail
                refine (HA.out _ _ _ K15.out.tl.tl.tl.tl.tl.tl.tl.tl.tl.tl.tl.tl.r0 nS.out.1).mono ?_
                rintro e w16 ⟨v, rfl, hm⟩
                obtain ⟨ox3, cx3, hv, nx3, K16⟩ := L.made5 K15.out hm
                subst hv
                clear hm K15
                go_wp2_with fail
                refine (HB.out _ _ _ K16.out.tl.tl.tl.tl.tl.tl.tl.tl.tl.tl.tl.tl.tl.tl.r0 nR.out.1).mono ?_
                rintro e w17 ⟨v, rfl, hm⟩
                obtain ⟨oy3, cy3, hv, ny3, K17⟩ := L.made5 K16.out hm
                subst hv
                clear hm K16
                go_wp2_with fail
                refine (H8.out _ _ _ _ _ K17.out.tl.r0 K17.out.r0 nx3.out.2 ny3.out.2).mono ?_
                rintro e w18 ⟨v, rfl, hm⟩
                obtain ⟨om, cm, hv, nm, K18⟩ := L.made5 K17.out hm
                subst hv
                clear hm K17
                go_wp2_with fail
                refine (S1.out _ _ _ _ _ K18.out.tl.tl.tl.tl.tl.r0 K18.out.tl.tl.tl.r0).mono ?_
                rintro e w19 ⟨rfl, hb⟩
                have K19 := Lib.hid (K18.out.on hb)
                clear hb K18
                go_wp2_with fail
                refine (S1.out _ _ _ _ _ K19.out.tl.tl.tl.tl.tl.r0 K19.out.r0).mono ?_
                rintro e w20 ⟨rfl, hb⟩
                have K20 := Lib.hid (K19.out.on hb)
                clear hb K19
                go_wp2_with fail
                refine (G1.out _ _ _ K20.out.tl.tl.tl.tl.tl.tl.tl.tl.tl.tl.tl.tl.tl.tl.tl.r0).mono ?_
                rintro e w21 ⟨rfl, hb⟩
                have K21 := Lib.hid (K20.out.on hb)
                clear hb K20
                go_wp2_with fail
                refine (G2.out _ _ _ K21.out.tl.tl.tl.tl.tl.tl.tl.tl.tl.tl.tl.tl.tl.tl.tl.tl.r0).mono ?_
                rintro e w22 ⟨rfl, hb⟩
                have K22 := Lib.hid (K21.out.on hb)
                clear hb K21
                go_wp2_with fail
                refine (G3.out _ _ _ K22.out.r0).mono ?_
                rintro e w23 ⟨rfl, hb⟩
                have K23 := Lib.hid (K22.out.on hb)
                clear hb K22
                have KB := Lib.hid K23.out.below
                clear K23
                go_wp2_with fail
                refine (HK.out _).mono ?_
                rintro e wk ⟨rfl, hb⟩
                have KC := Lib.hid (KB.out.trans (hb.mono KB.out.size))
                clear hb
                go_wp2
                go_ret
                exact ⟨rfl, KC.out⟩
              | false =>
                rw [hg3] at G3
                clear hg1 hg2 hg3
                go_enter Try.func7, Try.ntmps7
                go_wp2_with fail
                refine (HA.out _ _ _ K.out.r0 nS.out.1).mono ?_
                rintro e w1 ⟨v, rfl, hm⟩
                obtain ⟨ox0, cx0, hv, nx0, K1⟩ := L.made5 K.out hm
                subst hv
                clear hm K
                go_wp2_with fail
                refine (H1.out _ _ _ K1.out.r0).mono ?_
                rintro e w2 ⟨rfl, hb⟩
                have K2 := Lib.hid (K1.out.on hb)
                clear hb K1
                go_wp2_with fail
                refine (HB.out _ _ _ K2.out.tl.tl.r0 nR.out.1).mono ?_
                rintro e w3 ⟨v, rfl, hm⟩
                obtain ⟨oy0, cy0, hv, ny0, K3⟩ := L.made5 K2.out hm
                subst hv
                clear hm K2
                go_wp2_with fail
                refine (H2.out _ _ _ K3.out.r0).mono ?_
                rintro e w4 ⟨rfl, hb⟩
                have K4 := Lib.hid (K3.out.on hb)
                clear hb K3
                go_wp2_with fail
                refine (HA.out _ _ _ K4.out.tl.tl.r0 nS.out.1).mono ?_
                rintro e w5 ⟨v, rfl, hm⟩
                obtain ⟨ox1, cx1, hv, nx1, K5⟩ := L.made5 K4.out hm
                subst hv
                clear hm K4
                go_wp2_with fail
                refine (HB.out _ _ _ K5.out.tl.tl.tl.tl.r0 nR.out.1).mono ?_
                rintro e w6 ⟨v, rfl, hm⟩
                obtain ⟨oy1, cy1, hv, ny1, K6⟩ := L.made5 K5.out hm
                subst hv
                clear hm K5
                go_wp2_with fail
                refine (H3.out _ _ _ _ _ K6.out.tl.r0 K6.out.r0).mono ?_
                rintro e w7 ⟨v, u, rfl, hm, hm2⟩
                obtain ⟨oa2, ca2, ob2, cb2, hv, hv2, na2, nb2, K7⟩ := L.made6 K6.out hm hm2
                subst hv hv2
                clear hm hm2 K6
                go_wp2_with fail
                refine (HPB.out _ _ _ K7.out.r0 nb2.out.1).mono ?_
                rintro e w8 ⟨v, rfl, hm⟩
                obtain ⟨ob3, cb3, hv, nb3, K8⟩ := L.made5 K7.out hm
                subst hv
                clear hm K7
                go_wp2_with fail
                refine (H4.out _ _ _ K8.out.r0).mono ?_
                rintro e w9 ⟨rfl, hb⟩
                have K9 := Lib.hid (K8.out.on hb)
                clear hb K8
                go_wp2_with fail
                refine (HPA.out _ _ _ K9.out.tl.tl.r0 na2.out.1).mono ?_
                rintro e w10 ⟨v, rfl, hm⟩
                obtain ⟨oa3, ca3, hv, na3, K10⟩ := L.made5 K9.out hm
                subst hv
                clear hm K9
                go_wp2_with fail
                refine (H5.out _ _ _ K10.out.r0).mono ?_
                rintro e w11 ⟨rfl, hb⟩
                have K11 := Lib.hid (K10.out.on hb)
                clear hb K10
                go_wp2_with fail
                refine (HA.out _ _ _ K11.out.tl.tl.tl.tl.tl.tl.tl.tl.r0 nS.out.1).mono ?_
                rintro e w12 ⟨v, rfl, hm⟩
                obtain ⟨ox2, cx2, hv, nx2, K12⟩ := L.made5 K11.out hm
                subst hv
                clear hm K11
                go_wp2_with fail
                refine (H6.out _ _ _ _ _ K12.out.r0 K12.out.tl.tl.tl.r0 nx2.out.2 nb2.out.2).mono ?_
                rintro e w13 ⟨v, rfl, hm⟩
                obtain ⟨oc, cc, hv, nc, K13⟩ := L.made5 K12.out hm
                subst hv
                clear hm K12
                go_wp2_with fail
                refine (HB.out _ _ _ K13.out.tl.tl.tl.tl.tl.tl.tl.tl.tl.tl.tl.r0 nR.out.1).mono ?_
                rintro e w14 ⟨v, rfl, hm⟩
                obtain ⟨oy2, cy2, hv, ny2, K14⟩ := L.made5 K13.out hm
                subst hv
                clear hm K13
                go_wp2_with fail
                refine (H7.out _ _ _ _ _ K14.out.r0 K14.out.tl.tl.tl.tl.tl.tl.r0 ny2.out.2 na2.out.2).mono ?_
                rintro e w15 ⟨v, rfl, hm⟩
                obtain ⟨od, cd, hv, nd, K15⟩ := L.made5 K14.out hm
                subst hv
                clear hm K14
                go_wp2_with fail
                refine (HA.out _ _ _ K15.out.tl.tl.tl.tl.tl.tl.tl.tl.tl.tl.tl.tl.r0 nS.out.1).mono ?_
                rintro e w16 ⟨v, rfl, hm⟩
                obtain ⟨ox3, cx3, hv, nx3, K16⟩ := L.made5 K15.out hm
                subst hv
                clear hm K15
                go_wp2_with fail
                refine (HB.out _ _ _ K16.out.tl.tl.tl.tl.tl.tl.tl.tl.tl.tl.tl.tl.tl.tl.r0 nR.out.1).mono ?_
                rintro e w17 ⟨v, rfl, hm⟩
                obtain ⟨oy3, cy3, hv, ny3, K17⟩ := L.made5 K16.out hm
                subst hv
                clear hm K16
                go_wp2_with fail
                refine (H8.out _ _ _ _ _ K17.out.tl.r0 K17.out.r0 nx3.out.2 ny3.out.2).mono ?_
                rintro e w18 ⟨v, rfl, hm⟩
                obtain ⟨om, cm, hv, nm, K18⟩ := L.made5 K17.out hm
                subst hv
                clear hm K17
                go_wp2_with fail
                refine (S1.out _ _ _ _ _ K18.out.tl.tl.tl.tl.tl.r0 K18.out.tl.tl.tl.r0).mono ?_
                rintro e w19 ⟨rfl, hb⟩
                have K19 := Lib.hid (K18.out.on hb)
                clear hb K18
                go_wp2_with fail
                refine (S1.out _ _ _ _ _ K19.out.tl.tl.tl.tl.tl.r0 K19.out.r0).mono ?_
                rintro e w20 ⟨rfl, hb⟩
                have K20 := Lib.hid (K19.out.on hb)
                clear hb K19
                go_wp2_with fail
                refine (G1.out _ _ _ K20.out.tl.tl.tl.tl.tl.tl.tl.tl.tl.tl.tl.tl.tl.tl.tl.r0).mono ?_
                rintro e w21 ⟨rfl, hb⟩
                have K21 := Lib.hid (K20.out.on hb)
                clear hb K20
                go_wp2_with fail
                refine (G2.out _ _ _ K21.out.tl.tl.tl.tl.tl.tl.tl.tl.tl.tl.tl.tl.tl.tl.tl.tl.r0).mono ?_
                rintro e w22 ⟨rfl, hb⟩
                have K22 := Lib.hid (K21.out.on hb)
                clear hb K21
                go_wp2_with fail
                refine (G3.out _ _ _ K22.out.r0).mono ?_
                rintro e w23 ⟨rfl, hb⟩
                have K23 := Lib.hid (K22.out.on hb)
                clear hb K22
                go_wp2_with fail
                refine (KP.out _ _ _ K23.out.tl.tl.tl.tl.tl.tl.tl.tl.tl.tl.tl.tl.tl.tl.tl.r0).mono ?_
                rintro e wA ⟨v1, rfl, ho1, hb1⟩
                rw [← l1] at ho1
                obtain ⟨po, pc, hv1, hpr⟩ := T.vrow_of ho1
                rw [l1] at hv1
                subst hv1
                have KA := Lib.hid (K23.out.on hb1)
                have HPR := Lib.hid hpr
                clear ho1 hb1 hpr K23
                go_wp2_with fail
                refine (KQ.out _ _ _ KA.out.tl.tl.tl.tl.tl.tl.tl.tl.tl.tl.tl.tl.tl.tl.tl.tl.r0).mono ?_
                rintro e wB ⟨v2, rfl, ho2, hb2⟩
                rw [← l2] at ho2
                obtain ⟨qo, qc, hv2, hqr⟩ := T.vrow_of ho2
                rw [l2] at hv2
                subst hv2
                have KB := Lib.hid (KA.out.on hb2)
                have HPR := Lib.hid (HPR.out.below hb2)
                have HQR := Lib.hid hqr
                clear ho2 hb2 hqr KA
                go_wp2_with fail
                refine (KR.out _ _ _ KB.out.r0).mono ?_
                rintro e wC ⟨v3, rfl, ho3, hb3⟩
                rw [← l3] at ho3
                obtain ⟨ro, rc, hv3, hrr⟩ := T.vrow_of ho3
                rw [l3] at hv3
                subst hv3
                have KC := Lib.hid (KB.out.on hb3).below
                have HP3 := Lib.hid (T.vrow_at (HPR.out.below hb3))
                have HQ3 := Lib.hid (T.vrow_at (HQR.out.below hb3))
                have HR3 := Lib.hid (T.vrow_at hrr)
                clear ho3 hb3 hrr KB HPR HQR l1 l2 l3 KP KQ KR G1 G2 G3 H1 H2 H3 H4 H5 H6 H7 H8 S1 HPA HPB HA HB
                obtain ⟨n, hn⟩ : ∃ n, Hid (z.size = n) := ⟨_, rfl⟩
                have hzn : z.size = n := hn.out
                rw [hn.out] at HV hzs ⊢
                go_wp2
                go_loopw [22] (fun iv wy => ∃ k : Nat, k ≤ n ∧ iv = .int .i64 k ∧ Hid (Below wC.heap.size wC wy)) (fun i _ => n - (intOf i).toNat)
                case atStart => exact ⟨0, Nat.zero_le _, rfl, Below.refl _ _⟩
                case round =>
                  obtain ⟨k, hk, rfl, hy⟩ := hrel
                  by_cases hlt : k < n
                  · obtain ⟨p, q, h1, h2, h3⟩ := HV.out k hlt
                    obtain ⟨pb, px, ep, pl, pcell⟩ := HP3.out k _ h1
                    obtain ⟨qb, qx, eq, ql, qcell⟩ := HQ3.out k _ h2
                    obtain ⟨rb, rx, er, rl, rcell⟩ := HR3.out k _ h3
                    subst ep eq er
                    have c0 := ((D.bcell hy.out).1 _ _ pl).trans pcell
                    have c1 := ((D.bcell hy.out).1 _ _ ql).trans qcell
                    have c2 := ((D.bcell hy.out).1 _ _ rl).trans rcell
                    have hy2 := Lib.hid hy.out.drew
                    clear h1 h2 h3 pcell qcell rcell hy
                    cases p with
                    | true =>
                      cases q with
                      | true =>
                        go_wp2_with fail
                        go_region
                        all_goals
                          go_wp2
                          go_roundw
                          case rel => exact ⟨k + 1, by omega, by go_num, hy2⟩
                          case measure => simp [intOf]; omega
                      | false =>
                        go_wp2_with fail
                        go_region
                        all_goals
                          go_wp2
                          go_roundw
                          case rel => exact ⟨k + 1, by omega, by go_num, hy2⟩
                          case measure => simp [intOf]; omega
                    | false =>
                      go_wp2_with fail
                      go_region
                      all_goals
                        go_wp2
                        go_roundw
                        case rel => exact ⟨k + 1, by omega, by go_num, hy2⟩
                        case measure => simp [intOf]; omega
                  · obtain rfl : k = n := by omega
                    have hb5 := Lib.hid (KC.out.trans (hy.out.mono KC.out.size))
                    clear hy KC HV HP3 HQ3 HR3
                    go_wp2_with fail
                    refine (HK.out _).mono ?_
                    rintro e w8 ⟨rfl, hb⟩
                    have hb := Lib.hid (hb5.out.trans (hb.mono hb5.out.size))
                    go_wp2
                    go_ret
                    exact ⟨rfl, hb.out⟩
        · have q9 : (D.cmpE s.x (D.prB s.x r.x) != 0) = true := by simpa using h3
          clear h0 h1 h2 h3 c hts htr htd bS bR hz
          obtain ⟨oS, cS, S⟩ := s
          obtain ⟨oR, cR, R⟩ := r
          dsimp only at *
          generalize D.cmpE S (D.prB S R) = k at *
          generalize D.resP (D.resP z.data.toList S) (D.prB S R) = U0 at *
          generalize (⟨U0.toArray⟩ : ByteArray) = U at *
          generalize (⟨(D.resP z.data.toList S).toArray⟩ : ByteArray) = X at *
          generalize (⟨(D.resP z.data.toList R).toArray⟩ : ByteArray) = Y at *
          generalize D.cmpP S (D.prB S R) = C0 at *
          generalize D.prA S R = PA at *
          generalize D.prB S R = PB at *
          clear hs hr
          go_enter Try.func7, Try.ntmps7
          go_wp2_with fail
          refine (HA.out _ _ _ K.out.r0 nS.out.1).mono ?_
          rintro e w1 ⟨v, rfl, hm⟩
          obtain ⟨ox0, cx0, hv, nx0, K1⟩ := L.made5 K.out hm
          subst hv
          clear hm K
          go_wp2_with fail
          refine (H1.out _ _ _ K1.out.r0).mono ?_
          rintro e w2 ⟨rfl, hb⟩
          have K2 := Lib.hid (K1.out.on hb)
          clear hb K1
          go_wp2_with fail
          refine (HB.out _ _ _ K2.out.tl.tl.r0 nR.out.1).mono ?_
          rintro e w3 ⟨v, rfl, hm⟩
          obtain ⟨oy0, cy0, hv, ny0, K3⟩ := L.made5 K2.out hm
          subst hv
          clear hm K2
          go_wp2_with fail
          refine (H2.out _ _ _ K3.out.r0).mono ?_
          rintro e w4 ⟨rfl, hb⟩
          have K4 := Lib.hid (K3.out.on hb)
          clear hb K3
          go_wp2_with fail
          refine (HA.out _ _ _ K4.out.tl.tl.r0 nS.out.1).mono ?_
          rintro e w5 ⟨v, rfl, hm⟩
          obtain ⟨ox1, cx1, hv, nx1, K5⟩ := L.made5 K4.out hm
          subst hv
          clear hm K4
          go_wp2_with fail
          refine (HB.out _ _ _ K5.out.tl.tl.tl.tl.r0 nR.out.1).mono ?_
          rintro e w6 ⟨v, rfl, hm⟩
          obtain ⟨oy1, cy1, hv, ny1, K6⟩ := L.made5 K5.out hm
          subst hv
          clear hm K5
          go_wp2_with fail
          refine (H3.out _ _ _ _ _ K6.out.tl.r0 K6.out.r0).mono ?_
          rintro e w7 ⟨v, u, rfl, hm, hm2⟩
          obtain ⟨oa2, ca2, ob2, cb2, hv, hv2, na2, nb2, K7⟩ := L.made6 K6.out hm hm2
          subst hv hv2
          clear hm hm2 K6
          go_wp2_with fail
          refine (HPB.out _ _ _ K7.out.r0 nb2.out.1).mono ?_
          rintro e w8 ⟨v, rfl, hm⟩
          obtain ⟨ob3, cb3, hv, nb3, K8⟩ := L.made5 K7.out hm
          subst hv
          clear hm K7
          go_wp2_with fail
          refine (H4.out _ _ _ K8.out.r0).mono ?_
          rintro e w9 ⟨rfl, hb⟩
          have K9 := Lib.hid (K8.out.on hb)
          clear hb K8
          go_wp2_with fail
          refine (HPA.out _ _ _ K9.out.tl.tl.r0 na2.out.1).mono ?_
          rintro e w10 ⟨v, rfl, hm⟩
          obtain ⟨oa3, ca3, hv, na3, K10⟩ := L.made5 K9.out hm
          subst hv
          clear hm K9
          go_wp2_with fail
          refine (H5.out _ _ _ K10.out.r0).mono ?_
          rintro e w11 ⟨rfl, hb⟩
          have K11 := Lib.hid (K10.out.on hb)
          clear hb K10
          go_wp2_with fail
          refine (HA.out _ _ _ K11.out.tl.tl.tl.tl.tl.tl.tl.tl.r0 nS.out.1).mono ?_
          rintro e w12 ⟨v, rfl, hm⟩
          obtain ⟨ox2, cx2, hv, nx2, K12⟩ := L.made5 K11.out hm
          subst hv
          clear hm K11
          go_wp2_with fail
          refine (H6.out _ _ _ _ _ K12.out.r0 K12.out.tl.tl.tl.r0 nx2.out.2 nb2.out.2).mono ?_
          rintro e w13 ⟨v, rfl, hm⟩
          obtain ⟨oc, cc, hv, nc, K13⟩ := L.made5 K12.out hm
          subst hv
          clear hm K12
          go_wp2_with fail
          refine (HB.out _ _ _ K13.out.tl.tl.tl.tl.tl.tl.tl.tl.tl.tl.tl.r0 nR.out.1).mono ?_
          rintro e w14 ⟨v, rfl, hm⟩
          obtain ⟨oy2, cy2, hv, ny2, K14⟩ := L.made5 K13.out hm
          subst hv
          clear hm K13
          go_wp2_with fail
          refine (H7.out _ _ _ _ _ K14.out.r0 K14.out.tl.tl.tl.tl.tl.tl.r0 ny2.out.2 na2.out.2).mono ?_
          rintro e w15 ⟨v, rfl, hm⟩
          obtain ⟨od, cd, hv, nd, K15⟩ := L.made5 K14.out hm
          subst hv
          clear hm K14
          go_wp2_with fail
          refine (HA.out _ _ _ K15.out.tl.tl.tl.tl.tl.tl.tl.tl.tl.tl.tl.tl.r0 nS.out.1).mono ?_
          rintro e w16 ⟨v, rfl, hm⟩
          obtain ⟨ox3, cx3, hv, nx3, K16⟩ := L.made5 K15.out hm
          subst hv
          clear hm K15
          go_wp2_with fail
          refine (HB.out _ _ _ K16.out.tl.tl.tl.tl.tl.tl.tl.tl.tl.tl.tl.tl.tl.tl.r0 nR.out.1).mono ?_
          rintro e w17 ⟨v, rfl, hm⟩
          obtain ⟨oy3, cy3, hv, ny3, K17⟩ := L.made5 K16.out hm
          subst hv
          clear hm K16
          go_wp2_with fail
          refine (H8.out _ _ _ _ _ K17.out.tl.r0 K17.out.r0 nx3.out.2 ny3.out.2).mono ?_
          rintro e w18 ⟨v, rfl, hm⟩
          obtain ⟨om, cm, hv, nm, K18⟩ := L.made5 K17.out hm
          subst hv
          clear hm K17
          go_wp2_with fail
          refine (S1.out _ _ _ _ _ K18.out.tl.tl.tl.tl.tl.r0 K18.out.tl.tl.tl.r0).mono ?_
          rintro e w19 ⟨rfl, hb⟩
          have K19 := Lib.hid (K18.out.on hb)
          clear hb K18
          go_wp2_with fail
          refine (S1.out _ _ _ _ _ K19.out.tl.tl.tl.tl.tl.r0 K19.out.r0).mono ?_
          rintro e w20 ⟨rfl, hb⟩
          have K20 := Lib.hid (K19.out.on hb)
          clear hb K19
          have KB := Lib.hid K20.out.below
          clear K20
          go_wp2_with fail
          refine (HK.out _).mono ?_
          rintro e wk ⟨rfl, hb⟩
          have KC := Lib.hid (KB.out.trans (hb.mono KB.out.size))
          clear hb
          go_wp2
          go_ret
          exact ⟨rfl, KC.out⟩
      · have h5 : D.prE s.x r.x = 5 := (D.pr_two (D.bas_fit h0 h1)).resolve_left h2
        rw [h5] at H3
        clear h0 h1 h2 h5 bS bR hz
        obtain ⟨oS, cS, S⟩ := s
        obtain ⟨oR, cR, R⟩ := r
        dsimp only at *
        generalize (⟨(D.resP z.data.toList S).toArray⟩ : ByteArray) = X at *
        generalize (⟨(D.resP z.data.toList R).toArray⟩ : ByteArray) = Y at *
        generalize D.prA S R = PA at *
        generalize D.prB S R = PB at *
        clear hs hr
        go_enter Try.func7, Try.ntmps7
        go_wp2_with fail
        refine (HA.out _ _ _ K.out.r0 nS.out.1).mono ?_
        rintro e w1 ⟨v, rfl, hm⟩
        obtain ⟨ox0, cx0, hv, nx0, K1⟩ := L.made5 K.out hm
        subst hv
        clear hm K
        go_wp2_with fail
        refine (H1.out _ _ _ K1.out.r0).mono ?_
        rintro e w2 ⟨rfl, hb⟩
        have K2 := Lib.hid (K1.out.on hb)
        clear hb K1
        go_wp2_with fail
        refine (HB.out _ _ _ K2.out.tl.tl.r0 nR.out.1).mono ?_
        rintro e w3 ⟨v, rfl, hm⟩
        obtain ⟨oy0, cy0, hv, ny0, K3⟩ := L.made5 K2.out hm
        subst hv
        clear hm K2
        go_wp2_with fail
        refine (H2.out _ _ _ K3.out.r0).mono ?_
        rintro e w4 ⟨rfl, hb⟩
        have K4 := Lib.hid (K3.out.on hb)
        clear hb K3
        go_wp2_with fail
        refine (HA.out _ _ _ K4.out.tl.tl.r0 nS.out.1).mono ?_
        rintro e w5 ⟨v, rfl, hm⟩
        obtain ⟨ox1, cx1, hv, nx1, K5⟩ := L.made5 K4.out hm
        subst hv
        clear hm K4
        go_wp2_with fail
        refine (HB.out _ _ _ K5.out.tl.tl.tl.tl.r0 nR.out.1).mono ?_
        rintro e w6 ⟨v, rfl, hm⟩
        obtain ⟨oy1, cy1, hv, ny1, K6⟩ := L.made5 K5.out hm
        subst hv
        clear hm K5
        go_wp2_with fail
        refine (H3.out _ _ _ _ _ K6.out.tl.r0 K6.out.r0).mono ?_
        rintro e w7 ⟨v, u, rfl, hm, hm2⟩
        obtain ⟨oa2, ca2, ob2, cb2, hv, hv2, na2, nb2, K7⟩ := L.made6 K6.out hm hm2
        subst hv hv2
        clear hm hm2 K6
        have KB := Lib.hid K7.out.below
        clear K7
        go_wp2_with fail
        refine (HK.out _).mono ?_
        rintro e wk ⟨rfl, hb⟩
        have KC := Lib.hid (KB.out.trans (hb.mono KB.out.size))
        clear hb
        go_wp2
        go_ret
        exact ⟨rfl, KC.out⟩
    · have q9 : (D.fitE z.data.toList r.x != 0) = true := by simpa using h1
      clear h0 h1 bS bR hz
      obtain ⟨oS, cS, S⟩ := s
      obtain ⟨oR, cR, R⟩ := r
      dsimp only at *
      generalize (⟨(D.resP z.data.toList S).toArray⟩ : ByteArray) = X at *
      generalize (⟨(D.resP z.data.toList R).toArray⟩ : ByteArray) = Y at *
      clear hs hr
      generalize D.fitE z.data.toList R = k at *
      go_enter Try.func7, Try.ntmps7
      go_wp2_with fail
      refine (HA.out _ _ _ K.out.r0 nS.out.1).mono ?_
      rintro e w1 ⟨v, rfl, hm⟩
      obtain ⟨ox0, cx0, hv, nx0, K1⟩ := L.made5 K.out hm
      subst hv
      clear hm K
      go_wp2_with fail
      refine (H1.out _ _ _ K1.out.r0).mono ?_
      rintro e w2 ⟨rfl, hb⟩
      have K2 := Lib.hid (K1.out.on hb)
      clear hb K1
      go_wp2_with fail
      refine (HB.out _ _ _ K2.out.tl.tl.r0 nR.out.1).mono ?_
      rintro e w3 ⟨v, rfl, hm⟩
      obtain ⟨oy0, cy0, hv, ny0, K3⟩ := L.made5 K2.out hm
      subst hv
      clear hm K2
      go_wp2_with fail
      refine (H2.out _ _ _ K3.out.r0).mono ?_
      rintro e w4 ⟨rfl, hb⟩
      have K4 := Lib.hid (K3.out.on hb)
      clear hb K3
      have KB := Lib.hid K4.out.below
      clear K4
      go_wp2_with fail
      refine (HK.out _).mono ?_
      rintro e wk ⟨rfl, hb⟩
      have KC := Lib.hid (KB.out.trans (hb.mono KB.out.size))
      clear hb
      go_wp2
      go_ret
      exact ⟨rfl, KC.out⟩
  · have q9 : (D.fitE z.data.toList s.x != 0) = true := by simpa using h0
    clear h0 bS bR hz
    obtain ⟨oS, cS, S⟩ := s
    obtain ⟨oR, cR, R⟩ := r
    dsimp only at *
    generalize (⟨(D.resP z.data.toList S).toArray⟩ : ByteArray) = X at *
    generalize (⟨(D.resP z.data.toList R).toArray⟩ : ByteArray) = Y at *
    clear hs hr
    generalize D.fitE z.data.toList R = j at *
    generalize D.fitE z.data.toList S = k at *
    go_enter Try.func7, Try.ntmps7
    go_wp2_with fail
    refine (HA.out _ _ _ K.out.r0 nS.out.1).mono ?_
    rintro e w1 ⟨v, rfl, hm⟩
    obtain ⟨ox0, cx0, hv, nx0, K1⟩ := L.made5 K.out hm
    subst hv
    clear hm K
    go_wp2_with fail
    refine (H1.out _ _ _ K1.out.r0).mono ?_
    rintro e w2 ⟨rfl, hb⟩
    have K2 := Lib.hid (K1.out.on hb)
    clear hb K1
    go_wp2_with fail
    refine (HB.out _ _ _ K2.out.tl.tl.r0 nR.out.1).mono ?_
    rintro e w3 ⟨v, rfl, hm⟩
    obtain ⟨oy0, cy0, hv, ny0, K3⟩ := L.made5 K2.out hm
    subst hv
    clear hm K2
    go_wp2_with fail
    refine (H2.out _ _ _ K3.out.r0).mono ?_
    rintro e w4 ⟨rfl, hb⟩
    have K4 := Lib.hid (K3.out.on hb)
    clear hb K3
    have KB := Lib.hid K4.out.below
    clear K4
    go_wp2_with fail
    refine (HK.out _).mono ?_
    rintro e wk ⟨rfl, hb⟩
    have KC := Lib.hid (KB.out.trans (hb.mono KB.out.size))
    clear hb
    go_wp2
    go_ret
    exact ⟨rfl, KC.out⟩
end Go.Proofs.Ytmljagkndnobdaa
