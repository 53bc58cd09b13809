/- The walk of ApplyBack. -/
import Derived.Test.YtdpjnhmnmpmkmaaApplyLawKit
namespace Go.Proofs.Ytdpjnhmnmpmkmaa
open Go.RowKit

set_option maxRecDepth 100000 in
set_option maxHeartbeats 4000000 in
theorem applyBack_walk (z : ByteArray) (s : D.Src) (w : World) (hz : z.size ≤ 140737488351232) (hs : D.ArgOk w s) :
    Calls Try.prog 7 #[.string z, .slice s.a s.x.length s.c] w fun e w' => e = .returned (.bool true) ∧ Below w.heap.size w w' := by
  have HO := A.hOwn s.x hs.fit
  have H1 := A.hApp z s.x hz (A.bd_arg hs)
  have H2 := A.hInv z s.x hz (A.bd_arg hs)
  have HK := A.hKnown
  have K : Hid (D.Kn w w [(s.a, s.x)]) := ⟨Below.refl _ _, fun x hx => by simp at hx; subst hx; exact hs.src.row⟩
  have nS : Hid (s.a = none → s.c = 0) := hs.src.nil
  by_cases hf : D.fitE z.data.toList s.x = 0
  · have b := D.back hf
    have hc := (D.fitE_zero hf).1
    have hl := D.res_len hf
    have hzz : (⟨z.data.toList.toArray⟩ : ByteArray) = z := D.bytes_eq z
    have hts : (⟨(D.resP z.data.toList s.x).toArray⟩ : ByteArray).size ≤ 140737488351232 := by rw [D.size_l]; omega
    have htd : (⟨(D.resP z.data.toList s.x).toArray⟩ : ByteArray).data.toList = D.resP z.data.toList s.x := by simp
    have bv := D.bd_of b.valid
    have HV := A.hOwn (D.invP z.data.toList s.x) (by have := A.invP_len z.data.toList s.x; omega)
    have H3 := A.hApp ⟨(D.resP z.data.toList s.x).toArray⟩ (D.invP z.data.toList s.x) hts bv
    have H4 := A.hInv ⟨(D.resP z.data.toList s.x).toArray⟩ (D.invP z.data.toList s.x) hts bv
    have H5 := A.hNorm s.x hc
    have H6 := A.hIns s.x (A.bd_arg hs)
    have H7 := A.hRem z s.x hz (A.bd_arg hs)
    have H8 := A.hIns (D.invP z.data.toList s.x) bv
    have H9 := A.hRem ⟨(D.resP z.data.toList s.x).toArray⟩ (D.invP z.data.toList s.x) hts bv
    have S1 := A.hSame (D.normP s.x) (D.bd_of (D.chk_normP hc)).1
    have HN := A.hNormal (D.invP z.data.toList s.x) b.valid (by have := b.valid; rw [D.invP_eq hf] at this ⊢; exact A.nf_normal _ this)
    rw [hf] at H1 H2 H7
    rw [hc] at H6
    rw [htd, b.fit, b.res, hzz] at H3
    rw [htd, b.fit, b.inv2] at H4
    rw [b.valid, b.ins] at H8
    rw [htd, b.fit, b.rem] at H9
    obtain ⟨oS, cS, S⟩ := s
    dsimp only at *
    generalize D.insP S = IN at H6 H9
    generalize D.remP z.data.toList S = OUT at H7 H8
    generalize D.invP z.data.toList S = V at H2 H3 H4 H8 H9 HV HN
    generalize D.normP S = NM at H4 H5 S1
    generalize (⟨(D.resP z.data.toList S).toArray⟩ : ByteArray) = T at H1 H3 H4 H9
    generalize (⟨IN.toArray⟩ : ByteArray) = XI at H6 H9
    generalize (⟨OUT.toArray⟩ : ByteArray) = XO at H7 H8
    clear hs hz hf b hc hl hzz hts htd bv
    go_enter Try.func7, Try.ntmps7
    go_wp2_with fail
    refine (HO.out _ _ _ K.out.r0 nS.out).mono ?_
    rintro e w1 ⟨v, rfl, hm⟩
    obtain ⟨ox1, cx1, hv, nx1, K1⟩ := K.out.made' hm
    subst hv
    clear hm K
    go_wp2_with fail
    refine (H1.out _ _ _ K1.out.r0).mono ?_
    rintro e w2 ⟨rfl, hb⟩
    have K2 := Lib.hid (K1.out.on hb)
    clear hb K1
    go_wp2_with fail
    refine (HO.out _ _ _ K2.out.tl.r0 nS.out).mono ?_
    rintro e w3 ⟨v, rfl, hm⟩
    obtain ⟨ox2, cx2, hv, nx2, K3⟩ := K2.out.made' hm
    subst hv
    clear hm K2
    go_wp2_with fail
    refine (H2.out _ _ _ K3.out.r0).mono ?_
    rintro e w4 ⟨v, rfl, hm⟩
    obtain ⟨ov, cv, hv, nv, K4⟩ := K3.out.made' hm
    subst hv
    clear hm K3
    go_wp2_with fail
    refine (HV.out _ _ _ K4.out.r0 nv.out).mono ?_
    rintro e w5 ⟨v, rfl, hm⟩
    obtain ⟨ov1, cv1, hv, nv1, K5⟩ := K4.out.made' hm
    subst hv
    clear hm K4
    go_wp2_with fail
    refine (H3.out _ _ _ K5.out.r0).mono ?_
    rintro e w6 ⟨rfl, hb⟩
    have K6 := Lib.hid (K5.out.on hb)
    clear hb K5
    go_wp2_with fail
    refine (HV.out _ _ _ K6.out.tl.r0 nv.out).mono ?_
    rintro e w7 ⟨v, rfl, hm⟩
    obtain ⟨ov2, cv2, hv, nv2, K7⟩ := K6.out.made' hm
    subst hv
    clear hm K6
    go_wp2_with fail
    refine (H4.out _ _ _ K7.out.r0).mono ?_
    rintro e w8 ⟨v, rfl, hm⟩
    obtain ⟨ow, cw, hv, nw, K8⟩ := K7.out.made' hm
    subst hv
    clear hm K7
    go_wp2_with fail
    refine (HO.out _ _ _ K8.out.tl.tl.tl.tl.tl.tl.r0 nS.out).mono ?_
    rintro e w9 ⟨v, rfl, hm⟩
    obtain ⟨ox3, cx3, hv, nx3, K9⟩ := K8.out.made' hm
    subst hv
    clear hm K8
    go_wp2_with fail
    refine (H5.out _ _ _ K9.out.r0).mono ?_
    rintro e w10 ⟨v, rfl, hm⟩
    obtain ⟨on, cn, hv, nn, K10⟩ := K9.out.made' hm
    subst hv
    clear hm K9
    go_wp2_with fail
    refine (HO.out _ _ _ K10.out.tl.tl.tl.tl.tl.tl.tl.tl.r0 nS.out).mono ?_
    rintro e w11 ⟨v, rfl, hm⟩
    obtain ⟨ox4, cx4, hv, nx4, K11⟩ := K10.out.made' hm
    subst hv
    clear hm K10
    go_wp2_with fail
    refine (H6.out _ _ _ K11.out.r0).mono ?_
    rintro e w12 ⟨rfl, hb⟩
    have K12 := Lib.hid (K11.out.on hb)
    clear hb K11
    go_wp2_with fail
    refine (HO.out _ _ _ K12.out.tl.tl.tl.tl.tl.tl.tl.tl.tl.r0 nS.out).mono ?_
    rintro e w13 ⟨v, rfl, hm⟩
    obtain ⟨ox5, cx5, hv, nx5, K13⟩ := K12.out.made' hm
    subst hv
    clear hm K12
    go_wp2_with fail
    refine (H7.out _ _ _ K13.out.r0).mono ?_
    rintro e w14 ⟨rfl, hb⟩
    have K14 := Lib.hid (K13.out.on hb)
    clear hb K13
    go_wp2_with fail
    refine (HV.out _ _ _ K14.out.tl.tl.tl.tl.tl.tl.tl.r0 nv.out).mono ?_
    rintro e w15 ⟨v, rfl, hm⟩
    obtain ⟨ov3, cv3, hv, nv3, K15⟩ := K14.out.made' hm
    subst hv
    clear hm K14
    go_wp2_with fail
    refine (H8.out _ _ _ K15.out.r0).mono ?_
    rintro e w16 ⟨rfl, hb⟩
    have K16 := Lib.hid (K15.out.on hb)
    clear hb K15
    go_wp2_with fail
    refine (HV.out _ _ _ K16.out.tl.tl.tl.tl.tl.tl.tl.tl.r0 nv.out).mono ?_
    rintro e w17 ⟨v, rfl, hm⟩
    obtain ⟨ov4, cv4, hv, nv4, K17⟩ := K16.out.made' hm
    subst hv
    clear hm K16
    go_wp2_with fail
    refine (H9.out _ _ _ K17.out.r0).mono ?_
    rintro e w18 ⟨rfl, hb⟩
    have K18 := Lib.hid (K17.out.on hb)
    clear hb K17
    go_wp2_with fail
    refine (S1.out _ _ _ _ _ K18.out.tl.tl.tl.tl.tl.tl.r0 K18.out.tl.tl.tl.tl.r0).mono ?_
    rintro e w19 ⟨rfl, hb⟩
    have K19 := Lib.hid (K18.out.on hb)
    clear hb K18
    go_wp2_with fail
    refine (HN.out _ _ _ K19.out.tl.tl.tl.tl.tl.tl.tl.tl.tl.r0).mono ?_
    rintro e w20 ⟨rfl, hb⟩
    have K20 := Lib.hid (K19.out.on hb)
    clear hb K19
    have KB := Lib.hid K20.out.below
    clear K20
    go_wp2_with fail
    refine (HK.out _).mono ?_
    rintro e wk ⟨rfl, hb⟩
    have KC := Lib.hid (KB.out.trans (hb.mono KB.out.size))
    clear hb
    go_wp2
    go_ret
    exact ⟨rfl, KC.out⟩
  · have e1 : D.resP z.data.toList s.x = [] := if_neg hf
    have e2 : D.invP z.data.toList s.x = [] := if_neg hf
    have h' : (D.fitE z.data.toList s.x != 0) = true := by simpa using hf
    rw [e1] at H1
    rw [e2] at H2
    obtain ⟨oS, cS, S⟩ := s
    dsimp only at *
    generalize D.fitE z.data.toList S = k at H1 H2 h'
    clear hs hz hf e1 e2
    go_enter Try.func7, Try.ntmps7
    go_wp2_with fail
    refine (HO.out _ _ _ K.out.r0 nS.out).mono ?_
    rintro e w1 ⟨v, rfl, hm⟩
    obtain ⟨ox1, cx1, hv, nx1, K1⟩ := K.out.made' hm
    subst hv
    clear hm K
    go_wp2_with fail
    refine (H1.out _ _ _ K1.out.r0).mono ?_
    rintro e w2 ⟨rfl, hb⟩
    have K2 := Lib.hid (K1.out.on hb)
    clear hb K1
    go_wp2_with fail
    refine (HO.out _ _ _ K2.out.tl.r0 nS.out).mono ?_
    rintro e w3 ⟨v, rfl, hm⟩
    obtain ⟨ox2, cx2, hv, nx2, K3⟩ := K2.out.made' hm
    subst hv
    clear hm K2
    go_wp2_with fail
    refine (H2.out _ _ _ K3.out.r0).mono ?_
    rintro e w4 ⟨v, rfl, hm⟩
    obtain ⟨ov, cv, hv, nv, K4⟩ := K3.out.made' hm
    subst hv
    clear hm K3
    have KB := Lib.hid K4.out.below
    clear K4
    go_wp2_with fail
    refine (HK.out _).mono ?_
    rintro e wk ⟨rfl, hb⟩
    have KC := Lib.hid (KB.out.trans (hb.mono KB.out.size))
    clear hb
    go_wp2
    go_ret
    exact ⟨rfl, KC.out⟩
end Go.Proofs.Ytdpjnhmnmpmkmaa
