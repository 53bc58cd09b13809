/- The walk of ComposeBack. -/
import Derived.Test.YteondigaklonpaaComposeLawKit
namespace Go.Proofs.Yteondigaklonpaa
open Go.RowKit

theorem C.str_ne {G : ByteArray} {l : List UInt8} (h : l ≠ []) (e : G = ⟨l.toArray⟩) : G.toList.isEmpty = false ∧ (G.toList == ([] : List UInt8)) = false ∧ (!G.toList.isEmpty) = true := by
  have hz : G.size ≠ 0 := by rw [e, D.size_l]; exact fun k => h (List.eq_nil_of_length_eq_zero k)
  have h1 : G.toList.isEmpty = false := by rw [D.isEmpty_eq]; simpa using hz
  exact ⟨h1, by rw [D.txt_empty]; simpa using hz, by rw [h1]; rfl⟩
set_option maxRecDepth 100000 in
set_option maxHeartbeats 4000000 in
theorem composeBack_walk (z : ByteArray) (s r : D.Src) (w : World) (hz : z.size ≤ 140737488351232) (hs : D.ArgOk w s) (hr : D.ArgOk w r) :
    Calls Try.prog 9 #[.string z, .slice s.a s.x.length s.c, .slice r.a r.x.length r.c] w fun e w' => e = .returned (.bool true) ∧ Below w.heap.size w w' := by
  have HA := C.hOwn s.x hs.fit
  have HB := C.hOwn r.x hr.fit
  have H1 := C.hApp z s.x hz (C.bd_arg hs)
  have HK := C.hKnown
  have K : Hid (D.Kn w w [(s.a, s.x), (r.a, r.x)]) := ⟨Below.refl _ _, fun x hx => by
    simp at hx
    rcases hx with rfl | rfl
    · exact hs.src.row
    · exact hr.src.row⟩
  have nS : Hid ((s.a = none → s.c = 0) ∧ s.x.length ≤ s.c) := ⟨hs.src.nil, hs.cap⟩
  have nR : Hid ((r.a = none → r.c = 0) ∧ r.x.length ≤ r.c) := ⟨hr.src.nil, hr.cap⟩
  by_cases hf : D.fitE z.data.toList s.x = 0
  · have hc := (D.fitE_zero hf).1
    have hl := D.res_len hf
    have b := D.back hf
    have hzl : z.data.toList.length = z.size := by simp
    have hz2 : z.size ≤ 1048576 := by omega
    have hzz : (⟨z.data.toList.toArray⟩ : ByteArray) = z := D.bytes_eq z
    have hts : (⟨(D.resP z.data.toList s.x).toArray⟩ : ByteArray).size ≤ 140737488351232 := by rw [D.size_l]; omega
    have htd : (⟨(D.resP z.data.toList s.x).toArray⟩ : ByteArray).data.toList = D.resP z.data.toList s.x := by simp
    have bv := D.bd_of b.valid
    have HV := C.hOwn (D.invP z.data.toList s.x) (by have := C.invP_len z.data.toList s.x; omega)
    have H2 := C.hInv z s.x hz (C.bd_arg hs)
    have H3 := C.hCmp s.x (D.invP z.data.toList s.x) (C.bd_arg hs) bv
    have H4 := C.hRem z s.x hz (C.bd_arg hs)
    have H5 := C.hId z.size hz2
    have H7 := C.hInv ⟨(D.resP z.data.toList s.x).toArray⟩ r.x hts (C.bd_arg hr)
    have H8 := C.hCmp s.x r.x (C.bd_arg hs) (C.bd_arg hr)
    rw [hf] at H1 H2 H4
    rw [htd] at H7
    by_cases hg : D.fitE (D.resP z.data.toList s.x) r.x = 0
    · by_cases h8 : D.cmpE s.x r.x = 0
      · obtain ⟨k1, k2, k3⟩ := D.back_two hf hg h8
        have H9 := C.hInv z (D.cmpP s.x r.x) hz (C.cmp_bd _ _)
        have H10 := C.hCmp (D.invP (D.resP z.data.toList s.x) r.x) (D.invP z.data.toList s.x) (D.bd_of (D.back hg).valid) bv
        have S1 := C.hSame (D.invP z.data.toList (D.cmpP s.x r.x)) (Nat.le_trans (C.invP_len _ _) (by decide))
        rw [k1] at H9
        rw [k2, k3] at H10
        rw [hg] at H7
        rw [h8] at H8
        by_cases h3 : D.cmpE s.x (D.invP z.data.toList s.x) = 0
        · obtain ⟨p1, p2, p3⟩ := D.back_inv hf h3
          have H6 := C.hApp z (D.cmpP s.x (D.invP z.data.toList s.x)) hz (C.cmp_bd _ _)
          have HD := C.hOwn (D.cmpP s.x (D.invP z.data.toList s.x)) (by have := D.cmpP_len s.x (D.invP z.data.toList s.x); omega)
          rw [p1, p2, hzz] at H6
          rw [h3] at H3
          rw [hzl] at p3
          by_cases h4 : D.remP z.data.toList s.x = []
          · have e4 := p3.2 h4
            rw [e4] at H3 H6 HD
            have S2 := C.hSame (D.idP z.size) (D.bd_of (D.idP_qs hz2).2.2.1).1
            rw [h4] at H4
            change Hid (∀ ao c W, D.Row W ao s.x → Calls Try.prog 32 #[.string z, .slice ao s.x.length c] W (fun e w' => e = .returned (.tuple #[.string ⟨#[]⟩, .int .i64 0]) ∧ Below W.heap.size W w')) at H4
            obtain ⟨oS, cS, S⟩ := s
            obtain ⟨oR, cR, R⟩ := r
            dsimp only at *
            clear hs hr hz hf hc hl b hzl hz2 hzz hts htd bv h3 p1 p2 p3 h4 e4 hg h8 k1 k2 k3
            generalize D.invP z.data.toList (D.cmpP S R) = X0 at *
            generalize D.cmpP S R = D0 at *
            generalize D.cmpE S R = f0 at *
            generalize D.invP (D.resP z.data.toList S) R = W0 at *
            generalize D.fitE (D.resP z.data.toList S) R = e0 at *
            generalize D.invP z.data.toList S = V at *
            generalize (⟨(D.resP z.data.toList S).toArray⟩ : ByteArray) = T at *
            generalize D.idP z.size = I0 at *
            go_enter Try.func9, Try.ntmps9
            go_wp2_with fail
            refine (HA.out _ _ _ K.out.r0 nS.out.1).mono ?_
            rintro e w1 ⟨v, rfl, hm⟩
            obtain ⟨ox1, cx1, hv, nx1, K1⟩ := C.made5 K.out hm
            subst hv
            clear hm K
            go_wp2_with fail
            refine (H1.out _ _ _ K1.out.r0).mono ?_
            rintro e w2 ⟨rfl, hb⟩
            have K2 := Lib.hid (K1.out.on hb)
            clear hb K1
            go_wp2_with fail
            refine (HA.out _ _ _ K2.out.tl.r0 nS.out.1).mono ?_
            rintro e w3 ⟨v, rfl, hm⟩
            obtain ⟨ox2, cx2, hv, nx2, K3⟩ := C.made5 K2.out hm
            subst hv
            clear hm K2
            go_wp2_with fail
            refine (H2.out _ _ _ K3.out.r0).mono ?_
            rintro e w4 ⟨v, rfl, hm⟩
            obtain ⟨ov, cv, hv, nv, K4⟩ := C.made5 K3.out hm
            subst hv
            clear hm K3
            go_wp2_with fail
            refine (HA.out _ _ _ K4.out.tl.tl.tl.r0 nS.out.1).mono ?_
            rintro e w5 ⟨v, rfl, hm⟩
            obtain ⟨ox3, cx3, hv, nx3, K5⟩ := C.made5 K4.out hm
            subst hv
            clear hm K4
            go_wp2_with fail
            refine (HV.out _ _ _ K5.out.tl.r0 nv.out.1).mono ?_
            rintro e w6 ⟨v, rfl, hm⟩
            obtain ⟨ov1, cv1, hv, nv1, K6⟩ := C.made5 K5.out hm
            subst hv
            clear hm K5
            go_wp2_with fail
            refine (H3.out _ _ _ _ _ K6.out.tl.r0 K6.out.r0 nx3.out.2 nv1.out.2).mono ?_
            rintro e w7 ⟨v, rfl, hm⟩
            obtain ⟨oc, cc, hv, nc, K7⟩ := C.made5 K6.out hm
            subst hv
            clear hm K6
            go_wp2_with fail
            refine (HA.out _ _ _ K7.out.tl.tl.tl.tl.tl.tl.r0 nS.out.1).mono ?_
            rintro e w8 ⟨v, rfl, hm⟩
            obtain ⟨ox4, cx4, hv, nx4, K8⟩ := C.made5 K7.out hm
            subst hv
            clear hm K7
            go_wp2_with fail
            refine (H4.out _ _ _ K8.out.r0).mono ?_
            rintro e w9 ⟨rfl, hb⟩
            have K9 := Lib.hid (K8.out.on hb)
            clear hb K8
            go_wp2_with fail
            refine (H5.out _ ).mono ?_
            rintro e w10 ⟨v, rfl, hm⟩
            obtain ⟨oid, cid, hv, nid, K10⟩ := C.made5 K9.out hm
            subst hv
            clear hm K9
            go_wp2_with fail
            refine (HD.out _ _ _ K10.out.tl.tl.r0 nc.out.1).mono ?_
            rintro e w11 ⟨v, rfl, hm⟩
            obtain ⟨oc1, cc1, hv, nc1, K11⟩ := C.made5 K10.out hm
            subst hv
            clear hm K10
            go_wp2_with fail
            refine (H6.out _ _ _ K11.out.r0).mono ?_
            rintro e w12 ⟨rfl, hb⟩
            have K12 := Lib.hid (K11.out.on hb)
            clear hb K11
            go_wp2_with fail
            refine (S2.out _ _ _ _ _ K12.out.tl.tl.tl.r0 K12.out.tl.r0).mono ?_
            rintro e w13 ⟨rfl, hb⟩
            have K13 := Lib.hid (K12.out.on hb)
            clear hb K12
            go_wp2_with fail
            refine (HB.out _ _ _ K13.out.tl.tl.tl.tl.tl.tl.tl.tl.tl.tl.r0 nR.out.1).mono ?_
            rintro e w14 ⟨v, rfl, hm⟩
            obtain ⟨oy1, cy1, hv, ny1, K14⟩ := C.made5 K13.out hm
            subst hv
            clear hm K13
            go_wp2_with fail
            refine (H7.out _ _ _ K14.out.r0).mono ?_
            rintro e w15 ⟨v, rfl, hm⟩
            obtain ⟨ow0, cw0, hv, nw0, K15⟩ := C.made5 K14.out hm
            subst hv
            clear hm K14
            go_wp2_with fail
            refine (HA.out _ _ _ K15.out.tl.tl.tl.tl.tl.tl.tl.tl.tl.tl.tl.r0 nS.out.1).mono ?_
            rintro e w16 ⟨v, rfl, hm⟩
            obtain ⟨ox5, cx5, hv, nx5, K16⟩ := C.made5 K15.out hm
            subst hv
            clear hm K15
            go_wp2_with fail
            refine (HB.out _ _ _ K16.out.tl.tl.tl.tl.tl.tl.tl.tl.tl.tl.tl.tl.tl.r0 nR.out.1).mono ?_
            rintro e w17 ⟨v, rfl, hm⟩
            obtain ⟨oy2, cy2, hv, ny2, K17⟩ := C.made5 K16.out hm
            subst hv
            clear hm K16
            go_wp2_with fail
            refine (H8.out _ _ _ _ _ K17.out.tl.r0 K17.out.r0 nx5.out.2 ny2.out.2).mono ?_
            rintro e w18 ⟨v, rfl, hm⟩
            obtain ⟨od, cd, hv, nd, K18⟩ := C.made5 K17.out hm
            subst hv
            clear hm K17
            go_wp2_with fail
            refine (H9.out _ _ _ K18.out.r0).mono ?_
            rintro e w19 ⟨v, rfl, hm⟩
            obtain ⟨ox, cx, hv, nx, K19⟩ := C.made5 K18.out hm
            subst hv
            clear hm K18
            go_wp2_with fail
            refine (H10.out _ _ _ _ _ K19.out.tl.tl.tl.tl.r0 K19.out.tl.tl.tl.tl.tl.tl.tl.tl.tl.tl.tl.tl.r0 nw0.out.2 nv.out.2).mono ?_
            rintro e w20 ⟨v, rfl, hm⟩
            obtain ⟨oy, cy, hv, ny, K20⟩ := C.made5 K19.out hm
            subst hv
            clear hm K19
            go_wp2_with fail
            refine (S1.out _ _ _ _ _ K20.out.tl.r0 K20.out.r0).mono ?_
            rintro e w21 ⟨rfl, hb⟩
            have K21 := Lib.hid (K20.out.on hb)
            clear hb K20
            have KB := Lib.hid K21.out.below
            clear K21
            go_wp2_with fail
            refine (HK.out _).mono ?_
            rintro e wk ⟨rfl, hb⟩
            have KC := Lib.hid (KB.out.trans (hb.mono KB.out.size))
            clear hb
            go_wp2
            go_ret
            exact ⟨rfl, KC.out⟩
          · have e4 : D.same (D.cmpP s.x (D.invP z.data.toList s.x)) (D.idP z.size) = false := by
              rw [Bool.eq_false_iff]; intro k; exact h4 (p3.1 ((D.same_iff _ _).1 k))
            have S2 := C.hSame2 (D.cmpP s.x (D.invP z.data.toList s.x)) (D.idP z.size) (C.cmp_bd _ _).1 (D.bd_of (D.idP_qs hz2).2.2.1).1
            rw [e4] at S2
            obtain ⟨G, hG⟩ : ∃ G : ByteArray, G = ⟨(D.remP z.data.toList s.x).toArray⟩ := ⟨_, rfl⟩
            obtain ⟨g1, g2, g3⟩ := C.str_ne h4 hG
            rw [← hG] at H4
            obtain ⟨oS, cS, S⟩ := s
            obtain ⟨oR, cR, R⟩ := r
            dsimp only at *
            clear hs hr hz hf hc hl b hzl hz2 hzz hts htd bv h3 p1 p2 p3 h4 e4 hG hg h8 k1 k2 k3
            generalize D.cmpP S (D.invP z.data.toList S) = C0 at *
            generalize D.invP z.data.toList (D.cmpP S R) = X0 at *
            generalize D.cmpP S R = D0 at *
            generalize D.cmpE S R = f0 at *
            generalize D.invP (D.resP z.data.toList S) R = W0 at *
            generalize D.fitE (D.resP z.data.toList S) R = e0 at *
            generalize D.invP z.data.toList S = V at *
            generalize (⟨(D.resP z.data.toList S).toArray⟩ : ByteArray) = T at *
            generalize D.idP z.size = I0 at *
            go_enter Try.func9, Try.ntmps9
            go_wp2_with fail
            refine (HA.out _ _ _ K.out.r0 nS.out.1).mono ?_
            rintro e w1 ⟨v, rfl, hm⟩
            obtain ⟨ox1, cx1, hv, nx1, K1⟩ := C.made5 K.out hm
            subst hv
            clear hm K
            go_wp2_with fail
            refine (H1.out _ _ _ K1.out.r0).mono ?_
            rintro e w2 ⟨rfl, hb⟩
            have K2 := Lib.hid (K1.out.on hb)
            clear hb K1
            go_wp2_with fail
            refine (HA.out _ _ _ K2.out.tl.r0 nS.out.1).mono ?_
            rintro e w3 ⟨v, rfl, hm⟩
            obtain ⟨ox2, cx2, hv, nx2, K3⟩ := C.made5 K2.out hm
            subst hv
            clear hm K2
            go_wp2_with fail
            refine (H2.out _ _ _ K3.out.r0).mono ?_
            rintro e w4 ⟨v, rfl, hm⟩
            obtain ⟨ov, cv, hv, nv, K4⟩ := C.made5 K3.out hm
            subst hv
            clear hm K3
            go_wp2_with fail
            refine (HA.out _ _ _ K4.out.tl.tl.tl.r0 nS.out.1).mono ?_
            rintro e w5 ⟨v, rfl, hm⟩
            obtain ⟨ox3, cx3, hv, nx3, K5⟩ := C.made5 K4.out hm
            subst hv
            clear hm K4
            go_wp2_with fail
            refine (HV.out _ _ _ K5.out.tl.r0 nv.out.1).mono ?_
            rintro e w6 ⟨v, rfl, hm⟩
            obtain ⟨ov1, cv1, hv, nv1, K6⟩ := C.made5 K5.out hm
            subst hv
            clear hm K5
            go_wp2_with fail
            refine (H3.out _ _ _ _ _ K6.out.tl.r0 K6.out.r0 nx3.out.2 nv1.out.2).mono ?_
            rintro e w7 ⟨v, rfl, hm⟩
            obtain ⟨oc, cc, hv, nc, K7⟩ := C.made5 K6.out hm
            subst hv
            clear hm K6
            go_wp2_with fail
            refine (HA.out _ _ _ K7.out.tl.tl.tl.tl.tl.tl.r0 nS.out.1).mono ?_
            rintro e w8 ⟨v, rfl, hm⟩
            obtain ⟨ox4, cx4, hv, nx4, K8⟩ := C.made5 K7.out hm
            subst hv
            clear hm K7
            go_wp2_with fail
            refine (H4.out _ _ _ K8.out.r0).mono ?_
            rintro e w9 ⟨rfl, hb⟩
            have K9 := Lib.hid (K8.out.on hb)
            clear hb K8
            go_wp2_with fail
            refine (H5.out _ ).mono ?_
            rintro e w10 ⟨v, rfl, hm⟩
            obtain ⟨oid, cid, hv, nid, K10⟩ := C.made5 K9.out hm
            subst hv
            clear hm K9
            go_wp2_with fail
            refine (HD.out _ _ _ K10.out.tl.tl.r0 nc.out.1).mono ?_
            rintro e w11 ⟨v, rfl, hm⟩
            obtain ⟨oc1, cc1, hv, nc1, K11⟩ := C.made5 K10.out hm
            subst hv
            clear hm K10
            go_wp2_with fail
            refine (H6.out _ _ _ K11.out.r0).mono ?_
            rintro e w12 ⟨rfl, hb⟩
            have K12 := Lib.hid (K11.out.on hb)
            clear hb K11
            go_wp2_with fail
            refine (S2.out _ _ _ _ _ K12.out.tl.tl.tl.r0 K12.out.tl.r0).mono ?_
            rintro e w13 ⟨rfl, hb⟩
            have K13 := Lib.hid (K12.out.on hb)
            clear hb K12
            go_wp2_with fail
            refine (HB.out _ _ _ K13.out.tl.tl.tl.tl.tl.tl.tl.tl.tl.tl.r0 nR.out.1).mono ?_
            rintro e w14 ⟨v, rfl, hm⟩
            obtain ⟨oy1, cy1, hv, ny1, K14⟩ := C.made5 K13.out hm
            subst hv
            clear hm K13
            go_wp2_with fail
            refine (H7.out _ _ _ K14.out.r0).mono ?_
            rintro e w15 ⟨v, rfl, hm⟩
            obtain ⟨ow0, cw0, hv, nw0, K15⟩ := C.made5 K14.out hm
            subst hv
            clear hm K14
            go_wp2_with fail
            refine (HA.out _ _ _ K15.out.tl.tl.tl.tl.tl.tl.tl.tl.tl.tl.tl.r0 nS.out.1).mono ?_
            rintro e w16 ⟨v, rfl, hm⟩
            obtain ⟨ox5, cx5, hv, nx5, K16⟩ := C.made5 K15.out hm
            subst hv
            clear hm K15
            go_wp2_with fail
            refine (HB.out _ _ _ K16.out.tl.tl.tl.tl.tl.tl.tl.tl.tl.tl.tl.tl.tl.r0 nR.out.1).mono ?_
            rintro e w17 ⟨v, rfl, hm⟩
            obtain ⟨oy2, cy2, hv, ny2, K17⟩ := C.made5 K16.out hm
            subst hv
            clear hm K16
            go_wp2_with fail
            refine (H8.out _ _ _ _ _ K17.out.tl.r0 K17.out.r0 nx5.out.2 ny2.out.2).mono ?_
            rintro e w18 ⟨v, rfl, hm⟩
            obtain ⟨od, cd, hv, nd, K18⟩ := C.made5 K17.out hm
            subst hv
            clear hm K17
            go_wp2_with fail
            refine (H9.out _ _ _ K18.out.r0).mono ?_
            rintro e w19 ⟨v, rfl, hm⟩
            obtain ⟨ox, cx, hv, nx, K19⟩ := C.made5 K18.out hm
            subst hv
            clear hm K18
            go_wp2_with fail
            refine (H10.out _ _ _ _ _ K19.out.tl.tl.tl.tl.r0 K19.out.tl.tl.tl.tl.tl.tl.tl.tl.tl.tl.tl.tl.r0 nw0.out.2 nv.out.2).mono ?_
            rintro e w20 ⟨v, rfl, hm⟩
            obtain ⟨oy, cy, hv, ny, K20⟩ := C.made5 K19.out hm
            subst hv
            clear hm K19
            go_wp2_with fail
            refine (S1.out _ _ _ _ _ K20.out.tl.r0 K20.out.r0).mono ?_
            rintro e w21 ⟨rfl, hb⟩
            have K21 := Lib.hid (K20.out.on hb)
            clear hb K20
            have KB := Lib.hid K21.out.below
            clear K21
            go_wp2_with fail
            refine (HK.out _).mono ?_
            rintro e wk ⟨rfl, hb⟩
            have KC := Lib.hid (KB.out.trans (hb.mono KB.out.size))
            clear hb
            go_wp2
            go_ret
            exact ⟨rfl, KC.out⟩
        · rw [(D.inv_fit hf).two.resolve_left h3] at H3
          obtain ⟨oS, cS, S⟩ := s
          obtain ⟨oR, cR, R⟩ := r
          dsimp only at *
          clear hs hr hz hf hc hl b hzl hz2 hzz hts htd bv h3 hg h8 k1 k2 k3
          generalize D.cmpP S (D.invP z.data.toList S) = C0 at *
          generalize D.invP z.data.toList (D.cmpP S R) = X0 at *
          generalize D.cmpP S R = D0 at *
          generalize D.cmpE S R = f0 at *
          generalize D.invP (D.resP z.data.toList S) R = W0 at *
          generalize D.fitE (D.resP z.data.toList S) R = e0 at *
          generalize D.invP z.data.toList S = V at *
          generalize (⟨(D.resP z.data.toList S).toArray⟩ : ByteArray) = T at *
          generalize (⟨(D.remP z.data.toList S).toArray⟩ : ByteArray) = G at *
          generalize D.idP z.size = I0 at *
          go_enter Try.func9, Try.ntmps9
          go_wp2_with fail
          refine (HA.out _ _ _ K.out.r0 nS.out.1).mono ?_
          rintro e w1 ⟨v, rfl, hm⟩
          obtain ⟨ox1, cx1, hv, nx1, K1⟩ := C.made5 K.out hm
          subst hv
          clear hm K
          go_wp2_with fail
          refine (H1.out _ _ _ K1.out.r0).mono ?_
          rintro e w2 ⟨rfl, hb⟩
          have K2 := Lib.hid (K1.out.on hb)
          clear hb K1
          go_wp2_with fail
          refine (HA.out _ _ _ K2.out.tl.r0 nS.out.1).mono ?_
          rintro e w3 ⟨v, rfl, hm⟩
          obtain ⟨ox2, cx2, hv, nx2, K3⟩ := C.made5 K2.out hm
          subst hv
          clear hm K2
          go_wp2_with fail
          refine (H2.out _ _ _ K3.out.r0).mono ?_
          rintro e w4 ⟨v, rfl, hm⟩
          obtain ⟨ov, cv, hv, nv, K4⟩ := C.made5 K3.out hm
          subst hv
          clear hm K3
          go_wp2_with fail
          refine (HA.out _ _ _ K4.out.tl.tl.tl.r0 nS.out.1).mono ?_
          rintro e w5 ⟨v, rfl, hm⟩
          obtain ⟨ox3, cx3, hv, nx3, K5⟩ := C.made5 K4.out hm
          subst hv
          clear hm K4
          go_wp2_with fail
          refine (HV.out _ _ _ K5.out.tl.r0 nv.out.1).mono ?_
          rintro e w6 ⟨v, rfl, hm⟩
          obtain ⟨ov1, cv1, hv, nv1, K6⟩ := C.made5 K5.out hm
          subst hv
          clear hm K5
          go_wp2_with fail
          refine (H3.out _ _ _ _ _ K6.out.tl.r0 K6.out.r0 nx3.out.2 nv1.out.2).mono ?_
          rintro e w7 ⟨v, rfl, hm⟩
          obtain ⟨oc, cc, hv, nc, K7⟩ := C.made5 K6.out hm
          subst hv
          clear hm K6
          go_wp2_with fail
          refine (HA.out _ _ _ K7.out.tl.tl.tl.tl.tl.tl.r0 nS.out.1).mono ?_
          rintro e w8 ⟨v, rfl, hm⟩
          obtain ⟨ox4, cx4, hv, nx4, K8⟩ := C.made5 K7.out hm
          subst hv
          clear hm K7
          go_wp2_with fail
          refine (H4.out _ _ _ K8.out.r0).mono ?_
          rintro e w9 ⟨rfl, hb⟩
          have K9 := Lib.hid (K8.out.on hb)
          clear hb K8
          go_wp2_with fail
          refine (H5.out _ ).mono ?_
          rintro e w10 ⟨v, rfl, hm⟩
          obtain ⟨oid, cid, hv, nid, K10⟩ := C.made5 K9.out hm
          subst hv
          clear hm K9
          go_wp2_with fail
          refine (HB.out _ _ _ K10.out.tl.tl.tl.tl.tl.tl.tl.tl.tl.r0 nR.out.1).mono ?_
          rintro e w11 ⟨v, rfl, hm⟩
          obtain ⟨oy1, cy1, hv, ny1, K11⟩ := C.made5 K10.out hm
          subst hv
          clear hm K10
          go_wp2_with fail
          refine (H7.out _ _ _ K11.out.r0).mono ?_
          rintro e w12 ⟨v, rfl, hm⟩
          obtain ⟨ow0, cw0, hv, nw0, K12⟩ := C.made5 K11.out hm
          subst hv
          clear hm K11
          go_wp2_with fail
          refine (HA.out _ _ _ K12.out.tl.tl.tl.tl.tl.tl.tl.tl.tl.tl.r0 nS.out.1).mono ?_
          rintro e w13 ⟨v, rfl, hm⟩
          obtain ⟨ox5, cx5, hv, nx5, K13⟩ := C.made5 K12.out hm
          subst hv
          clear hm K12
          go_wp2_with fail
          refine (HB.out _ _ _ K13.out.tl.tl.tl.tl.tl.tl.tl.tl.tl.tl.tl.tl.r0 nR.out.1).mono ?_
          rintro e w14 ⟨v, rfl, hm⟩
          obtain ⟨oy2, cy2, hv, ny2, K14⟩ := C.made5 K13.out hm
          subst hv
          clear hm K13
          go_wp2_with fail
          refine (H8.out _ _ _ _ _ K14.out.tl.r0 K14.out.r0 nx5.out.2 ny2.out.2).mono ?_
          rintro e w15 ⟨v, rfl, hm⟩
          obtain ⟨od, cd, hv, nd, K15⟩ := C.made5 K14.out hm
          subst hv
          clear hm K14
          go_wp2_with fail
          refine (H9.out _ _ _ K15.out.r0).mono ?_
          rintro e w16 ⟨v, rfl, hm⟩
          obtain ⟨ox, cx, hv, nx, K16⟩ := C.made5 K15.out hm
          subst hv
          clear hm K15
          go_wp2_with fail
          refine (H10.out _ _ _ _ _ K16.out.tl.tl.tl.tl.r0 K16.out.tl.tl.tl.tl.tl.tl.tl.tl.tl.tl.tl.r0 nw0.out.2 nv.out.2).mono ?_
          rintro e w17 ⟨v, rfl, hm⟩
          obtain ⟨oy, cy, hv, ny, K17⟩ := C.made5 K16.out hm
          subst hv
          clear hm K16
          go_wp2_with fail
          refine (S1.out _ _ _ _ _ K17.out.tl.r0 K17.out.r0).mono ?_
          rintro e w18 ⟨rfl, hb⟩
          have K18 := Lib.hid (K17.out.on hb)
          clear hb K17
          have KB := Lib.hid K18.out.below
          clear K18
          go_wp2_with fail
          refine (HK.out _).mono ?_
          rintro e wk ⟨rfl, hb⟩
          have KC := Lib.hid (KB.out.trans (hb.mono KB.out.size))
          clear hb
          go_wp2
          go_ret
          exact ⟨rfl, KC.out⟩
      · have q8 : (D.cmpE s.x r.x != 0) = true := by simpa using h8
        rw [hg] at H7
        by_cases h3 : D.cmpE s.x (D.invP z.data.toList s.x) = 0
        · obtain ⟨p1, p2, p3⟩ := D.back_inv hf h3
          have H6 := C.hApp z (D.cmpP s.x (D.invP z.data.toList s.x)) hz (C.cmp_bd _ _)
          have HD := C.hOwn (D.cmpP s.x (D.invP z.data.toList s.x)) (by have := D.cmpP_len s.x (D.invP z.data.toList s.x); omega)
          rw [p1, p2, hzz] at H6
          rw [h3] at H3
          rw [hzl] at p3
          by_cases h4 : D.remP z.data.toList s.x = []
          · have e4 := p3.2 h4
            rw [e4] at H3 H6 HD
            have S2 := C.hSame (D.idP z.size) (D.bd_of (D.idP_qs hz2).2.2.1).1
            rw [h4] at H4
            change Hid (∀ ao c W, D.Row W ao s.x → Calls Try.prog 32 #[.string z, .slice ao s.x.length c] W (fun e w' => e = .returned (.tuple #[.string ⟨#[]⟩, .int .i64 0]) ∧ Below W.heap.size W w')) at H4
            obtain ⟨oS, cS, S⟩ := s
            obtain ⟨oR, cR, R⟩ := r
            dsimp only at *
            clear hs hr hz hf hc hl b hzl hz2 hzz hts htd bv h3 p1 p2 p3 h4 e4 hg h8
            generalize D.invP z.data.toList (D.cmpP S R) = X0 at *
            generalize D.cmpP S R = D0 at *
            generalize D.cmpE S R = f0 at *
            generalize D.invP (D.resP z.data.toList S) R = W0 at *
            generalize D.fitE (D.resP z.data.toList S) R = e0 at *
            generalize D.invP z.data.toList S = V at *
            generalize (⟨(D.resP z.data.toList S).toArray⟩ : ByteArray) = T at *
            generalize D.idP z.size = I0 at *
            go_enter Try.func9, Try.ntmps9
            go_wp2_with fail
            refine (HA.out _ _ _ K.out.r0 nS.out.1).mono ?_
            rintro e w1 ⟨v, rfl, hm⟩
            obtain ⟨ox1, cx1, hv, nx1, K1⟩ := C.made5 K.out hm
            subst hv
            clear hm K
            go_wp2_with fail
            refine (H1.out _ _ _ K1.out.r0).mono ?_
            rintro e w2 ⟨rfl, hb⟩
            have K2 := Lib.hid (K1.out.on hb)
            clear hb K1
            go_wp2_with fail
            refine (HA.out _ _ _ K2.out.tl.r0 nS.out.1).mono ?_
            rintro e w3 ⟨v, rfl, hm⟩
            obtain ⟨ox2, cx2, hv, nx2, K3⟩ := C.made5 K2.out hm
            subst hv
            clear hm K2
            go_wp2_with fail
            refine (H2.out _ _ _ K3.out.r0).mono ?_
            rintro e w4 ⟨v, rfl, hm⟩
            obtain ⟨ov, cv, hv, nv, K4⟩ := C.made5 K3.out hm
            subst hv
            clear hm K3
            go_wp2_with fail
            refine (HA.out _ _ _ K4.out.tl.tl.tl.r0 nS.out.1).mono ?_
            rintro e w5 ⟨v, rfl, hm⟩
            obtain ⟨ox3, cx3, hv, nx3, K5⟩ := C.made5 K4.out hm
            subst hv
            clear hm K4
            go_wp2_with fail
            refine (HV.out _ _ _ K5.out.tl.r0 nv.out.1).mono ?_
            rintro e w6 ⟨v, rfl, hm⟩
            obtain ⟨ov1, cv1, hv, nv1, K6⟩ := C.made5 K5.out hm
            subst hv
            clear hm K5
            go_wp2_with fail
            refine (H3.out _ _ _ _ _ K6.out.tl.r0 K6.out.r0 nx3.out.2 nv1.out.2).mono ?_
            rintro e w7 ⟨v, rfl, hm⟩
            obtain ⟨oc, cc, hv, nc, K7⟩ := C.made5 K6.out hm
            subst hv
            clear hm K6
            go_wp2_with fail
            refine (HA.out _ _ _ K7.out.tl.tl.tl.tl.tl.tl.r0 nS.out.1).mono ?_
            rintro e w8 ⟨v, rfl, hm⟩
            obtain ⟨ox4, cx4, hv, nx4, K8⟩ := C.made5 K7.out hm
            subst hv
            clear hm K7
            go_wp2_with fail
            refine (H4.out _ _ _ K8.out.r0).mono ?_
            rintro e w9 ⟨rfl, hb⟩
            have K9 := Lib.hid (K8.out.on hb)
            clear hb K8
            go_wp2_with fail
            refine (H5.out _ ).mono ?_
            rintro e w10 ⟨v, rfl, hm⟩
            obtain ⟨oid, cid, hv, nid, K10⟩ := C.made5 K9.out hm
            subst hv
            clear hm K9
            go_wp2_with fail
            refine (HD.out _ _ _ K10.out.tl.tl.r0 nc.out.1).mono ?_
            rintro e w11 ⟨v, rfl, hm⟩
            obtain ⟨oc1, cc1, hv, nc1, K11⟩ := C.made5 K10.out hm
            subst hv
            clear hm K10
            go_wp2_with fail
            refine (H6.out _ _ _ K11.out.r0).mono ?_
            rintro e w12 ⟨rfl, hb⟩
            have K12 := Lib.hid (K11.out.on hb)
            clear hb K11
            go_wp2_with fail
            refine (S2.out _ _ _ _ _ K12.out.tl.tl.tl.r0 K12.out.tl.r0).mono ?_
            rintro e w13 ⟨rfl, hb⟩
            have K13 := Lib.hid (K12.out.on hb)
            clear hb K12
            go_wp2_with fail
            refine (HB.out _ _ _ K13.out.tl.tl.tl.tl.tl.tl.tl.tl.tl.tl.r0 nR.out.1).mono ?_
            rintro e w14 ⟨v, rfl, hm⟩
            obtain ⟨oy1, cy1, hv, ny1, K14⟩ := C.made5 K13.out hm
            subst hv
            clear hm K13
            go_wp2_with fail
            refine (H7.out _ _ _ K14.out.r0).mono ?_
            rintro e w15 ⟨v, rfl, hm⟩
            obtain ⟨ow0, cw0, hv, nw0, K15⟩ := C.made5 K14.out hm
            subst hv
            clear hm K14
            go_wp2_with fail
            refine (HA.out _ _ _ K15.out.tl.tl.tl.tl.tl.tl.tl.tl.tl.tl.tl.r0 nS.out.1).mono ?_
            rintro e w16 ⟨v, rfl, hm⟩
            obtain ⟨ox5, cx5, hv, nx5, K16⟩ := C.made5 K15.out hm
            subst hv
            clear hm K15
            go_wp2_with fail
            refine (HB.out _ _ _ K16.out.tl.tl.tl.tl.tl.tl.tl.tl.tl.tl.tl.tl.tl.r0 nR.out.1).mono ?_
            rintro e w17 ⟨v, rfl, hm⟩
            obtain ⟨oy2, cy2, hv, ny2, K17⟩ := C.made5 K16.out hm
            subst hv
            clear hm K16
            go_wp2_with fail
            refine (H8.out _ _ _ _ _ K17.out.tl.r0 K17.out.r0 nx5.out.2 ny2.out.2).mono ?_
            rintro e w18 ⟨v, rfl, hm⟩
            obtain ⟨od, cd, hv, nd, K18⟩ := C.made5 K17.out hm
            subst hv
            clear hm K17
            have KB := Lib.hid K18.out.below
            clear K18
            go_wp2_with fail
            refine (HK.out _).mono ?_
            rintro e wk ⟨rfl, hb⟩
            have KC := Lib.hid (KB.out.trans (hb.mono KB.out.size))
            clear hb
            go_wp2
            go_ret
            exact ⟨rfl, KC.out⟩
          · have e4 : D.same (D.cmpP s.x (D.invP z.data.toList s.x)) (D.idP z.size) = false := by
              rw [Bool.eq_false_iff]; intro k; exact h4 (p3.1 ((D.same_iff _ _).1 k))
            have S2 := C.hSame2 (D.cmpP s.x (D.invP z.data.toList s.x)) (D.idP z.size) (C.cmp_bd _ _).1 (D.bd_of (D.idP_qs hz2).2.2.1).1
            rw [e4] at S2
            obtain ⟨G, hG⟩ : ∃ G : ByteArray, G = ⟨(D.remP z.data.toList s.x).toArray⟩ := ⟨_, rfl⟩
            obtain ⟨g1, g2, g3⟩ := C.str_ne h4 hG
            rw [← hG] at H4
            obtain ⟨oS, cS, S⟩ := s
            obtain ⟨oR, cR, R⟩ := r
            dsimp only at *
            clear hs hr hz hf hc hl b hzl hz2 hzz hts htd bv h3 p1 p2 p3 h4 e4 hG hg h8
            generalize D.cmpP S (D.invP z.data.toList S) = C0 at *
            generalize D.invP z.data.toList (D.cmpP S R) = X0 at *
            generalize D.cmpP S R = D0 at *
            generalize D.cmpE S R = f0 at *
            generalize D.invP (D.resP z.data.toList S) R = W0 at *
            generalize D.fitE (D.resP z.data.toList S) R = e0 at *
            generalize D.invP z.data.toList S = V at *
            generalize (⟨(D.resP z.data.toList S).toArray⟩ : ByteArray) = T at *
            generalize D.idP z.size = I0 at *
            go_enter Try.func9, Try.ntmps9
            go_wp2_with fail
            refine (HA.out _ _ _ K.out.r0 nS.out.1).mono ?_
            rintro e w1 ⟨v, rfl, hm⟩
            obtain ⟨ox1, cx1, hv, nx1, K1⟩ := C.made5 K.out hm
            subst hv
            clear hm K
            go_wp2_with fail
            refine (H1.out _ _ _ K1.out.r0).mono ?_
            rintro e w2 ⟨rfl, hb⟩
            have K2 := Lib.hid (K1.out.on hb)
            clear hb K1
            go_wp2_with fail
            refine (HA.out _ _ _ K2.out.tl.r0 nS.out.1).mono ?_
            rintro e w3 ⟨v, rfl, hm⟩
            obtain ⟨ox2, cx2, hv, nx2, K3⟩ := C.made5 K2.out hm
            subst hv
            clear hm K2
            go_wp2_with fail
            refine (H2.out _ _ _ K3.out.r0).mono ?_
            rintro e w4 ⟨v, rfl, hm⟩
            obtain ⟨ov, cv, hv, nv, K4⟩ := C.made5 K3.out hm
            subst hv
            clear hm K3
            go_wp2_with fail
            refine (HA.out _ _ _ K4.out.tl.tl.tl.r0 nS.out.1).mono ?_
            rintro e w5 ⟨v, rfl, hm⟩
            obtain ⟨ox3, cx3, hv, nx3, K5⟩ := C.made5 K4.out hm
            subst hv
            clear hm K4
            go_wp2_with fail
            refine (HV.out _ _ _ K5.out.tl.r0 nv.out.1).mono ?_
            rintro e w6 ⟨v, rfl, hm⟩
            obtain ⟨ov1, cv1, hv, nv1, K6⟩ := C.made5 K5.out hm
            subst hv
            clear hm K5
            go_wp2_with fail
            refine (H3.out _ _ _ _ _ K6.out.tl.r0 K6.out.r0 nx3.out.2 nv1.out.2).mono ?_
            rintro e w7 ⟨v, rfl, hm⟩
            obtain ⟨oc, cc, hv, nc, K7⟩ := C.made5 K6.out hm
            subst hv
            clear hm K6
            go_wp2_with fail
            refine (HA.out _ _ _ K7.out.tl.tl.tl.tl.tl.tl.r0 nS.out.1).mono ?_
            rintro e w8 ⟨v, rfl, hm⟩
            obtain ⟨ox4, cx4, hv, nx4, K8⟩ := C.made5 K7.out hm
            subst hv
            clear hm K7
            go_wp2_with fail
            refine (H4.out _ _ _ K8.out.r0).mono ?_
            rintro e w9 ⟨rfl, hb⟩
            have K9 := Lib.hid (K8.out.on hb)
            clear hb K8
            go_wp2_with fail
            refine (H5.out _ ).mono ?_
            rintro e w10 ⟨v, rfl, hm⟩
            obtain ⟨oid, cid, hv, nid, K10⟩ := C.made5 K9.out hm
            subst hv
            clear hm K9
            go_wp2_with fail
            refine (HD.out _ _ _ K10.out.tl.tl.r0 nc.out.1).mono ?_
            rintro e w11 ⟨v, rfl, hm⟩
            obtain ⟨oc1, cc1, hv, nc1, K11⟩ := C.made5 K10.out hm
            subst hv
            clear hm K10
            go_wp2_with fail
            refine (H6.out _ _ _ K11.out.r0).mono ?_
            rintro e w12 ⟨rfl, hb⟩
            have K12 := Lib.hid (K11.out.on hb)
            clear hb K11
            go_wp2_with fail
            refine (S2.out _ _ _ _ _ K12.out.tl.tl.tl.r0 K12.out.tl.r0).mono ?_
            rintro e w13 ⟨rfl, hb⟩
            have K13 := Lib.hid (K12.out.on hb)
            clear hb K12
            go_wp2_with fail
            refine (HB.out _ _ _ K13.out.tl.tl.tl.tl.tl.tl.tl.tl.tl.tl.r0 nR.out.1).mono ?_
            rintro e w14 ⟨v, rfl, hm⟩
            obtain ⟨oy1, cy1, hv, ny1, K14⟩ := C.made5 K13.out hm
            subst hv
            clear hm K13
            go_wp2_with fail
            refine (H7.out _ _ _ K14.out.r0).mono ?_
            rintro e w15 ⟨v, rfl, hm⟩
            obtain ⟨ow0, cw0, hv, nw0, K15⟩ := C.made5 K14.out hm
            subst hv
            clear hm K14
            go_wp2_with fail
            refine (HA.out _ _ _ K15.out.tl.tl.tl.tl.tl.tl.tl.tl.tl.tl.tl.r0 nS.out.1).mono ?_
            rintro e w16 ⟨v, rfl, hm⟩
            obtain ⟨ox5, cx5, hv, nx5, K16⟩ := C.made5 K15.out hm
            subst hv
            clear hm K15
            go_wp2_with fail
            refine (HB.out _ _ _ K16.out.tl.tl.tl.tl.tl.tl.tl.tl.tl.tl.tl.tl.tl.r0 nR.out.1).mono ?_
            rintro e w17 ⟨v, rfl, hm⟩
            obtain ⟨oy2, cy2, hv, ny2, K17⟩ := C.made5 K16.out hm
            subst hv
            clear hm K16
            go_wp2_with fail
            refine (H8.out _ _ _ _ _ K17.out.tl.r0 K17.out.r0 nx5.out.2 ny2.out.2).mono ?_
            rintro e w18 ⟨v, rfl, hm⟩
            obtain ⟨od, cd, hv, nd, K18⟩ := C.made5 K17.out hm
            subst hv
            clear hm K17
            have KB := Lib.hid K18.out.below
            clear K18
            go_wp2_with fail
            refine (HK.out _).mono ?_
            rintro e wk ⟨rfl, hb⟩
            have KC := Lib.hid (KB.out.trans (hb.mono KB.out.size))
            clear hb
            go_wp2
            go_ret
            exact ⟨rfl, KC.out⟩
        · rw [(D.inv_fit hf).two.resolve_left h3] at H3
          obtain ⟨oS, cS, S⟩ := s
          obtain ⟨oR, cR, R⟩ := r
          dsimp only at *
          clear hs hr hz hf hc hl b hzl hz2 hzz hts htd bv h3 hg h8
          generalize D.cmpP S (D.invP z.data.toList S) = C0 at *
          generalize D.invP z.data.toList (D.cmpP S R) = X0 at *
          generalize D.cmpP S R = D0 at *
          generalize D.cmpE S R = f0 at *
          generalize D.invP (D.resP z.data.toList S) R = W0 at *
          generalize D.fitE (D.resP z.data.toList S) R = e0 at *
          generalize D.invP z.data.toList S = V at *
          generalize (⟨(D.resP z.data.toList S).toArray⟩ : ByteArray) = T at *
          generalize (⟨(D.remP z.data.toList S).toArray⟩ : ByteArray) = G at *
          generalize D.idP z.size = I0 at *
          go_enter Try.func9, Try.ntmps9
          go_wp2_with fail
          refine (HA.out _ _ _ K.out.r0 nS.out.1).mono ?_
          rintro e w1 ⟨v, rfl, hm⟩
          obtain ⟨ox1, cx1, hv, nx1, K1⟩ := C.made5 K.out hm
          subst hv
          clear hm K
          go_wp2_with fail
          refine (H1.out _ _ _ K1.out.r0).mono ?_
          rintro e w2 ⟨rfl, hb⟩
          have K2 := Lib.hid (K1.out.on hb)
          clear hb K1
          go_wp2_with fail
          refine (HA.out _ _ _ K2.out.tl.r0 nS.out.1).mono ?_
          rintro e w3 ⟨v, rfl, hm⟩
          obtain ⟨ox2, cx2, hv, nx2, K3⟩ := C.made5 K2.out hm
          subst hv
          clear hm K2
          go_wp2_with fail
          refine (H2.out _ _ _ K3.out.r0).mono ?_
          rintro e w4 ⟨v, rfl, hm⟩
          obtain ⟨ov, cv, hv, nv, K4⟩ := C.made5 K3.out hm
          subst hv
          clear hm K3
          go_wp2_with fail
          refine (HA.out _ _ _ K4.out.tl.tl.tl.r0 nS.out.1).mono ?_
          rintro e w5 ⟨v, rfl, hm⟩
          obtain ⟨ox3, cx3, hv, nx3, K5⟩ := C.made5 K4.out hm
          subst hv
          clear hm K4
          go_wp2_with fail
          refine (HV.out _ _ _ K5.out.tl.r0 nv.out.1).mono ?_
          rintro e w6 ⟨v, rfl, hm⟩
          obtain ⟨ov1, cv1, hv, nv1, K6⟩ := C.made5 K5.out hm
          subst hv
          clear hm K5
          go_wp2_with fail
          refine (H3.out _ _ _ _ _ K6.out.tl.r0 K6.out.r0 nx3.out.2 nv1.out.2).mono ?_
          rintro e w7 ⟨v, rfl, hm⟩
          obtain ⟨oc, cc, hv, nc, K7⟩ := C.made5 K6.out hm
          subst hv
          clear hm K6
          go_wp2_with fail
          refine (HA.out _ _ _ K7.out.tl.tl.tl.tl.tl.tl.r0 nS.out.1).mono ?_
          rintro e w8 ⟨v, rfl, hm⟩
          obtain ⟨ox4, cx4, hv, nx4, K8⟩ := C.made5 K7.out hm
          subst hv
          clear hm K7
          go_wp2_with fail
          refine (H4.out _ _ _ K8.out.r0).mono ?_
          rintro e w9 ⟨rfl, hb⟩
          have K9 := Lib.hid (K8.out.on hb)
          clear hb K8
          go_wp2_with fail
          refine (H5.out _ ).mono ?_
          rintro e w10 ⟨v, rfl, hm⟩
          obtain ⟨oid, cid, hv, nid, K10⟩ := C.made5 K9.out hm
          subst hv
          clear hm K9
          go_wp2_with fail
          refine (HB.out _ _ _ K10.out.tl.tl.tl.tl.tl.tl.tl.tl.tl.r0 nR.out.1).mono ?_
          rintro e w11 ⟨v, rfl, hm⟩
          obtain ⟨oy1, cy1, hv, ny1, K11⟩ := C.made5 K10.out hm
          subst hv
          clear hm K10
          go_wp2_with fail
          refine (H7.out _ _ _ K11.out.r0).mono ?_
          rintro e w12 ⟨v, rfl, hm⟩
          obtain ⟨ow0, cw0, hv, nw0, K12⟩ := C.made5 K11.out hm
          subst hv
          clear hm K11
          go_wp2_with fail
          refine (HA.out _ _ _ K12.out.tl.tl.tl.tl.tl.tl.tl.tl.tl.tl.r0 nS.out.1).mono ?_
          rintro e w13 ⟨v, rfl, hm⟩
          obtain ⟨ox5, cx5, hv, nx5, K13⟩ := C.made5 K12.out hm
          subst hv
          clear hm K12
          go_wp2_with fail
          refine (HB.out _ _ _ K13.out.tl.tl.tl.tl.tl.tl.tl.tl.tl.tl.tl.tl.r0 nR.out.1).mono ?_
          rintro e w14 ⟨v, rfl, hm⟩
          obtain ⟨oy2, cy2, hv, ny2, K14⟩ := C.made5 K13.out hm
          subst hv
          clear hm K13
          go_wp2_with fail
          refine (H8.out _ _ _ _ _ K14.out.tl.r0 K14.out.r0 nx5.out.2 ny2.out.2).mono ?_
          rintro e w15 ⟨v, rfl, hm⟩
          obtain ⟨od, cd, hv, nd, K15⟩ := C.made5 K14.out hm
          subst hv
          clear hm K14
          have KB := Lib.hid K15.out.below
          clear K15
          go_wp2_with fail
          refine (HK.out _).mono ?_
          rintro e wk ⟨rfl, hb⟩
          have KC := Lib.hid (KB.out.trans (hb.mono KB.out.size))
          clear hb
          go_wp2
          go_ret
          exact ⟨rfl, KC.out⟩
    · have q7 : (D.fitE (D.resP z.data.toList s.x) r.x != 0) = true := by simpa using hg
      by_cases h3 : D.cmpE s.x (D.invP z.data.toList s.x) = 0
      · obtain ⟨p1, p2, p3⟩ := D.back_inv hf h3
        have H6 := C.hApp z (D.cmpP s.x (D.invP z.data.toList s.x)) hz (C.cmp_bd _ _)
        have HD := C.hOwn (D.cmpP s.x (D.invP z.data.toList s.x)) (by have := D.cmpP_len s.x (D.invP z.data.toList s.x); omega)
        rw [p1, p2, hzz] at H6
        rw [h3] at H3
        rw [hzl] at p3
        by_cases h4 : D.remP z.data.toList s.x = []
        · have e4 := p3.2 h4
          rw [e4] at H3 H6 HD
          have S2 := C.hSame (D.idP z.size) (D.bd_of (D.idP_qs hz2).2.2.1).1
          rw [h4] at H4
          change Hid (∀ ao c W, D.Row W ao s.x → Calls Try.prog 32 #[.string z, .slice ao s.x.length c] W (fun e w' => e = .returned (.tuple #[.string ⟨#[]⟩, .int .i64 0]) ∧ Below W.heap.size W w')) at H4
          obtain ⟨oS, cS, S⟩ := s
          obtain ⟨oR, cR, R⟩ := r
          dsimp only at *
          clear hs hr hz hf hc hl b hzl hz2 hzz hts htd bv h3 p1 p2 p3 h4 e4 hg
          generalize D.invP z.data.toList (D.cmpP S R) = X0 at *
          generalize D.cmpP S R = D0 at *
          generalize D.cmpE S R = f0 at *
          generalize D.invP (D.resP z.data.toList S) R = W0 at *
          generalize D.fitE (D.resP z.data.toList S) R = e0 at *
          generalize D.invP z.data.toList S = V at *
          generalize (⟨(D.resP z.data.toList S).toArray⟩ : ByteArray) = T at *
          generalize D.idP z.size = I0 at *
          go_enter Try.func9, Try.ntmps9
          go_wp2_with fail
          refine (HA.out _ _ _ K.out.r0 nS.out.1).mono ?_
          rintro e w1 ⟨v, rfl, hm⟩
          obtain ⟨ox1, cx1, hv, nx1, K1⟩ := C.made5 K.out hm
          subst hv
          clear hm K
          go_wp2_with fail
          refine (H1.out _ _ _ K1.out.r0).mono ?_
          rintro e w2 ⟨rfl, hb⟩
          have K2 := Lib.hid (K1.out.on hb)
          clear hb K1
          go_wp2_with fail
          refine (HA.out _ _ _ K2.out.tl.r0 nS.out.1).mono ?_
          rintro e w3 ⟨v, rfl, hm⟩
          obtain ⟨ox2, cx2, hv, nx2, K3⟩ := C.made5 K2.out hm
          subst hv
          clear hm K2
          go_wp2_with fail
          refine (H2.out _ _ _ K3.out.r0).mono ?_
          rintro e w4 ⟨v, rfl, hm⟩
          obtain ⟨ov, cv, hv, nv, K4⟩ := C.made5 K3.out hm
          subst hv
          clear hm K3
          go_wp2_with fail
          refine (HA.out _ _ _ K4.out.tl.tl.tl.r0 nS.out.1).mono ?_
          rintro e w5 ⟨v, rfl, hm⟩
          obtain ⟨ox3, cx3, hv, nx3, K5⟩ := C.made5 K4.out hm
          subst hv
          clear hm K4
          go_wp2_with fail
          refine (HV.out _ _ _ K5.out.tl.r0 nv.out.1).mono ?_
          rintro e w6 ⟨v, rfl, hm⟩
          obtain ⟨ov1, cv1, hv, nv1, K6⟩ := C.made5 K5.out hm
          subst hv
          clear hm K5
          go_wp2_with fail
          refine (H3.out _ _ _ _ _ K6.out.tl.r0 K6.out.r0 nx3.out.2 nv1.out.2).mono ?_
          rintro e w7 ⟨v, rfl, hm⟩
          obtain ⟨oc, cc, hv, nc, K7⟩ := C.made5 K6.out hm
          subst hv
          clear hm K6
          go_wp2_with fail
          refine (HA.out _ _ _ K7.out.tl.tl.tl.tl.tl.tl.r0 nS.out.1).mono ?_
          rintro e w8 ⟨v, rfl, hm⟩
          obtain ⟨ox4, cx4, hv, nx4, K8⟩ := C.made5 K7.out hm
          subst hv
          clear hm K7
          go_wp2_with fail
          refine (H4.out _ _ _ K8.out.r0).mono ?_
          rintro e w9 ⟨rfl, hb⟩
          have K9 := Lib.hid (K8.out.on hb)
          clear hb K8
          go_wp2_with fail
          refine (H5.out _ ).mono ?_
          rintro e w10 ⟨v, rfl, hm⟩
          obtain ⟨oid, cid, hv, nid, K10⟩ := C.made5 K9.out hm
          subst hv
          clear hm K9
          go_wp2_with fail
          refine (HD.out _ _ _ K10.out.tl.tl.r0 nc.out.1).mono ?_
          rintro e w11 ⟨v, rfl, hm⟩
          obtain ⟨oc1, cc1, hv, nc1, K11⟩ := C.made5 K10.out hm
          subst hv
          clear hm K10
          go_wp2_with fail
          refine (H6.out _ _ _ K11.out.r0).mono ?_
          rintro e w12 ⟨rfl, hb⟩
          have K12 := Lib.hid (K11.out.on hb)
          clear hb K11
          go_wp2_with fail
          refine (S2.out _ _ _ _ _ K12.out.tl.tl.tl.r0 K12.out.tl.r0).mono ?_
          rintro e w13 ⟨rfl, hb⟩
          have K13 := Lib.hid (K12.out.on hb)
          clear hb K12
          go_wp2_with fail
          refine (HB.out _ _ _ K13.out.tl.tl.tl.tl.tl.tl.tl.tl.tl.tl.r0 nR.out.1).mono ?_
          rintro e w14 ⟨v, rfl, hm⟩
          obtain ⟨oy1, cy1, hv, ny1, K14⟩ := C.made5 K13.out hm
          subst hv
          clear hm K13
          go_wp2_with fail
          refine (H7.out _ _ _ K14.out.r0).mono ?_
          rintro e w15 ⟨v, rfl, hm⟩
          obtain ⟨ow0, cw0, hv, nw0, K15⟩ := C.made5 K14.out hm
          subst hv
          clear hm K14
          go_wp2_with fail
          refine (HA.out _ _ _ K15.out.tl.tl.tl.tl.tl.tl.tl.tl.tl.tl.tl.r0 nS.out.1).mono ?_
          rintro e w16 ⟨v, rfl, hm⟩
          obtain ⟨ox5, cx5, hv, nx5, K16⟩ := C.made5 K15.out hm
          subst hv
          clear hm K15
          go_wp2_with fail
          refine (HB.out _ _ _ K16.out.tl.tl.tl.tl.tl.tl.tl.tl.tl.tl.tl.tl.tl.r0 nR.out.1).mono ?_
          rintro e w17 ⟨v, rfl, hm⟩
          obtain ⟨oy2, cy2, hv, ny2, K17⟩ := C.made5 K16.out hm
          subst hv
          clear hm K16
          go_wp2_with fail
          refine (H8.out _ _ _ _ _ K17.out.tl.r0 K17.out.r0 nx5.out.2 ny2.out.2).mono ?_
          rintro e w18 ⟨v, rfl, hm⟩
          obtain ⟨od, cd, hv, nd, K18⟩ := C.made5 K17.out hm
          subst hv
          clear hm K17
          have KB := Lib.hid K18.out.below
          clear K18
          go_wp2_with fail
          refine (HK.out _).mono ?_
          rintro e wk ⟨rfl, hb⟩
          have KC := Lib.hid (KB.out.trans (hb.mono KB.out.size))
          clear hb
          go_wp2
          go_ret
          exact ⟨rfl, KC.out⟩
        · have e4 : D.same (D.cmpP s.x (D.invP z.data.toList s.x)) (D.idP z.size) = false := by
            rw [Bool.eq_false_iff]; intro k; exact h4 (p3.1 ((D.same_iff _ _).1 k))
          have S2 := C.hSame2 (D.cmpP s.x (D.invP z.data.toList s.x)) (D.idP z.size) (C.cmp_bd _ _).1 (D.bd_of (D.idP_qs hz2).2.2.1).1
          rw [e4] at S2
          obtain ⟨G, hG⟩ : ∃ G : ByteArray, G = ⟨(D.remP z.data.toList s.x).toArray⟩ := ⟨_, rfl⟩
          obtain ⟨g1, g2, g3⟩ := C.str_ne h4 hG
          rw [← hG] at H4
          obtain ⟨oS, cS, S⟩ := s
          obtain ⟨oR, cR, R⟩ := r
          dsimp only at *
          clear hs hr hz hf hc hl b hzl hz2 hzz hts htd bv h3 p1 p2 p3 h4 e4 hG hg
          generalize D.cmpP S (D.invP z.data.toList S) = C0 at *
          generalize D.invP z.data.toList (D.cmpP S R) = X0 at *
          generalize D.cmpP S R = D0 at *
          generalize D.cmpE S R = f0 at *
          generalize D.invP (D.resP z.data.toList S) R = W0 at *
          generalize D.fitE (D.resP z.data.toList S) R = e0 at *
          generalize D.invP z.data.toList S = V at *
          generalize (⟨(D.resP z.data.toList S).toArray⟩ : ByteArray) = T at *
          generalize D.idP z.size = I0 at *
          go_enter Try.func9, Try.ntmps9
          go_wp2_with fail
          refine (HA.out _ _ _ K.out.r0 nS.out.1).mono ?_
          rintro e w1 ⟨v, rfl, hm⟩
          obtain ⟨ox1, cx1, hv, nx1, K1⟩ := C.made5 K.out hm
          subst hv
          clear hm K
          go_wp2_with fail
          refine (H1.out _ _ _ K1.out.r0).mono ?_
          rintro e w2 ⟨rfl, hb⟩
          have K2 := Lib.hid (K1.out.on hb)
          clear hb K1
          go_wp2_with fail
          refine (HA.out _ _ _ K2.out.tl.r0 nS.out.1).mono ?_
          rintro e w3 ⟨v, rfl, hm⟩
          obtain ⟨ox2, cx2, hv, nx2, K3⟩ := C.made5 K2.out hm
          subst hv
          clear hm K2
          go_wp2_with fail
          refine (H2.out _ _ _ K3.out.r0).mono ?_
          rintro e w4 ⟨v, rfl, hm⟩
          obtain ⟨ov, cv, hv, nv, K4⟩ := C.made5 K3.out hm
          subst hv
          clear hm K3
          go_wp2_with fail
          refine (HA.out _ _ _ K4.out.tl.tl.tl.r0 nS.out.1).mono ?_
          rintro e w5 ⟨v, rfl, hm⟩
          obtain ⟨ox3, cx3, hv, nx3, K5⟩ := C.made5 K4.out hm
          subst hv
          clear hm K4
          go_wp2_with fail
          refine (HV.out _ _ _ K5.out.tl.r0 nv.out.1).mono ?_
          rintro e w6 ⟨v, rfl, hm⟩
          obtain ⟨ov1, cv1, hv, nv1, K6⟩ := C.made5 K5.out hm
          subst hv
          clear hm K5
          go_wp2_with fail
          refine (H3.out _ _ _ _ _ K6.out.tl.r0 K6.out.r0 nx3.out.2 nv1.out.2).mono ?_
          rintro e w7 ⟨v, rfl, hm⟩
          obtain ⟨oc, cc, hv, nc, K7⟩ := C.made5 K6.out hm
          subst hv
          clear hm K6
          go_wp2_with fail
          refine (HA.out _ _ _ K7.out.tl.tl.tl.tl.tl.tl.r0 nS.out.1).mono ?_
          rintro e w8 ⟨v, rfl, hm⟩
          obtain ⟨ox4, cx4, hv, nx4, K8⟩ := C.made5 K7.out hm
          subst hv
          clear hm K7
          go_wp2_with fail
          refine (H4.out _ _ _ K8.out.r0).mono ?_
          rintro e w9 ⟨rfl, hb⟩
          have K9 := Lib.hid (K8.out.on hb)
          clear hb K8
          go_wp2_with fail
          refine (H5.out _ ).mono ?_
          rintro e w10 ⟨v, rfl, hm⟩
          obtain ⟨oid, cid, hv, nid, K10⟩ := C.made5 K9.out hm
          subst hv
          clear hm K9
          go_wp2_with fail
          refine (HD.out _ _ _ K10.out.tl.tl.r0 nc.out.1).mono ?_
          rintro e w11 ⟨v, rfl, hm⟩
          obtain ⟨oc1, cc1, hv, nc1, K11⟩ := C.made5 K10.out hm
          subst hv
          clear hm K10
          go_wp2_with fail
          refine (H6.out _ _ _ K11.out.r0).mono ?_
          rintro e w12 ⟨rfl, hb⟩
          have K12 := Lib.hid (K11.out.on hb)
          clear hb K11
          go_wp2_with fail
          refine (S2.out _ _ _ _ _ K12.out.tl.tl.tl.r0 K12.out.tl.r0).mono ?_
          rintro e w13 ⟨rfl, hb⟩
          have K13 := Lib.hid (K12.out.on hb)
          clear hb K12
          go_wp2_with fail
          refine (HB.out _ _ _ K13.out.tl.tl.tl.tl.tl.tl.tl.tl.tl.tl.r0 nR.out.1).mono ?_
          rintro e w14 ⟨v, rfl, hm⟩
          obtain ⟨oy1, cy1, hv, ny1, K14⟩ := C.made5 K13.out hm
          subst hv
          clear hm K13
          go_wp2_with fail
          refine (H7.out _ _ _ K14.out.r0).mono ?_
          rintro e w15 ⟨v, rfl, hm⟩
          obtain ⟨ow0, cw0, hv, nw0, K15⟩ := C.made5 K14.out hm
          subst hv
          clear hm K14
          go_wp2_with fail
          refine (HA.out _ _ _ K15.out.tl.tl.tl.tl.tl.tl.tl.tl.tl.tl.tl.r0 nS.out.1).mono ?_
          rintro e w16 ⟨v, rfl, hm⟩
          obtain ⟨ox5, cx5, hv, nx5, K16⟩ := C.made5 K15.out hm
          subst hv
          clear hm K15
          go_wp2_with fail
          refine (HB.out _ _ _ K16.out.tl.tl.tl.tl.tl.tl.tl.tl.tl.tl.tl.tl.tl.r0 nR.out.1).mono ?_
          rintro e w17 ⟨v, rfl, hm⟩
          obtain ⟨oy2, cy2, hv, ny2, K17⟩ := C.made5 K16.out hm
          subst hv
          clear hm K16
          go_wp2_with fail
          refine (H8.out _ _ _ _ _ K17.out.tl.r0 K17.out.r0 nx5.out.2 ny2.out.2).mono ?_
          rintro e w18 ⟨v, rfl, hm⟩
          obtain ⟨od, cd, hv, nd, K18⟩ := C.made5 K17.out hm
          subst hv
          clear hm K17
          have KB := Lib.hid K18.out.below
          clear K18
          go_wp2_with fail
          refine (HK.out _).mono ?_
          rintro e wk ⟨rfl, hb⟩
          have KC := Lib.hid (KB.out.trans (hb.mono KB.out.size))
          clear hb
          go_wp2
          go_ret
          exact ⟨rfl, KC.out⟩
      · rw [(D.inv_fit hf).two.resolve_left h3] at H3
        obtain ⟨oS, cS, S⟩ := s
        obtain ⟨oR, cR, R⟩ := r
        dsimp only at *
        clear hs hr hz hf hc hl b hzl hz2 hzz hts htd bv h3 hg
        generalize D.cmpP S (D.invP z.data.toList S) = C0 at *
        generalize D.invP z.data.toList (D.cmpP S R) = X0 at *
        generalize D.cmpP S R = D0 at *
        generalize D.cmpE S R = f0 at *
        generalize D.invP (D.resP z.data.toList S) R = W0 at *
        generalize D.fitE (D.resP z.data.toList S) R = e0 at *
        generalize D.invP z.data.toList S = V at *
        generalize (⟨(D.resP z.data.toList S).toArray⟩ : ByteArray) = T at *
        generalize (⟨(D.remP z.data.toList S).toArray⟩ : ByteArray) = G at *
        generalize D.idP z.size = I0 at *
        go_enter Try.func9, Try.ntmps9
        go_wp2_with fail
        refine (HA.out _ _ _ K.out.r0 nS.out.1).mono ?_
        rintro e w1 ⟨v, rfl, hm⟩
        obtain ⟨ox1, cx1, hv, nx1, K1⟩ := C.made5 K.out hm
        subst hv
        clear hm K
        go_wp2_with fail
        refine (H1.out _ _ _ K1.out.r0).mono ?_
        rintro e w2 ⟨rfl, hb⟩
        have K2 := Lib.hid (K1.out.on hb)
        clear hb K1
        go_wp2_with fail
        refine (HA.out _ _ _ K2.out.tl.r0 nS.out.1).mono ?_
        rintro e w3 ⟨v, rfl, hm⟩
        obtain ⟨ox2, cx2, hv, nx2, K3⟩ := C.made5 K2.out hm
        subst hv
        clear hm K2
        go_wp2_with fail
        refine (H2.out _ _ _ K3.out.r0).mono ?_
        rintro e w4 ⟨v, rfl, hm⟩
        obtain ⟨ov, cv, hv, nv, K4⟩ := C.made5 K3.out hm
        subst hv
        clear hm K3
        go_wp2_with fail
        refine (HA.out _ _ _ K4.out.tl.tl.tl.r0 nS.out.1).mono ?_
        rintro e w5 ⟨v, rfl, hm⟩
        obtain ⟨ox3, cx3, hv, nx3, K5⟩ := C.made5 K4.out hm
        subst hv
        clear hm K4
        go_wp2_with fail
        refine (HV.out _ _ _ K5.out.tl.r0 nv.out.1).mono ?_
        rintro e w6 ⟨v, rfl, hm⟩
        obtain ⟨ov1, cv1, hv, nv1, K6⟩ := C.made5 K5.out hm
        subst hv
        clear hm K5
        go_wp2_with fail
        refine (H3.out _ _ _ _ _ K6.out.tl.r0 K6.out.r0 nx3.out.2 nv1.out.2).mono ?_
        rintro e w7 ⟨v, rfl, hm⟩
        obtain ⟨oc, cc, hv, nc, K7⟩ := C.made5 K6.out hm
        subst hv
        clear hm K6
        go_wp2_with fail
        refine (HA.out _ _ _ K7.out.tl.tl.tl.tl.tl.tl.r0 nS.out.1).mono ?_
        rintro e w8 ⟨v, rfl, hm⟩
        obtain ⟨ox4, cx4, hv, nx4, K8⟩ := C.made5 K7.out hm
        subst hv
        clear hm K7
        go_wp2_with fail
        refine (H4.out _ _ _ K8.out.r0).mono ?_
        rintro e w9 ⟨rfl, hb⟩
        have K9 := Lib.hid (K8.out.on hb)
        clear hb K8
        go_wp2_with fail
        refine (H5.out _ ).mono ?_
        rintro e w10 ⟨v, rfl, hm⟩
        obtain ⟨oid, cid, hv, nid, K10⟩ := C.made5 K9.out hm
        subst hv
        clear hm K9
        go_wp2_with fail
        refine (HB.out _ _ _ K10.out.tl.tl.tl.tl.tl.tl.tl.tl.tl.r0 nR.out.1).mono ?_
        rintro e w11 ⟨v, rfl, hm⟩
        obtain ⟨oy1, cy1, hv, ny1, K11⟩ := C.made5 K10.out hm
        subst hv
        clear hm K10
        go_wp2_with fail
        refine (H7.out _ _ _ K11.out.r0).mono ?_
        rintro e w12 ⟨v, rfl, hm⟩
        obtain ⟨ow0, cw0, hv, nw0, K12⟩ := C.made5 K11.out hm
        subst hv
        clear hm K11
        go_wp2_with fail
        refine (HA.out _ _ _ K12.out.tl.tl.tl.tl.tl.tl.tl.tl.tl.tl.r0 nS.out.1).mono ?_
        rintro e w13 ⟨v, rfl, hm⟩
        obtain ⟨ox5, cx5, hv, nx5, K13⟩ := C.made5 K12.out hm
        subst hv
        clear hm K12
        go_wp2_with fail
        refine (HB.out _ _ _ K13.out.tl.tl.tl.tl.tl.tl.tl.tl.tl.tl.tl.tl.r0 nR.out.1).mono ?_
        rintro e w14 ⟨v, rfl, hm⟩
        obtain ⟨oy2, cy2, hv, ny2, K14⟩ := C.made5 K13.out hm
        subst hv
        clear hm K13
        go_wp2_with fail
        refine (H8.out _ _ _ _ _ K14.out.tl.r0 K14.out.r0 nx5.out.2 ny2.out.2).mono ?_
        rintro e w15 ⟨v, rfl, hm⟩
        obtain ⟨od, cd, hv, nd, K15⟩ := C.made5 K14.out hm
        subst hv
        clear hm K14
        have KB := Lib.hid K15.out.below
        clear K15
        go_wp2_with fail
        refine (HK.out _).mono ?_
        rintro e wk ⟨rfl, hb⟩
        have KC := Lib.hid (KB.out.trans (hb.mono KB.out.size))
        clear hb
        go_wp2
        go_ret
        exact ⟨rfl, KC.out⟩
  · have q1 : (D.fitE z.data.toList s.x != 0) = true := by simpa using hf
    obtain ⟨oS, cS, S⟩ := s
    obtain ⟨oR, cR, R⟩ := r
    dsimp only at *
    generalize (⟨(D.resP z.data.toList S).toArray⟩ : ByteArray) = T at *
    generalize D.fitE z.data.toList S = k at *
    clear hs hr hz hf
    go_enter Try.func9, Try.ntmps9
    go_wp2_with fail
    refine (HA.out _ _ _ K.out.r0 nS.out.1).mono ?_
    rintro e w1 ⟨v, rfl, hm⟩
    obtain ⟨ox1, cx1, hv, nx1, K1⟩ := C.made5 K.out hm
    subst hv
    clear hm K
    go_wp2_with fail
    refine (H1.out _ _ _ K1.out.r0).mono ?_
    rintro e w2 ⟨rfl, hb⟩
    have K2 := Lib.hid (K1.out.on hb)
    clear hb K1
    have KB := Lib.hid K2.out.below
    clear K2
    go_wp2_with fail
    refine (HK.out _).mono ?_
    rintro e wk ⟨rfl, hb⟩
    have KC := Lib.hid (KB.out.trans (hb.mono KB.out.size))
    clear hb
    go_wp2
    go_ret
    exact ⟨rfl, KC.out⟩
end Go.Proofs.Yteondigaklonpaa
