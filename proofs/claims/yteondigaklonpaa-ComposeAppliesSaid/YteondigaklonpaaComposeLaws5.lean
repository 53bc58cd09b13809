/- The walk of ComposeApplies. -/
import Derived.Test.YteondigaklonpaaComposeLawKit
import Derived.Test.YteondigaklonpaaComposeOf
import Derived.Test.YteondigaklonpaaDeltaRefAtoms
import Derived.Test.YteondigaklonpaaDeltaRefLarge
namespace Go.Proofs.Yteondigaklonpaa
open Go.RowKit

theorem C.hAtoms (x : List D.P) (h0 : D.chk x = 0) : Hid (∀ ao c W, D.Row W ao x → Calls Try.prog 27 #[.slice ao x.length c] W (fun e w' => ∃ v, e = .returned v ∧ D.IntsAt (D.atoms 0 (D.qs x)) W v w')) := fun ao c W hr => by
  obtain ⟨e, pa, l1, l2, i1, o1⟩ := D.valid_qs h0
  have H := refAtoms_any ao c (D.qs x) W (by omega) (by omega) (by omega) (by rw [e]; exact hr)
  rw [l1] at H
  exact H
theorem C.hLarge (x : List D.P) (hx : D.Bd x) (hn : ∀ p ∈ x, -9223372036854775808 ≤ p.n ∧ p.n ≤ 9223372036854775807) : Hid (∀ ao c W, D.Row W ao x → Calls Try.prog 12 #[.slice ao x.length c] W (fun e w' => e = .returned (.bool (D.large x)) ∧ Below W.heap.size W w')) := fun ao c W h => refLarge_any ao c x W hx.1 h hx.2 hn
theorem C.num_of {x : List D.P} (h0 : D.chk x = 0) : ∀ p ∈ x, -9223372036854775808 ≤ p.n ∧ p.n ≤ 9223372036854775807 := fun p hp => by
  obtain ⟨e, _, _, _, i1, _⟩ := D.valid_qs h0
  rw [← e] at hp
  obtain ⟨q, hq, rfl⟩ := List.mem_map.1 hp
  have := (D.in1_le hq).1
  rw [D.raw_n1]
  omega
set_option maxRecDepth 100000 in
set_option maxHeartbeats 4000000 in
theorem composeApplies_walk (z : ByteArray) (s r : D.Src) (w : World) (hz : z.size ≤ 140737488351232) (hs : D.ArgOk w s) (hr : D.ArgOk w r) :
    Calls Try.prog 6 #[.string z, .slice s.a s.x.length s.c, .slice r.a r.x.length r.c] w fun e w' => e = .returned (.bool true) ∧ Below w.heap.size w w' := by
  have HA := C.hOwn s.x hs.fit
  have HB := C.hOwn r.x hr.fit
  have H1 := C.hApp z s.x hz (C.bd_arg hs)
  have HK := C.hKnown
  have K : Hid (D.Kn w w [(s.a, s.x), (r.a, r.x)]) := ⟨Below.refl _ _, fun x hx => by
    simp at hx
    rcases hx with rfl | rfl
    · exact hs.src.row
    · exact hr.src.row⟩
  have nS : Hid ((s.a = none → s.c = 0) ∧ s.x.length ≤ s.c) := ⟨hs.src.nil, hs.cap⟩
  have nR : Hid ((r.a = none → r.c = 0) ∧ r.x.length ≤ r.c) := ⟨hr.src.nil, hr.cap⟩
  by_cases hf : D.fitE z.data.toList s.x = 0
  · have hl := D.res_len hf
    have hts : (⟨(D.resP z.data.toList s.x).toArray⟩ : ByteArray).size ≤ 140737488351232 := by rw [D.size_l]; omega
    have htd : (⟨(D.resP z.data.toList s.x).toArray⟩ : ByteArray).data.toList = D.resP z.data.toList s.x := by simp
    have he := D.app_err (y := r.x) hf
    have H2 := C.hApp ⟨(D.resP z.data.toList s.x).toArray⟩ r.x hts (C.bd_arg hr)
    have H3 := C.hCmp s.x r.x (C.bd_arg hs) (C.bd_arg hr)
    rw [hf] at H1
    rw [htd] at H2
    by_cases hg : D.fitE (D.resP z.data.toList s.x) r.x = 0
    · rw [hg] at H2 he
      have ff := D.fit_of he
      by_cases hc : D.cmpE s.x r.x = 0
      · obtain ⟨a1, a2, a3, a4⟩ := D.app_ok hf hc
        have c := D.cmp_of hc
        have HD := C.hOwn (D.cmpP s.x r.x) (by have := D.cmpP_len s.x r.x; omega)
        have H4 := C.hApp z (D.cmpP s.x r.x) hz (C.cmp_bd _ _)
        have H5 := C.hNormal (D.cmpP s.x r.x) c.ok a3
        have G1 := C.hLarge s.x (C.bd_arg hs) hs.num
        have G2 := C.hLarge r.x (C.bd_arg hr) hr.num
        have G3 := C.hLarge (D.cmpP s.x r.x) (C.cmp_bd _ _) (C.num_of c.ok)
        have A1 := C.hAtoms s.x ff.a
        have A2 := C.hAtoms r.x ff.b
        have A3 := C.hAtoms (D.cmpP s.x r.x) c.ok
        have hL0 : D.good (D.atoms 0 (D.qs s.x)).length 0 (D.atoms 0 (D.qs r.x)) := by rw [D.atoms_length, ff.m]; exact D.good_atoms _ (D.qs r.x) 0 (by omega)
        have HR := Lib.hid (D.good_range hL0)
        have hlO : (D.atoms 0 (D.qs r.x)).length ≤ 1048576 := by rw [D.atoms_length]; exact (D.valid_qs ff.b).2.2.2.2.2
        have hlM : (D.atoms 0 (D.qs s.x)).length ≤ 1048576 := by rw [D.atoms_length]; exact (D.valid_qs ff.a).2.2.2.2.2
        rw [hc] at H3
        rw [a1, a2] at H4
        rw [a4] at A3
        obtain ⟨oS, cS, S⟩ := s
        obtain ⟨oR, cR, R⟩ := r
        dsimp only at *
        clear hs hr hz hf hl hts htd he hg ff hc a1 a2 a3 a4 c hL0
        generalize D.cmpP S R = D0 at *
        generalize D.resP (D.resP z.data.toList S) R = U0 at *
        generalize (⟨(D.resP z.data.toList S).toArray⟩ : ByteArray) = T at *
        generalize (⟨U0.toArray⟩ : ByteArray) = U at *
        generalize D.atoms 0 (D.qs S) = M at *
        generalize D.atoms 0 (D.qs R) = O at *
        cases hg1 : D.large S with
        | true =>
          rw [hg1] at G1
          clear A1 A2 A3 HR hlO hlM hg1
          go_enter Try.func6, Try.ntmps6
          go_wp2_with fail
          refine (HA.out _ _ _ K.out.r0 nS.out.1).mono ?_
          rintro e w1 ⟨v, rfl, hm⟩
          obtain ⟨ox1, cx1, hv, nx1, K1⟩ := C.made5 K.out hm
          subst hv
          clear hm K
          go_wp2_with fail
          refine (H1.out _ _ _ K1.out.r0).mono ?_
          rintro e w2 ⟨rfl, hb⟩
          have K2 := Lib.hid (K1.out.on hb)
          clear hb K1
          go_wp2_with fail
          refine (HB.out _ _ _ K2.out.tl.tl.r0 nR.out.1).mono ?_
          rintro e w3 ⟨v, rfl, hm⟩
          obtain ⟨oy1, cy1, hv, ny1, K3⟩ := C.made5 K2.out hm
          subst hv
          clear hm K2
          go_wp2_with fail
          refine (H2.out _ _ _ K3.out.r0).mono ?_
          rintro e w4 ⟨rfl, hb⟩
          have K4 := Lib.hid (K3.out.on hb)
          clear hb K3
          go_wp2_with fail
          refine (HA.out _ _ _ K4.out.tl.tl.r0 nS.out.1).mono ?_
          rintro e w5 ⟨v, rfl, hm⟩
          obtain ⟨ox2, cx2, hv, nx2, K5⟩ := C.made5 K4.out hm
          subst hv
          clear hm K4
          go_wp2_with fail
          refine (HB.out _ _ _ K5.out.tl.tl.tl.tl.r0 nR.out.1).mono ?_
          rintro e w6 ⟨v, rfl, hm⟩
          obtain ⟨oy2, cy2, hv, ny2, K6⟩ := C.made5 K5.out hm
          subst hv
          clear hm K5
          go_wp2_with fail
          refine (H3.out _ _ _ _ _ K6.out.tl.r0 K6.out.r0 nx2.out.2 ny2.out.2).mono ?_
          rintro e w7 ⟨v, rfl, hm⟩
          obtain ⟨od, cd, hv, nd, K7⟩ := C.made5 K6.out hm
          subst hv
          clear hm K6
          go_wp2_with fail
          refine (HD.out _ _ _ K7.out.r0 nd.out.1).mono ?_
          rintro e w8 ⟨v, rfl, hm⟩
          obtain ⟨od1, cd1, hv, nd1, K8⟩ := C.made5 K7.out hm
          subst hv
          clear hm K7
          go_wp2_with fail
          refine (H4.out _ _ _ K8.out.r0).mono ?_
          rintro e w9 ⟨rfl, hb⟩
          have K9 := Lib.hid (K8.out.on hb)
          clear hb K8
          go_wp2_with fail
          refine (H5.out _ _ _ K9.out.tl.r0).mono ?_
          rintro e w10 ⟨rfl, hb⟩
          have K10 := Lib.hid (K9.out.on hb)
          clear hb K9
          go_wp2_with fail
          refine (G1.out _ _ _ K10.out.tl.tl.tl.tl.tl.tl.r0).mono ?_
          rintro e w11 ⟨rfl, hb⟩
          have K11 := Lib.hid (K10.out.on hb)
          clear hb K10
          have KB := Lib.hid K11.out.below
          clear K11
          go_wp2_with fail
          refine (HK.out _).mono ?_
          rintro e wk ⟨rfl, hb⟩
          have KC := Lib.hid (KB.out.trans (hb.mono KB.out.size))
          clear hb
          go_wp2
          go_ret
          exact ⟨rfl, KC.out⟩
        | false =>
          rw [hg1] at G1
          cases hg2 : D.large R with
          | true =>
            rw [hg2] at G2
            clear A1 A2 A3 HR hlO hlM hg1 hg2
            go_enter Try.func6, Try.ntmps6
            go_wp2_with fail
            refine (HA.out _ _ _ K.out.r0 nS.out.1).mono ?_
            rintro e w1 ⟨v, rfl, hm⟩
            obtain ⟨ox1, cx1, hv, nx1, K1⟩ := C.made5 K.out hm
            subst hv
            clear hm K
            go_wp2_with fail
            refine (H1.out _ _ _ K1.out.r0).mono ?_
            rintro e w2 ⟨rfl, hb⟩
            have K2 := Lib.hid (K1.out.on hb)
            clear hb K1
            go_wp2_with fail
            refine (HB.out _ _ _ K2.out.tl.tl.r0 nR.out.1).mono ?_
            rintro e w3 ⟨v, rfl, hm⟩
            obtain ⟨oy1, cy1, hv, ny1, K3⟩ := C.made5 K2.out hm
            subst hv
            clear hm K2
            go_wp2_with fail
            refine (H2.out _ _ _ K3.out.r0).mono ?_
            rintro e w4 ⟨rfl, hb⟩
            have K4 := Lib.hid (K3.out.on hb)
            clear hb K3
            go_wp2_with fail
            refine (HA.out _ _ _ K4.out.tl.tl.r0 nS.out.1).mono ?_
            rintro e w5 ⟨v, rfl, hm⟩
            obtain ⟨ox2, cx2, hv, nx2, K5⟩ := C.made5 K4.out hm
            subst hv
            clear hm K4
            go_wp2_with fail
            refine (HB.out _ _ _ K5.out.tl.tl.tl.tl.r0 nR.out.1).mono ?_
            rintro e w6 ⟨v, rfl, hm⟩
            obtain ⟨oy2, cy2, hv, ny2, K6⟩ := C.made5 K5.out hm
            subst hv
            clear hm K5
            go_wp2_with fail
            refine (H3.out _ _ _ _ _ K6.out.tl.r0 K6.out.r0 nx2.out.2 ny2.out.2).mono ?_
            rintro e w7 ⟨v, rfl, hm⟩
            obtain ⟨od, cd, hv, nd, K7⟩ := C.made5 K6.out hm
            subst hv
            clear hm K6
            go_wp2_with fail
            refine (HD.out _ _ _ K7.out.r0 nd.out.1).mono ?_
            rintro e w8 ⟨v, rfl, hm⟩
            obtain ⟨od1, cd1, hv, nd1, K8⟩ := C.made5 K7.out hm
            subst hv
            clear hm K7
            go_wp2_with fail
            refine (H4.out _ _ _ K8.out.r0).mono ?_
            rintro e w9 ⟨rfl, hb⟩
            have K9 := Lib.hid (K8.out.on hb)
            clear hb K8
            go_wp2_with fail
            refine (H5.out _ _ _ K9.out.tl.r0).mono ?_
            rintro e w10 ⟨rfl, hb⟩
            have K10 := Lib.hid (K9.out.on hb)
            clear hb K9
            go_wp2_with fail
            refine (G1.out _ _ _ K10.out.tl.tl.tl.tl.tl.tl.r0).mono ?_
            rintro e w11 ⟨rfl, hb⟩
            have K11 := Lib.hid (K10.out.on hb)
            clear hb K10
            go_wp2_with fail
            refine (G2.out _ _ _ K11.out.tl.tl.tl.tl.tl.tl.tl.r0).mono ?_
            rintro e w12 ⟨rfl, hb⟩
            have K12 := Lib.hid (K11.out.on hb)
            clear hb K11
            have KB := Lib.hid K12.out.below
            clear K12
            go_wp2_with fail
            refine (HK.out _).mono ?_
            rintro e wk ⟨rfl, hb⟩
            have KC := Lib.hid (KB.out.trans (hb.mono KB.out.size))
            clear hb
            go_wp2
            go_ret
            exact ⟨rfl, KC.out⟩
          | false =>
            rw [hg2] at G2
            cases hg3 : D.large D0 with
            | true =>
              rw [hg3] at G3
              clear A1 A2 A3 HR hlO hlM hg1 hg2 hg3
              go_enter Try.func6, Try.ntmps6
              go_wp2_with fail
              refine (HA.out _ _ _ K.out.r0 nS.out.1).mono ?_
              rintro e w1 ⟨v, rfl, hm⟩
              obtain ⟨ox1, cx1, hv, nx1, K1⟩ := C.made5 K.out hm
              subst hv
              clear hm K
              go_wp2_with fail
              refine (H1.out _ _ _ K1.out.r0).mono ?_
              rintro e w2 ⟨rfl, hb⟩
              have K2 := Lib.hid (K1.out.on hb)
              clear hb K1
              go_wp2_with fail
              refine (HB.out _ _ _ K2.out.tl.tl.r0 nR.out.1).mono ?_
              rintro e w3 ⟨v, rfl, hm⟩
              obtain ⟨oy1, cy1, hv, ny1, K3⟩ := C.made5 K2.out hm
              subst hv
              clear hm K2
              go_wp2_with fail
              refine (H2.out _ _ _ K3.out.r0).mono ?_
              rintro e w4 ⟨rfl, hb⟩
              have K4 := Lib.hid (K3.out.on hb)
              clear hb K3
              go_wp2_with fail
              refine (HA.out _ _ _ K4.out.tl.tl.r0 nS.out.1).mono ?_
              rintro e w5 ⟨v, rfl, hm⟩
              obtain ⟨ox2, cx2, hv, nx2, K5⟩ := C.made5 K4.out hm
              subst hv
              clear hm K4
              go_wp2_with fail
              refine (HB.out _ _ _ K5.out.tl.tl.tl.tl.r0 nR.out.1).mono ?_
              rintro e w6 ⟨v, rfl, hm⟩
              obtain ⟨oy2, cy2, hv, ny2, K6⟩ := C.made5 K5.out hm
              subst hv
              clear hm K5
              go_wp2_with fail
              refine (H3.out _ _ _ _ _ K6.out.tl.r0 K6.out.r0 nx2.out.2 ny2.out.2).mono ?_
              rintro e w7 ⟨v, rfl, hm⟩
              obtain ⟨od, cd, hv, nd, K7⟩ := C.made5 K6.out hm
              subst hv
              clear hm K6
              go_wp2_with fail
              refine (HD.out _ _ _ K7.out.r0 nd.out.1).mono ?_
              rintro e w8 ⟨v, rfl, hm⟩
              obtain ⟨od1, cd1, hv, nd1, K8⟩ := C.made5 K7.out hm
              subst hv
              clear hm K7
              go_wp2_with fail
              refine (H4.out _ _ _ K8.out.r0).mono ?_
              rintro e w9 ⟨rfl, hb⟩
              have K9 := Lib.hid (K8.out.on hb)
              clear hb K8
              go_wp2_with fail
              refine (H5.out _ _ _ K9.out.tl.r0).mono ?_
              rintro e w10 ⟨rfl, hb⟩
              have K10 := Lib.hid (K9.out.on hb)
              clear hb K9
              go_wp2_with fail
              refine (G1.out _ _ _ K10.out.tl.tl.tl.tl.tl.tl.r0).mono ?_
              rintro e w11 ⟨rfl, hb⟩
              have K11 := Lib.hid (K10.out.on hb)
              clear hb K10
              go_wp2_with fail
              refine (G2.out _ _ _ K11.out.tl.tl.tl.tl.tl.tl.tl.r0).mono ?_
              rintro e w12 ⟨rfl, hb⟩
              have K12 := Lib.hid (K11.out.on hb)
              clear hb K11
              go_wp2_with fail
              refine (G3.out _ _ _ K12.out.tl.r0).mono ?_
              rintro e w13 ⟨rfl, hb⟩
              have K13 := Lib.hid (K12.out.on hb)
              clear hb K12
              have KB := Lib.hid K13.out.below
              clear K13
              go_wp2_with fail
              refine (HK.out _).mono ?_
              rintro e wk ⟨rfl, hb⟩
              have KC := Lib.hid (KB.out.trans (hb.mono KB.out.size))
              clear hb
              go_wp2
              go_ret
              exact ⟨rfl, KC.out⟩
            | false =>
              rw [hg3] at G3
              clear hg1 hg2 hg3
              go_enter Try.func6, Try.ntmps6
              go_wp2_with fail
              refine (HA.out _ _ _ K.out.r0 nS.out.1).mono ?_
              rintro e w1 ⟨v, rfl, hm⟩
              obtain ⟨ox1, cx1, hv, nx1, K1⟩ := C.made5 K.out hm
              subst hv
              clear hm K
              go_wp2_with fail
              refine (H1.out _ _ _ K1.out.r0).mono ?_
              rintro e w2 ⟨rfl, hb⟩
              have K2 := Lib.hid (K1.out.on hb)
              clear hb K1
              go_wp2_with fail
              refine (HB.out _ _ _ K2.out.tl.tl.r0 nR.out.1).mono ?_
              rintro e w3 ⟨v, rfl, hm⟩
              obtain ⟨oy1, cy1, hv, ny1, K3⟩ := C.made5 K2.out hm
              subst hv
              clear hm K2
              go_wp2_with fail
              refine (H2.out _ _ _ K3.out.r0).mono ?_
              rintro e w4 ⟨rfl, hb⟩
              have K4 := Lib.hid (K3.out.on hb)
              clear hb K3
              go_wp2_with fail
              refine (HA.out _ _ _ K4.out.tl.tl.r0 nS.out.1).mono ?_
              rintro e w5 ⟨v, rfl, hm⟩
              obtain ⟨ox2, cx2, hv, nx2, K5⟩ := C.made5 K4.out hm
              subst hv
              clear hm K4
              go_wp2_with fail
              refine (HB.out _ _ _ K5.out.tl.tl.tl.tl.r0 nR.out.1).mono ?_
              rintro e w6 ⟨v, rfl, hm⟩
              obtain ⟨oy2, cy2, hv, ny2, K6⟩ := C.made5 K5.out hm
              subst hv
              clear hm K5
              go_wp2_with fail
              refine (H3.out _ _ _ _ _ K6.out.tl.r0 K6.out.r0 nx2.out.2 ny2.out.2).mono ?_
              rintro e w7 ⟨v, rfl, hm⟩
              obtain ⟨od, cd, hv, nd, K7⟩ := C.made5 K6.out hm
              subst hv
              clear hm K6
              go_wp2_with fail
              refine (HD.out _ _ _ K7.out.r0 nd.out.1).mono ?_
              rintro e w8 ⟨v, rfl, hm⟩
              obtain ⟨od1, cd1, hv, nd1, K8⟩ := C.made5 K7.out hm
              subst hv
              clear hm K7
              go_wp2_with fail
              refine (H4.out _ _ _ K8.out.r0).mono ?_
              rintro e w9 ⟨rfl, hb⟩
              have K9 := Lib.hid (K8.out.on hb)
              clear hb K8
              go_wp2_with fail
              refine (H5.out _ _ _ K9.out.tl.r0).mono ?_
              rintro e w10 ⟨rfl, hb⟩
              have K10 := Lib.hid (K9.out.on hb)
              clear hb K9
              go_wp2_with fail
              refine (G1.out _ _ _ K10.out.tl.tl.tl.tl.tl.tl.r0).mono ?_
              rintro e w11 ⟨rfl, hb⟩
              have K11 := Lib.hid (K10.out.on hb)
              clear hb K10
              go_wp2_with fail
              refine (G2.out _ _ _ K11.out.tl.tl.tl.tl.tl.tl.tl.r0).mono ?_
              rintro e w12 ⟨rfl, hb⟩
              have K12 := Lib.hid (K11.out.on hb)
              clear hb K11
              go_wp2_with fail
              refine (G3.out _ _ _ K12.out.tl.r0).mono ?_
              rintro e w13 ⟨rfl, hb⟩
              have K13 := Lib.hid (K12.out.on hb)
              clear hb K12
              go_wp2_with fail
              refine (A1.out _ _ _ K13.out.tl.tl.tl.tl.tl.tl.r0).mono ?_
              rintro e w14 ⟨v, rfl, hm⟩
              have K14 := Lib.hid (K13.out.on hm.below)
              obtain ⟨mo, mc, hv, hmr⟩ := C.irow_of hm.own
              subst hv
              have Im := Lib.hid hmr
              have Bm := Lib.hid hm.below
              clear hm hmr K13
              go_wp2_with fail
              refine (A2.out _ _ _ K14.out.tl.tl.tl.tl.tl.tl.tl.r0).mono ?_
              rintro e w15 ⟨v, rfl, hm⟩
              have K15 := Lib.hid (K14.out.on hm.below)
              obtain ⟨lo, lc, hv, hmr⟩ := C.irow_of hm.own
              subst hv
              have Il := Lib.hid hmr
              have Bl := Lib.hid hm.below
              clear hm hmr K14
              go_wp2_with fail
              refine (A3.out _ _ _ K15.out.tl.r0).mono ?_
              rintro e wz ⟨v, rfl, hm⟩
              have KZ := Lib.hid (K15.out.on hm.below)
              obtain ⟨no, nc, hv, hmr⟩ := C.irow_of hm.own
              have hll : (D.cmpA M O).length = O.length := by unfold D.cmpA; simp
              rw [hll] at hv
              subst hv
              have IN := Lib.hid hmr
              have IL := Lib.hid (Il.out.below hm.below)
              have IM := Lib.hid ((Im.out.below Bl.out).below hm.below)
              clear hm hmr K15 Im Il Bl Bm hll
              go_wp2
              go_loop [18, 19] (fun i _ => ∃ k : Nat, k ≤ O.length ∧ i = .int .i64 k) (fun i _ => O.length - (intOf i).toNat)
              case atStart => exact ⟨0, Nat.zero_le _, rfl⟩
              case round =>
                obtain ⟨k, hk, rfl⟩ := hrel
                by_cases hlt : k < O.length
                · obtain ⟨x, hx⟩ : ∃ x, O[k]? = some x := ⟨O[k], List.getElem?_eq_getElem hlt⟩
                  obtain ⟨b1, o1, e1, _, c1⟩ := IL.out k x hx
                  obtain ⟨b2, o2, e2, _, c2⟩ := IN.out k (D.pick M x) (by unfold D.cmpA; rw [List.getElem?_map, hx]; rfl)
                  subst e1
                  subst e2
                  have hxr := HR.out x (List.mem_of_getElem? hx)
                  by_cases hx0 : x < 0
                  · have e : D.pick M x = x := if_pos hx0
                    rw [e] at c2
                    have q1 : decide ((M.length : Int) ≤ x) = false := by simp; omega
                    have q2 : decide (0 ≤ x) = false := by simp; omega
                    clear hx hxr e
                    go_wp2
                    go_round
                    case rel => exact ⟨k + 1, by omega, by go_num⟩
                    case measure => simp [intOf]; omega
                  · obtain ⟨i, rfl⟩ := Int.eq_ofNat_of_zero_le (show 0 ≤ x by omega)
                    have him : i < M.length := by
                      rcases hxr with h | h
                      · omega
                      · simpa using h
                    obtain ⟨u, hu⟩ : ∃ u, M[i]? = some u := ⟨M[i], List.getElem?_eq_getElem him⟩
                    obtain ⟨b3, o3, e3, _, c3⟩ := IM.out i u hu
                    subst e3
                    have e : D.pick M (i : Int) = u := by rw [D.pick_nat, List.getD_eq_getElem?_getD, hu]; rfl
                    rw [e] at c2
                    clear hx hxr e hu hx0
                    go_wp2
                    go_round
                    case rel => exact ⟨k + 1, by omega, by go_num⟩
                    case measure => simp [intOf]; omega
                · obtain rfl : k = O.length := by omega
                  have KB := Lib.hid KZ.out.below
                  clear KZ IL IN IM HR
                  go_wp2_with fail
                  refine (HK.out _).mono ?_
                  rintro e wk ⟨rfl, hb⟩
                  have KC := Lib.hid (KB.out.trans (hb.mono KB.out.size))
                  clear hb
                  go_wp2
                  go_ret
                  exact ⟨rfl, KC.out⟩
      · rw [ff.two.resolve_left hc] at H3
        obtain ⟨oS, cS, S⟩ := s
        obtain ⟨oR, cR, R⟩ := r
        dsimp only at *
        clear hs hr hz hf hl hts htd he hg ff hc
        generalize D.cmpP S R = D0 at *
        generalize D.resP (D.resP z.data.toList S) R = U0 at *
        generalize (⟨(D.resP z.data.toList S).toArray⟩ : ByteArray) = T at *
        generalize (⟨U0.toArray⟩ : ByteArray) = U at *
        go_enter Try.func6, Try.ntmps6
        go_wp2_with fail
        refine (HA.out _ _ _ K.out.r0 nS.out.1).mono ?_
        rintro e w1 ⟨v, rfl, hm⟩
        obtain ⟨ox1, cx1, hv, nx1, K1⟩ := C.made5 K.out hm
        subst hv
        clear hm K
        go_wp2_with fail
        refine (H1.out _ _ _ K1.out.r0).mono ?_
        rintro e w2 ⟨rfl, hb⟩
        have K2 := Lib.hid (K1.out.on hb)
        clear hb K1
        go_wp2_with fail
        refine (HB.out _ _ _ K2.out.tl.tl.r0 nR.out.1).mono ?_
        rintro e w3 ⟨v, rfl, hm⟩
        obtain ⟨oy1, cy1, hv, ny1, K3⟩ := C.made5 K2.out hm
        subst hv
        clear hm K2
        go_wp2_with fail
        refine (H2.out _ _ _ K3.out.r0).mono ?_
        rintro e w4 ⟨rfl, hb⟩
        have K4 := Lib.hid (K3.out.on hb)
        clear hb K3
        go_wp2_with fail
        refine (HA.out _ _ _ K4.out.tl.tl.r0 nS.out.1).mono ?_
        rintro e w5 ⟨v, rfl, hm⟩
        obtain ⟨ox2, cx2, hv, nx2, K5⟩ := C.made5 K4.out hm
        subst hv
        clear hm K4
        go_wp2_with fail
        refine (HB.out _ _ _ K5.out.tl.tl.tl.tl.r0 nR.out.1).mono ?_
        rintro e w6 ⟨v, rfl, hm⟩
        obtain ⟨oy2, cy2, hv, ny2, K6⟩ := C.made5 K5.out hm
        subst hv
        clear hm K5
        go_wp2_with fail
        refine (H3.out _ _ _ _ _ K6.out.tl.r0 K6.out.r0 nx2.out.2 ny2.out.2).mono ?_
        rintro e w7 ⟨v, rfl, hm⟩
        obtain ⟨od, cd, hv, nd, K7⟩ := C.made5 K6.out hm
        subst hv
        clear hm K6
        have KB := Lib.hid K7.out.below
        clear K7
        go_wp2_with fail
        refine (HK.out _).mono ?_
        rintro e wk ⟨rfl, hb⟩
        have KC := Lib.hid (KB.out.trans (hb.mono KB.out.size))
        clear hb
        go_wp2
        go_ret
        exact ⟨rfl, KC.out⟩
    · obtain ⟨e1, e2⟩ := D.cmpE_not (show D.fit2 s.x r.x ≠ 0 by rw [he]; exact hg)
      rw [he] at e1
      rw [e1, e2] at H3
      have q : (D.fitE (D.resP z.data.toList s.x) r.x != 0) = true := by simpa using hg
      obtain ⟨oS, cS, S⟩ := s
      obtain ⟨oR, cR, R⟩ := r
      dsimp only at *
      clear hs hr hz hf hl hts htd he hg e1 e2
      generalize D.fitE (D.resP z.data.toList S) R = k at *
      generalize D.resP (D.resP z.data.toList S) R = U0 at *
      generalize (⟨(D.resP z.data.toList S).toArray⟩ : ByteArray) = T at *
      generalize (⟨U0.toArray⟩ : ByteArray) = U at *
      go_enter Try.func6, Try.ntmps6
      go_wp2_with fail
      refine (HA.out _ _ _ K.out.r0 nS.out.1).mono ?_
      rintro e w1 ⟨v, rfl, hm⟩
      obtain ⟨ox1, cx1, hv, nx1, K1⟩ := C.made5 K.out hm
      subst hv
      clear hm K
      go_wp2_with fail
      refine (H1.out _ _ _ K1.out.r0).mono ?_
      rintro e w2 ⟨rfl, hb⟩
      have K2 := Lib.hid (K1.out.on hb)
      clear hb K1
      go_wp2_with fail
      refine (HB.out _ _ _ K2.out.tl.tl.r0 nR.out.1).mono ?_
      rintro e w3 ⟨v, rfl, hm⟩
      obtain ⟨oy1, cy1, hv, ny1, K3⟩ := C.made5 K2.out hm
      subst hv
      clear hm K2
      go_wp2_with fail
      refine (H2.out _ _ _ K3.out.r0).mono ?_
      rintro e w4 ⟨rfl, hb⟩
      have K4 := Lib.hid (K3.out.on hb)
      clear hb K3
      go_wp2_with fail
      refine (HA.out _ _ _ K4.out.tl.tl.r0 nS.out.1).mono ?_
      rintro e w5 ⟨v, rfl, hm⟩
      obtain ⟨ox2, cx2, hv, nx2, K5⟩ := C.made5 K4.out hm
      subst hv
      clear hm K4
      go_wp2_with fail
      refine (HB.out _ _ _ K5.out.tl.tl.tl.tl.r0 nR.out.1).mono ?_
      rintro e w6 ⟨v, rfl, hm⟩
      obtain ⟨oy2, cy2, hv, ny2, K6⟩ := C.made5 K5.out hm
      subst hv
      clear hm K5
      go_wp2_with fail
      refine (H3.out _ _ _ _ _ K6.out.tl.r0 K6.out.r0 nx2.out.2 ny2.out.2).mono ?_
      rintro e w7 ⟨v, rfl, hm⟩
      obtain ⟨od, cd, hv, nd, K7⟩ := C.made5 K6.out hm
      subst hv
      clear hm K6
      have KB := Lib.hid K7.out.below
      clear K7
      go_wp2_with fail
      refine (HK.out _).mono ?_
      rintro e wk ⟨rfl, hb⟩
      have KC := Lib.hid (KB.out.trans (hb.mono KB.out.size))
      clear hb
      go_wp2
      go_ret
      exact ⟨rfl, KC.out⟩
  · have q1 : (D.fitE z.data.toList s.x != 0) = true := by simpa using hf
    obtain ⟨oS, cS, S⟩ := s
    obtain ⟨oR, cR, R⟩ := r
    dsimp only at *
    generalize (⟨(D.resP z.data.toList S).toArray⟩ : ByteArray) = T at *
    generalize D.fitE z.data.toList S = k at *
    clear hs hr hz hf
    go_enter Try.func6, Try.ntmps6
    go_wp2_with fail
    refine (HA.out _ _ _ K.out.r0 nS.out.1).mono ?_
    rintro e w1 ⟨v, rfl, hm⟩
    obtain ⟨ox1, cx1, hv, nx1, K1⟩ := C.made5 K.out hm
    subst hv
    clear hm K
    go_wp2_with fail
    refine (H1.out _ _ _ K1.out.r0).mono ?_
    rintro e w2 ⟨rfl, hb⟩
    have K2 := Lib.hid (K1.out.on hb)
    clear hb K1
    have KB := Lib.hid K2.out.below
    clear K2
    go_wp2_with fail
    refine (HK.out _).mono ?_
    rintro e wk ⟨rfl, hb⟩
    have KC := Lib.hid (KB.out.trans (hb.mono KB.out.size))
    clear hb
    go_wp2
    go_ret
    exact ⟨rfl, KC.out⟩
end Go.Proofs.Yteondigaklonpaa
