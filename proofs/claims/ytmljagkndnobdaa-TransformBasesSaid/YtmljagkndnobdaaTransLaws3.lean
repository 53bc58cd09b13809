/- The walk of TransformBases. -/
import Derived.Test.YtmljagkndnobdaaTransKept
import Derived.Test.YtmljagkndnobdaaTransLaws2
namespace Go.Proofs.Ytmljagkndnobdaa
open Go.RowKit

theorem L.hLone (x : List D.P) (hl : x.length ≤ maxLen) (k : Int) : Hid (∀ ao c W, D.Row W ao x → Calls Try.prog 33 #[.slice ao x.length c, .int .u8 k] W (fun e w' => e = .returned (.bool (T.loneL x k)) ∧ Below W.heap.size W w')) := fun ao c W h => (lone_any ao c x k W h hl).mono (by
  rintro e w' ⟨h1, rfl⟩
  exact ⟨h1, Below.refl _ _⟩)
theorem L.hRb1 (d y : List D.P) (hd : D.Bd d) (hy : D.Bd y) : Hid (∀ ao bo c e W, D.Row W ao d → D.Row W bo y → (bo = none → e = 0) → Calls Try.prog 22 #[.slice ao d.length c, .slice (some ⟨W.heap.size, 0, none⟩) 1 1] (W.alloc (.cells #[.slice bo y.length e] 22)) (fun r w' => ∃ v, r = .returned (.tuple #[v, .int .i64 (D.rebS d [y]).1]) ∧ D.Made (D.rebS d [y]).2 W v w')) := fun ao bo c e W h g ne => by
  have hok : ∀ s ∈ [(⟨bo, e, y⟩ : D.Src)], D.SrcOk W s := fun s hs => by
    rw [List.mem_singleton.1 hs]
    exact ⟨g, hy.1, hy.2, ne⟩
  have := rebase_any ao c d (some ⟨W.heap.size, 0, none⟩) 1 [(⟨bo, e, y⟩ : D.Src)] _ (h.below ((Below.refl _ _).alloc (Nat.le_refl _) _)) hd (by show 1 ≤ maxLen; decide) (D.rows_lit W _ 22 hok)
  refine Calls.mono this fun r w' hh => ?_
  obtain ⟨v, he, hm⟩ := hh
  exact ⟨v, he, C.made_trans ((Below.refl _ _).alloc (Nat.le_refl _) _) hm⟩
theorem L.hRb2 (d x y : List D.P) (hd : D.Bd d) (hx : D.Bd x) (hy : D.Bd y) : Hid (∀ ao lo bo c f e W, D.Row W ao d → D.Row W lo x → D.Row W bo y → (lo = none → f = 0) → (bo = none → e = 0) → Calls Try.prog 22 #[.slice ao d.length c, .slice (some ⟨W.heap.size, 0, none⟩) 2 2] (W.alloc (.cells #[.slice lo x.length f, .slice bo y.length e] 22)) (fun r w' => ∃ v, r = .returned (.tuple #[v, .int .i64 (D.rebS d [x, y]).1]) ∧ D.Made (D.rebS d [x, y]).2 W v w')) := fun ao lo bo c f e W h k g nf ne => by
  have hok : ∀ s ∈ [(⟨lo, f, x⟩ : D.Src), ⟨bo, e, y⟩], D.SrcOk W s := fun s hs => by
    simp only [List.mem_cons, List.not_mem_nil, or_false] at hs
    rcases hs with rfl | rfl
    · exact ⟨k, hx.1, hx.2, nf⟩
    · exact ⟨g, hy.1, hy.2, ne⟩
  have := rebase_any ao c d (some ⟨W.heap.size, 0, none⟩) 2 [(⟨lo, f, x⟩ : D.Src), ⟨bo, e, y⟩] _ (h.below ((Below.refl _ _).alloc (Nat.le_refl _) _)) hd (by show 2 ≤ maxLen; decide) (D.rows_lit W _ 22 hok)
  refine Calls.mono this fun r w' hh => ?_
  obtain ⟨v, he, hm⟩ := hh
  exact ⟨v, he, C.made_trans ((Below.refl _ _).alloc (Nat.le_refl _) _) hm⟩
set_option maxRecDepth 100000 in
set_option maxHeartbeats 4000000 in
theorem transformBases_walk (s r q : D.Src) (w : World) (hs : D.ArgOk w s) (hr : D.ArgOk w r) (hq : D.ArgOk w q) :
    Calls Try.prog 11 #[.slice s.a s.x.length s.c, .slice r.a r.x.length r.c, .slice q.a q.x.length q.c] w fun e w' => e = .returned (.bool true) ∧ Below w.heap.size w w' := by
  have HA := L.hOwn s.x hs.fit
  have HB := L.hOwn r.x hr.fit
  have HC := L.hOwn q.x hq.fit
  have HK := L.hKnown7
  have K : Hid (D.Kn w w [(s.a, s.x), (r.a, r.x), (q.a, q.x)]) := ⟨Below.refl _ _, fun x hx => by
    simp at hx
    rcases hx with rfl | rfl | rfl
    · exact hs.src.row
    · exact hr.src.row
    · exact hq.src.row⟩
  have nS : Hid ((s.a = none → s.c = 0) ∧ s.x.length ≤ s.c) := ⟨hs.src.nil, hs.cap⟩
  have nR : Hid ((r.a = none → r.c = 0) ∧ r.x.length ≤ r.c) := ⟨hr.src.nil, hr.cap⟩
  have nQ : Hid ((q.a = none → q.c = 0) ∧ q.x.length ≤ q.c) := ⟨hq.src.nil, hq.cap⟩
  have bS := L.bd_arg hs
  have bR := L.bd_arg hr
  have bQ := L.bd_arg hq
  have H1 := L.hRb2 s.x r.x q.x bS bR bQ
  have H2 := L.hRb1 s.x r.x bS bR
  obtain ⟨t1, t2⟩ := D.bases_two s.x r.x q.x
  by_cases h0 : (D.rebS s.x [r.x]).1 = 0
  · have e0 := t2 h0
    have H3 := L.hRb1 (D.rebS s.x [r.x]).2 q.x (T.reb_bd _ _) bQ
    rw [e0] at H3
    rw [h0] at H2
    have S1 := L.hSame (D.rebS s.x [r.x, q.x]).2 (T.reb_bd _ _).1
    have H4 := L.hCmp r.x q.x bR bQ
    by_cases h1 : (D.rebS s.x [r.x, q.x]).1 = 0
    · by_cases h2 : D.cmpE r.x q.x = 0
      · have c := D.cmp_of h2
        have hd := (D.rebS_ok s.x _ h0).2.2
        have N1 := L.hLone s.x bS.1 2
        have N2 := L.hLone s.x bS.1 3
        have N3 := L.hLone r.x bR.1 2
        have N4 := L.hLone q.x bQ.1 3
        have H5 := L.hRb1 s.x (D.cmpP r.x q.x) bS (L.cmp_bd _ _)
        have hb : T.loneL s.x 2 = true ∨ (T.loneL s.x 3 = true ∧ (T.loneL r.x 2 = true ∨ T.loneL q.x 3 = true)) → D.rebS s.x [D.cmpP r.x q.x] = D.rebS s.x [r.x, q.x] := fun hc => by
          refine D.bases7 h1 h2 ?_
          rw [T.lone_I hd, T.lone_D hd, T.lone_I c.fit.a, T.lone_D c.fit.b] at hc
          simpa using hc
        have Hb := Lib.hid hb
        rw [h1] at H1 H3
        rw [h2] at H4
        have H5' : Hid ((T.loneL s.x 2 = true ∨ (T.loneL s.x 3 = true ∧ (T.loneL r.x 2 = true ∨ T.loneL q.x 3 = true))) → ∀ ao bo c e W, D.Row W ao s.x → D.Row W bo (D.cmpP r.x q.x) → (bo = none → e = 0) → Calls Try.prog 22 #[.slice ao s.x.length c, .slice (some ⟨W.heap.size, 0, none⟩) 1 1] (W.alloc (.cells #[.slice bo (D.cmpP r.x q.x).length e] 22)) (fun r' w' => ∃ v, r' = .returned (.tuple #[v, .int .i64 0]) ∧ D.Made (D.rebS s.x [r.x, q.x]).2 W v w')) := fun hc => by
          have := H5.out
          rw [Hb.out hc, h1] at this
          exact this
        clear h0 h1 h2 e0 t1 t2 c hd hb Hb H5 bS bR bQ
        obtain ⟨oS, cS, S⟩ := s
        obtain ⟨oR, cR, R⟩ := r
        obtain ⟨oQ, cQ, Q⟩ := q
        dsimp only at *
        generalize (D.rebS S [R, Q]).2 = E2 at *
        generalize (D.rebS S [R]).2 = E1 at *
        generalize D.cmpP R Q = CP at *
        clear hs hr hq
        generalize T.loneL S 2 = dI at *
        generalize T.loneL S 3 = dD at *
        generalize T.loneL R 2 = xI at *
        generalize T.loneL Q 3 = yD at *
        cases dI with
        | true =>
          have H5 := Lib.hid (H5'.out (.inl rfl))
          clear H5'
          go_enter Try.func11, Try.ntmps11
          go_wp2_with fail
          refine (HA.out _ _ _ K.out.r0 nS.out.1).mono ?_
          rintro e w1 ⟨v, rfl, hm⟩
          obtain ⟨od0, cd0, hv, nd0, K1⟩ := L.made5 K.out hm
          subst hv
          clear hm K
          go_wp2_with fail
          refine (HB.out _ _ _ K1.out.tl.tl.r0 nR.out.1).mono ?_
          rintro e w2 ⟨v, rfl, hm⟩
          obtain ⟨ox0, cx0, hv, nx0, K2⟩ := L.made5 K1.out hm
          subst hv
          clear hm K1
          go_wp2_with fail
          refine (HC.out _ _ _ K2.out.tl.tl.tl.tl.r0 nQ.out.1).mono ?_
          rintro e w3 ⟨v, rfl, hm⟩
          obtain ⟨oy0, cy0, hv, ny0, K3⟩ := L.made5 K2.out hm
          subst hv
          clear hm K2
          go_wp2_with fail
          refine (H1.out _ _ _ _ _ _ _ K3.out.tl.tl.r0 K3.out.tl.r0 K3.out.r0 nx0.out.1 ny0.out.1).mono ?_
          rintro e w4 ⟨v, rfl, hm⟩
          obtain ⟨oa, ca, hv, na, K4⟩ := L.made5 K3.out hm
          subst hv
          clear hm K3
          go_wp2_with fail
          refine (HA.out _ _ _ K4.out.tl.tl.tl.tl.r0 nS.out.1).mono ?_
          rintro e w5 ⟨v, rfl, hm⟩
          obtain ⟨od1, cd1, hv, nd1, K5⟩ := L.made5 K4.out hm
          subst hv
          clear hm K4
          go_wp2_with fail
          refine (HB.out _ _ _ K5.out.tl.tl.tl.tl.tl.tl.r0 nR.out.1).mono ?_
          rintro e w6 ⟨v, rfl, hm⟩
          obtain ⟨ox1, cx1, hv, nx1, K6⟩ := L.made5 K5.out hm
          subst hv
          clear hm K5
          go_wp2_with fail
          refine (H2.out _ _ _ _ _ K6.out.tl.r0 K6.out.r0 nx1.out.1).mono ?_
          rintro e w7 ⟨v, rfl, hm⟩
          obtain ⟨ob, cb, hv, nb, K7⟩ := L.made5 K6.out hm
          subst hv
          clear hm K6
          go_wp2_with fail
          refine (HC.out _ _ _ K7.out.tl.tl.tl.tl.tl.tl.tl.tl.tl.r0 nQ.out.1).mono ?_
          rintro e w8 ⟨v, rfl, hm⟩
          obtain ⟨oy1, cy1, hv, ny1, K8⟩ := L.made5 K7.out hm
          subst hv
          clear hm K7
          go_wp2_with fail
          refine (H3.out _ _ _ _ _ K8.out.tl.r0 K8.out.r0 ny1.out.1).mono ?_
          rintro e w9 ⟨v, rfl, hm⟩
          obtain ⟨oc, cc, hv, nc, K9⟩ := L.made5 K8.out hm
          subst hv
          clear hm K8
          go_wp2_with fail
          refine (S1.out _ _ _ _ _ K9.out.tl.tl.tl.tl.tl.r0 K9.out.r0).mono ?_
          rintro e w10 ⟨rfl, hb⟩
          have K10 := Lib.hid (K9.out.on hb)
          clear hb K9
          go_wp2_with fail
          refine (HB.out _ _ _ K10.out.tl.tl.tl.tl.tl.tl.tl.tl.tl.tl.r0 nR.out.1).mono ?_
          rintro e w11 ⟨v, rfl, hm⟩
          obtain ⟨ox2, cx2, hv, nx2, K11⟩ := L.made5 K10.out hm
          subst hv
          clear hm K10
          go_wp2_with fail
          refine (HC.out _ _ _ K11.out.tl.tl.tl.tl.tl.tl.tl.tl.tl.tl.tl.tl.r0 nQ.out.1).mono ?_
          rintro e w12 ⟨v, rfl, hm⟩
          obtain ⟨oy2, cy2, hv, ny2, K12⟩ := L.made5 K11.out hm
          subst hv
          clear hm K11
          go_wp2_with fail
          refine (H4.out _ _ _ _ _ K12.out.tl.r0 K12.out.r0 nx2.out.2 ny2.out.2).mono ?_
          rintro e w13 ⟨v, rfl, hm⟩
          obtain ⟨oz, cz, hv, nz, K13⟩ := L.made5 K12.out hm
          subst hv
          clear hm K12
          go_wp2_with fail
          refine (N1.out _ _ _ K13.out.tl.tl.tl.tl.tl.tl.tl.tl.tl.tl.tl.tl.r0).mono ?_
          rintro e w14 ⟨rfl, hb⟩
          have K14 := Lib.hid (K13.out.on hb)
          clear hb K13
          go_wp2_with fail
          refine (HA.out _ _ _ K14.out.tl.tl.tl.tl.tl.tl.tl.tl.tl.tl.tl.tl.r0 nS.out.1).mono ?_
          rintro e w15 ⟨v, rfl, hm⟩
          obtain ⟨od2, cd2, hv, nd2, K15⟩ := L.made5 K14.out hm
          subst hv
          clear hm K14
          go_wp2_with fail
          refine (H5.out _ _ _ _ _ K15.out.r0 K15.out.tl.r0 nz.out.1).mono ?_
          rintro e w16 ⟨v, rfl, hm⟩
          obtain ⟨ow, cw, hv, nw, K16⟩ := L.made5 K15.out hm
          subst hv
          clear hm K15
          go_wp2_with fail
          refine (S1.out _ _ _ _ _ K16.out.r0 K16.out.tl.tl.tl.tl.tl.tl.tl.tl.tl.tl.r0).mono ?_
          rintro e w17 ⟨rfl, hb⟩
          have K17 := Lib.hid (K16.out.on hb)
          clear hb K16
          have KB := Lib.hid K17.out.below
          clear K17
          go_wp2_with fail
          refine (HK.out _).mono ?_
          rintro e wk ⟨rfl, hb⟩
          have KC := Lib.hid (KB.out.trans (hb.mono KB.out.size))
          clear hb
          go_wp2
          go_ret
          exact ⟨rfl, KC.out⟩
        | false =>
          cases dD with
          | false =>
            clear H5'
            go_enter Try.func11, Try.ntmps11
            go_wp2_with fail
            refine (HA.out _ _ _ K.out.r0 nS.out.1).mono ?_
            rintro e w1 ⟨v, rfl, hm⟩
            obtain ⟨od0, cd0, hv, nd0, K1⟩ := L.made5 K.out hm
            subst hv
            clear hm K
            go_wp2_with fail
            refine (HB.out _ _ _ K1.out.tl.tl.r0 nR.out.1).mono ?_
            rintro e w2 ⟨v, rfl, hm⟩
            obtain ⟨ox0, cx0, hv, nx0, K2⟩ := L.made5 K1.out hm
            subst hv
            clear hm K1
            go_wp2_with fail
            refine (HC.out _ _ _ K2.out.tl.tl.tl.tl.r0 nQ.out.1).mono ?_
            rintro e w3 ⟨v, rfl, hm⟩
            obtain ⟨oy0, cy0, hv, ny0, K3⟩ := L.made5 K2.out hm
            subst hv
            clear hm K2
            go_wp2_with fail
            refine (H1.out _ _ _ _ _ _ _ K3.out.tl.tl.r0 K3.out.tl.r0 K3.out.r0 nx0.out.1 ny0.out.1).mono ?_
            rintro e w4 ⟨v, rfl, hm⟩
            obtain ⟨oa, ca, hv, na, K4⟩ := L.made5 K3.out hm
            subst hv
            clear hm K3
            go_wp2_with fail
            refine (HA.out _ _ _ K4.out.tl.tl.tl.tl.r0 nS.out.1).mono ?_
            rintro e w5 ⟨v, rfl, hm⟩
            obtain ⟨od1, cd1, hv, nd1, K5⟩ := L.made5 K4.out hm
            subst hv
            clear hm K4
            go_wp2_with fail
            refine (HB.out _ _ _ K5.out.tl.tl.tl.tl.tl.tl.r0 nR.out.1).mono ?_
            rintro e w6 ⟨v, rfl, hm⟩
            obtain ⟨ox1, cx1, hv, nx1, K6⟩ := L.made5 K5.out hm
            subst hv
            clear hm K5
            go_wp2_with fail
            refine (H2.out _ _ _ _ _ K6.out.tl.r0 K6.out.r0 nx1.out.1).mono ?_
            rintro e w7 ⟨v, rfl, hm⟩
            obtain ⟨ob, cb, hv, nb, K7⟩ := L.made5 K6.out hm
            subst hv
            clear hm K6
            go_wp2_with fail
            refine (HC.out _ _ _ K7.out.tl.tl.tl.tl.tl.tl.tl.tl.tl.r0 nQ.out.1).mono ?_
            rintro e w8 ⟨v, rfl, hm⟩
            obtain ⟨oy1, cy1, hv, ny1, K8⟩ := L.made5 K7.out hm
            subst hv
            clear hm K7
            go_wp2_with fail
            refine (H3.out _ _ _ _ _ K8.out.tl.r0 K8.out.r0 ny1.out.1).mono ?_
            rintro e w9 ⟨v, rfl, hm⟩
            obtain ⟨oc, cc, hv, nc, K9⟩ := L.made5 K8.out hm
            subst hv
            clear hm K8
            go_wp2_with fail
            refine (S1.out _ _ _ _ _ K9.out.tl.tl.tl.tl.tl.r0 K9.out.r0).mono ?_
            rintro e w10 ⟨rfl, hb⟩
            have K10 := Lib.hid (K9.out.on hb)
            clear hb K9
            go_wp2_with fail
            refine (HB.out _ _ _ K10.out.tl.tl.tl.tl.tl.tl.tl.tl.tl.tl.r0 nR.out.1).mono ?_
            rintro e w11 ⟨v, rfl, hm⟩
            obtain ⟨ox2, cx2, hv, nx2, K11⟩ := L.made5 K10.out hm
            subst hv
            clear hm K10
            go_wp2_with fail
            refine (HC.out _ _ _ K11.out.tl.tl.tl.tl.tl.tl.tl.tl.tl.tl.tl.tl.r0 nQ.out.1).mono ?_
            rintro e w12 ⟨v, rfl, hm⟩
            obtain ⟨oy2, cy2, hv, ny2, K12⟩ := L.made5 K11.out hm
            subst hv
            clear hm K11
            go_wp2_with fail
            refine (H4.out _ _ _ _ _ K12.out.tl.r0 K12.out.r0 nx2.out.2 ny2.out.2).mono ?_
            rintro e w13 ⟨v, rfl, hm⟩
            obtain ⟨oz, cz, hv, nz, K13⟩ := L.made5 K12.out hm
            subst hv
            clear hm K12
            go_wp2_with fail
            refine (N1.out _ _ _ K13.out.tl.tl.tl.tl.tl.tl.tl.tl.tl.tl.tl.tl.r0).mono ?_
            rintro e w14 ⟨rfl, hb⟩
            have K14 := Lib.hid (K13.out.on hb)
            clear hb K13
            go_wp2_with fail
            refine (N2.out _ _ _ K14.out.tl.tl.tl.tl.tl.tl.tl.tl.tl.tl.tl.tl.r0).mono ?_
            rintro e w15 ⟨rfl, hb⟩
            have K15 := Lib.hid (K14.out.on hb)
            clear hb K14
            have KB := Lib.hid K15.out.below
            clear K15
            go_wp2_with fail
            refine (HK.out _).mono ?_
            rintro e wk ⟨rfl, hb⟩
            have KC := Lib.hid (KB.out.trans (hb.mono KB.out.size))
            clear hb
            go_wp2
            go_ret
            exact ⟨rfl, KC.out⟩
          | true =>
            cases xI with
            | true =>
              have H5 := Lib.hid (H5'.out (.inr ⟨rfl, .inl rfl⟩))
              clear H5'
              go_enter Try.func11, Try.ntmps11
              go_wp2_with fail
              refine (HA.out _ _ _ K.out.r0 nS.out.1).mono ?_
              rintro e w1 ⟨v, rfl, hm⟩
              obtain ⟨od0, cd0, hv, nd0, K1⟩ := L.made5 K.out hm
              subst hv
              clear hm K
              go_wp2_with fail
              refine (HB.out _ _ _ K1.out.tl.tl.r0 nR.out.1).mono ?_
              rintro e w2 ⟨v, rfl, hm⟩
              obtain ⟨ox0, cx0, hv, nx0, K2⟩ := L.made5 K1.out hm
              subst hv
              clear hm K1
              go_wp2_with fail
              refine (HC.out _ _ _ K2.out.tl.tl.tl.tl.r0 nQ.out.1).mono ?_
              rintro e w3 ⟨v, rfl, hm⟩
              obtain ⟨oy0, cy0, hv, ny0, K3⟩ := L.made5 K2.out hm
              subst hv
              clear hm K2
              go_wp2_with fail
              refine (H1.out _ _ _ _ _ _ _ K3.out.tl.tl.r0 K3.out.tl.r0 K3.out.r0 nx0.out.1 ny0.out.1).mono ?_
              rintro e w4 ⟨v, rfl, hm⟩
              obtain ⟨oa, ca, hv, na, K4⟩ := L.made5 K3.out hm
              subst hv
              clear hm K3
              go_wp2_with fail
              refine (HA.out _ _ _ K4.out.tl.tl.tl.tl.r0 nS.out.1).mono ?_
              rintro e w5 ⟨v, rfl, hm⟩
              obtain ⟨od1, cd1, hv, nd1, K5⟩ := L.made5 K4.out hm
              subst hv
              clear hm K4
              go_wp2_with fail
              refine (HB.out _ _ _ K5.out.tl.tl.tl.tl.tl.tl.r0 nR.out.1).mono ?_
              rintro e w6 ⟨v, rfl, hm⟩
              obtain ⟨ox1, cx1, hv, nx1, K6⟩ := L.made5 K5.out hm
              subst hv
              clear hm K5
              go_wp2_with fail
              refine (H2.out _ _ _ _ _ K6.out.tl.r0 K6.out.r0 nx1.out.1).mono ?_
              rintro e w7 ⟨v, rfl, hm⟩
              obtain ⟨ob, cb, hv, nb, K7⟩ := L.made5 K6.out hm
              subst hv
              clear hm K6
              go_wp2_with fail
              refine (HC.out _ _ _ K7.out.tl.tl.tl.tl.tl.tl.tl.tl.tl.r0 nQ.out.1).mono ?_
              rintro e w8 ⟨v, rfl, hm⟩
              obtain ⟨oy1, cy1, hv, ny1, K8⟩ := L.made5 K7.out hm
              subst hv
              clear hm K7
              go_wp2_with fail
              refine (H3.out _ _ _ _ _ K8.out.tl.r0 K8.out.r0 ny1.out.1).mono ?_
              rintro e w9 ⟨v, rfl, hm⟩
              obtain ⟨oc, cc, hv, nc, K9⟩ := L.made5 K8.out hm
              subst hv
              clear hm K8
              go_wp2_with fail
              refine (S1.out _ _ _ _ _ K9.out.tl.tl.tl.tl.tl.r0 K9.out.r0).mono ?_
              rintro e w10 ⟨rfl, hb⟩
              have K10 := Lib.hid (K9.out.on hb)
              clear hb K9
              go_wp2_with fail
              refine (HB.out _ _ _ K10.out.tl.tl.tl.tl.tl.tl.tl.tl.tl.tl.r0 nR.out.1).mono ?_
              rintro e w11 ⟨v, rfl, hm⟩
              obtain ⟨ox2, cx2, hv, nx2, K11⟩ := L.made5 K10.out hm
              subst hv
              clear hm K10
              go_wp2_with fail
              refine (HC.out _ _ _ K11.out.tl.tl.tl.tl.tl.tl.tl.tl.tl.tl.tl.tl.r0 nQ.out.1).mono ?_
              rintro e w12 ⟨v, rfl, hm⟩
              obtain ⟨oy2, cy2, hv, ny2, K12⟩ := L.made5 K11.out hm
              subst hv
              clear hm K11
              go_wp2_with fail
              refine (H4.out _ _ _ _ _ K12.out.tl.r0 K12.out.r0 nx2.out.2 ny2.out.2).mono ?_
              rintro e w13 ⟨v, rfl, hm⟩
              obtain ⟨oz, cz, hv, nz, K13⟩ := L.made5 K12.out hm
              subst hv
              clear hm K12
              go_wp2_with fail
              refine (N1.out _ _ _ K13.out.tl.tl.tl.tl.tl.tl.tl.tl.tl.tl.tl.tl.r0).mono ?_
              rintro e w14 ⟨rfl, hb⟩
              have K14 := Lib.hid (K13.out.on hb)
              clear hb K13
              go_wp2_with fail
              refine (N2.out _ _ _ K14.out.tl.tl.tl.tl.tl.tl.tl.tl.tl.tl.tl.tl.r0).mono ?_
              rintro e w15 ⟨rfl, hb⟩
              have K15 := Lib.hid (K14.out.on hb)
              clear hb K14
              go_wp2_with fail
              refine (N3.out _ _ _ K15.out.tl.tl.tl.tl.tl.tl.tl.tl.tl.tl.tl.tl.tl.r0).mono ?_
              rintro e w16 ⟨rfl, hb⟩
              have K16 := Lib.hid (K15.out.on hb)
              clear hb K15
              go_wp2_with fail
              refine (HA.out _ _ _ K16.out.tl.tl.tl.tl.tl.tl.tl.tl.tl.tl.tl.tl.r0 nS.out.1).mono ?_
              rintro e w17 ⟨v, rfl, hm⟩
              obtain ⟨od2, cd2, hv, nd2, K17⟩ := L.made5 K16.out hm
              subst hv
              clear hm K16
              go_wp2_with fail
              refine (H5.out _ _ _ _ _ K17.out.r0 K17.out.tl.r0 nz.out.1).mono ?_
              rintro e w18 ⟨v, rfl, hm⟩
              obtain ⟨ow, cw, hv, nw, K18⟩ := L.made5 K17.out hm
              subst hv
              clear hm K17
              go_wp2_with fail
              refine (S1.out _ _ _ _ _ K18.out.r0 K18.out.tl.tl.tl.tl.tl.tl.tl.tl.tl.tl.r0).mono ?_
              rintro e w19 ⟨rfl, hb⟩
              have K19 := Lib.hid (K18.out.on hb)
              clear hb K18
              have KB := Lib.hid K19.out.below
              clear K19
              go_wp2_with fail
              refine (HK.out _).mono ?_
              rintro e wk ⟨rfl, hb⟩
              have KC := Lib.hid (KB.out.trans (hb.mono KB.out.size))
              clear hb
              go_wp2
              go_ret
              exact ⟨rfl, KC.out⟩
            | false =>
              cases yD with
              | true =>
                have H5 := Lib.hid (H5'.out (.inr ⟨rfl, .inr rfl⟩))
                clear H5'
                go_enter Try.func11, Try.ntmps11
                go_wp2_with fail
                refine (HA.out _ _ _ K.out.r0 nS.out.1).mono ?_
                rintro e w1 ⟨v, rfl, hm⟩
                obtain ⟨od0, cd0, hv, nd0, K1⟩ := L.made5 K.out hm
                subst hv
                clear hm K
                go_wp2_with fail
                refine (HB.out _ _ _ K1.out.tl.tl.r0 nR.out.1).mono ?_
                rintro e w2 ⟨v, rfl, hm⟩
                obtain ⟨ox0, cx0, hv, nx0, K2⟩ := L.made5 K1.out hm
                subst hv
                clear hm K1
                go_wp2_with fail
                refine (HC.out _ _ _ K2.out.tl.tl.tl.tl.r0 nQ.out.1).mono ?_
                rintro e w3 ⟨v, rfl, hm⟩
                obtain ⟨oy0, cy0, hv, ny0, K3⟩ := L.made5 K2.out hm
                subst hv
                clear hm K2
                go_wp2_with fail
                refine (H1.out _ _ _ _ _ _ _ K3.out.tl.tl.r0 K3.out.tl.r0 K3.out.r0 nx0.out.1 ny0.out.1).mono ?_
                rintro e w4 ⟨v, rfl, hm⟩
                obtain ⟨oa, ca, hv, na, K4⟩ := L.made5 K3.out hm
                subst hv
                clear hm K3
                go_wp2_with fail
                refine (HA.out _ _ _ K4.out.tl.tl.tl.tl.r0 nS.out.1).mono ?_
                rintro e w5 ⟨v, rfl, hm⟩
                obtain ⟨od1, cd1, hv, nd1, K5⟩ := L.made5 K4.out hm
                subst hv
                clear hm K4
                go_wp2_with fail
                refine (HB.out _ _ _ K5.out.tl.tl.tl.tl.tl.tl.r0 nR.out.1).mono ?_
                rintro e w6 ⟨v, rfl, hm⟩
                obtain ⟨ox1, cx1, hv, nx1, K6⟩ := L.made5 K5.out hm
                subst hv
                clear hm K5
                go_wp2_with fail
                refine (H2.out _ _ _ _ _ K6.out.tl.r0 K6.out.r0 nx1.out.1).mono ?_
                rintro e w7 ⟨v, rfl, hm⟩
                obtain ⟨ob, cb, hv, nb, K7⟩ := L.made5 K6.out hm
                subst hv
                clear hm K6
                go_wp2_with fail
                refine (HC.out _ _ _ K7.out.tl.tl.tl.tl.tl.tl.tl.tl.tl.r0 nQ.out.1).mono ?_
                rintro e w8 ⟨v, rfl, hm⟩
                obtain ⟨oy1, cy1, hv, ny1, K8⟩ := L.made5 K7.out hm
                subst hv
                clear hm K7
                go_wp2_with fail
                refine (H3.out _ _ _ _ _ K8.out.tl.r0 K8.out.r0 ny1.out.1).mono ?_
                rintro e w9 ⟨v, rfl, hm⟩
                obtain ⟨oc, cc, hv, nc, K9⟩ := L.made5 K8.out hm
                subst hv
                clear hm K8
                go_wp2_with fail
                refine (S1.out _ _ _ _ _ K9.out.tl.tl.tl.tl.tl.r0 K9.out.r0).mono ?_
                rintro e w10 ⟨rfl, hb⟩
                have K10 := Lib.hid (K9.out.on hb)
                clear hb K9
                go_wp2_with fail
                refine (HB.out _ _ _ K10.out.tl.tl.tl.tl.tl.tl.tl.tl.tl.tl.r0 nR.out.1).mono ?_
                rintro e w11 ⟨v, rfl, hm⟩
                obtain ⟨ox2, cx2, hv, nx2, K11⟩ := L.made5 K10.out hm
                subst hv
                clear hm K10
                go_wp2_with fail
                refine (HC.out _ _ _ K11.out.tl.tl.tl.tl.tl.tl.tl.tl.tl.tl.tl.tl.r0 nQ.out.1).mono ?_
                rintro e w12 ⟨v, rfl, hm⟩
                obtain ⟨oy2, cy2, hv, ny2, K12⟩ := L.made5 K11.out hm
                subst hv
                clear hm K11
                go_wp2_with fail
                refine (H4.out _ _ _ _ _ K12.out.tl.r0 K12.out.r0 nx2.out.2 ny2.out.2).mono ?_
                rintro e w13 ⟨v, rfl, hm⟩
                obtain ⟨oz, cz, hv, nz, K13⟩ := L.made5 K12.out hm
                subst hv
                clear hm K12
                go_wp2_with fail
                refine (N1.out _ _ _ K13.out.tl.tl.tl.tl.tl.tl.tl.tl.tl.tl.tl.tl.r0).mono ?_
                rintro e w14 ⟨rfl, hb⟩
                have K14 := Lib.hid (K13.out.on hb)
                clear hb K13
                go_wp2_with fail
                refine (N2.out _ _ _ K14.out.tl.tl.tl.tl.tl.tl.tl.tl.tl.tl.tl.tl.r0).mono ?_
                rintro e w15 ⟨rfl, hb⟩
                have K15 := Lib.hid (K14.out.on hb)
                clear hb K14
                go_wp2_with fail
                refine (N3.out _ _ _ K15.out.tl.tl.tl.tl.tl.tl.tl.tl.tl.tl.tl.tl.tl.r0).mono ?_
                rintro e w16 ⟨rfl, hb⟩
                have K16 := Lib.hid (K15.out.on hb)
                clear hb K15
                go_wp2_with fail
                refine (N4.out _ _ _ K16.out.tl.tl.tl.tl.tl.tl.tl.tl.tl.tl.tl.tl.tl.tl.r0).mono ?_
                rintro e w17 ⟨rfl, hb⟩
                have K17 := Lib.hid (K16.out.on hb)
                clear hb K16
                go_wp2_with fail
                refine (HA.out _ _ _ K17.out.tl.tl.tl.tl.tl.tl.tl.tl.tl.tl.tl.tl.r0 nS.out.1).mono ?_
                rintro e w18 ⟨v, rfl, hm⟩
                obtain ⟨od2, cd2, hv, nd2, K18⟩ := L.made5 K17.out hm
                subst hv
                clear hm K17
                go_wp2_with fail
                refine (H5.out _ _ _ _ _ K18.out.r0 K18.out.tl.r0 nz.out.1).mono ?_
                rintro e w19 ⟨v, rfl, hm⟩
                obtain ⟨ow, cw, hv, nw, K19⟩ := L.made5 K18.out hm
                subst hv
                clear hm K18
                go_wp2_with fail
                refine (S1.out _ _ _ _ _ K19.out.r0 K19.out.tl.tl.tl.tl.tl.tl.tl.tl.tl.tl.r0).mono ?_
                rintro e w20 ⟨rfl, hb⟩
                have K20 := Lib.hid (K19.out.on hb)
                clear hb K19
                have KB := Lib.hid K20.out.below
                clear K20
                go_wp2_with fail
                refine (HK.out _).mono ?_
                rintro e wk ⟨rfl, hb⟩
                have KC := Lib.hid (KB.out.trans (hb.mono KB.out.size))
                clear hb
                go_wp2
                go_ret
                exact ⟨rfl, KC.out⟩
              | false =>
                clear H5'
                go_enter Try.func11, Try.ntmps11
                go_wp2_with fail
                refine (HA.out _ _ _ K.out.r0 nS.out.1).mono ?_
                rintro e w1 ⟨v, rfl, hm⟩
                obtain ⟨od0, cd0, hv, nd0, K1⟩ := L.made5 K.out hm
                subst hv
                clear hm K
                go_wp2_with fail
                refine (HB.out _ _ _ K1.out.tl.tl.r0 nR.out.1).mono ?_
                rintro e w2 ⟨v, rfl, hm⟩
                obtain ⟨ox0, cx0, hv, nx0, K2⟩ := L.made5 K1.out hm
                subst hv
                clear hm K1
                go_wp2_with fail
                refine (HC.out _ _ _ K2.out.tl.tl.tl.tl.r0 nQ.out.1).mono ?_
                rintro e w3 ⟨v, rfl, hm⟩
                obtain ⟨oy0, cy0, hv, ny0, K3⟩ := L.made5 K2.out hm
                subst hv
                clear hm K2
                go_wp2_with fail
                refine (H1.out _ _ _ _ _ _ _ K3.out.tl.tl.r0 K3.out.tl.r0 K3.out.r0 nx0.out.1 ny0.out.1).mono ?_
                rintro e w4 ⟨v, rfl, hm⟩
                obtain ⟨oa, ca, hv, na, K4⟩ := L.made5 K3.out hm
                subst hv
                clear hm K3
                go_wp2_with fail
                refine (HA.out _ _ _ K4.out.tl.tl.tl.tl.r0 nS.out.1).mono ?_
                rintro e w5 ⟨v, rfl, hm⟩
                obtain ⟨od1, cd1, hv, nd1, K5⟩ := L.made5 K4.out hm
                subst hv
                clear hm K4
                go_wp2_with fail
                refine (HB.out _ _ _ K5.out.tl.tl.tl.tl.tl.tl.r0 nR.out.1).mono ?_
                rintro e w6 ⟨v, rfl, hm⟩
                obtain ⟨ox1, cx1, hv, nx1, K6⟩ := L.made5 K5.out hm
                subst hv
                clear hm K5
                go_wp2_with fail
                refine (H2.out _ _ _ _ _ K6.out.tl.r0 K6.out.r0 nx1.out.1).mono ?_
                rintro e w7 ⟨v, rfl, hm⟩
                obtain ⟨ob, cb, hv, nb, K7⟩ := L.made5 K6.out hm
                subst hv
                clear hm K6
                go_wp2_with fail
                refine (HC.out _ _ _ K7.out.tl.tl.tl.tl.tl.tl.tl.tl.tl.r0 nQ.out.1).mono ?_
                rintro e w8 ⟨v, rfl, hm⟩
                obtain ⟨oy1, cy1, hv, ny1, K8⟩ := L.made5 K7.out hm
                subst hv
                clear hm K7
                go_wp2_with fail
                refine (H3.out _ _ _ _ _ K8.out.tl.r0 K8.out.r0 ny1.out.1).mono ?_
                rintro e w9 ⟨v, rfl, hm⟩
                obtain ⟨oc, cc, hv, nc, K9⟩ := L.made5 K8.out hm
                subst hv
                clear hm K8
                go_wp2_with fail
                refine (S1.out _ _ _ _ _ K9.out.tl.tl.tl.tl.tl.r0 K9.out.r0).mono ?_
                rintro e w10 ⟨rfl, hb⟩
                have K10 := Lib.hid (K9.out.on hb)
                clear hb K9
                go_wp2_with fail
                refine (HB.out _ _ _ K10.out.tl.tl.tl.tl.tl.tl.tl.tl.tl.tl.r0 nR.out.1).mono ?_
                rintro e w11 ⟨v, rfl, hm⟩
                obtain ⟨ox2, cx2, hv, nx2, K11⟩ := L.made5 K10.out hm
                subst hv
                clear hm K10
                go_wp2_with fail
                refine (HC.out _ _ _ K11.out.tl.tl.tl.tl.tl.tl.tl.tl.tl.tl.tl.tl.r0 nQ.out.1).mono ?_
                rintro e w12 ⟨v, rfl, hm⟩
                obtain ⟨oy2, cy2, hv, ny2, K12⟩ := L.made5 K11.out hm
                subst hv
                clear hm K11
                go_wp2_with fail
                refine (H4.out _ _ _ _ _ K12.out.tl.r0 K12.out.r0 nx2.out.2 ny2.out.2).mono ?_
                rintro e w13 ⟨v, rfl, hm⟩
                obtain ⟨oz, cz, hv, nz, K13⟩ := L.made5 K12.out hm
                subst hv
                clear hm K12
                go_wp2_with fail
                refine (N1.out _ _ _ K13.out.tl.tl.tl.tl.tl.tl.tl.tl.tl.tl.tl.tl.r0).mono ?_
                rintro e w14 ⟨rfl, hb⟩
                have K14 := Lib.hid (K13.out.on hb)
                clear hb K13
                go_wp2_with fail
                refine (N2.out _ _ _ K14.out.tl.tl.tl.tl.tl.tl.tl.tl.tl.tl.tl.tl.r0).mono ?_
                rintro e w15 ⟨rfl, hb⟩
                have K15 := Lib.hid (K14.out.on hb)
                clear hb K14
                go_wp2_with fail
                refine (N3.out _ _ _ K15.out.tl.tl.tl.tl.tl.tl.tl.tl.tl.tl.tl.tl.tl.r0).mono ?_
                rintro e w16 ⟨rfl, hb⟩
                have K16 := Lib.hid (K15.out.on hb)
                clear hb K15
                go_wp2_with fail
                refine (N4.out _ _ _ K16.out.tl.tl.tl.tl.tl.tl.tl.tl.tl.tl.tl.tl.tl.tl.r0).mono ?_
                rintro e w17 ⟨rfl, hb⟩
                have K17 := Lib.hid (K16.out.on hb)
                clear hb K16
                have KB := Lib.hid K17.out.below
                clear K17
                go_wp2_with fail
                refine (HK.out _).mono ?_
                rintro e wk ⟨rfl, hb⟩
                have KC := Lib.hid (KB.out.trans (hb.mono KB.out.size))
                clear hb
                go_wp2
                go_ret
                exact ⟨rfl, KC.out⟩
      · have q9 : (D.cmpE r.x q.x != 0) = true := by simpa using h2
        rw [h1] at H1 H3
        clear h0 h1 h2 e0 t1 t2 bS bR bQ
        obtain ⟨oS, cS, S⟩ := s
        obtain ⟨oR, cR, R⟩ := r
        obtain ⟨oQ, cQ, Q⟩ := q
        dsimp only at *
        generalize (D.rebS S [R, Q]).2 = E2 at *
        generalize (D.rebS S [R]).2 = E1 at *
        generalize D.cmpP R Q = CP at *
        clear hs hr hq
        generalize D.cmpE R Q = k at *
        go_enter Try.func11, Try.ntmps11
        go_wp2_with fail
        refine (HA.out _ _ _ K.out.r0 nS.out.1).mono ?_
        rintro e w1 ⟨v, rfl, hm⟩
        obtain ⟨od0, cd0, hv, nd0, K1⟩ := L.made5 K.out hm
        subst hv
        clear hm K
        go_wp2_with fail
        refine (HB.out _ _ _ K1.out.tl.tl.r0 nR.out.1).mono ?_
        rintro e w2 ⟨v, rfl, hm⟩
        obtain ⟨ox0, cx0, hv, nx0, K2⟩ := L.made5 K1.out hm
        subst hv
        clear hm K1
        go_wp2_with fail
        refine (HC.out _ _ _ K2.out.tl.tl.tl.tl.r0 nQ.out.1).mono ?_
        rintro e w3 ⟨v, rfl, hm⟩
        obtain ⟨oy0, cy0, hv, ny0, K3⟩ := L.made5 K2.out hm
        subst hv
        clear hm K2
        go_wp2_with fail
        refine (H1.out _ _ _ _ _ _ _ K3.out.tl.tl.r0 K3.out.tl.r0 K3.out.r0 nx0.out.1 ny0.out.1).mono ?_
        rintro e w4 ⟨v, rfl, hm⟩
        obtain ⟨oa, ca, hv, na, K4⟩ := L.made5 K3.out hm
        subst hv
        clear hm K3
        go_wp2_with fail
        refine (HA.out _ _ _ K4.out.tl.tl.tl.tl.r0 nS.out.1).mono ?_
        rintro e w5 ⟨v, rfl, hm⟩
        obtain ⟨od1, cd1, hv, nd1, K5⟩ := L.made5 K4.out hm
        subst hv
        clear hm K4
        go_wp2_with fail
        refine (HB.out _ _ _ K5.out.tl.tl.tl.tl.tl.tl.r0 nR.out.1).mono ?_
        rintro e w6 ⟨v, rfl, hm⟩
        obtain ⟨ox1, cx1, hv, nx1, K6⟩ := L.made5 K5.out hm
        subst hv
        clear hm K5
        go_wp2_with fail
        refine (H2.out _ _ _ _ _ K6.out.tl.r0 K6.out.r0 nx1.out.1).mono ?_
        rintro e w7 ⟨v, rfl, hm⟩
        obtain ⟨ob, cb, hv, nb, K7⟩ := L.made5 K6.out hm
        subst hv
        clear hm K6
        go_wp2_with fail
        refine (HC.out _ _ _ K7.out.tl.tl.tl.tl.tl.tl.tl.tl.tl.r0 nQ.out.1).mono ?_
        rintro e w8 ⟨v, rfl, hm⟩
        obtain ⟨oy1, cy1, hv, ny1, K8⟩ := L.made5 K7.out hm
        subst hv
        clear hm K7
        go_wp2_with fail
        refine (H3.out _ _ _ _ _ K8.out.tl.r0 K8.out.r0 ny1.out.1).mono ?_
        rintro e w9 ⟨v, rfl, hm⟩
        obtain ⟨oc, cc, hv, nc, K9⟩ := L.made5 K8.out hm
        subst hv
        clear hm K8
        go_wp2_with fail
        refine (S1.out _ _ _ _ _ K9.out.tl.tl.tl.tl.tl.r0 K9.out.r0).mono ?_
        rintro e w10 ⟨rfl, hb⟩
        have K10 := Lib.hid (K9.out.on hb)
        clear hb K9
        go_wp2_with fail
        refine (HB.out _ _ _ K10.out.tl.tl.tl.tl.tl.tl.tl.tl.tl.tl.r0 nR.out.1).mono ?_
        rintro e w11 ⟨v, rfl, hm⟩
        obtain ⟨ox2, cx2, hv, nx2, K11⟩ := L.made5 K10.out hm
        subst hv
        clear hm K10
        go_wp2_with fail
        refine (HC.out _ _ _ K11.out.tl.tl.tl.tl.tl.tl.tl.tl.tl.tl.tl.tl.r0 nQ.out.1).mono ?_
        rintro e w12 ⟨v, rfl, hm⟩
        obtain ⟨oy2, cy2, hv, ny2, K12⟩ := L.made5 K11.out hm
        subst hv
        clear hm K11
        go_wp2_with fail
        refine (H4.out _ _ _ _ _ K12.out.tl.r0 K12.out.r0 nx2.out.2 ny2.out.2).mono ?_
        rintro e w13 ⟨v, rfl, hm⟩
        obtain ⟨oz, cz, hv, nz, K13⟩ := L.made5 K12.out hm
        subst hv
        clear hm K12
        have KB := Lib.hid K13.out.below
        clear K13
        go_wp2_with fail
        refine (HK.out _).mono ?_
        rintro e wk ⟨rfl, hb⟩
        have KC := Lib.hid (KB.out.trans (hb.mono KB.out.size))
        clear hb
        go_wp2
        go_ret
        exact ⟨rfl, KC.out⟩
    · have q9 : ((D.rebS s.x [r.x, q.x]).1 != 0) = true := by simpa using h1
      clear h0 h1 e0 t1 t2 bS bR bQ
      obtain ⟨oS, cS, S⟩ := s
      obtain ⟨oR, cR, R⟩ := r
      obtain ⟨oQ, cQ, Q⟩ := q
      dsimp only at *
      generalize (D.rebS S [R, Q]).1 = k at *
      generalize D.cmpE R Q = j at *
      generalize (D.rebS S [R, Q]).2 = E2 at *
      generalize (D.rebS S [R]).2 = E1 at *
      generalize D.cmpP R Q = CP at *
      clear hs hr hq
      go_enter Try.func11, Try.ntmps11
      go_wp2_with fail
      refine (HA.out _ _ _ K.out.r0 nS.out.1).mono ?_
      rintro e w1 ⟨v, rfl, hm⟩
      obtain ⟨od0, cd0, hv, nd0, K1⟩ := L.made5 K.out hm
      subst hv
      clear hm K
      go_wp2_with fail
      refine (HB.out _ _ _ K1.out.tl.tl.r0 nR.out.1).mono ?_
      rintro e w2 ⟨v, rfl, hm⟩
      obtain ⟨ox0, cx0, hv, nx0, K2⟩ := L.made5 K1.out hm
      subst hv
      clear hm K1
      go_wp2_with fail
      refine (HC.out _ _ _ K2.out.tl.tl.tl.tl.r0 nQ.out.1).mono ?_
      rintro e w3 ⟨v, rfl, hm⟩
      obtain ⟨oy0, cy0, hv, ny0, K3⟩ := L.made5 K2.out hm
      subst hv
      clear hm K2
      go_wp2_with fail
      refine (H1.out _ _ _ _ _ _ _ K3.out.tl.tl.r0 K3.out.tl.r0 K3.out.r0 nx0.out.1 ny0.out.1).mono ?_
      rintro e w4 ⟨v, rfl, hm⟩
      obtain ⟨oa, ca, hv, na, K4⟩ := L.made5 K3.out hm
      subst hv
      clear hm K3
      go_wp2_with fail
      refine (HA.out _ _ _ K4.out.tl.tl.tl.tl.r0 nS.out.1).mono ?_
      rintro e w5 ⟨v, rfl, hm⟩
      obtain ⟨od1, cd1, hv, nd1, K5⟩ := L.made5 K4.out hm
      subst hv
      clear hm K4
      go_wp2_with fail
      refine (HB.out _ _ _ K5.out.tl.tl.tl.tl.tl.tl.r0 nR.out.1).mono ?_
      rintro e w6 ⟨v, rfl, hm⟩
      obtain ⟨ox1, cx1, hv, nx1, K6⟩ := L.made5 K5.out hm
      subst hv
      clear hm K5
      go_wp2_with fail
      refine (H2.out _ _ _ _ _ K6.out.tl.r0 K6.out.r0 nx1.out.1).mono ?_
      rintro e w7 ⟨v, rfl, hm⟩
      obtain ⟨ob, cb, hv, nb, K7⟩ := L.made5 K6.out hm
      subst hv
      clear hm K6
      go_wp2_with fail
      refine (HC.out _ _ _ K7.out.tl.tl.tl.tl.tl.tl.tl.tl.tl.r0 nQ.out.1).mono ?_
      rintro e w8 ⟨v, rfl, hm⟩
      obtain ⟨oy1, cy1, hv, ny1, K8⟩ := L.made5 K7.out hm
      subst hv
      clear hm K7
      go_wp2_with fail
      refine (H3.out _ _ _ _ _ K8.out.tl.r0 K8.out.r0 ny1.out.1).mono ?_
      rintro e w9 ⟨v, rfl, hm⟩
      obtain ⟨oc, cc, hv, nc, K9⟩ := L.made5 K8.out hm
      subst hv
      clear hm K8
      go_wp2_with fail
      refine (S1.out _ _ _ _ _ K9.out.tl.tl.tl.tl.tl.r0 K9.out.r0).mono ?_
      rintro e w10 ⟨rfl, hb⟩
      have K10 := Lib.hid (K9.out.on hb)
      clear hb K9
      go_wp2_with fail
      refine (HB.out _ _ _ K10.out.tl.tl.tl.tl.tl.tl.tl.tl.tl.tl.r0 nR.out.1).mono ?_
      rintro e w11 ⟨v, rfl, hm⟩
      obtain ⟨ox2, cx2, hv, nx2, K11⟩ := L.made5 K10.out hm
      subst hv
      clear hm K10
      go_wp2_with fail
      refine (HC.out _ _ _ K11.out.tl.tl.tl.tl.tl.tl.tl.tl.tl.tl.tl.tl.r0 nQ.out.1).mono ?_
      rintro e w12 ⟨v, rfl, hm⟩
      obtain ⟨oy2, cy2, hv, ny2, K12⟩ := L.made5 K11.out hm
      subst hv
      clear hm K11
      go_wp2_with fail
      refine (H4.out _ _ _ _ _ K12.out.tl.r0 K12.out.r0 nx2.out.2 ny2.out.2).mono ?_
      rintro e w13 ⟨v, rfl, hm⟩
      obtain ⟨oz, cz, hv, nz, K13⟩ := L.made5 K12.out hm
      subst hv
      clear hm K12
      have KB := Lib.hid K13.out.below
      clear K13
      go_wp2_with fail
      refine (HK.out _).mono ?_
      rintro e wk ⟨rfl, hb⟩
      have KC := Lib.hid (KB.out.trans (hb.mono KB.out.size))
      clear hb
      go_wp2
      go_ret
      exact ⟨rfl, KC.out⟩
  · obtain ⟨e1, e2⟩ := t1 h0
    rw [e1, e2] at H1
    have q9 : ((D.rebS s.x [r.x]).1 != 0) = true := by simpa using h0
    clear h0 e1 e2 t1 t2 bS bR bQ
    obtain ⟨oS, cS, S⟩ := s
    obtain ⟨oR, cR, R⟩ := r
    obtain ⟨oQ, cQ, Q⟩ := q
    dsimp only at *
    generalize (D.rebS S [R]).1 = k at *
    generalize (D.rebS S [R]).2 = E1 at *
    clear hs hr hq
    go_enter Try.func11, Try.ntmps11
    go_wp2_with fail
    refine (HA.out _ _ _ K.out.r0 nS.out.1).mono ?_
    rintro e w1 ⟨v, rfl, hm⟩
    obtain ⟨od0, cd0, hv, nd0, K1⟩ := L.made5 K.out hm
    subst hv
    clear hm K
    go_wp2_with fail
    refine (HB.out _ _ _ K1.out.tl.tl.r0 nR.out.1).mono ?_
    rintro e w2 ⟨v, rfl, hm⟩
    obtain ⟨ox0, cx0, hv, nx0, K2⟩ := L.made5 K1.out hm
    subst hv
    clear hm K1
    go_wp2_with fail
    refine (HC.out _ _ _ K2.out.tl.tl.tl.tl.r0 nQ.out.1).mono ?_
    rintro e w3 ⟨v, rfl, hm⟩
    obtain ⟨oy0, cy0, hv, ny0, K3⟩ := L.made5 K2.out hm
    subst hv
    clear hm K2
    go_wp2_with fail
    refine (H1.out _ _ _ _ _ _ _ K3.out.tl.tl.r0 K3.out.tl.r0 K3.out.r0 nx0.out.1 ny0.out.1).mono ?_
    rintro e w4 ⟨v, rfl, hm⟩
    obtain ⟨oa, ca, hv, na, K4⟩ := L.made5 K3.out hm
    subst hv
    clear hm K3
    go_wp2_with fail
    refine (HA.out _ _ _ K4.out.tl.tl.tl.tl.r0 nS.out.1).mono ?_
    rintro e w5 ⟨v, rfl, hm⟩
    obtain ⟨od1, cd1, hv, nd1, K5⟩ := L.made5 K4.out hm
    subst hv
    clear hm K4
    go_wp2_with fail
    refine (HB.out _ _ _ K5.out.tl.tl.tl.tl.tl.tl.r0 nR.out.1).mono ?_
    rintro e w6 ⟨v, rfl, hm⟩
    obtain ⟨ox1, cx1, hv, nx1, K6⟩ := L.made5 K5.out hm
    subst hv
    clear hm K5
    go_wp2_with fail
    refine (H2.out _ _ _ _ _ K6.out.tl.r0 K6.out.r0 nx1.out.1).mono ?_
    rintro e w7 ⟨v, rfl, hm⟩
    obtain ⟨ob, cb, hv, nb, K7⟩ := L.made5 K6.out hm
    subst hv
    clear hm K6
    have KB := Lib.hid K7.out.below
    clear K7
    go_wp2_with fail
    refine (HK.out _).mono ?_
    rintro e wk ⟨rfl, hb⟩
    have KC := Lib.hid (KB.out.trans (hb.mono KB.out.size))
    clear hb
    go_wp2
    go_ret
    exact ⟨rfl, KC.out⟩
end Go.Proofs.Ytmljagkndnobdaa
