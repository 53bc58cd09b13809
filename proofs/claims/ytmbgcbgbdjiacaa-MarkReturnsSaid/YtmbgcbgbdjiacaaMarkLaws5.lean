/- The walk of MarkReturns. -/
import Derived.Test.YtmbgcbgbdjiacaaMarkRet
namespace Go.Proofs.Ytmbgcbgbdjiacaa
open Go.RowKit

set_option maxRecDepth 100000 in
set_option maxHeartbeats 20000000 in
theorem markReturns_walk (z : ByteArray) (s : K.Src) (r : D.Src) (w : World) (hz : z.size ≤ 140737488351232) (hs : K.ArgOk w s) (hr : D.ArgOk w r) :
    Calls Try.prog 9 #[.string z, .slice s.a s.x.length s.c, .slice r.a r.x.length r.c] w fun e w' => e = .returned (.bool true) ∧ Below w.heap.size w w' := by
  have HK := J.hKnown
  have laS : s.x.length ≤ maxLen := by have := hs.fit; unfold maxLen; omega
  have hfS : J.Fits s.x := hs.fits
  have HOS := J.hOwn s.x hs.fit
  have bdR := L.bd_arg hr
  have HPR := L.hOwn r.x hr.fit
  have Z : Hid (K.Kn w w [(r.a, r.x)] [(s.a, s.x)]) := J.Kn.addp (J.Kn.addm (J.Kn0 w) hs.row) hr.src.row
  have nS : Hid ((s.a = none → s.c = 0) ∧ s.x.length ≤ s.c) := ⟨hs.nil, hs.cap⟩
  have nR : Hid ((r.a = none → r.c = 0) ∧ r.x.length ≤ r.c) := ⟨hr.src.nil, hr.cap⟩
  obtain ⟨oS, cS, S⟩ := s
  obtain ⟨oR, cR, R⟩ := r
  dsimp only at *
  clear hs hr
  have HI := L.hInv z R hz bdR
  by_cases hF : D.fitE z.data.toList R = 0
  · have H1 := J.hSh S R laS hfS bdR
    by_cases hE : K.shE S R = 0
    · have RT := K.returns hF hE
      obtain ⟨h0, hin⟩ := D.fitE_zero hF
      obtain ⟨n, hn⟩ : ∃ n, Hid (z.size = n) := ⟨_, rfl⟩
      have hzn : z.size = n := hn.out
      have hlen : z.data.toList.length = n := by rw [← hzn]; exact Array.length_toList
      have H3 := J.hSh (K.shL S R) (D.invP z.data.toList R) (J.shL_le S R laS) (J.shL_fit S R hfS) (D.bd_of (J.inv_chk hF))
      rw [RT.ok] at H3
      have lU : (K.shL (K.shL S R) (D.invP z.data.toList R)).length = S.length := RT.len
      have HA : Hid (∀ (i : Nat) (m : K.M), S[i]? = some m → J.RetAt n (D.kp (D.qs R)) (K.shL (K.shL S R) (D.invP z.data.toList R)) i m) := fun i m hm => J.ret_at hlen hF hE hfS hm
      obtain ⟨a, ha⟩ : ∃ a, a = D.qs R := ⟨_, rfl⟩
      have hraw : a.map D.raw = R := by rw [ha]; exact (D.valid_qs h0).1
      have hkl : (D.kp a).length = n := by rw [D.kp_len, ha, hin, hlen]
      have hPl : Hid (∀ i, (D.kp (a.take i)).length ≤ n) := fun i => by rw [← hkl]; exact J.kp_le a i
      have HPs : Hid (∀ i q, a[i]? = some q → D.kp (a.take (i + 1)) = D.kp (a.take i) ++ List.replicate (D.in1 q) (D.kb1 q)) := fun i q h => D.kp_take a i q h
      have HR : Hid (∀ i p, R[i]? = some p → ∃ q, a[i]? = some q ∧ p = D.raw q) := fun i p h => J.raw_at hraw h
      have HPe : Hid (D.kp (a.take R.length) = D.kp a) := by
        show _ = _
        rw [List.take_of_length_le (by rw [← hraw, List.length_map]; exact Nat.le_refl _)]
      rw [← ha] at HA
      obtain ⟨N, hN⟩ : ∃ N, Hid (n + 1 = N) := ⟨_, rfl⟩
      have hmI : ((n : Nat) : Int) + 1 = (N : Int) := by have := hN.out; omega
      have hNn : n < N := by have := hN.out; omega
      have hNm : N ≤ 140737488351233 := by have := hN.out; omega
      have hmk := run_make_row' (P := Try.prog) 51 4 (.bool false) 1 Try.underlying51 J.infoBool rfl .i64 .i64 N (by omega) (by omega)
      have hSl : S.length ≤ 9223372036854775807 := by unfold maxLen at laS; omega
      have hRl : R.length ≤ 4096 := (D.valid_qs h0).2.2.2.1
      rw [hF] at HI
      rw [hE] at H1
      clear RT hin hlen laS hfS bdR hF hE h0 ha hraw hz
      generalize K.shL (K.shL S R) (D.invP z.data.toList R) = U at *
      generalize K.shL S R = X at *
      generalize D.invP z.data.toList R = V at *
      have qU : ((U.length : Int) != (S.length : Int)) = false := by rw [lU]; simp
      have lU := Lib.hid lU
      go_enter Try.func9, Try.ntmps9
      go_wp2_with fail
      refine (HPR.out _ _ _ Z.out.p0 nR.out.1).mono ?_
      rintro e w1 ⟨v, rfl, hm⟩
      obtain ⟨oy, cy, hv, ny, Z1⟩ := J.pmade Z.out hm
      subst hv
      clear hm Z
      go_wp2_with fail
      refine (HI.out _ _ _ Z1.out.p0).mono ?_
      rintro e w2 ⟨v, rfl, hm⟩
      obtain ⟨ov, cv, hv, nv, Z2⟩ := J.pmade Z1.out hm
      subst hv
      clear hm Z1
      go_wp2_with fail
      refine (HOS.out _ _ _ Z2.out.m0 nS.out.1).mono ?_
      rintro e w3 ⟨v, rfl, hm⟩
      obtain ⟨ox, cx, hv, nx, Z3⟩ := J.mmade Z2.out hm
      subst hv
      clear hm Z2
      go_wp2_with fail
      refine (HPR.out _ _ _ Z3.out.pt.pt.p0 nR.out.1).mono ?_
      rintro e w4 ⟨v, rfl, hm⟩
      obtain ⟨oy2, cy2, hv, ny2, Z4⟩ := J.pmade Z3.out hm
      subst hv
      clear hm Z3
      go_wp2_with fail
      refine (H1.out _ _ _ _ _ Z4.out.m0 nx.out.1 Z4.out.p0).mono ?_
      rintro e w5 ⟨v, rfl, hm⟩
      obtain ⟨ot, ct, hv, nt, Z5⟩ := J.mmade Z4.out hm
      subst hv
      clear hm Z4
      go_wp2_with fail
      refine (H3.out _ _ _ _ _ Z5.out.m0 nt.out.1 Z5.out.pt.p0).mono ?_
      rintro e w6 ⟨v, rfl, hm⟩
      obtain ⟨ou, cu, hv, nu, Z6⟩ := J.mmade Z5.out hm
      subst hv
      clear hm Z5
      have ZS : Hid (K.Kn w w6 [(oR, R)] [(ou, U), (oS, S)]) := J.Kn.addp (J.Kn.addm (J.Kn.addm (J.Kn.base Z6.out.below) Z6.out.mt.mt.mt.m0) Z6.out.m0) Z6.out.pt.pt.pt.p0
      clear Z6 H1 H3 HI HPR HOS
      have H0 : Hid (J.KtAt w6 w6.heap.size N [] (w6.alloc (.cells (madeCells #[.bool false] N) 4))) := J.KtAt.new w6 N (by unfold maxLen; omega)
      obtain ⟨WN, hWN⟩ : ∃ WN, WN = w6 := ⟨_, rfl⟩
      obtain ⟨g, hg⟩ : ∃ g, Hid (w6.heap.size = g) := ⟨_, rfl⟩
      go_upto_region 11 with (fail)
      go_wp2
      generalize w6.alloc (.cells (madeCells #[.bool false] N) 4) = W2 at H0 ⊢
      rw [hg.out] at H0 ⊢
      rw [← hWN] at H0 ZS
      clear hmk hmI hg hWN
      go_loopw [13, 14] (fun p i wr => ∃ k : Nat, k ≤ R.length ∧ i = .int .i64 k ∧ p = .int .i64 ((D.kp (a.take k)).length : Int) ∧ Hid (J.KtAt WN g N (D.kp (a.take k)) wr)) (fun _ i _ => R.length - (intOf i).toNat)
      case atStart => exact ⟨0, Nat.zero_le _, rfl, rfl, H0⟩
      case round =>
        obtain ⟨k, hk, rfl, rfl, hx⟩ := hrel
        clear H0
        by_cases hlt : k < R.length
        · obtain ⟨p, hp⟩ : ∃ p, R[k]? = some p := ⟨R[k]'hlt, List.getElem?_eq_getElem _⟩
          obtain ⟨q, hq, e⟩ := HR.out k p hp
          subst e
          obtain ⟨b, o, e, hbl, c0, c1, c2⟩ := (ZS.out.on hx.out.below).p0 k _ hp
          subst e
          have Hp := Lib.hid hp
          have hst := Lib.hid (HPs.out k q hq)
          have hle := hPl.out (k + 1)
          rw [hst.out, List.length_append, List.length_replicate] at hle
          have hkb := J.kb_raw q
          rw [D.raw_n1] at c1
          have Hc : Hid (∀ wx, Below WN.heap.size WN wx → wx.cell? ⟨b, o + k * 3, none⟩ = some (.int .u8 (D.raw q).k) ∧ wx.cell? ⟨b, o + k * 3 + 1, none⟩ = some (.int .i64 (D.in1 q : Int))) := fun wx hb => by
            obtain ⟨_, _, e, _, d0, d1, _⟩ := (ZS.out.on hb).p0 k _ Hp.out
            cases e
            rw [D.raw_n1] at d1
            exact ⟨d0, d1⟩
          obtain ⟨l, hl⟩ : ∃ l, Hid (D.kp (a.take k) = l) := ⟨_, rfl⟩
          rw [hl.out] at hst hle hx ⊢
          obtain ⟨Ln, hLn⟩ : ∃ Ln, Hid (l.length = Ln) := ⟨_, rfl⟩
          rw [hLn.out] at hle ⊢
          clear hp hq Hp
          generalize D.in1 q = M at *
          generalize D.kb1 q = bb at *
          generalize (D.raw q).k = kk at *
          go_wp2
          obtain ⟨W0, rfl⟩ : ∃ W0 : World, W0 = wr := ⟨_, rfl⟩
          go_loopw [15] (fun i wx => ∃ j : Nat, j ≤ M ∧ i = .int .i64 j ∧ Hid (J.KtAt WN g N (l ++ List.replicate j bb) wx)) (fun i _ => M - (intOf i).toNat)
          case atStart => exact ⟨0, Nat.zero_le _, rfl, by show J.KtAt _ _ _ _ _; rw [List.replicate_zero, List.append_nil]; exact hx.out⟩
          case round =>
            obtain ⟨j, hj, rfl, hy⟩ := hrel
            clear hx c0 c1 c2
            obtain ⟨d0, d1⟩ := Hc.out _ hy.out.below
            by_cases hjl : j < M
            · obtain ⟨m, hm⟩ : ∃ m, m = Ln + j := ⟨_, rfl⟩
              have wm : IntKind.i64.wrap ((Ln : Int) + (j : Int)) = (m : Int) := by rw [IntWalk.i64_in _ (by omega)]; omega
              have em : (Ln : Int) + (j : Int) = (m : Int) := by omega
              have hmn : m < n := by omega
              have hmN : m < N := by omega
              obtain ⟨e0, f0⟩ := hy.out.cell hmN
              have R1 : Hid (∀ wx, wx = wr.setCell ⟨g, m, none⟩ (.bool bb) → J.KtAt WN g N (l ++ List.replicate (j + 1) bb) wx) := fun wx e => by
                have := hy.out.push bb (i := m) (by rw [List.length_append, List.length_replicate, hLn.out]; omega) hmN
                rw [List.append_assoc, ← List.replicate_succ'] at this
                rw [e]; exact this
              clear hm hy
              go_wp2
              go_roundw
              case rel => exact ⟨j + 1, by omega, by go_num, R1.out _ rfl⟩
              case measure => simp [intOf]; omega
            · obtain rfl : j = M := by omega
              have R1 : Hid (J.KtAt WN g N (D.kp (a.take (k + 1))) wr) := by show J.KtAt _ _ _ _ _; rw [hst.out]; exact hy.out
              have R2 : Hid (((D.kp (a.take (k + 1))).length : Int) = (Ln : Int) + (j : Int)) := by show _ = _; rw [hst.out, List.length_append, List.length_replicate, hLn.out]; omega
              clear hy
              go_wp2
              go_roundw
              case rel => exact ⟨k + 1, by omega, by go_num, by rw [R2.out], R1⟩
              case measure => simp [intOf]; omega
        · obtain rfl : k = R.length := by omega
          rw [HPe.out] at hx
          obtain ⟨l, hl⟩ : ∃ l, Hid (D.kp a = l) := ⟨_, rfl⟩
          rw [hl.out] at hx HA
          rw [HPe.out, hl.out]
          go_wp2
          obtain ⟨W0, rfl⟩ : ∃ W0 : World, W0 = wr := ⟨_, rfl⟩
          go_loopw [16] (fun i wx => ∃ j : Nat, j ≤ S.length ∧ i = .int .i64 j ∧ Hid (J.KtAt WN g N l wx)) (fun i _ => S.length - (intOf i).toNat)
          case atStart => exact ⟨0, Nat.zero_le _, rfl, hx⟩
          case round =>
            obtain ⟨j, hj, rfl, hy⟩ := hrel
            clear hx
            by_cases hjl : j < S.length
            · obtain ⟨m, hm⟩ : ∃ m, S[j]? = some m := ⟨S[j]'hjl, List.getElem?_eq_getElem _⟩
              obtain ⟨r0, r1, r2, u, hu, r3, r4⟩ := HA.out j m hm
              obtain ⟨mi, ma, mg⟩ := m
              dsimp only at r0 r1 r2 r3 r4
              obtain ⟨y, rfl⟩ := Int.eq_ofNat_of_zero_le r0
              have hyn : y ≤ n := by omega
              have Zr := Lib.hid (ZS.out.on hy.out.below)
              obtain ⟨bs, ps, es, _, c0, c1, c2⟩ := Zr.out.mt.m0 j _ hm
              subst es
              dsimp only at c0 c1 c2
              have Zb : Hid (K.Kn WN (wr.alloc (.cells #[.int .u32 mi, .int .i64 (y : Int), .int .u8 mg] 32)) [(oR, R)] ((some ⟨wr.heap.size, 0, none⟩, [⟨mi, (y : Int), mg⟩]) :: [(ou, U), (some ⟨bs, ps, none⟩, S)])) := J.mlit (K.Kn.on ⟨hy.out.below, Zr.out.prow, Zr.out.mrow⟩ (Below.refl _ _)) [⟨mi, (y : Int), mg⟩]
              have hy2 : Hid (J.KtAt WN g N l (wr.alloc (.cells #[.int .u32 mi, .int .i64 (y : Int), .int .u8 mg] 32))) := hy.out.on ((Below.refl _ _).alloc (Nat.le_refl _) _)
              obtain ⟨bm, hbm⟩ : ∃ bm, bm = wr.heap.size := ⟨_, rfl⟩
              go_upto_region 24 with (fail)
              rw [← hbm] at Zb ⊢
              generalize wr.alloc (.cells #[.int .u32 mi, .int .i64 (y : Int), .int .u8 mg] 32) = wm at Zb hy2 ⊢
              clear c0 c1 c2 hbm Zr hy
              obtain ⟨x0, x1, x2⟩ := J.box Zb.out.m0
              obtain ⟨bu, pu, eu, _, d0, d1, d2⟩ := Zb.out.mt.m0 j _ hu
              subst eu
              dsimp only at x0 x1 x2
              have ju : j < U.length := by have := lU.out; omega
              have q0 : decide ((y : Int) < 0) = false := by simp
              have q1 : decide ((n : Int) < (y : Int)) = false := by simp; omega
              have hyN : y < N := by omega
              obtain ⟨e0, _⟩ := hy2.out.cell hyN
              have R1 : Hid (∀ k, J.KtAt WN g N l (wm.drewN k)) := fun k => hy2.out.on ⟨rfl, rfl, rfl, Nat.le_refl _, fun _ _ => rfl⟩
              clear hm hu hy2 Zb r0 r1
              obtain ⟨ua, hua⟩ : ∃ ua, ua = u.at_ := ⟨_, rfl⟩
              rw [← hua] at r3 r4 d1
              rw [Int.toNat_natCast] at r4
              obtain ⟨b0, hb0⟩ : ∃ b0, b0 = l[y]?.getD false := ⟨_, rfl⟩
              rw [← hb0] at e0
              have hb1 : l[y]? = some true ↔ b0 = true := by rw [hb0]; cases h : l[y]? <;> simp
              rw [hb1] at r4
              clear hua hb1 hb0
              by_cases hyn2 : y = n
              · have q2 : ((y : Int) == (n : Int)) = true := by simp; omega
                rcases r2 with rfl | rfl
                · clear hyn2
                  obtain ⟨t1, t2⟩ := r3 rfl
                  have q3 : decide ((y : Int) < ua) = false := by simp; omega
                  clear r3 r4
                  by_cases hy0 : y = 0
                  · have q5 : ((y : Int) == 0) = true := by simp; omega
                    have q4 : (ua == (y : Int)) = true := by have := t2.2 (.inl (by omega)); simp; omega
                    clear t1 t2 hy0
                    go_wp2_with fail
                    go_quiet (fail)
                    go_wp2
                    go_roundw
                    case rel => exact ⟨j + 1, by omega, by go_num, R1.out _⟩
                    case measure => simp [intOf]; omega
                  · have q5 : ((y : Int) == 0) = false := by simp; omega
                    obtain ⟨x, hx⟩ : ∃ x, x + 1 = y := ⟨y - 1, by omega⟩
                    have w1 : IntKind.i64.wrap ((y : Int) - 1) = (x : Int) := by rw [IntWalk.i64_in _ (by omega)]; omega
                    have hxN : x < N := by omega
                    obtain ⟨b1, hb1⟩ : ∃ b1, b1 = l[x]?.getD false := ⟨_, rfl⟩
                    have g0 := (R1.out 0).cell hxN
                    rw [← hb1] at g0
                    have g1 : wm.cell? ⟨g, x, none⟩ = some (.bool b1) := g0.1
                    have hb2 : l[x]? = some true ↔ b1 = true := by rw [hb1]; cases h : l[x]? <;> simp
                    rw [show ((y : Int) - 1).toNat = x by omega, hb2] at t2
                    clear g0 hb1 hb2
                    cases b1 with
                    | true =>
                      have q4 : (ua == (y : Int)) = true := by have := t2.2 (.inr rfl); simp; omega
                      clear t1 t2 hy0 hx
                      go_wp2_with fail
                      go_quiet (fail)
                      go_wp2
                      go_roundw
                      case rel => exact ⟨j + 1, by omega, by go_num, R1.out _⟩
                      case measure => simp [intOf]; omega
                    | false =>
                      have q4 : (ua == (y : Int)) = false := by
                        simp only [beq_eq_false_iff_ne, ne_eq]
                        intro h
                        rcases t2.1 h with h | h
                        · omega
                        · cases h
                      clear t1 t2 hy0 hx
                      go_wp2_with fail
                      go_quiet (fail)
                      go_wp2
                      go_roundw
                      case rel => exact ⟨j + 1, by omega, by go_num, R1.out _⟩
                      case measure => simp [intOf]; omega
                · obtain ⟨t1, t2⟩ := r4 (by decide)
                  have q3 : decide (ua < (y : Int)) = false := by simp; omega
                  have q4 : (ua == (y : Int)) = true := by have := t2.2 (.inl (by omega)); simp; omega
                  clear r3 r4 t1 t2 hyn2
                  go_wp2_with fail
                  go_quiet (fail)
                  go_wp2
                  go_roundw
                  case rel => exact ⟨j + 1, by omega, by go_num, R1.out _⟩
                  case measure => simp [intOf]; omega
              · have q2 : ((y : Int) == (n : Int)) = false := by simp; omega
                rcases r2 with rfl | rfl
                · clear hyn2
                  obtain ⟨t1, t2⟩ := r3 rfl
                  have q3 : decide ((y : Int) < ua) = false := by simp; omega
                  clear r3 r4
                  by_cases hy0 : y = 0
                  · have q5 : ((y : Int) == 0) = true := by simp; omega
                    have q4 : (ua == (y : Int)) = true := by have := t2.2 (.inl (by omega)); simp; omega
                    clear t1 t2 hy0
                    go_wp2_with fail
                    go_quiet (fail)
                    go_wp2
                    go_roundw
                    case rel => exact ⟨j + 1, by omega, by go_num, R1.out _⟩
                    case measure => simp [intOf]; omega
                  · have q5 : ((y : Int) == 0) = false := by simp; omega
                    obtain ⟨x, hx⟩ : ∃ x, x + 1 = y := ⟨y - 1, by omega⟩
                    have w1 : IntKind.i64.wrap ((y : Int) - 1) = (x : Int) := by rw [IntWalk.i64_in _ (by omega)]; omega
                    have hxN : x < N := by omega
                    obtain ⟨b1, hb1⟩ : ∃ b1, b1 = l[x]?.getD false := ⟨_, rfl⟩
                    have g0 := (R1.out 0).cell hxN
                    rw [← hb1] at g0
                    have g1 : wm.cell? ⟨g, x, none⟩ = some (.bool b1) := g0.1
                    have hb2 : l[x]? = some true ↔ b1 = true := by rw [hb1]; cases h : l[x]? <;> simp
                    rw [show ((y : Int) - 1).toNat = x by omega, hb2] at t2
                    clear g0 hb1 hb2
                    cases b1 with
                    | true =>
                      have q4 : (ua == (y : Int)) = true := by have := t2.2 (.inr rfl); simp; omega
                      clear t1 t2 hy0 hx
                      go_wp2_with fail
                      go_quiet (fail)
                      go_wp2
                      go_roundw
                      case rel => exact ⟨j + 1, by omega, by go_num, R1.out _⟩
                      case measure => simp [intOf]; omega
                    | false =>
                      have q4 : (ua == (y : Int)) = false := by
                        simp only [beq_eq_false_iff_ne, ne_eq]
                        intro h
                        rcases t2.1 h with h | h
                        · omega
                        · cases h
                      clear t1 t2 hy0 hx
                      go_wp2_with fail
                      go_quiet (fail)
                      go_wp2
                      go_roundw
                      case rel => exact ⟨j + 1, by omega, by go_num, R1.out _⟩
                      case measure => simp [intOf]; omega
                · obtain ⟨t1, t2⟩ := r4 (by decide)
                  have q3 : decide (ua < (y : Int)) = false := by simp; omega
                  cases b0 with
                  | true =>
                    have q4 : (ua == (y : Int)) = true := by have := t2.2 (.inr rfl); simp; omega
                    clear r3 r4 t1 t2
                    go_wp2_with fail
                    go_quiet (fail)
                    go_wp2
                    go_roundw
                    case rel => exact ⟨j + 1, by omega, by go_num, R1.out _⟩
                    case measure => simp [intOf]; omega
                  | false =>
                    have q4 : (ua == (y : Int)) = false := by
                      simp only [beq_eq_false_iff_ne, ne_eq]
                      intro h
                      rcases t2.1 h with h | h
                      · omega
                      · cases h
                    clear r3 r4 t1 t2
                    go_wp2_with fail
                    go_quiet (fail)
                    go_wp2
                    go_roundw
                    case rel => exact ⟨j + 1, by omega, by go_num, R1.out _⟩
                    case measure => simp [intOf]; omega
            · obtain rfl : j = S.length := by omega
              have KB := Lib.hid (ZS.out.on hy.out.below).below
              clear hy
              go_wp2_with fail
              refine (HK.out _).mono ?_
              rintro e wk ⟨rfl, hb⟩
              have KC := Lib.hid (KB.out.trans (hb.mono KB.out.size))
              clear hb
              go_wp2
              go_ret
              exact ⟨rfl, KC.out⟩
    · have q1 : (K.shE S R != 0) = true := by simpa using hE
      rw [hF] at HI
      clear hF hfS bdR laS hE hz
      generalize K.shL S R = X at *
      generalize K.shE S R = E at *
      generalize D.invP z.data.toList R = V at *
      go_enter Try.func9, Try.ntmps9
      go_wp2_with fail
      refine (HPR.out _ _ _ Z.out.p0 nR.out.1).mono ?_
      rintro e w1 ⟨v, rfl, hm⟩
      obtain ⟨oy, cy, hv, ny, Z1⟩ := J.pmade Z.out hm
      subst hv
      clear hm Z
      go_wp2_with fail
      refine (HI.out _ _ _ Z1.out.p0).mono ?_
      rintro e w2 ⟨v, rfl, hm⟩
      obtain ⟨ov, cv, hv, nv, Z2⟩ := J.pmade Z1.out hm
      subst hv
      clear hm Z1
      go_wp2_with fail
      refine (HOS.out _ _ _ Z2.out.m0 nS.out.1).mono ?_
      rintro e w3 ⟨v, rfl, hm⟩
      obtain ⟨ox, cx, hv, nx, Z3⟩ := J.mmade Z2.out hm
      subst hv
      clear hm Z2
      go_wp2_with fail
      refine (HPR.out _ _ _ Z3.out.pt.pt.p0 nR.out.1).mono ?_
      rintro e w4 ⟨v, rfl, hm⟩
      obtain ⟨oy2, cy2, hv, ny2, Z4⟩ := J.pmade Z3.out hm
      subst hv
      clear hm Z3
      go_wp2_with fail
      refine (H1.out _ _ _ _ _ Z4.out.m0 nx.out.1 Z4.out.p0).mono ?_
      rintro e w5 ⟨v, rfl, hm⟩
      obtain ⟨ot, ct, hv, nt, Z5⟩ := J.mmade Z4.out hm
      subst hv
      clear hm Z4
      have KB := Lib.hid Z5.out.below
      clear Z5
      go_wp2_with fail
      refine (HK.out _).mono ?_
      rintro e wk ⟨rfl, hb⟩
      have KC := Lib.hid (KB.out.trans (hb.mono KB.out.size))
      clear hb
      go_wp2
      go_ret
      exact ⟨rfl, KC.out⟩
  · have q0 : (D.fitE z.data.toList R != 0) = true := by simpa using hF
    clear laS hfS bdR hF hz
    generalize D.fitE z.data.toList R = E at *
    generalize D.invP z.data.toList R = V at *
    go_enter Try.func9, Try.ntmps9
    go_wp2_with fail
    refine (HPR.out _ _ _ Z.out.p0 nR.out.1).mono ?_
    rintro e w1 ⟨v, rfl, hm⟩
    obtain ⟨oy, cy, hv, ny, Z1⟩ := J.pmade Z.out hm
    subst hv
    clear hm Z
    go_wp2_with fail
    refine (HI.out _ _ _ Z1.out.p0).mono ?_
    rintro e w2 ⟨v, rfl, hm⟩
    obtain ⟨ov, cv, hv, nv, Z2⟩ := J.pmade Z1.out hm
    subst hv
    clear hm Z1
    have KB := Lib.hid Z2.out.below
    clear Z2
    go_wp2_with fail
    refine (HK.out _).mono ?_
    rintro e wk ⟨rfl, hb⟩
    have KC := Lib.hid (KB.out.trans (hb.mono KB.out.size))
    clear hb
    go_wp2
    go_ret
    exact ⟨rfl, KC.out⟩
end Go.Proofs.Ytmbgcbgbdjiacaa
