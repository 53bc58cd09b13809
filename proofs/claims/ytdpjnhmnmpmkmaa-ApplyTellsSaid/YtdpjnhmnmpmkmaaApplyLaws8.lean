/- The walk of ApplyTells. -/
import Derived.Test.YtdpjnhmnmpmkmaaApplyFresh
namespace Go.Proofs.Ytdpjnhmnmpmkmaa
open Go.RowKit

set_option maxRecDepth 100000 in
set_option maxHeartbeats 4000000 in
theorem applyTells_walk (s r : D.Src) (w : World) (hs : D.ArgOk w s) (hr : D.ArgOk w r) :
    Calls Try.prog 9 #[.slice s.a s.x.length s.c, .slice r.a r.x.length r.c] w fun e w' => e = .returned (.bool true) ∧ Below w.heap.size w w' := by
  have HA := A.hOwn s.x hs.fit
  have HB := A.hOwn r.x hr.fit
  have H1 := A.hEqv s.x r.x (A.bd_arg hs) (A.bd_arg hr)
  have HK := A.hKnown
  have K : Hid (D.Kn w w [(s.a, s.x), (r.a, r.x)]) := ⟨Below.refl _ _, fun x hx => by
    simp at hx
    rcases hx with rfl | rfl
    · exact hs.src.row
    · exact hr.src.row⟩
  have nS : Hid (s.a = none → s.c = 0) := hs.src.nil
  have nR : Hid (r.a = none → r.c = 0) := hr.src.nil
  by_cases hE : D.eqvE s.x r.x = 0
  · have hc : D.chk s.x = 0 := by
      unfold D.eqvE at hE
      by_cases h : D.chk s.x = 0
      · exact h
      · rw [if_neg h] at hE; exact hE
    have hd : D.chk r.x = 0 := by unfold D.eqvE at hE; rw [if_pos hc] at hE; exact hE
    have H2 := A.hLen s.x (A.bd_arg hs)
    have H3 := A.hLen r.x (A.bd_arg hr)
    have H4 := A.hIns s.x (A.bd_arg hs)
    have H5 := A.hIns r.x (A.bd_arg hr)
    have hlb := D.len_bd hc
    have hqe : D.eqv s.x r.x = true ↔ D.normP s.x = D.normP r.x := by unfold D.eqv; rw [hc, hd]; simp [D.same_iff]
    have hlI := (D.len_qs hc).1
    have hmI := (D.len_qs hd).1
    have H6 : Hid (∀ W, Calls Try.prog 31 #[.int .i64 (D.lenI s.x), .string ⟨(D.insP s.x).toArray⟩, .string ⟨(D.insP r.x).toArray⟩] W (A.FrEnd (D.insP s.x) (D.insP r.x) (D.lenI s.x) W)) := fun W => by
      have e1 : (⟨(D.insP s.x).toArray⟩ : ByteArray).data.toList = D.insP s.x := by simp
      have e2 : (⟨(D.insP r.x).toArray⟩ : ByteArray).data.toList = D.insP r.x := by simp
      have := fresh_any (D.lenI s.x) ⟨(D.insP s.x).toArray⟩ ⟨(D.insP r.x).toArray⟩ W hlb.1 hlb.2.1 (by rw [D.size_l]; exact D.ins_len _) (by rw [D.size_l]; exact D.ins_len _)
      rw [e1, e2] at this
      exact this
    unfold A.FrEnd at H6
    rw [hE] at H1
    rw [hc] at H2 H4
    rw [hd] at H3 H5
    by_cases hn : D.lenI s.x = D.lenI r.x
    · have HT : Hid (∀ F : List UInt8, (F.length : Int) = D.lenI s.x → F.Nodup → (∀ c ∈ D.insP s.x, c ∉ F) → (∀ c ∈ D.insP r.x, c ∉ F) → F.length ≤ 256 → ∃ T U : ByteArray,
          Hid (∀ ao c W, D.Row W ao s.x → Calls Try.prog 13 #[.string ⟨F.toArray⟩, .slice ao s.x.length c] W (fun e w' => e = .returned (.tuple #[.string T, .int .i64 0]) ∧ Below W.heap.size W w')) ∧
          Hid (∀ ao c W, D.Row W ao r.x → Calls Try.prog 13 #[.string ⟨F.toArray⟩, .slice ao r.x.length c] W (fun e w' => e = .returned (.tuple #[.string U, .int .i64 0]) ∧ Below W.heap.size W w')) ∧ (T.toList == U.toList) = D.eqv s.x r.x) := fun F hF nd h1 h2 hl => by
        have eF : (⟨F.toArray⟩ : ByteArray).data.toList = F := by simp
        have i1 : D.inL (D.qs s.x) = F.length := by omega
        have i2 : D.inL (D.qs r.x) = F.length := by omega
        have X1 := A.hApp ⟨F.toArray⟩ s.x (by rw [D.size_l]; omega) (A.bd_arg hs)
        have X2 := A.hApp ⟨F.toArray⟩ r.x (by rw [D.size_l]; omega) (A.bd_arg hr)
        rw [eF, D.fitE_of hc i1] at X1
        rw [eF, D.fitE_of hd i2] at X2
        refine ⟨_, _, X1, X2, ?_⟩
        have ht := D.res_tells hc hd i1 i2 nd h1 h2
        rw [Bool.eq_iff_iff, hqe, ← ht, beq_iff_eq, ByteArray.toList_eq, ByteArray.toList_eq]
      obtain ⟨oS, cS, S⟩ := s
      obtain ⟨oR, cR, R⟩ := r
      dsimp only at *
      rw [← hn] at H3
      generalize D.lenO S = lo at H2
      generalize D.lenO R = lp at H3
      generalize D.lenI S = n at H2 H3 H6 HT hlb
      generalize D.insP S = IS at H4 H6 HT
      generalize D.insP R = IR at H5 H6 HT
      generalize (⟨IS.toArray⟩ : ByteArray) = XS at H4 H6
      generalize (⟨IR.toArray⟩ : ByteArray) = XR at H5 H6
      generalize D.eqv S R = is at H1 HT
      clear hs hr hE hc hd hqe hlI hmI hn hlb
      go_enter Try.func9, Try.ntmps9
      go_wp2_with fail
      refine (HA.out _ _ _ K.out.r0 nS.out).mono ?_
      rintro e w1 ⟨v, rfl, hm⟩
      obtain ⟨ox1, cx1, hv, nx1, K1⟩ := K.out.made' hm
      subst hv
      clear hm K
      go_wp2_with fail
      refine (HB.out _ _ _ K1.out.tl.tl.r0 nR.out).mono ?_
      rintro e w2 ⟨v, rfl, hm⟩
      obtain ⟨oy1, cy1, hv, ny1, K2⟩ := K1.out.made' hm
      subst hv
      clear hm K1
      go_wp2_with fail
      refine (H1.out _ _ _ _ _ K2.out.tl.r0 K2.out.r0).mono ?_
      rintro e w3 ⟨rfl, hb⟩
      have K3 := Lib.hid (K2.out.on hb)
      clear hb K2
      go_wp2_with fail
      refine (HA.out _ _ _ K3.out.tl.tl.r0 nS.out).mono ?_
      rintro e w4 ⟨v, rfl, hm⟩
      obtain ⟨ox2, cx2, hv, nx2, K4⟩ := K3.out.made' hm
      subst hv
      clear hm K3
      go_wp2_with fail
      refine (H2.out _ _ _ K4.out.r0).mono ?_
      rintro e w5 ⟨rfl, hb⟩
      have K5 := Lib.hid (K4.out.on hb)
      clear hb K4
      go_wp2_with fail
      refine (HB.out _ _ _ K5.out.tl.tl.tl.tl.r0 nR.out).mono ?_
      rintro e w6 ⟨v, rfl, hm⟩
      obtain ⟨oy2, cy2, hv, ny2, K6⟩ := K5.out.made' hm
      subst hv
      clear hm K5
      go_wp2_with fail
      refine (H3.out _ _ _ K6.out.r0).mono ?_
      rintro e w7 ⟨rfl, hb⟩
      have K7 := Lib.hid (K6.out.on hb)
      clear hb K6
      go_wp2_with fail
      refine (HA.out _ _ _ K7.out.tl.tl.tl.tl.r0 nS.out).mono ?_
      rintro e w8 ⟨v, rfl, hm⟩
      obtain ⟨ox3, cx3, hv, nx3, K8⟩ := K7.out.made' hm
      subst hv
      clear hm K7
      go_wp2_with fail
      refine (H4.out _ _ _ K8.out.r0).mono ?_
      rintro e w9 ⟨rfl, hb⟩
      have K9 := Lib.hid (K8.out.on hb)
      clear hb K8
      go_wp2_with fail
      refine (HB.out _ _ _ K9.out.tl.tl.tl.tl.tl.tl.r0 nR.out).mono ?_
      rintro e w10 ⟨v, rfl, hm⟩
      obtain ⟨oy3, cy3, hv, ny3, K10⟩ := K9.out.made' hm
      subst hv
      clear hm K9
      go_wp2_with fail
      refine (H5.out _ _ _ K10.out.r0).mono ?_
      rintro e w11 ⟨rfl, hb⟩
      have K11 := Lib.hid (K10.out.on hb)
      clear hb K10
      go_wp2_with fail
      refine (H6.out _).mono ?_
      rintro e w12 ⟨F, bq, rfl, hq, nd, h1, h2, hl, hb⟩
      have K12 := Lib.hid (K11.out.on hb)
      clear hb K11
      cases bq with
      | false =>
        clear hq nd h1 h2 hl HT
        have KB := Lib.hid K12.out.below
        clear K12
        go_wp2_with fail
        refine (HK.out _).mono ?_
        rintro e wk ⟨rfl, hb⟩
        have KC := Lib.hid (KB.out.trans (hb.mono KB.out.size))
        clear hb
        go_wp2
        go_ret
        exact ⟨rfl, KC.out⟩
      | true =>
        obtain ⟨T, U, HT1, HT2, hTU⟩ := HT.out F (hq rfl) nd h1 h2 hl
        clear hq nd h1 h2 hl HT
        cases is
        all_goals
          go_wp2_with fail
          refine (HA.out _ _ _ K12.out.tl.tl.tl.tl.tl.tl.r0 nS.out).mono ?_
          rintro e w13 ⟨v, rfl, hm⟩
          obtain ⟨ox4, cx4, hv, nx4, K13⟩ := K12.out.made' hm
          subst hv
          clear hm K12
          go_wp2_with fail
          refine (HT1.out _ _ _ K13.out.r0).mono ?_
          rintro e w14 ⟨rfl, hb⟩
          have K14 := Lib.hid (K13.out.on hb)
          clear hb K13
          go_wp2_with fail
          refine (HB.out _ _ _ K14.out.tl.tl.tl.tl.tl.tl.tl.tl.r0 nR.out).mono ?_
          rintro e w15 ⟨v, rfl, hm⟩
          obtain ⟨oy4, cy4, hv, ny4, K15⟩ := K14.out.made' hm
          subst hv
          clear hm K14
          go_wp2_with fail
          refine (HT2.out _ _ _ K15.out.r0).mono ?_
          rintro e w16 ⟨rfl, hb⟩
          have K16 := Lib.hid (K15.out.on hb)
          clear hb K15
          have KB := Lib.hid K16.out.below
          clear K16
          go_wp2_with fail
          refine (HK.out _).mono ?_
          rintro e wk ⟨rfl, hb⟩
          have KC := Lib.hid (KB.out.trans (hb.mono KB.out.size))
          clear hb
          go_wp2
          go_ret
          exact ⟨rfl, KC.out⟩
    · have q1 : D.eqv s.x r.x = false := by
        rw [Bool.eq_false_iff]
        intro e
        have := hqe.1 e
        refine hn ?_
        rw [hlI, hmI]
        have e2 : D.nf (D.qs s.x) = D.nf (D.qs r.x) := D.map_raw_inj this
        rw [← D.inL_nf (D.qs s.x), e2, D.inL_nf]
      rw [q1] at H1
      have hnm : (D.lenI s.x != D.lenI r.x) = true := by simpa using hn
      have hnm' : (D.lenI s.x == D.lenI r.x) = false := by simpa using hn
      obtain ⟨oS, cS, S⟩ := s
      obtain ⟨oR, cR, R⟩ := r
      dsimp only at *
      generalize D.lenO S = lo at H2
      generalize D.lenO R = lp at H3
      generalize D.lenI S = n at H2 H3 H6 hlb hnm hnm'
      generalize D.lenI R = m at H3 hnm hnm'
      generalize D.insP S = IS at H4 H6
      generalize D.insP R = IR at H5 H6
      generalize (⟨IS.toArray⟩ : ByteArray) = XS at H4 H6
      generalize (⟨IR.toArray⟩ : ByteArray) = XR at H5 H6
      clear hs hr hE hc hd hqe hlI hmI hn hlb q1
      go_enter Try.func9, Try.ntmps9
      go_wp2_with fail
      refine (HA.out _ _ _ K.out.r0 nS.out).mono ?_
      rintro e w1 ⟨v, rfl, hm⟩
      obtain ⟨ox1, cx1, hv, nx1, K1⟩ := K.out.made' hm
      subst hv
      clear hm K
      go_wp2_with fail
      refine (HB.out _ _ _ K1.out.tl.tl.r0 nR.out).mono ?_
      rintro e w2 ⟨v, rfl, hm⟩
      obtain ⟨oy1, cy1, hv, ny1, K2⟩ := K1.out.made' hm
      subst hv
      clear hm K1
      go_wp2_with fail
      refine (H1.out _ _ _ _ _ K2.out.tl.r0 K2.out.r0).mono ?_
      rintro e w3 ⟨rfl, hb⟩
      have K3 := Lib.hid (K2.out.on hb)
      clear hb K2
      go_wp2_with fail
      refine (HA.out _ _ _ K3.out.tl.tl.r0 nS.out).mono ?_
      rintro e w4 ⟨v, rfl, hm⟩
      obtain ⟨ox2, cx2, hv, nx2, K4⟩ := K3.out.made' hm
      subst hv
      clear hm K3
      go_wp2_with fail
      refine (H2.out _ _ _ K4.out.r0).mono ?_
      rintro e w5 ⟨rfl, hb⟩
      have K5 := Lib.hid (K4.out.on hb)
      clear hb K4
      go_wp2_with fail
      refine (HB.out _ _ _ K5.out.tl.tl.tl.tl.r0 nR.out).mono ?_
      rintro e w6 ⟨v, rfl, hm⟩
      obtain ⟨oy2, cy2, hv, ny2, K6⟩ := K5.out.made' hm
      subst hv
      clear hm K5
      go_wp2_with fail
      refine (H3.out _ _ _ K6.out.r0).mono ?_
      rintro e w7 ⟨rfl, hb⟩
      have K7 := Lib.hid (K6.out.on hb)
      clear hb K6
      go_wp2_with fail
      refine (HA.out _ _ _ K7.out.tl.tl.tl.tl.r0 nS.out).mono ?_
      rintro e w8 ⟨v, rfl, hm⟩
      obtain ⟨ox3, cx3, hv, nx3, K8⟩ := K7.out.made' hm
      subst hv
      clear hm K7
      go_wp2_with fail
      refine (H4.out _ _ _ K8.out.r0).mono ?_
      rintro e w9 ⟨rfl, hb⟩
      have K9 := Lib.hid (K8.out.on hb)
      clear hb K8
      go_wp2_with fail
      refine (HB.out _ _ _ K9.out.tl.tl.tl.tl.tl.tl.r0 nR.out).mono ?_
      rintro e w10 ⟨v, rfl, hm⟩
      obtain ⟨oy3, cy3, hv, ny3, K10⟩ := K9.out.made' hm
      subst hv
      clear hm K9
      go_wp2_with fail
      refine (H5.out _ _ _ K10.out.r0).mono ?_
      rintro e w11 ⟨rfl, hb⟩
      have K11 := Lib.hid (K10.out.on hb)
      clear hb K10
      go_wp2_with fail
      refine (H6.out _).mono ?_
      rintro e w12 ⟨F, bq, rfl, hq, nd, h1, h2, hl, hb⟩
      have K12 := Lib.hid (K11.out.on hb)
      clear hb K11
      clear hq nd h1 h2 hl
      have KB := Lib.hid K12.out.below
      clear K12
      go_wp2_with fail
      refine (HK.out _).mono ?_
      rintro e wk ⟨rfl, hb⟩
      have KC := Lib.hid (KB.out.trans (hb.mono KB.out.size))
      clear hb
      go_wp2
      go_ret
      exact ⟨rfl, KC.out⟩
  · have h' : (D.eqvE s.x r.x != 0) = true := by simpa using hE
    obtain ⟨oS, cS, S⟩ := s
    obtain ⟨oR, cR, R⟩ := r
    dsimp only at *
    generalize D.eqvE S R = k at H1 h'
    generalize D.eqv S R = is at H1
    clear hs hr hE
    go_enter Try.func9, Try.ntmps9
    go_wp2_with fail
    refine (HA.out _ _ _ K.out.r0 nS.out).mono ?_
    rintro e w1 ⟨v, rfl, hm⟩
    obtain ⟨ox1, cx1, hv, nx1, K1⟩ := K.out.made' hm
    subst hv
    clear hm K
    go_wp2_with fail
    refine (HB.out _ _ _ K1.out.tl.tl.r0 nR.out).mono ?_
    rintro e w2 ⟨v, rfl, hm⟩
    obtain ⟨oy1, cy1, hv, ny1, K2⟩ := K1.out.made' hm
    subst hv
    clear hm K1
    go_wp2_with fail
    refine (H1.out _ _ _ _ _ K2.out.tl.r0 K2.out.r0).mono ?_
    rintro e w3 ⟨rfl, hb⟩
    have K3 := Lib.hid (K2.out.on hb)
    clear hb K2
    have KB := Lib.hid K3.out.below
    clear K3
    go_wp2_with fail
    refine (HK.out _).mono ?_
    rintro e wk ⟨rfl, hb⟩
    have KC := Lib.hid (KB.out.trans (hb.mono KB.out.size))
    clear hb
    go_wp2
    go_ret
    exact ⟨rfl, KC.out⟩
end Go.Proofs.Ytdpjnhmnmpmkmaa
