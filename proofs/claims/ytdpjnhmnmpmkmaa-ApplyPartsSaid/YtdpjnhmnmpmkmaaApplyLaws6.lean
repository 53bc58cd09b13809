/- The walk of ApplyParts. -/
import Derived.Test.YtdpjnhmnmpmkmaaApplyLawKit
namespace Go.Proofs.Ytdpjnhmnmpmkmaa
open Go.RowKit

theorem A.jE_two {x y : List D.P} (hx : D.chk x = 0) (hy : D.chk y = 0) : D.jE [x, y] = 0 ∨ D.jE [x, y] = 5 := by
  have h : D.chkAll ([x, y].map D.src) = 0 := D.chkAll_ok _ fun s hs => by
    obtain ⟨u, hu, rfl⟩ := List.mem_map.1 hs
    simp at hu
    rcases hu with rfl | rfl
    · exact hx
    · exact hy
  unfold D.jE D.joinE
  rw [if_pos h]
  split <;> simp
theorem A.append_data (z y : ByteArray) : (z ++ y).data.toList = z.data.toList ++ y.data.toList := by simp
theorem A.append_of (l m : List UInt8) : (⟨(l ++ m).toArray⟩ : ByteArray) = ⟨l.toArray⟩ ++ ⟨m.toArray⟩ := by
  apply ByteArray.ext
  apply Array.toList_inj.1
  rw [A.append_data]
set_option maxRecDepth 100000 in
set_option maxHeartbeats 4000000 in
theorem applyParts_walk (z y : ByteArray) (s r : D.Src) (w : World) (hz : z.size ≤ 140737488351232) (hy : y.size ≤ 140737488351232) (hs : D.ArgOk w s) (hr : D.ArgOk w r) :
    Calls Try.prog 10 #[.string z, .string y, .slice s.a s.x.length s.c, .slice r.a r.x.length r.c] w fun e w' => e = .returned (.bool true) ∧ Below w.heap.size w w' := by
  have HA := A.hOwn s.x hs.fit
  have HB := A.hOwn r.x hr.fit
  have H1 := A.hApp z s.x hz (A.bd_arg hs)
  have H2 := A.hApp y r.x hy (A.bd_arg hr)
  have HK := A.hKnown
  have K : Hid (D.Kn w w [(s.a, s.x), (r.a, r.x)]) := ⟨Below.refl _ _, fun x hx => by
    simp at hx
    rcases hx with rfl | rfl
    · exact hs.src.row
    · exact hr.src.row⟩
  have nS : Hid (s.a = none → s.c = 0) := hs.src.nil
  have nR : Hid (r.a = none → r.c = 0) := hr.src.nil
  by_cases hf : D.fitE z.data.toList s.x = 0
  · by_cases hg : D.fitE y.data.toList r.x = 0
    · have hc := (D.fitE_zero hf).1
      have hd := (D.fitE_zero hg).1
      have H3 := A.hIns s.x (A.bd_arg hs)
      have H4 := A.hRem z s.x hz (A.bd_arg hs)
      have C1 : Hid (∀ W ao c bo d, D.Row W ao s.x → D.Row W bo r.x → (ao = none → c = 0) → (bo = none → d = 0) → Calls Try.prog 32 #[.slice (some ⟨W.heap.size, 0, none⟩) 2 2] (W.alloc (.cells #[.slice ao s.x.length c, .slice bo r.x.length d] 22)) (fun e w' => ∃ v, e = .returned (.tuple #[v, .int .i64 (D.jE [s.x, r.x])]) ∧ D.Made (D.jP [s.x, r.x]) W v w')) := fun W ao c bo d h g m n => D.join2 _ _ W ao bo c d h g m n (A.bd_arg hs) (A.bd_arg hr)
      obtain ⟨l1, l2, l3, l4⟩ := D.res_len hf
      obtain ⟨m1, m2, _, _⟩ := D.res_len hg
      have hpl := D.len_parts hf
      have hzl : z.data.toList.length = z.size := by simp
      have hyl : y.data.toList.length = y.size := by simp
      rw [hzl] at hpl l2
      rw [hyl] at m2
      have x1 : (⟨(D.resP z.data.toList s.x).toArray⟩ : ByteArray).size = (D.resP z.data.toList s.x).length := D.size_l _
      have x2 : (⟨(D.resP y.data.toList r.x).toArray⟩ : ByteArray).size = (D.resP y.data.toList r.x).length := D.size_l _
      have x3 : (⟨(D.insP s.x).toArray⟩ : ByteArray).size = (D.insP s.x).length := D.size_l _
      have x4 : (⟨(D.remP z.data.toList s.x).toArray⟩ : ByteArray).size = (D.remP z.data.toList s.x).length := D.size_l _
      rw [← x1, ← x3, ← x4] at hpl
      rw [← x1] at l1
      rw [← x2] at m1
      rw [← x3] at l3
      rw [← x4] at l4
      rw [hf] at H1 H4
      rw [hg] at H2
      rw [hc] at H3
      by_cases hj : D.jE [s.x, r.x] = 0
      · obtain ⟨_, j2, j3⟩ := D.jE_zero hj
        have f2 : [s.x, r.x].flatten = s.x ++ r.x := by simp
        rw [f2] at j2 j3
        have hjc : D.chk (D.jP [s.x, r.x]) = 0 := by rw [j3]; exact j2
        obtain ⟨g1, g2⟩ := D.res_join hf hg hjc j3
        have hzy : (z ++ y).size ≤ 140737488351232 := by simp; omega
        have H5 := A.hApp (z ++ y) (D.jP [s.x, r.x]) hzy (D.bd_of hjc)
        rw [A.append_data, g1, g2, A.append_of] at H5
        rw [hj] at C1
        obtain ⟨oS, cS, S⟩ := s
        obtain ⟨oR, cR, R⟩ := r
        dsimp only at *
        generalize (⟨(D.resP z.data.toList S).toArray⟩ : ByteArray) = XX at H1 H5 hpl l1
        generalize (⟨(D.resP y.data.toList R).toArray⟩ : ByteArray) = YY at H2 H5 m1
        generalize (⟨(D.insP S).toArray⟩ : ByteArray) = IN at H3 hpl l3
        generalize (⟨(D.remP z.data.toList S).toArray⟩ : ByteArray) = OUT at H4 hpl l4
        generalize D.jP [S, R] = J at C1 H5
        clear hs hr hz hy hf hg hc hd hzl hyl x1 x2 x3 x4 hj j2 j3 f2 hjc g1 g2 hzy
        go_enter Try.func10, Try.ntmps10
        go_wp2_with fail
        refine (HA.out _ _ _ K.out.r0 nS.out).mono ?_
        rintro e w1 ⟨v, rfl, hm⟩
        obtain ⟨ox1, cx1, hv, nx1, K1⟩ := K.out.made' hm
        subst hv
        clear hm K
        go_wp2_with fail
        refine (H1.out _ _ _ K1.out.r0).mono ?_
        rintro e w2 ⟨rfl, hb⟩
        have K2 := Lib.hid (K1.out.on hb)
        clear hb K1
        go_wp2_with fail
        refine (HB.out _ _ _ K2.out.tl.tl.r0 nR.out).mono ?_
        rintro e w3 ⟨v, rfl, hm⟩
        obtain ⟨oy1, cy1, hv, ny1, K3⟩ := K2.out.made' hm
        subst hv
        clear hm K2
        go_wp2_with fail
        refine (H2.out _ _ _ K3.out.r0).mono ?_
        rintro e w4 ⟨rfl, hb⟩
        have K4 := Lib.hid (K3.out.on hb)
        clear hb K3
        go_wp2_with fail
        refine (HA.out _ _ _ K4.out.tl.tl.r0 nS.out).mono ?_
        rintro e w5 ⟨v, rfl, hm⟩
        obtain ⟨ox2, cx2, hv, nx2, K5⟩ := K4.out.made' hm
        subst hv
        clear hm K4
        go_wp2_with fail
        refine (H3.out _ _ _ K5.out.r0).mono ?_
        rintro e w6 ⟨rfl, hb⟩
        have K6 := Lib.hid (K5.out.on hb)
        clear hb K5
        go_wp2_with fail
        refine (HA.out _ _ _ K6.out.tl.tl.tl.r0 nS.out).mono ?_
        rintro e w7 ⟨v, rfl, hm⟩
        obtain ⟨ox3, cx3, hv, nx3, K7⟩ := K6.out.made' hm
        subst hv
        clear hm K6
        go_wp2_with fail
        refine (H4.out _ _ _ K7.out.r0).mono ?_
        rintro e w8 ⟨rfl, hb⟩
        have K8 := Lib.hid (K7.out.on hb)
        clear hb K7
        go_wp2_with fail
        refine (HA.out _ _ _ K8.out.tl.tl.tl.tl.r0 nS.out).mono ?_
        rintro e w9 ⟨v, rfl, hm⟩
        obtain ⟨ox4, cx4, hv, nx4, K9⟩ := K8.out.made' hm
        subst hv
        clear hm K8
        go_wp2_with fail
        refine (HB.out _ _ _ K9.out.tl.tl.tl.tl.tl.tl.r0 nR.out).mono ?_
        rintro e w10 ⟨v, rfl, hm⟩
        obtain ⟨oy4, cy4, hv, ny4, K10⟩ := K9.out.made' hm
        subst hv
        clear hm K9
        go_wp2_with fail
        refine (C1.out _ _ _ _ _ K10.out.tl.r0 K10.out.r0 nx4.out ny4.out).mono ?_
        rintro e w11 ⟨v, rfl, hm⟩
        obtain ⟨oj, cj, hv, nj, K11⟩ := K10.out.made' hm
        subst hv
        clear hm K10
        go_wp2_with fail
        refine (H5.out _ _ _ K11.out.r0).mono ?_
        rintro e w12 ⟨rfl, hb⟩
        have K12 := Lib.hid (K11.out.on hb)
        clear hb K11
        have KB := Lib.hid K12.out.below
        clear K12
        go_wp2_with fail
        refine (HK.out _).mono ?_
        rintro e wk ⟨rfl, hb⟩
        have KC := Lib.hid (KB.out.trans (hb.mono KB.out.size))
        clear hb
        go_wp2
        go_ret
        exact ⟨rfl, KC.out⟩
      · have hj5 := (A.jE_two hc hd).resolve_left hj
        rw [hj5] at C1
        obtain ⟨oS, cS, S⟩ := s
        obtain ⟨oR, cR, R⟩ := r
        dsimp only at *
        generalize (⟨(D.resP z.data.toList S).toArray⟩ : ByteArray) = XX at H1 hpl l1
        generalize (⟨(D.resP y.data.toList R).toArray⟩ : ByteArray) = YY at H2 m1
        generalize (⟨(D.insP S).toArray⟩ : ByteArray) = IN at H3 hpl l3
        generalize (⟨(D.remP z.data.toList S).toArray⟩ : ByteArray) = OUT at H4 hpl l4
        generalize D.jP [S, R] = J at C1
        clear hs hr hz hy hf hg hc hd hzl hyl x1 x2 x3 x4 hj hj5
        go_enter Try.func10, Try.ntmps10
        go_wp2_with fail
        refine (HA.out _ _ _ K.out.r0 nS.out).mono ?_
        rintro e w1 ⟨v, rfl, hm⟩
        obtain ⟨ox1, cx1, hv, nx1, K1⟩ := K.out.made' hm
        subst hv
        clear hm K
        go_wp2_with fail
        refine (H1.out _ _ _ K1.out.r0).mono ?_
        rintro e w2 ⟨rfl, hb⟩
        have K2 := Lib.hid (K1.out.on hb)
        clear hb K1
        go_wp2_with fail
        refine (HB.out _ _ _ K2.out.tl.tl.r0 nR.out).mono ?_
        rintro e w3 ⟨v, rfl, hm⟩
        obtain ⟨oy1, cy1, hv, ny1, K3⟩ := K2.out.made' hm
        subst hv
        clear hm K2
        go_wp2_with fail
        refine (H2.out _ _ _ K3.out.r0).mono ?_
        rintro e w4 ⟨rfl, hb⟩
        have K4 := Lib.hid (K3.out.on hb)
        clear hb K3
        go_wp2_with fail
        refine (HA.out _ _ _ K4.out.tl.tl.r0 nS.out).mono ?_
        rintro e w5 ⟨v, rfl, hm⟩
        obtain ⟨ox2, cx2, hv, nx2, K5⟩ := K4.out.made' hm
        subst hv
        clear hm K4
        go_wp2_with fail
        refine (H3.out _ _ _ K5.out.r0).mono ?_
        rintro e w6 ⟨rfl, hb⟩
        have K6 := Lib.hid (K5.out.on hb)
        clear hb K5
        go_wp2_with fail
        refine (HA.out _ _ _ K6.out.tl.tl.tl.r0 nS.out).mono ?_
        rintro e w7 ⟨v, rfl, hm⟩
        obtain ⟨ox3, cx3, hv, nx3, K7⟩ := K6.out.made' hm
        subst hv
        clear hm K6
        go_wp2_with fail
        refine (H4.out _ _ _ K7.out.r0).mono ?_
        rintro e w8 ⟨rfl, hb⟩
        have K8 := Lib.hid (K7.out.on hb)
        clear hb K7
        go_wp2_with fail
        refine (HA.out _ _ _ K8.out.tl.tl.tl.tl.r0 nS.out).mono ?_
        rintro e w9 ⟨v, rfl, hm⟩
        obtain ⟨ox4, cx4, hv, nx4, K9⟩ := K8.out.made' hm
        subst hv
        clear hm K8
        go_wp2_with fail
        refine (HB.out _ _ _ K9.out.tl.tl.tl.tl.tl.tl.r0 nR.out).mono ?_
        rintro e w10 ⟨v, rfl, hm⟩
        obtain ⟨oy4, cy4, hv, ny4, K10⟩ := K9.out.made' hm
        subst hv
        clear hm K9
        go_wp2_with fail
        refine (C1.out _ _ _ _ _ K10.out.tl.r0 K10.out.r0 nx4.out ny4.out).mono ?_
        rintro e w11 ⟨v, rfl, hm⟩
        obtain ⟨oj, cj, hv, nj, K11⟩ := K10.out.made' hm
        subst hv
        clear hm K10
        have KB := Lib.hid K11.out.below
        clear K11
        go_wp2_with fail
        refine (HK.out _).mono ?_
        rintro e wk ⟨rfl, hb⟩
        have KC := Lib.hid (KB.out.trans (hb.mono KB.out.size))
        clear hb
        go_wp2
        go_ret
        exact ⟨rfl, KC.out⟩
    · have h' : (D.fitE y.data.toList r.x != 0) = true := by simpa using hg
      rw [hf] at H1
      obtain ⟨oS, cS, S⟩ := s
      obtain ⟨oR, cR, R⟩ := r
      dsimp only at *
      generalize D.fitE y.data.toList R = k at H2 h'
      generalize (⟨(D.resP z.data.toList S).toArray⟩ : ByteArray) = XX at H1
      generalize (⟨(D.resP y.data.toList R).toArray⟩ : ByteArray) = YY at H2
      clear hs hr hz hy hf hg
      go_enter Try.func10, Try.ntmps10
      go_wp2_with fail
      refine (HA.out _ _ _ K.out.r0 nS.out).mono ?_
      rintro e w1 ⟨v, rfl, hm⟩
      obtain ⟨ox1, cx1, hv, nx1, K1⟩ := K.out.made' hm
      subst hv
      clear hm K
      go_wp2_with fail
      refine (H1.out _ _ _ K1.out.r0).mono ?_
      rintro e w2 ⟨rfl, hb⟩
      have K2 := Lib.hid (K1.out.on hb)
      clear hb K1
      go_wp2_with fail
      refine (HB.out _ _ _ K2.out.tl.tl.r0 nR.out).mono ?_
      rintro e w3 ⟨v, rfl, hm⟩
      obtain ⟨oy1, cy1, hv, ny1, K3⟩ := K2.out.made' hm
      subst hv
      clear hm K2
      go_wp2_with fail
      refine (H2.out _ _ _ K3.out.r0).mono ?_
      rintro e w4 ⟨rfl, hb⟩
      have K4 := Lib.hid (K3.out.on hb)
      clear hb K3
      have KB := Lib.hid K4.out.below
      clear K4
      go_wp2_with fail
      refine (HK.out _).mono ?_
      rintro e wk ⟨rfl, hb⟩
      have KC := Lib.hid (KB.out.trans (hb.mono KB.out.size))
      clear hb
      go_wp2
      go_ret
      exact ⟨rfl, KC.out⟩
  · have h' : (D.fitE z.data.toList s.x != 0) = true := by simpa using hf
    obtain ⟨oS, cS, S⟩ := s
    obtain ⟨oR, cR, R⟩ := r
    dsimp only at *
    generalize D.fitE z.data.toList S = k at H1 h'
    generalize D.fitE y.data.toList R = m at H2
    generalize (⟨(D.resP z.data.toList S).toArray⟩ : ByteArray) = XX at H1
    generalize (⟨(D.resP y.data.toList R).toArray⟩ : ByteArray) = YY at H2
    clear hs hr hz hy hf
    go_enter Try.func10, Try.ntmps10
    go_wp2_with fail
    refine (HA.out _ _ _ K.out.r0 nS.out).mono ?_
    rintro e w1 ⟨v, rfl, hm⟩
    obtain ⟨ox1, cx1, hv, nx1, K1⟩ := K.out.made' hm
    subst hv
    clear hm K
    go_wp2_with fail
    refine (H1.out _ _ _ K1.out.r0).mono ?_
    rintro e w2 ⟨rfl, hb⟩
    have K2 := Lib.hid (K1.out.on hb)
    clear hb K1
    go_wp2_with fail
    refine (HB.out _ _ _ K2.out.tl.tl.r0 nR.out).mono ?_
    rintro e w3 ⟨v, rfl, hm⟩
    obtain ⟨oy1, cy1, hv, ny1, K3⟩ := K2.out.made' hm
    subst hv
    clear hm K2
    go_wp2_with fail
    refine (H2.out _ _ _ K3.out.r0).mono ?_
    rintro e w4 ⟨rfl, hb⟩
    have K4 := Lib.hid (K3.out.on hb)
    clear hb K3
    have KB := Lib.hid K4.out.below
    clear K4
    go_wp2_with fail
    refine (HK.out _).mono ?_
    rintro e wk ⟨rfl, hb⟩
    have KC := Lib.hid (KB.out.trans (hb.mono KB.out.size))
    clear hb
    go_wp2
    go_ret
    exact ⟨rfl, KC.out⟩
end Go.Proofs.Ytdpjnhmnmpmkmaa
