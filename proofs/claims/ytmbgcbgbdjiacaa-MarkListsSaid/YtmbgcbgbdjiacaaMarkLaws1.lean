/- The walks of MarkChecks, MarkShifts, MarkLists. -/
import Derived.Test.YtmbgcbgbdjiacaaMarkKnown
namespace Go.Proofs.Ytmbgcbgbdjiacaa
open Go.RowKit

set_option maxRecDepth 100000 in
set_option maxHeartbeats 4000000 in
theorem markChecks_walk (n : Int) (s : K.Src) (w : World) (_ : -9223372036854775808 ≤ n) (_ : n < 9223372036854775808) (hs : K.ArgOk w s) :
    Calls Try.prog 3 #[.int .i64 n, .slice s.a s.x.length s.c] w fun e w' => e = .returned (.bool true) ∧ Below w.heap.size w w' := by
  have HK := J.hKnown
  have laS : s.x.length ≤ maxLen := by have := hs.fit; unfold maxLen; omega
  have hfS : J.Fits s.x := hs.fits
  have HOS := J.hOwn s.x hs.fit
  have Z : Hid (K.Kn w w [] [(s.a, s.x)]) := J.Kn.addm (J.Kn0 w) hs.row
  have nS : Hid ((s.a = none → s.c = 0) ∧ s.x.length ≤ s.c) := ⟨hs.nil, hs.cap⟩
  obtain ⟨oS, cS, S⟩ := s
  dsimp only at *
  clear hs
  have H1 := J.hChk n S laS hfS
  have H2 := J.hChk' n S laS hfS
  have S1 := J.hSame S laS
  clear laS hfS
  generalize K.chk n S = e at H1 H2
  go_enter Try.func3, Try.ntmps3
  go_wp2_with fail
  refine (HOS.out _ _ _ Z.out.m0 nS.out.1).mono ?_
  rintro e w1 ⟨v, rfl, hm⟩
  obtain ⟨ox, cx, hv, nx, Z1⟩ := J.mmade Z.out hm
  subst hv
  clear hm Z
  go_wp2_with fail
  refine (H1.out _ _ _ Z1.out.m0).mono ?_
  rintro e w2 ⟨rfl, hb⟩
  have Z2 := Lib.hid (Z1.out.on hb)
  clear hb Z1
  go_wp2_with fail
  refine (H2.out _ _ _ Z2.out.mt.m0).mono ?_
  rintro e w3 ⟨rfl, hb⟩
  have Z3 := Lib.hid (Z2.out.on hb)
  clear hb Z2
  go_wp2_with fail
  refine (S1.out _ _ _ _ _ Z3.out.m0 Z3.out.mt.m0).mono ?_
  rintro e w4 ⟨rfl, hb⟩
  have Z4 := Lib.hid (Z3.out.on hb)
  clear hb Z3
  have KB := Lib.hid Z4.out.below
  clear Z4
  go_wp2_with fail
  refine (HK.out _).mono ?_
  rintro e wk ⟨rfl, hb⟩
  have KC := Lib.hid (KB.out.trans (hb.mono KB.out.size))
  clear hb
  go_wp2
  go_ret
  exact ⟨rfl, KC.out⟩
set_option maxRecDepth 100000 in
set_option maxHeartbeats 4000000 in
theorem markShifts_walk (s : K.Src) (r : D.Src) (w : World) (hs : K.ArgOk w s) (hr : D.ArgOk w r) :
    Calls Try.prog 5 #[.slice s.a s.x.length s.c, .slice r.a r.x.length r.c] w fun e w' => e = .returned (.bool true) ∧ Below w.heap.size w w' := by
  have HK := J.hKnown
  have laS : s.x.length ≤ maxLen := by have := hs.fit; unfold maxLen; omega
  have hfS : J.Fits s.x := hs.fits
  have HOS := J.hOwn s.x hs.fit
  have bdR := L.bd_arg hr
  have HPR := L.hOwn r.x hr.fit
  have Z : Hid (K.Kn w w [(r.a, r.x)] [(s.a, s.x)]) := J.Kn.addp (J.Kn.addm (J.Kn0 w) hs.row) hr.src.row
  have nS : Hid ((s.a = none → s.c = 0) ∧ s.x.length ≤ s.c) := ⟨hs.nil, hs.cap⟩
  have nR : Hid ((r.a = none → r.c = 0) ∧ r.x.length ≤ r.c) := ⟨hr.src.nil, hr.cap⟩
  obtain ⟨oS, cS, S⟩ := s
  obtain ⟨oR, cR, R⟩ := r
  dsimp only at *
  clear hs hr
  have H1 := J.hSh S R laS hfS bdR
  have H2 := J.hSh' S R laS hfS bdR
  have S1 := J.hSame (K.shL S R) (J.shL_le S R laS)
  have S2 := J.hSame S laS
  have S3 := L.hSame R bdR.1
  clear laS hfS bdR
  generalize K.shL S R = G at *
  generalize K.shE S R = E at *
  go_enter Try.func5, Try.ntmps5
  go_wp2_with fail
  refine (HOS.out _ _ _ Z.out.m0 nS.out.1).mono ?_
  rintro e w1 ⟨v, rfl, hm⟩
  obtain ⟨ox, cx, hv, nx, Z1⟩ := J.mmade Z.out hm
  subst hv
  clear hm Z
  go_wp2_with fail
  refine (HPR.out _ _ _ Z1.out.p0 nR.out.1).mono ?_
  rintro e w2 ⟨v, rfl, hm⟩
  obtain ⟨oy, cy, hv, ny, Z2⟩ := J.pmade Z1.out hm
  subst hv
  clear hm Z1
  go_wp2_with fail
  refine (H1.out _ _ _ _ _ Z2.out.m0 nx.out.1 Z2.out.p0).mono ?_
  rintro e w3 ⟨v, rfl, hm⟩
  obtain ⟨og, cg, hv, ng, Z3⟩ := J.mmade Z2.out hm
  subst hv
  clear hm Z2
  go_wp2_with fail
  refine (H2.out _ _ _ _ _ Z3.out.mt.mt.m0 Z3.out.pt.p0).mono ?_
  rintro e w4 ⟨v, rfl, hm⟩
  obtain ⟨oq, cq, hv, nq, Z4⟩ := J.mmade Z3.out hm
  subst hv
  clear hm Z3
  go_wp2_with fail
  refine (S1.out _ _ _ _ _ Z4.out.mt.m0 Z4.out.m0).mono ?_
  rintro e w5 ⟨rfl, hb⟩
  have Z5 := Lib.hid (Z4.out.on hb)
  clear hb Z4
  go_wp2_with fail
  refine (S2.out _ _ _ _ _ Z5.out.mt.mt.m0 Z5.out.mt.mt.mt.m0).mono ?_
  rintro e w6 ⟨rfl, hb⟩
  have Z6 := Lib.hid (Z5.out.on hb)
  clear hb Z5
  go_wp2_with fail
  refine (S3.out _ _ _ _ _ Z6.out.p0 Z6.out.pt.p0).mono ?_
  rintro e w7 ⟨rfl, hb⟩
  have Z7 := Lib.hid (Z6.out.on hb)
  clear hb Z6
  have KB := Lib.hid Z7.out.below
  clear Z7
  go_wp2_with fail
  refine (HK.out _).mono ?_
  rintro e wk ⟨rfl, hb⟩
  have KC := Lib.hid (KB.out.trans (hb.mono KB.out.size))
  clear hb
  go_wp2
  go_ret
  exact ⟨rfl, KC.out⟩
set_option maxRecDepth 100000 in
set_option maxHeartbeats 4000000 in
theorem markLists_walk (s : K.Src) (f t : Int) (w : World) (hs : K.ArgOk w s) (_ : -9223372036854775808 ≤ f) (_ : f < 9223372036854775808) (_ : -9223372036854775808 ≤ t) (_ : t < 9223372036854775808) :
    Calls Try.prog 6 #[.slice s.a s.x.length s.c, .int .i64 f, .int .i64 t] w fun e w' => e = .returned (.bool true) ∧ Below w.heap.size w w' := by
  have HK := J.hKnown
  have laS : s.x.length ≤ maxLen := by have := hs.fit; unfold maxLen; omega
  have hfS : J.Fits s.x := hs.fits
  have HOS := J.hOwn s.x hs.fit
  have Z : Hid (K.Kn w w [] [(s.a, s.x)]) := J.Kn.addm (J.Kn0 w) hs.row
  have nS : Hid ((s.a = none → s.c = 0) ∧ s.x.length ≤ s.c) := ⟨hs.nil, hs.cap⟩
  obtain ⟨oS, cS, S⟩ := s
  dsimp only at *
  clear hs
  by_cases hbig : 2000 < S.length
  · clear laS hfS HOS
    go_enter Try.func6, Try.ntmps6
    have KB := Lib.hid Z.out.below
    clear Z
    go_wp2_with fail
    refine (HK.out _).mono ?_
    rintro e wk ⟨rfl, hb⟩
    have KC := Lib.hid (KB.out.trans (hb.mono KB.out.size))
    clear hb
    go_wp2
    go_ret
    exact ⟨rfl, KC.out⟩
  · have H1 := J.hBtw S f t (by omega)
    have H2 := J.hBtw' S f t (by omega)
    have hle : (K.btw S f t).length ≤ 2000 := by unfold K.btw; rw [K.srt_len]; have := K.inside_le S f t; omega
    have S1 := J.hSame (K.btw S f t) (by unfold maxLen; omega)
    have S2 := J.hSame S laS
    clear laS hfS
    generalize K.btw S f t = G at *
    go_enter Try.func6, Try.ntmps6
    go_wp2_with fail
    refine (HOS.out _ _ _ Z.out.m0 nS.out.1).mono ?_
    rintro e w1 ⟨v, rfl, hm⟩
    obtain ⟨ox, cx, hv, nx, Z1⟩ := J.mmade Z.out hm
    subst hv
    clear hm Z
    go_wp2_with fail
    refine (H1.out _ _ _ Z1.out.m0).mono ?_
    rintro e w2 ⟨v, rfl, hm⟩
    obtain ⟨og, cg, hv, ng, Z2⟩ := J.mmade Z1.out hm
    subst hv
    have Gg := Lib.hid hm
    have Bg := Lib.hid Z1.out
    clear hm Z1
    have O2 := Lib.hid (J.Ow.of Gg.out)
    clear Gg
    go_wp2_with fail
    refine (H2.out _ _ _ Z2.out.mt.mt.m0).mono ?_
    rintro e w3 ⟨v, rfl, hm⟩
    have O3 := Lib.hid (O2.out.on hm.below)
    clear O2
    obtain ⟨oq, cq, hv, nq, Z3⟩ := J.mmade Z2.out hm
    subst hv
    clear hm Z2
    go_wp2_with fail
    refine (S1.out _ _ _ _ _ Z3.out.mt.m0 Z3.out.m0).mono ?_
    rintro e w4 ⟨rfl, hb⟩
    have O4 := Lib.hid (O3.out.on hb)
    clear O3
    have Z4 := Lib.hid (Z3.out.on hb)
    clear hb Z3
    clear Z4
    go_wp2
    go_loopw [9] (fun i wx => ∃ j : Nat, j ≤ G.length ∧ i = .int .i64 j ∧ Hid (J.Ow w1 og cg G.length wx)) (fun i _ => G.length - (intOf i).toNat)
    case atStart => exact ⟨0, Nat.zero_le _, rfl, O4⟩
    case round =>
      obtain ⟨j, hj, rfl, hO⟩ := hrel
      clear O4
      by_cases hlt : j < G.length
      · obtain ⟨g, mm, e, ⟨_, c0, c1, c2, f0, f1, f2⟩, hp⟩ := hO.out.at hlt
        subst e
        have R := Lib.hid (hp ⟨77, 0, 0⟩)
        clear hO hp
        go_wp2
        go_roundw
        case rel => exact ⟨j + 1, by omega, by go_num, R⟩
        case measure => simp [intOf]; omega
      · obtain rfl : j = G.length := by omega
        have Z0 := Lib.hid (Bg.out.on hO.out.below)
        clear hO Bg
        go_wp2_with fail
        refine (S2.out _ _ _ _ _ Z0.out.m0 Z0.out.mt.m0).mono ?_
        rintro e w21 ⟨rfl, hb⟩
        have Z21 := Lib.hid (Z0.out.on hb)
        clear hb Z0
        have KB := Lib.hid Z21.out.below
        clear Z21
        go_wp2_with fail
        refine (HK.out _).mono ?_
        rintro e wk ⟨rfl, hb⟩
        have KC := Lib.hid (KB.out.trans (hb.mono KB.out.size))
        clear hb
        go_wp2
        go_ret
        exact ⟨rfl, KC.out⟩
end Go.Proofs.Ytmbgcbgbdjiacaa
