/- The walk of ComposeCounts. -/
import Derived.Test.YteondigaklonpaaComposeCnt
namespace Go.Proofs.Yteondigaklonpaa
open Go.RowKit

set_option maxRecDepth 100000 in
set_option maxHeartbeats 4000000 in
theorem composeCounts_walk (s r : D.Src) (w : World) (hs : D.ArgOk w s) (hr : D.ArgOk w r) :
    Calls Try.prog 10 #[.slice s.a s.x.length s.c, .slice r.a r.x.length r.c] w fun e w' => e = .returned (.bool true) ∧ Below w.heap.size w w' := by
  have HA := C.hOwn s.x hs.fit
  have HB := C.hOwn r.x hr.fit
  have H1 := C.hCmp s.x r.x (C.bd_arg hs) (C.bd_arg hr)
  have HK := C.hKnown
  have K : Hid (D.Kn w w [(s.a, s.x), (r.a, r.x)]) := ⟨Below.refl _ _, fun x hx => by
    simp at hx
    rcases hx with rfl | rfl
    · exact hs.src.row
    · exact hr.src.row⟩
  have nS : Hid ((s.a = none → s.c = 0) ∧ s.x.length ≤ s.c) := ⟨hs.src.nil, hs.cap⟩
  have nR : Hid ((r.a = none → r.c = 0) ∧ r.x.length ≤ r.c) := ⟨hr.src.nil, hr.cap⟩
  by_cases h1 : D.cmpE s.x r.x = 0
  · have c := D.cmp_of h1
    have H2 := C.hCnt s.x c.fit.a
    have H3 := C.hCnt r.x c.fit.b
    have H4 := C.hCnt (D.cmpP s.x r.x) c.ok
    obtain ⟨g1, g2, g3, g4, g5, g6⟩ := D.counts5 h1
    have v1 := (D.valid_qs c.fit.a).2.2.2.2
    have v2 := (D.valid_qs c.fit.b).2.2.2.2
    have v3 := (D.valid_qs c.ok).2.2.2.2
    have i1 := D.inL_kd (D.qs s.x)
    have i2 := D.inL_kd (D.qs r.x)
    have i3 := D.inL_kd (D.qs (D.cmpP s.x r.x))
    have j1 := D.outL_ki (D.qs s.x)
    have j2 := D.outL_ki (D.qs r.x)
    have j3 := D.outL_ki (D.qs (D.cmpP s.x r.x))
    rw [h1] at H1
    obtain ⟨oS, cS, S⟩ := s
    obtain ⟨oR, cR, R⟩ := r
    dsimp only at *
    generalize D.kN (D.qs (D.cmpP S R)) = k3 at *
    generalize D.iN (D.qs (D.cmpP S R)) = n3 at *
    generalize D.dN (D.qs (D.cmpP S R)) = d3 at *
    generalize D.cmpP S R = AB at *
    generalize D.kN (D.qs S) = k1 at *
    generalize D.iN (D.qs S) = n1 at *
    generalize D.dN (D.qs S) = d1 at *
    generalize D.kN (D.qs R) = k2 at *
    generalize D.iN (D.qs R) = n2 at *
    generalize D.dN (D.qs R) = d2 at *
    have x1 : decide ((k3 : Int) ≤ (k1 : Int)) = true := by simp; omega
    have x2 : decide ((k3 : Int) ≤ (k2 : Int)) = true := by simp; omega
    have x3 : decide ((n3 : Int) ≤ (n1 : Int) + (n2 : Int)) = true := by simp; omega
    have x4 : decide ((d3 : Int) ≤ (d1 : Int) + (d2 : Int)) = true := by simp; omega
    have x5 : (((k3 : Int) + (d3 : Int)) == ((k1 : Int) + (d1 : Int))) = true := by simp; omega
    have x6 : (((k3 : Int) + (n3 : Int)) == ((k2 : Int) + (n2 : Int))) = true := by simp; omega
    have y1 : k3 ≤ k1 := by omega
    have y2 : k3 ≤ k2 := by omega
    have y3 : k1 ≤ 1048576 ∧ n1 ≤ 1048576 ∧ d1 ≤ 1048576 ∧ k2 ≤ 1048576 ∧ n2 ≤ 1048576 ∧ d2 ≤ 1048576 ∧ k3 ≤ 1048576 ∧ n3 ≤ 1048576 ∧ d3 ≤ 1048576 := by omega
    obtain ⟨z1, z2, z3, z4, z5, z6, z7, z8, z9⟩ := y3
    clear hs hr h1 c g3 g4 v1 v2 v3 i1 i2 i3 j1 j2 j3 g5 g6 g1 g2
    go_enter Try.func10, Try.ntmps10
    go_wp2_with fail
    refine (HA.out _ _ _ K.out.r0 nS.out.1).mono ?_
    rintro e w1 ⟨v, rfl, hm⟩
    obtain ⟨ox1, cx1, hv, nx1, K1⟩ := C.made5 K.out hm
    subst hv
    clear hm K
    go_wp2_with fail
    refine (HB.out _ _ _ K1.out.tl.tl.r0 nR.out.1).mono ?_
    rintro e w2 ⟨v, rfl, hm⟩
    obtain ⟨oy1, cy1, hv, ny1, K2⟩ := C.made5 K1.out hm
    subst hv
    clear hm K1
    go_wp2_with fail
    refine (H1.out _ _ _ _ _ K2.out.tl.r0 K2.out.r0 nx1.out.2 ny1.out.2).mono ?_
    rintro e w3 ⟨v, rfl, hm⟩
    obtain ⟨od, cd, hv, nd, K3⟩ := C.made5 K2.out hm
    subst hv
    clear hm K2
    go_wp2_with fail
    refine (H2.out _ _ _ K3.out.tl.tl.tl.r0).mono ?_
    rintro e w4 ⟨rfl, hb⟩
    have K4 := Lib.hid (K3.out.on hb)
    clear hb K3
    go_wp2_with fail
    refine (H3.out _ _ _ K4.out.tl.tl.tl.tl.r0).mono ?_
    rintro e w5 ⟨rfl, hb⟩
    have K5 := Lib.hid (K4.out.on hb)
    clear hb K4
    go_wp2_with fail
    refine (H4.out _ _ _ K5.out.r0).mono ?_
    rintro e w6 ⟨rfl, hb⟩
    have K6 := Lib.hid (K5.out.on hb)
    clear hb K5
    have KB := Lib.hid K6.out.below
    clear K6
    go_wp2_with fail
    refine (HK.out _).mono ?_
    rintro e wk ⟨rfl, hb⟩
    have KC := Lib.hid (KB.out.trans (hb.mono KB.out.size))
    clear hb
    go_wp2
    go_ret
    exact ⟨rfl, KC.out⟩
  · have q1 : (D.cmpE s.x r.x != 0) = true := by simpa using h1
    obtain ⟨oS, cS, S⟩ := s
    obtain ⟨oR, cR, R⟩ := r
    dsimp only at *
    generalize D.cmpP S R = AB at H1
    generalize D.cmpE S R = j at H1 q1
    clear hs hr h1
    go_enter Try.func10, Try.ntmps10
    go_wp2_with fail
    refine (HA.out _ _ _ K.out.r0 nS.out.1).mono ?_
    rintro e w1 ⟨v, rfl, hm⟩
    obtain ⟨ox1, cx1, hv, nx1, K1⟩ := C.made5 K.out hm
    subst hv
    clear hm K
    go_wp2_with fail
    refine (HB.out _ _ _ K1.out.tl.tl.r0 nR.out.1).mono ?_
    rintro e w2 ⟨v, rfl, hm⟩
    obtain ⟨oy1, cy1, hv, ny1, K2⟩ := C.made5 K1.out hm
    subst hv
    clear hm K1
    go_wp2_with fail
    refine (H1.out _ _ _ _ _ K2.out.tl.r0 K2.out.r0 nx1.out.2 ny1.out.2).mono ?_
    rintro e w3 ⟨v, rfl, hm⟩
    obtain ⟨od, cd, hv, nd, K3⟩ := C.made5 K2.out hm
    subst hv
    clear hm K2
    have KB := Lib.hid K3.out.below
    clear K3
    go_wp2_with fail
    refine (HK.out _).mono ?_
    rintro e wk ⟨rfl, hb⟩
    have KC := Lib.hid (KB.out.trans (hb.mono KB.out.size))
    clear hb
    go_wp2
    go_ret
    exact ⟨rfl, KC.out⟩
end Go.Proofs.Yteondigaklonpaa
