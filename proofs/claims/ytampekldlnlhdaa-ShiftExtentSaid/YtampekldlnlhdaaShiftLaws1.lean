/- The walks of ShiftMoves, ShiftKeeps, ShiftRanges, ShiftExtent. -/
import Derived.Test.YtampekldlnlhdaaShiftLawKit
namespace Go.Proofs.Ytampekldlnlhdaa
open Go.RowKit

set_option maxRecDepth 100000 in
set_option maxHeartbeats 4000000 in
theorem shiftMoves_walk (s : D.Src) (p g : Int) (w : World) (hs : D.ArgOk w s) (_ : -9223372036854775808 ≤ p) (_ : p < 9223372036854775808) (g0 : 0 ≤ g) (_ : g ≤ 255) :
    Calls Try.prog 3 #[.slice s.a s.x.length s.c, .int .i64 p, .int .u8 g] w fun e w' => e = .returned (.bool true) ∧ Below w.heap.size w w' := by
  have HO := L.hOwn s.x hs.fit
  have H1 := L.hPos s.x (L.bd_arg hs) p g g0
  have H2 := L.hPos' s.x (L.bd_arg hs) p g g0
  have H3 := L.hBck s.x (L.bd_arg hs) p g g0
  have H4 := L.hBck' s.x (L.bd_arg hs) p g g0
  have S1 := L.hSame s.x hs.src.len
  have HK := L.hKnown
  have K : Hid (D.Kn w w [(s.a, s.x)]) := ⟨Below.refl _ _, fun x hx => by simp at hx; subst hx; exact hs.src.row⟩
  have nS : Hid ((s.a = none → s.c = 0) ∧ s.x.length ≤ s.c) := ⟨hs.src.nil, hs.cap⟩
  obtain ⟨oS, cS, S⟩ := s
  dsimp only at *
  generalize D.posV S p g = k1 at H1 H2
  generalize D.posE S p g = k2 at H1 H2
  generalize D.bckV S p g = k3 at H3 H4
  generalize D.bckE S p g = k4 at H3 H4
  clear hs
  go_enter Try.func3, Try.ntmps3
  go_wp2_with fail
  refine (HO.out _ _ _ K.out.r0 nS.out.1).mono ?_
  rintro e w1 ⟨v, rfl, hm⟩
  obtain ⟨ox, cx, hv, nx, K1⟩ := L.made5 K.out hm
  subst hv
  clear hm K
  go_wp2_with fail
  refine (H1.out _ _ _ K1.out.r0).mono ?_
  rintro e w2 ⟨rfl, hb⟩
  have K2 := Lib.hid (K1.out.on hb)
  clear hb K1
  go_wp2_with fail
  refine (H2.out _ _ _ K2.out.tl.r0).mono ?_
  rintro e w3 ⟨rfl, hb⟩
  have K3 := Lib.hid (K2.out.on hb)
  clear hb K2
  go_wp2_with fail
  refine (H3.out _ _ _ K3.out.r0).mono ?_
  rintro e w4 ⟨rfl, hb⟩
  have K4 := Lib.hid (K3.out.on hb)
  clear hb K3
  go_wp2_with fail
  refine (H4.out _ _ _ K4.out.tl.r0).mono ?_
  rintro e w5 ⟨rfl, hb⟩
  have K5 := Lib.hid (K4.out.on hb)
  clear hb K4
  go_wp2_with fail
  refine (S1.out _ _ _ _ _ K5.out.r0 K5.out.tl.r0).mono ?_
  rintro e w6 ⟨rfl, hb⟩
  have K6 := Lib.hid (K5.out.on hb)
  clear hb K5
  have KB := Lib.hid K6.out.below
  clear K6
  go_wp2_with fail
  refine (HK.out _).mono ?_
  rintro e wk ⟨rfl, hb⟩
  have KC := Lib.hid (KB.out.trans (hb.mono KB.out.size))
  clear hb
  go_wp2
  go_ret
  exact ⟨rfl, KC.out⟩
set_option maxRecDepth 100000 in
set_option maxHeartbeats 4000000 in
theorem shiftKeeps_walk (s : D.Src) (p : Int) (w : World) (hs : D.ArgOk w s) (_ : -9223372036854775808 ≤ p) (_ : p < 9223372036854775808) :
    Calls Try.prog 4 #[.slice s.a s.x.length s.c, .int .i64 p] w fun e w' => e = .returned (.bool true) ∧ Below w.heap.size w w' := by
  have HO := L.hOwn s.x hs.fit
  have H1 := L.hKep s.x (L.bd_arg hs) p
  have H2 := L.hKep' s.x (L.bd_arg hs) p
  have S1 := L.hSame s.x hs.src.len
  have HK := L.hKnown
  have K : Hid (D.Kn w w [(s.a, s.x)]) := ⟨Below.refl _ _, fun x hx => by simp at hx; subst hx; exact hs.src.row⟩
  have nS : Hid ((s.a = none → s.c = 0) ∧ s.x.length ≤ s.c) := ⟨hs.src.nil, hs.cap⟩
  obtain ⟨oS, cS, S⟩ := s
  dsimp only at *
  generalize D.kepV S p = k1 at H1 H2
  generalize D.kepI S p = k2 at H1 H2
  generalize D.kepE S p = k3 at H1 H2
  clear hs
  go_enter Try.func4, Try.ntmps4
  go_wp2_with fail
  refine (HO.out _ _ _ K.out.r0 nS.out.1).mono ?_
  rintro e w1 ⟨v, rfl, hm⟩
  obtain ⟨ox, cx, hv, nx, K1⟩ := L.made5 K.out hm
  subst hv
  clear hm K
  go_wp2_with fail
  refine (H1.out _ _ _ K1.out.r0).mono ?_
  rintro e w2 ⟨rfl, hb⟩
  have K2 := Lib.hid (K1.out.on hb)
  clear hb K1
  go_wp2_with fail
  refine (H2.out _ _ _ K2.out.tl.r0).mono ?_
  rintro e w3 ⟨rfl, hb⟩
  have K3 := Lib.hid (K2.out.on hb)
  clear hb K2
  go_wp2_with fail
  refine (S1.out _ _ _ _ _ K3.out.r0 K3.out.tl.r0).mono ?_
  rintro e w4 ⟨rfl, hb⟩
  have K4 := Lib.hid (K3.out.on hb)
  clear hb K3
  have KB := Lib.hid K4.out.below
  clear K4
  go_wp2_with fail
  refine (HK.out _).mono ?_
  rintro e wk ⟨rfl, hb⟩
  have KC := Lib.hid (KB.out.trans (hb.mono KB.out.size))
  clear hb
  go_wp2
  go_ret
  exact ⟨rfl, KC.out⟩
set_option maxRecDepth 100000 in
set_option maxHeartbeats 4000000 in
theorem shiftRanges_walk (s : D.Src) (p q : Int) (w : World) (hs : D.ArgOk w s) (_ : -9223372036854775808 ≤ p) (_ : p < 9223372036854775808) (_ : -9223372036854775808 ≤ q) (_ : q < 9223372036854775808) :
    Calls Try.prog 5 #[.slice s.a s.x.length s.c, .int .i64 p, .int .i64 q] w fun e w' => e = .returned (.bool true) ∧ Below w.heap.size w w' := by
  have HO := L.hOwn s.x hs.fit
  have H1 := L.hRng s.x (L.bd_arg hs) p q
  have H2 := L.hRng' s.x (L.bd_arg hs) p q
  have S1 := L.hSame s.x hs.src.len
  have HK := L.hKnown
  have K : Hid (D.Kn w w [(s.a, s.x)]) := ⟨Below.refl _ _, fun x hx => by simp at hx; subst hx; exact hs.src.row⟩
  have nS : Hid ((s.a = none → s.c = 0) ∧ s.x.length ≤ s.c) := ⟨hs.src.nil, hs.cap⟩
  obtain ⟨oS, cS, S⟩ := s
  dsimp only at *
  generalize D.rngA S p q = k1 at H1 H2
  generalize D.rngB S p q = k2 at H1 H2
  generalize D.rngE S p q = k3 at H1 H2
  clear hs
  go_enter Try.func5, Try.ntmps5
  go_wp2_with fail
  refine (HO.out _ _ _ K.out.r0 nS.out.1).mono ?_
  rintro e w1 ⟨v, rfl, hm⟩
  obtain ⟨ox, cx, hv, nx, K1⟩ := L.made5 K.out hm
  subst hv
  clear hm K
  go_wp2_with fail
  refine (H1.out _ _ _ K1.out.r0).mono ?_
  rintro e w2 ⟨rfl, hb⟩
  have K2 := Lib.hid (K1.out.on hb)
  clear hb K1
  go_wp2_with fail
  refine (H2.out _ _ _ K2.out.tl.r0).mono ?_
  rintro e w3 ⟨rfl, hb⟩
  have K3 := Lib.hid (K2.out.on hb)
  clear hb K2
  go_wp2_with fail
  refine (S1.out _ _ _ _ _ K3.out.r0 K3.out.tl.r0).mono ?_
  rintro e w4 ⟨rfl, hb⟩
  have K4 := Lib.hid (K3.out.on hb)
  clear hb K3
  have KB := Lib.hid K4.out.below
  clear K4
  go_wp2_with fail
  refine (HK.out _).mono ?_
  rintro e wk ⟨rfl, hb⟩
  have KC := Lib.hid (KB.out.trans (hb.mono KB.out.size))
  clear hb
  go_wp2
  go_ret
  exact ⟨rfl, KC.out⟩
set_option maxRecDepth 100000 in
set_option maxHeartbeats 4000000 in
theorem shiftExtent_walk (s : D.Src) (w : World) (hs : D.ArgOk w s) :
    Calls Try.prog 6 #[.slice s.a s.x.length s.c] w fun e w' => e = .returned (.bool true) ∧ Below w.heap.size w w' := by
  have HO := L.hOwn s.x hs.fit
  have H1 := L.hExt s.x (L.bd_arg hs)
  have H2 := L.hExt' s.x (L.bd_arg hs)
  have S1 := L.hSame s.x hs.src.len
  have HK := L.hKnown
  have K : Hid (D.Kn w w [(s.a, s.x)]) := ⟨Below.refl _ _, fun x hx => by simp at hx; subst hx; exact hs.src.row⟩
  have nS : Hid ((s.a = none → s.c = 0) ∧ s.x.length ≤ s.c) := ⟨hs.src.nil, hs.cap⟩
  obtain ⟨oS, cS, S⟩ := s
  dsimp only at *
  generalize D.xtF S = k1 at H1 H2
  generalize D.xtT S = k2 at H1 H2
  generalize D.xtE S = k3 at H1 H2
  generalize D.chk S = k4 at H1 H2
  clear hs
  go_enter Try.func6, Try.ntmps6
  go_wp2_with fail
  refine (HO.out _ _ _ K.out.r0 nS.out.1).mono ?_
  rintro e w1 ⟨v, rfl, hm⟩
  obtain ⟨ox, cx, hv, nx, K1⟩ := L.made5 K.out hm
  subst hv
  clear hm K
  go_wp2_with fail
  refine (H1.out _ _ _ K1.out.r0).mono ?_
  rintro e w2 ⟨rfl, hb⟩
  have K2 := Lib.hid (K1.out.on hb)
  clear hb K1
  go_wp2_with fail
  refine (H2.out _ _ _ K2.out.tl.r0).mono ?_
  rintro e w3 ⟨rfl, hb⟩
  have K3 := Lib.hid (K2.out.on hb)
  clear hb K2
  go_wp2_with fail
  refine (S1.out _ _ _ _ _ K3.out.r0 K3.out.tl.r0).mono ?_
  rintro e w4 ⟨rfl, hb⟩
  have K4 := Lib.hid (K3.out.on hb)
  clear hb K3
  have KB := Lib.hid K4.out.below
  clear K4
  go_wp2_with fail
  refine (HK.out _).mono ?_
  rintro e wk ⟨rfl, hb⟩
  have KC := Lib.hid (KB.out.trans (hb.mono KB.out.size))
  clear hb
  go_wp2
  go_ret
  exact ⟨rfl, KC.out⟩
end Go.Proofs.Ytampekldlnlhdaa
