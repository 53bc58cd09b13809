/- The walks of ApplyDoes and ApplyInserted. -/
import Derived.Test.YtdpjnhmnmpmkmaaApplyLawKit
namespace Go.Proofs.Ytdpjnhmnmpmkmaa
open Go.RowKit

set_option maxRecDepth 100000 in
set_option maxHeartbeats 4000000 in
theorem applyDoes_walk (z : ByteArray) (s : D.Src) (w : World) (hz : z.size ≤ 140737488351232) (hs : D.ArgOk w s) :
    Calls Try.prog 3 #[.string z, .slice s.a s.x.length s.c] w fun e w' => e = .returned (.bool true) ∧ Below w.heap.size w w' := by
  have HO := A.hOwn s.x hs.fit
  have H1 := A.hApp z s.x hz (A.bd_arg hs)
  have H2 := A.hApp' z s.x hz (A.bd_arg hs)
  have H3 := A.hRem z s.x hz (A.bd_arg hs)
  have H4 := A.hRem' z s.x hz (A.bd_arg hs)
  have H5 := A.hSame s.x hs.src.len
  have HK := A.hKnown
  have K : Hid (D.Kn w w [(s.a, s.x)]) := ⟨Below.refl _ _, fun x hx => by simp at hx; subst hx; exact hs.src.row⟩
  have nS : Hid (s.a = none → s.c = 0) := hs.src.nil
  obtain ⟨oS, cS, S⟩ := s
  dsimp only at *
  generalize D.fitE z.data.toList S = k at H1 H2 H3 H4
  generalize (⟨(D.resP z.data.toList S).toArray⟩ : ByteArray) = X at H1 H2
  generalize (⟨(D.remP z.data.toList S).toArray⟩ : ByteArray) = Y at H3 H4
  clear hs hz
  go_enter Try.func3, Try.ntmps3
  go_wp2_with fail
  refine (HO.out _ _ _ K.out.r0 nS.out).mono ?_
  rintro e w1 ⟨v, rfl, hm⟩
  obtain ⟨ox, cx, hv, nx, K1⟩ := K.out.made' hm
  subst hv
  clear hm K
  go_wp2_with fail
  refine (H1.out _ _ _ K1.out.r0).mono ?_
  rintro e w2 ⟨rfl, hb⟩
  have K2 := Lib.hid (K1.out.on hb)
  clear hb K1
  go_wp2_with fail
  refine (H2.out _ _ _ K2.out.tl.r0).mono ?_
  rintro e w3 ⟨rfl, hb⟩
  have K3 := Lib.hid (K2.out.on hb)
  clear hb K2
  go_wp2_with fail
  refine (H3.out _ _ _ K3.out.r0).mono ?_
  rintro e w4 ⟨rfl, hb⟩
  have K4 := Lib.hid (K3.out.on hb)
  clear hb K3
  go_wp2_with fail
  refine (H4.out _ _ _ K4.out.tl.r0).mono ?_
  rintro e w5 ⟨rfl, hb⟩
  have K5 := Lib.hid (K4.out.on hb)
  clear hb K4
  go_wp2_with fail
  refine (H5.out _ _ _ _ _ K5.out.r0 K5.out.tl.r0).mono ?_
  rintro e w6 ⟨rfl, hb⟩
  have K6 := Lib.hid (K5.out.on hb)
  clear hb K5
  have KB := Lib.hid K6.out.below
  clear K6
  go_wp2_with fail
  refine (HK.out _).mono ?_
  rintro e wk ⟨rfl, hb⟩
  have KC := Lib.hid (KB.out.trans (hb.mono KB.out.size))
  clear hb
  go_wp2
  go_ret
  exact ⟨rfl, KC.out⟩
set_option maxRecDepth 100000 in
set_option maxHeartbeats 4000000 in
theorem applyInserted_walk (s : D.Src) (w : World) (hs : D.ArgOk w s) :
    Calls Try.prog 4 #[.slice s.a s.x.length s.c] w fun e w' => e = .returned (.bool true) ∧ Below w.heap.size w w' := by
  have HO := A.hOwn s.x hs.fit
  have H1 := A.hIns s.x (A.bd_arg hs)
  have H2 := A.hIns' s.x (A.bd_arg hs)
  have H5 := A.hSame s.x hs.src.len
  have HK := A.hKnown
  have K : Hid (D.Kn w w [(s.a, s.x)]) := ⟨Below.refl _ _, fun x hx => by simp at hx; subst hx; exact hs.src.row⟩
  have nS : Hid (s.a = none → s.c = 0) := hs.src.nil
  obtain ⟨oS, cS, S⟩ := s
  dsimp only at *
  generalize D.chk S = k at H1 H2
  generalize (⟨(D.insP S).toArray⟩ : ByteArray) = X at H1 H2
  clear hs
  go_enter Try.func4, Try.ntmps4
  go_wp2_with fail
  refine (HO.out _ _ _ K.out.r0 nS.out).mono ?_
  rintro e w1 ⟨v, rfl, hm⟩
  obtain ⟨ox, cx, hv, nx, K1⟩ := K.out.made' hm
  subst hv
  clear hm K
  go_wp2_with fail
  refine (H1.out _ _ _ K1.out.r0).mono ?_
  rintro e w2 ⟨rfl, hb⟩
  have K2 := Lib.hid (K1.out.on hb)
  clear hb K1
  go_wp2_with fail
  refine (H2.out _ _ _ K2.out.tl.r0).mono ?_
  rintro e w3 ⟨rfl, hb⟩
  have K3 := Lib.hid (K2.out.on hb)
  clear hb K2
  go_wp2_with fail
  refine (H5.out _ _ _ _ _ K3.out.r0 K3.out.tl.r0).mono ?_
  rintro e w4 ⟨rfl, hb⟩
  have K4 := Lib.hid (K3.out.on hb)
  clear hb K3
  have KB := Lib.hid K4.out.below
  clear K4
  go_wp2_with fail
  refine (HK.out _).mono ?_
  rintro e wk ⟨rfl, hb⟩
  have KC := Lib.hid (KB.out.trans (hb.mono KB.out.size))
  clear hb
  go_wp2
  go_ret
  exact ⟨rfl, KC.out⟩
end Go.Proofs.Ytdpjnhmnmpmkmaa
