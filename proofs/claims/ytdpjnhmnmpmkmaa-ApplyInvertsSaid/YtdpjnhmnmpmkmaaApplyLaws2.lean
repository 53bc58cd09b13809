/- The walk of ApplyInverts. -/
import Derived.Test.YtdpjnhmnmpmkmaaApplyLawKit
namespace Go.Proofs.Ytdpjnhmnmpmkmaa
open Go.RowKit

set_option maxRecDepth 100000 in
set_option maxHeartbeats 4000000 in
theorem applyInverts_walk (z : ByteArray) (s : D.Src) (w : World) (hz : z.size ≤ 140737488351232) (hs : D.ArgOk w s) :
    Calls Try.prog 5 #[.string z, .slice s.a s.x.length s.c] w fun e w' => e = .returned (.bool true) ∧ Below w.heap.size w w' := by
  have HO := A.hOwn s.x hs.fit
  have H1 := A.hInv z s.x hz (A.bd_arg hs)
  have H2 := A.hInv' z s.x hz (A.bd_arg hs)
  have H7 := A.hSame s.x hs.src.len
  have H8 := A.hSame (D.invP z.data.toList s.x) (Nat.le_trans (A.invP_len _ _) (by decide))
  have HK := A.hKnown
  have K : Hid (D.Kn w w [(s.a, s.x)]) := ⟨Below.refl _ _, fun x hx => by simp at hx; subst hx; exact hs.src.row⟩
  have nS : Hid (s.a = none → s.c = 0) := hs.src.nil
  have hnb := A.invP_len z.data.toList s.x
  obtain ⟨ao, c, l⟩ := s
  dsimp only at *
  generalize D.fitE z.data.toList l = k at H1 H2
  generalize D.invP z.data.toList l = nm at H1 H2 H8 hnb
  clear hs hz
  go_enter Try.func5, Try.ntmps5
  go_wp2_with fail
  refine (HO.out _ _ _ K.out.r0 nS.out).mono ?_
  rintro e w1 ⟨v, rfl, hm⟩
  obtain ⟨xa, xc, hv, K1⟩ := K.out.made hm
  subst hv
  clear hm K
  go_wp2_with fail
  refine (H2.out _ _ _ K1.out.tl.r0).mono ?_
  rintro e w2 ⟨v, rfl, hm⟩
  obtain ⟨wa, wc, hv, K⟩ := K1.out.made hm
  subst hv
  clear hm K1
  go_wp2
  go_loopw [8] (fun i wr => ∃ n : Nat, n ≤ 2 ∧ i = .int .i64 n ∧ Hid (D.Kn w wr [(wa, nm), (xa, l), (ao, l)])) (fun i _ => 2 - (intOf i).toNat)
  case atStart => exact ⟨0, by omega, rfl, K.out⟩
  case round =>
    obtain ⟨n, hn, rfl, K⟩ := hrel
    by_cases hlt : n < 2
    · have g1 : (n : Int) < 2 := by omega
      go_wp2_with fail
      refine (H1.out _ _ _ K.out.tl.r0).mono ?_
      rintro e w4 ⟨v, rfl, hm⟩
      obtain ⟨ga, gc, hv, K4⟩ := K.out.made hm
      subst hv
      have G := Lib.hid (D.got_of_own hm.own hm.below)
      clear hm
      go_wp2_with fail
      refine (H8.out _ _ _ _ _ K4.out.r0 K4.out.tl.r0).mono ?_
      rintro e w5 ⟨rfl, hb⟩
      have K5 := Lib.hid (K4.out.on hb)
      have hb5 := Lib.hid hb
      clear hb
      go_wp2_with fail
      refine (H7.out _ _ _ _ _ K5.out.tl.tl.r0 K5.out.tl.tl.tl.r0).mono ?_
      rintro e w6 ⟨rfl, hb⟩
      have G6 : Hid (D.Got ga nm.length wr w6) := ⟨G.out.below.trans ((hb5.out.trans (hb.mono hb5.out.size)).mono G.out.below.size), fun h0 => by
        obtain ⟨g, cur, e1, e2, e3, e4⟩ := G.out.row h0
        have hg4 := (Array.getElem?_eq_some_iff.1 e3).1
        exact ⟨g, cur, e1, e2, (hb.block g (Nat.lt_of_lt_of_le hg4 hb5.out.size)).trans ((hb5.out.block g hg4).trans e3), e4⟩⟩
      clear hb K5 K4 G hb5
      obtain ⟨W0, rfl⟩ : ∃ W0 : World, W0 = wr := ⟨_, rfl⟩
      go_wp2
      go_loopw [11] (fun i wx => ∃ j : Nat, j ≤ nm.length ∧ i = .int .i64 j ∧ Hid (D.Got ga nm.length W0 wx)) (fun i _ => nm.length - (intOf i).toNat)
      case atStart => exact ⟨0, Nat.zero_le _, rfl, G6.out⟩
      case round =>
        obtain ⟨j, hj, rfl, G⟩ := hrel
        clear G6
        by_cases hjl : j < nm.length
        · obtain ⟨g, cur, e1, e2, e3, e4⟩ := G.out.row (by omega)
          subst e1
          obtain ⟨u0, d0⟩ := D.got_cell e3 (i := j * 3) (by omega)
          obtain ⟨u1, d1⟩ := D.got_cell e3 (i := j * 3 + 1) (by omega)
          obtain ⟨u2, d2⟩ := D.got_cell e3 (i := j * 3 + 2) (by omega)
          have f0 := frozen_of_row _ _ (j * 3) _ _ e3
          have f1 := frozen_of_row _ _ (j * 3 + 1) _ _ e3
          have f2 := frozen_of_row _ _ (j * 3 + 2) _ _ e3
          obtain ⟨cur', h5, h6⟩ := D.got_three e3 (j * 3) (j * 3 + 1) (j * 3 + 2) (.int .u8 77) (.int .i64 0) (.string ⟨#[]⟩)
          have R : Hid (D.Got (some ⟨g, 0, none⟩) nm.length W0 (((wr.setCell ⟨g, j * 3, none⟩ (.int .u8 77)).setCell ⟨g, j * 3 + 1, none⟩ (.int .i64 0)).setCell ⟨g, j * 3 + 2, none⟩ (.string ⟨#[]⟩))) :=
            ⟨((G.out.below.setCell (p := ⟨g, _, none⟩) e2 _).setCell (p := ⟨g, _, none⟩) e2 _).setCell (p := ⟨g, _, none⟩) e2 _, fun _ => ⟨g, cur', rfl, e2, h5, by omega⟩⟩
          clear e3 h5 e4 h6 G K
          go_wp2
          go_roundw
          case rel => exact ⟨j + 1, by omega, by go_num, R⟩
          case measure => simp [intOf]; omega
        · obtain rfl : j = nm.length := by omega
          have R := Lib.hid (K.out.on G.out.below)
          clear G K
          go_wp2
          go_roundw
          case rel => exact ⟨n + 1, by omega, by go_num, R⟩
          case measure => simp [intOf]; omega
    · obtain rfl : n = 2 := by omega
      go_wp2_with fail
      refine (H7.out _ _ _ _ _ K.out.tl.r0 K.out.tl.tl.r0).mono ?_
      rintro e w5 ⟨rfl, hb⟩
      have K5 := Lib.hid (K.out.on hb).below
      clear hb K
      go_wp2_with fail
      refine (HK.out _).mono ?_
      rintro e w9 ⟨rfl, hb⟩
      have K6 := Lib.hid (K5.out.trans (hb.mono K5.out.size))
      clear hb K5
      go_wp2
      go_ret
      exact ⟨rfl, K6.out⟩
end Go.Proofs.Ytdpjnhmnmpmkmaa
