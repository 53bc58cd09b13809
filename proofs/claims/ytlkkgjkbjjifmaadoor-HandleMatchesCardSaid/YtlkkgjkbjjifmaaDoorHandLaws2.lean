/- The walk of HandleMatches. -/
import Derived.Test.YtlkkgjkbjjifmaaDoorHandAwake
namespace Go.Proofs.YtlkkgjkbjjifmaaDoor
open Go.RowKit

set_option maxRecDepth 100000 in
set_option maxHeartbeats 4000000 in
theorem handleMatches_walk (s g h : Int) (w : World) (s0 : -9223372036854775808 ≤ s) (s1 : s < 9223372036854775808) (g0 : 0 ≤ g) (g1 : g ≤ 18446744073709551615) (h0 : 0 ≤ h) (h1 : h ≤ 18446744073709551615) (hp : H.Pow w.heap.size w) :
    Calls Tryd.prog 3 #[.int .i64 s, .int .u64 g, .int .u64 h] w fun e w' => e = .returned (.bool true) ∧ Below w.heap.size w w' := by
  have HK := M10.hAw
  have HP : Hid (∀ W, Below w.heap.size w W → H.Pow W.heap.size W) := fun W hb => H.Pow.go hp hb
  clear hp
  have B0 : Hid (Below w.heap.size w w) := Below.refl _ _
  have H1 := M10.hMk s g s0 (by omega) g0 g1
  have H2 := M10.hMk' s g s0 (by omega) g0 g1
  obtain ⟨m, hm⟩ : ∃ m : Nat, H.mkV s g = (m : Int) := ⟨(H.mkV s g).toNat, by
    unfold H.mkV
    split
    · rename_i k
      have := (H.mkE_iff s g).1 k
      omega
    · rfl⟩
  have Hm : Hid (m ≤ 18446744073709551615) := by
    show _ ≤ _
    have e := hm
    unfold H.mkV at e
    split at e
    · rename_i k
      have := (H.mkE_iff s g).1 k
      omega
    · omega
  rw [hm] at H1 H2
  obtain ⟨n, rfl⟩ := Int.eq_ofNat_of_zero_le h0
  have Hn : Hid (n ≤ 18446744073709551615) := by show _ ≤ _; omega
  clear hm s0 s1 g0 g1 h0 h1
  generalize H.mkE s g = E at *
  obtain ⟨mi, hmi⟩ : ∃ mi : Int, Hid ((m : Int) = mi) := ⟨_, rfl⟩
  obtain ⟨ni, hni⟩ : ∃ ni : Int, Hid ((n : Int) = ni) := ⟨_, rfl⟩
  rw [hmi.out] at H1 H2
  rw [hni.out]
  go_enter Tryd.func3, Tryd.ntmps3
  go_wp2_with fail
  refine (H1.out _).mono ?_
  rintro e w1 ⟨rfl, hb⟩
  have B1 := Lib.hid (B0.out.trans (hb.mono B0.out.size))
  clear hb B0
  go_wp2_with fail
  refine (H2.out _).mono ?_
  rintro e w2 ⟨rfl, hb⟩
  have B2 := Lib.hid (B1.out.trans (hb.mono B1.out.size))
  clear hb B1
  clear H1 H2
  go_wp2
  go_loopw [2, 11] (fun hv i wr => ∃ (k n : Nat) (x : Int), k ≤ 2 ∧ i = .int .i64 k ∧ hv = .int .u64 x ∧ Hid ((n : Int) = x ∧ n ≤ 18446744073709551615) ∧ Hid (Below w.heap.size w wr)) (fun _ i _ => 2 - (intOf i).toNat)
  case atStart => exact ⟨0, n, ni, by omega, rfl, rfl, ⟨hni.out, Hn.out⟩, B2.out⟩
  case round =>
    obtain ⟨k, c, x, hk, rfl, rfl, hc, B9⟩ := hrel
    clear B2
    by_cases hlt : k < 2
    · have g1 : (k : Int) < 2 := by omega
      have H1 := M10.hSl c hc.out.2
      have H2 := M10.hGn c hc.out.2
      have H3 := M10.hNx c hc.out.2
      have H4 := M10.hTx c hc.out.2
      have H5 := M10.hSl' c hc.out.2
      have H6 := M10.hGn' c hc.out.2
      have H7 := M10.hNx' c hc.out.2
      have H8 := M10.hTx' c hc.out.2
      have C1 := M10.hCk c hc.out.2
      have C2 := M10.hCk' c hc.out.2
      rw [hc.out.1] at H1 H2 H3 H4 H5 H6 H7 H8 C1 C2
      generalize H.slotV c = sv at *
      generalize H.genV c = gv at *
      generalize H.nxV c = nv at *
      generalize H.nxE c = ne at *
      generalize (⟨(H.textL c).toArray⟩ : ByteArray) = tv at *
      generalize H.ckE c = ce at *
      have qt : (tv.toList != tv.toList) = false := by simp
      go_wp2_with fail
      refine (H1.out _).mono ?_
      rintro e w21 ⟨rfl, hb⟩
      have B21 := Lib.hid (B9.out.trans (hb.mono B9.out.size))
      clear hb B9
      go_wp2_with fail
      refine (H2.out _).mono ?_
      rintro e w22 ⟨rfl, hb⟩
      have B22 := Lib.hid (B21.out.trans (hb.mono B21.out.size))
      clear hb B21
      go_wp2_with fail
      refine (H3.out _).mono ?_
      rintro e w23 ⟨rfl, hb⟩
      have B23 := Lib.hid (B22.out.trans (hb.mono B22.out.size))
      clear hb B22
      go_wp2_with fail
      refine (H4.out _ (HP.out _ B23.out)).mono ?_
      rintro e w24 ⟨rfl, hb⟩
      have B24 := Lib.hid (B23.out.trans (hb.mono B23.out.size))
      clear hb B23
      go_wp2_with fail
      refine (H5.out _).mono ?_
      rintro e w25 ⟨rfl, hb⟩
      have B25 := Lib.hid (B24.out.trans (hb.mono B24.out.size))
      clear hb B24
      go_wp2_with fail
      refine (H6.out _).mono ?_
      rintro e w26 ⟨rfl, hb⟩
      have B26 := Lib.hid (B25.out.trans (hb.mono B25.out.size))
      clear hb B25
      go_wp2_with fail
      refine (H7.out _).mono ?_
      rintro e w27 ⟨rfl, hb⟩
      have B27 := Lib.hid (B26.out.trans (hb.mono B26.out.size))
      clear hb B26
      go_wp2_with fail
      refine (H8.out _).mono ?_
      rintro e w28 ⟨rfl, hb⟩
      have B28 := Lib.hid (B27.out.trans (hb.mono B27.out.size))
      clear hb B27
      go_wp2_with fail
      refine (C1.out _).mono ?_
      rintro e w29 ⟨rfl, hb⟩
      have B29 := Lib.hid (B28.out.trans (hb.mono B28.out.size))
      clear hb B28
      go_wp2_with fail
      refine (C2.out _).mono ?_
      rintro e w30 ⟨rfl, hb⟩
      have B30 := Lib.hid (B29.out.trans (hb.mono B29.out.size))
      clear hb B29
      go_wp2
      go_roundw
      case rel => exact ⟨k + 1, m, mi, by omega, by go_num, rfl, ⟨hmi.out, Hm.out⟩, B30⟩
      case measure => simp [intOf]; omega
    · obtain rfl : k = 2 := by omega
      go_wp2_with fail
      refine (HK.out _ (HP.out _ B9.out)).mono ?_
      rintro e w41 ⟨rfl, hb⟩
      have B41 := Lib.hid (B9.out.trans (hb.mono B9.out.size))
      clear hb B9
      go_wp2
      go_ret
      exact ⟨rfl, B41.out⟩
end Go.Proofs.YtlkkgjkbjjifmaaDoor
