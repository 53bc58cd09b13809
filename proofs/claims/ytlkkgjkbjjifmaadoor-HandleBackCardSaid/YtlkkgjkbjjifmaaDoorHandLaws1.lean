/- The walks of HandleParses, HandleBack, HandleNext, HandleAny. -/
import Derived.Test.YtlkkgjkbjjifmaaDoorHandAwake
namespace Go.Proofs.YtlkkgjkbjjifmaaDoor
open Go.RowKit

set_option maxRecDepth 100000 in
set_option maxHeartbeats 4000000 in
theorem handleParses_walk (z : ByteArray) (w : World) (hz : z.size ≤ 140737488351232) (hp : H.Pow w.heap.size w) :
    Calls Tryd.prog 4 #[.string z] w fun e w' => e = .returned (.bool true) ∧ Below w.heap.size w w' := by
  have HK := M10.hAw
  have HP : Hid (∀ W, Below w.heap.size w W → H.Pow W.heap.size W) := fun W hb => H.Pow.go hp hb
  clear hp
  have B0 : Hid (Below w.heap.size w w) := Below.refl _ _
  have H1 := M10.hPa z hz
  have H2 := M10.hPa' z hz
  generalize (H.parse z.data.toList).1 = p at *
  generalize (H.parse z.data.toList).2 = x at *
  go_enter Tryd.func4, Tryd.ntmps4
  go_wp2_with fail
  refine (H1.out _).mono ?_
  rintro e w1 ⟨rfl, hb⟩
  have B1 := Lib.hid (B0.out.trans (hb.mono B0.out.size))
  clear hb B0
  go_wp2_with fail
  refine (H2.out _).mono ?_
  rintro e w2 ⟨rfl, hb⟩
  have B2 := Lib.hid (B1.out.trans (hb.mono B1.out.size))
  clear hb B1
  go_wp2_with fail
  refine (HK.out _ (HP.out _ B2.out)).mono ?_
  rintro e w3 ⟨rfl, hb⟩
  have B3 := Lib.hid (B2.out.trans (hb.mono B2.out.size))
  clear hb B2
  go_wp2
  go_ret
  exact ⟨rfl, B3.out⟩
set_option maxRecDepth 100000 in
set_option maxHeartbeats 4000000 in
theorem handleBack_walk (s g : Int) (w : World) (_ : -9223372036854775808 ≤ s) (_ : s < 9223372036854775808) (g0 : 0 ≤ g) (g1 : g ≤ 18446744073709551615) (hp : H.Pow w.heap.size w) :
    Calls Tryd.prog 6 #[.int .i64 s, .int .u64 g] w fun e w' => e = .returned (.bool true) ∧ Below w.heap.size w w' := by
  have HK := M10.hAw
  have HP : Hid (∀ W, Below w.heap.size w W → H.Pow W.heap.size W) := fun W hb => H.Pow.go hp hb
  clear hp
  have B0 : Hid (Below w.heap.size w w) := Below.refl _ _
  have HV : Hid (∀ W, Calls Tryd.prog 25 #[.int .i64 s, .int .u64 g] W fun e w' => e = .returned (.tuple #[.int .i64 (H.vs s), .int .u64 (H.vg g)]) ∧ Below W.heap.size W w') := fun W => (M10.valid_any s g g0 g1 W).mono fun _ _ h => ⟨h.1, h.2 ▸ Below.refl _ _⟩
  obtain ⟨a, ha⟩ : ∃ a : Nat, H.vs s = (a : Int) := ⟨(H.vs s).toNat, by have := H.vs_bd s; omega⟩
  obtain ⟨b, hb⟩ : ∃ b : Nat, H.vg g = (b : Int) := ⟨(H.vg g).toNat, by have := H.vg_bd g; omega⟩
  have a1 : a < 16384 := by have := H.vs_bd s; omega
  have b0 : 1 ≤ b := by have := H.vg_bd g; omega
  have b1 : b ≤ 4294967295 := by have := H.vg_bd g; omega
  rw [ha, hb] at HV
  clear ha hb g0 g1
  have ok := H.ok_pack a1 b0 b1
  have me : H.mkE (a : Int) (b : Int) = 0 := (H.mkE_iff _ _).2 ⟨by omega, by omega, by omega, by omega⟩
  have H1 := M10.hMk (a : Int) (b : Int) (by omega) (by omega) (by omega) (by omega)
  rw [me, H.mkV_nat me] at H1
  have hlt := H.ok_lt ok
  have sa : H.slot (H.pack a b) = a := H.slot_pack b (by omega)
  have gb : H.gen (H.pack a b) = b := H.gen_pack b (by omega)
  obtain ⟨k1, k2, k3⟩ := H.ck_ok ok
  rw [sa] at k2
  rw [gb] at k3
  have H2 := M10.hCk (H.pack a b) (by omega)
  have H3 := M10.hSl (H.pack a b) (by omega)
  have H4 := M10.hGn (H.pack a b) (by omega)
  have H5 := M10.hTx (H.pack a b) (by omega)
  have tl : (⟨(H.textL (H.pack a b)).toArray⟩ : ByteArray).size ≤ 140737488351232 := by
    rw [D.size_l]
    have e : H.textL (H.pack a b) = D.digs (H.slot (H.pack a b)) ++ 46 :: D.digs (H.gen (H.pack a b)) := if_pos ok
    have d1 := D.digs_len 19 (H.slot (H.pack a b)) (by omega)
    have d2 := D.digs_len 19 (H.gen (H.pack a b)) (by omega)
    rw [e, List.length_append, List.length_cons]; omega
  have H6 := M10.hPa ⟨(H.textL (H.pack a b)).toArray⟩ tl
  have pt := H.parse_text ok
  rw [show (⟨(H.textL (H.pack a b)).toArray⟩ : ByteArray).data.toList = H.textL (H.pack a b) from rfl, pt] at H6
  rw [k1] at H2
  rw [k1, k2] at H3
  rw [k1, k3] at H4
  rw [k1] at H5
  have hpk : ((H.pack a b : Nat) : Int) = (b : Int) * 65536 + (a : Int) := by unfold H.pack; omega
  have hn : ((H.pack a b : Nat) : Int) < 281474976710656 := by omega
  generalize H.textL (H.pack a b) = T at *
  generalize H.pack a b = n at *
  obtain ⟨ai, hai⟩ : ∃ ai : Int, (a : Int) = ai := ⟨_, rfl⟩
  obtain ⟨bi, hbi⟩ : ∃ bi : Int, (b : Int) = bi := ⟨_, rfl⟩
  obtain ⟨ni, hni⟩ : ∃ ni : Int, (n : Int) = ni := ⟨_, rfl⟩
  rw [hai, hbi] at HV H1 hpk
  rw [hai] at H3
  rw [hbi] at H4
  rw [hni] at H1 H2 H3 H4 H5 H6 hpk hn
  have c0 : 0 ≤ ai := by omega
  have c1 : ai < 16384 := by omega
  have c2 : 0 ≤ bi := by omega
  have c3 : bi ≤ 4294967295 := by omega
  have hq : (ni == bi * 65536 + ai) = true := by rw [hpk]; simp
  clear ok me hlt sa gb k1 k2 k3 tl pt a1 b0 b1 hai hbi hni hpk hn
  go_enter Tryd.func6, Tryd.ntmps6
  go_wp2_with fail
  refine (HV.out _).mono ?_
  rintro e w1 ⟨rfl, hb⟩
  have B1 := Lib.hid (B0.out.trans (hb.mono B0.out.size))
  clear hb B0
  go_wp2_with fail
  refine (H1.out _).mono ?_
  rintro e w2 ⟨rfl, hb⟩
  have B2 := Lib.hid (B1.out.trans (hb.mono B1.out.size))
  clear hb B1
  go_wp2_with fail
  refine (H2.out _).mono ?_
  rintro e w3 ⟨rfl, hb⟩
  have B3 := Lib.hid (B2.out.trans (hb.mono B2.out.size))
  clear hb B2
  go_wp2_with fail
  refine (H3.out _).mono ?_
  rintro e w4 ⟨rfl, hb⟩
  have B4 := Lib.hid (B3.out.trans (hb.mono B3.out.size))
  clear hb B3
  go_wp2_with fail
  refine (H4.out _).mono ?_
  rintro e w5 ⟨rfl, hb⟩
  have B5 := Lib.hid (B4.out.trans (hb.mono B4.out.size))
  clear hb B4
  go_wp2_with fail
  refine (H5.out _ (HP.out _ B5.out)).mono ?_
  rintro e w6 ⟨rfl, hb⟩
  have B6 := Lib.hid (B5.out.trans (hb.mono B5.out.size))
  clear hb B5
  go_wp2_with fail
  refine (H6.out _).mono ?_
  rintro e w7 ⟨rfl, hb⟩
  have B7 := Lib.hid (B6.out.trans (hb.mono B6.out.size))
  clear hb B6
  go_wp2_with fail
  refine (HK.out _ (HP.out _ B7.out)).mono ?_
  rintro e w8 ⟨rfl, hb⟩
  have B8 := Lib.hid (B7.out.trans (hb.mono B7.out.size))
  clear hb B7
  go_wp2
  go_ret
  exact ⟨rfl, B8.out⟩
set_option maxRecDepth 100000 in
set_option maxHeartbeats 4000000 in
theorem handleNext_walk (s g : Int) (w : World) (_ : -9223372036854775808 ≤ s) (_ : s < 9223372036854775808) (g0 : 0 ≤ g) (g1 : g ≤ 18446744073709551615) (hp : H.Pow w.heap.size w) :
    Calls Tryd.prog 8 #[.int .i64 s, .int .u64 g] w fun e w' => e = .returned (.bool true) ∧ Below w.heap.size w w' := by
  have HK := M10.hAw
  have HP : Hid (∀ W, Below w.heap.size w W → H.Pow W.heap.size W) := fun W hb => H.Pow.go hp hb
  clear hp
  have B0 : Hid (Below w.heap.size w w) := Below.refl _ _
  have HV : Hid (∀ W, Calls Tryd.prog 25 #[.int .i64 s, .int .u64 g] W fun e w' => e = .returned (.tuple #[.int .i64 (H.vs s), .int .u64 (H.vg g)]) ∧ Below W.heap.size W w') := fun W => (M10.valid_any s g g0 g1 W).mono fun _ _ h => ⟨h.1, h.2 ▸ Below.refl _ _⟩
  obtain ⟨a, ha⟩ : ∃ a : Nat, H.vs s = (a : Int) := ⟨(H.vs s).toNat, by have := H.vs_bd s; omega⟩
  obtain ⟨b, hb⟩ : ∃ b : Nat, H.vg g = (b : Int) := ⟨(H.vg g).toNat, by have := H.vg_bd g; omega⟩
  have a1 : a < 16384 := by have := H.vs_bd s; omega
  have b0 : 1 ≤ b := by have := H.vg_bd g; omega
  have b1 : b ≤ 4294967295 := by have := H.vg_bd g; omega
  rw [ha, hb] at HV
  clear ha hb g0 g1
  have ok := H.ok_pack a1 b0 b1
  have me : H.mkE (a : Int) (b : Int) = 0 := (H.mkE_iff _ _).2 ⟨by omega, by omega, by omega, by omega⟩
  have H1 := M10.hMk (a : Int) (b : Int) (by omega) (by omega) (by omega) (by omega)
  rw [me, H.mkV_nat me] at H1
  have hlt := H.ok_lt ok
  have sa : H.slot (H.pack a b) = a := H.slot_pack b (by omega)
  have gb : H.gen (H.pack a b) = b := H.gen_pack b (by omega)
  obtain ⟨k1, k2, k3⟩ := H.ck_ok ok
  rw [sa] at k2
  rw [gb] at k3
  have H2 := M10.hNx (H.pack a b) (by omega)
  by_cases hm : b = 4294967295
  · have e1 : H.nxE (H.pack a b) = 3 := by unfold H.nxE; rw [if_pos ok, if_pos (by rw [gb]; exact hm)]
    have e2 : H.nxV (H.pack a b) = 0 := by unfold H.nxV; rw [if_neg (by rw [e1]; decide)]
    rw [e1, e2] at H2
    clear e1 e2 sa k1 k2 k3 gb
    generalize H.pack a b = n at *
    obtain ⟨ai, hai⟩ : ∃ ai : Int, (a : Int) = ai := ⟨_, rfl⟩
    obtain ⟨bi, hbi⟩ : ∃ bi : Int, (b : Int) = bi := ⟨_, rfl⟩
    obtain ⟨ni, hni⟩ : ∃ ni : Int, (n : Int) = ni := ⟨_, rfl⟩
    rw [hai, hbi] at HV H1
    rw [hni] at H1 H2
    have c0 : 0 ≤ ai := by omega
    have c1 : ai < 16384 := by omega
    have c2 : 0 ≤ bi := by omega
    have c3 : bi ≤ 4294967295 := by omega
    have q1 : (bi == 4294967295) = true := by simp; omega
    clear ok me hlt a1 b0 b1 hai hbi hni hm
    go_enter Tryd.func8, Tryd.ntmps8
    go_wp2_with fail
    refine (HV.out _).mono ?_
    rintro e w1 ⟨rfl, hb⟩
    have B1 := Lib.hid (B0.out.trans (hb.mono B0.out.size))
    clear hb B0
    go_wp2_with fail
    refine (H1.out _).mono ?_
    rintro e w2 ⟨rfl, hb⟩
    have B2 := Lib.hid (B1.out.trans (hb.mono B1.out.size))
    clear hb B1
    go_wp2_with fail
    refine (H2.out _).mono ?_
    rintro e w3 ⟨rfl, hb⟩
    have B3 := Lib.hid (B2.out.trans (hb.mono B2.out.size))
    clear hb B2
    go_wp2_with fail
    refine (HK.out _ (HP.out _ B3.out)).mono ?_
    rintro e w4 ⟨rfl, hb⟩
    have B4 := Lib.hid (B3.out.trans (hb.mono B3.out.size))
    clear hb B3
    go_wp2
    go_ret
    exact ⟨rfl, B4.out⟩
  · have hm' : H.gen (H.pack a b) ≠ 4294967295 := by rw [gb]; exact hm
    have e1 : H.nxE (H.pack a b) = 0 := by unfold H.nxE; rw [if_pos ok, if_neg hm']
    have e2 : H.nxV (H.pack a b) = ((H.pack a b + 65536 : Nat) : Int) := by unfold H.nxV; rw [if_pos e1]
    rw [e1, e2] at H2
    obtain ⟨o1, o2, o3⟩ := H.next_ok ok hm'
    obtain ⟨j1, j2, j3⟩ := H.ck_ok o1
    rw [o2, sa] at j2
    rw [o3, gb] at j3
    have hl2 := H.ok_lt o1
    have H3 := M10.hSl (H.pack a b + 65536) (by omega)
    have H4 := M10.hGn (H.pack a b + 65536) (by omega)
    rw [j1, j2] at H3
    rw [j1, j3] at H4
    clear e1 e2 sa k1 k2 k3 gb o1 o2 o3 j1 j2 j3 hm'
    generalize H.pack a b = n at *
    obtain ⟨mi, hmi⟩ : ∃ mi : Int, ((n + 65536 : Nat) : Int) = mi := ⟨_, rfl⟩
    obtain ⟨ci, hci⟩ : ∃ ci : Int, ((b + 1 : Nat) : Int) = ci := ⟨_, rfl⟩
    rw [hmi] at H2 H3 H4
    rw [hci] at H4
    obtain ⟨ai, hai⟩ : ∃ ai : Int, (a : Int) = ai := ⟨_, rfl⟩
    obtain ⟨bi, hbi⟩ : ∃ bi : Int, (b : Int) = bi := ⟨_, rfl⟩
    obtain ⟨ni, hni⟩ : ∃ ni : Int, (n : Int) = ni := ⟨_, rfl⟩
    rw [hai, hbi] at HV H1
    rw [hni] at H1 H2
    have c0 : 0 ≤ ai := by omega
    have c1 : ai < 16384 := by omega
    have c2 : 0 ≤ bi := by omega
    have c3 : bi ≤ 4294967295 := by omega
    rw [hai] at H3
    have q1 : (bi == 4294967295) = false := by simp; omega
    have q2 : (ci == bi + 1) = true := by simp; omega
    have q3 : decide (ni < mi) = true := by simp; omega
    clear ok me hlt hl2 a1 b0 b1 hai hbi hni hm hmi hci
    go_enter Tryd.func8, Tryd.ntmps8
    go_wp2_with fail
    refine (HV.out _).mono ?_
    rintro e w1 ⟨rfl, hb⟩
    have B1 := Lib.hid (B0.out.trans (hb.mono B0.out.size))
    clear hb B0
    go_wp2_with fail
    refine (H1.out _).mono ?_
    rintro e w2 ⟨rfl, hb⟩
    have B2 := Lib.hid (B1.out.trans (hb.mono B1.out.size))
    clear hb B1
    go_wp2_with fail
    refine (H2.out _).mono ?_
    rintro e w3 ⟨rfl, hb⟩
    have B3 := Lib.hid (B2.out.trans (hb.mono B2.out.size))
    clear hb B2
    go_wp2_with fail
    refine (H3.out _).mono ?_
    rintro e w4 ⟨rfl, hb⟩
    have B4 := Lib.hid (B3.out.trans (hb.mono B3.out.size))
    clear hb B3
    go_wp2_with fail
    refine (H4.out _).mono ?_
    rintro e w5 ⟨rfl, hb⟩
    have B5 := Lib.hid (B4.out.trans (hb.mono B4.out.size))
    clear hb B4
    go_wp2_with fail
    refine (HK.out _ (HP.out _ B5.out)).mono ?_
    rintro e w6 ⟨rfl, hb⟩
    have B6 := Lib.hid (B5.out.trans (hb.mono B5.out.size))
    clear hb B5
    go_wp2
    go_ret
    exact ⟨rfl, B6.out⟩
set_option maxRecDepth 100000 in
set_option maxHeartbeats 4000000 in
theorem handleAny_walk (h : Int) (z : ByteArray) (w : World) (h0 : 0 ≤ h) (h1 : h ≤ 18446744073709551615) (hz : z.size ≤ 140737488351232) (hp : H.Pow w.heap.size w) :
    Calls Tryd.prog 7 #[.int .u64 h, .string z] w fun e w' => e = .returned (.bool true) ∧ Below w.heap.size w w' := by
  have HK := M10.hAw
  have HP : Hid (∀ W, Below w.heap.size w W → H.Pow W.heap.size W) := fun W hb => H.Pow.go hp hb
  clear hp
  have B0 : Hid (Below w.heap.size w w) := Below.refl _ _
  obtain ⟨n, rfl⟩ := Int.eq_ofNat_of_zero_le h0
  have hn : n ≤ 18446744073709551615 := by omega
  have H1 := M10.hSl n hn
  have H2 := M10.hGn n hn
  have H3 := M10.hCk n hn
  have H5 := M10.hPa z hz
  have PE := H.parse_err z.data.toList
  have TP : (H.parse z.data.toList).2 = 0 → ∃ k : Nat, (H.parse z.data.toList).1 = k ∧ H.Ok k ∧ H.textL k = z.data.toList := fun e => H.text_parse (p := (H.parse z.data.toList).1) (by rw [← e])
  generalize (H.parse z.data.toList).1 = p at *
  generalize (H.parse z.data.toList).2 = x at *
  clear hz h0 h1
  by_cases ok : H.Ok n
  · obtain ⟨k1, k2, k3⟩ := H.ck_ok ok
    have me := H.mkE_ok ok
    have mv := H.mkV_nat me
    rw [H.pack_back] at mv
    have s1 := ok.slot
    have g1 := ok.max
    have H4 := M10.hMk (H.slot n : Nat) (H.gen n : Nat) (by omega) (by omega) (by omega) (by omega)
    rw [me, mv] at H4
    rw [k1, k2] at H1
    rw [k1, k3] at H2
    rw [k1] at H3
    obtain ⟨si, hsi⟩ : ∃ si : Int, ((H.slot n : Nat) : Int) = si := ⟨_, rfl⟩
    obtain ⟨gi, hgi⟩ : ∃ gi : Int, ((H.gen n : Nat) : Int) = gi := ⟨_, rfl⟩
    obtain ⟨ni, hni⟩ : ∃ ni : Int, (n : Int) = ni := ⟨_, rfl⟩
    rw [hsi, hgi] at H4
    rw [hsi] at H1
    rw [hgi] at H2
    rw [hni] at H1 H2 H3 H4
    rw [hni]
    clear k1 k2 k3 me mv s1 g1 hsi hgi hni ok
    by_cases hx : x = 0
    · obtain ⟨k, hk, ok2, tk⟩ := TP hx
      subst hx
      subst hk
      have H6 := M10.hTx k (by have := H.ok_lt ok2; omega)
      rw [tk, D.bytes_eq, (H.ck_ok ok2).1] at H6
      obtain ⟨ki, hki⟩ : ∃ ki : Int, (k : Int) = ki := ⟨_, rfl⟩
      rw [hki] at H5 H6
      clear TP PE ok2 tk hki hn
      go_enter Tryd.func7, Tryd.ntmps7
      go_wp2_with fail
      refine (H1.out _).mono ?_
      rintro e w1 ⟨rfl, hb⟩
      have B1 := Lib.hid (B0.out.trans (hb.mono B0.out.size))
      clear hb B0
      go_wp2_with fail
      refine (H2.out _).mono ?_
      rintro e w2 ⟨rfl, hb⟩
      have B2 := Lib.hid (B1.out.trans (hb.mono B1.out.size))
      clear hb B1
      go_wp2_with fail
      refine (H3.out _).mono ?_
      rintro e w3 ⟨rfl, hb⟩
      have B3 := Lib.hid (B2.out.trans (hb.mono B2.out.size))
      clear hb B2
      go_wp2_with fail
      refine (H4.out _).mono ?_
      rintro e w4 ⟨rfl, hb⟩
      have B4 := Lib.hid (B3.out.trans (hb.mono B3.out.size))
      clear hb B3
      go_wp2_with fail
      refine (H5.out _).mono ?_
      rintro e w5 ⟨rfl, hb⟩
      have B5 := Lib.hid (B4.out.trans (hb.mono B4.out.size))
      clear hb B4
      go_wp2_with fail
      refine (H6.out _ (HP.out _ B5.out)).mono ?_
      rintro e w6 ⟨rfl, hb⟩
      have B6 := Lib.hid (B5.out.trans (hb.mono B5.out.size))
      clear hb B5
      go_wp2_with fail
      refine (HK.out _ (HP.out _ B6.out)).mono ?_
      rintro e w7 ⟨rfl, hb⟩
      have B7 := Lib.hid (B6.out.trans (hb.mono B6.out.size))
      clear hb B6
      go_wp2
      go_ret
      exact ⟨rfl, B7.out⟩
    · have p0 : p = 0 := PE.resolve_left hx
      subst p0
      have H6 := M10.hTx 0 (by omega)
      rw [show H.textL 0 = [] from if_neg (by decide), show H.ckE 0 = 2 by decide] at H6
      have q1 : (x == 0) = false := by simpa using hx
      have q2 : (x != 0) = true := by simpa using hx
      clear TP PE hx hn
      go_enter Tryd.func7, Tryd.ntmps7
      go_wp2_with fail
      refine (H1.out _).mono ?_
      rintro e w1 ⟨rfl, hb⟩
      have B1 := Lib.hid (B0.out.trans (hb.mono B0.out.size))
      clear hb B0
      go_wp2_with fail
      refine (H2.out _).mono ?_
      rintro e w2 ⟨rfl, hb⟩
      have B2 := Lib.hid (B1.out.trans (hb.mono B1.out.size))
      clear hb B1
      go_wp2_with fail
      refine (H3.out _).mono ?_
      rintro e w3 ⟨rfl, hb⟩
      have B3 := Lib.hid (B2.out.trans (hb.mono B2.out.size))
      clear hb B2
      go_wp2_with fail
      refine (H4.out _).mono ?_
      rintro e w4 ⟨rfl, hb⟩
      have B4 := Lib.hid (B3.out.trans (hb.mono B3.out.size))
      clear hb B3
      go_wp2_with fail
      refine (H5.out _).mono ?_
      rintro e w5 ⟨rfl, hb⟩
      have B5 := Lib.hid (B4.out.trans (hb.mono B4.out.size))
      clear hb B4
      go_wp2_with fail
      refine (H6.out _ (HP.out _ B5.out)).mono ?_
      rintro e w6 ⟨rfl, hb⟩
      have B6 := Lib.hid (B5.out.trans (hb.mono B5.out.size))
      clear hb B5
      go_wp2_with fail
      refine (HK.out _ (HP.out _ B6.out)).mono ?_
      rintro e w7 ⟨rfl, hb⟩
      have B7 := Lib.hid (B6.out.trans (hb.mono B6.out.size))
      clear hb B6
      go_wp2
      go_ret
      exact ⟨rfl, B7.out⟩
  · obtain ⟨k1, k2, k3⟩ := H.ck_bad ok
    have H4 := M10.hMk 0 0 (by omega) (by omega) (by omega) (by omega)
    rw [show H.mkV 0 0 = 0 by decide, show H.mkE 0 0 = 3 by decide] at H4
    rw [k1, k2] at H1
    rw [k1, k3] at H2
    rw [k1] at H3
    obtain ⟨ni, hni⟩ : ∃ ni : Int, (n : Int) = ni := ⟨_, rfl⟩
    rw [hni] at H1 H2 H3
    rw [hni]
    clear k1 k2 k3 hni ok
    by_cases hx : x = 0
    · obtain ⟨k, hk, ok2, tk⟩ := TP hx
      subst hx
      subst hk
      have H6 := M10.hTx k (by have := H.ok_lt ok2; omega)
      rw [tk, D.bytes_eq, (H.ck_ok ok2).1] at H6
      obtain ⟨ki, hki⟩ : ∃ ki : Int, (k : Int) = ki := ⟨_, rfl⟩
      rw [hki] at H5 H6
      clear TP PE ok2 tk hki hn
      go_enter Tryd.func7, Tryd.ntmps7
      go_wp2_with fail
      refine (H1.out _).mono ?_
      rintro e w1 ⟨rfl, hb⟩
      have B1 := Lib.hid (B0.out.trans (hb.mono B0.out.size))
      clear hb B0
      go_wp2_with fail
      refine (H2.out _).mono ?_
      rintro e w2 ⟨rfl, hb⟩
      have B2 := Lib.hid (B1.out.trans (hb.mono B1.out.size))
      clear hb B1
      go_wp2_with fail
      refine (H3.out _).mono ?_
      rintro e w3 ⟨rfl, hb⟩
      have B3 := Lib.hid (B2.out.trans (hb.mono B2.out.size))
      clear hb B2
      go_wp2_with fail
      refine (H4.out _).mono ?_
      rintro e w4 ⟨rfl, hb⟩
      have B4 := Lib.hid (B3.out.trans (hb.mono B3.out.size))
      clear hb B3
      go_wp2_with fail
      refine (H5.out _).mono ?_
      rintro e w5 ⟨rfl, hb⟩
      have B5 := Lib.hid (B4.out.trans (hb.mono B4.out.size))
      clear hb B4
      go_wp2_with fail
      refine (H6.out _ (HP.out _ B5.out)).mono ?_
      rintro e w6 ⟨rfl, hb⟩
      have B6 := Lib.hid (B5.out.trans (hb.mono B5.out.size))
      clear hb B5
      go_wp2_with fail
      refine (HK.out _ (HP.out _ B6.out)).mono ?_
      rintro e w7 ⟨rfl, hb⟩
      have B7 := Lib.hid (B6.out.trans (hb.mono B6.out.size))
      clear hb B6
      go_wp2
      go_ret
      exact ⟨rfl, B7.out⟩
    · have p0 : p = 0 := PE.resolve_left hx
      subst p0
      have H6 := M10.hTx 0 (by omega)
      rw [show H.textL 0 = [] from if_neg (by decide), show H.ckE 0 = 2 by decide] at H6
      have q1 : (x == 0) = false := by simpa using hx
      have q2 : (x != 0) = true := by simpa using hx
      clear TP PE hx hn
      go_enter Tryd.func7, Tryd.ntmps7
      go_wp2_with fail
      refine (H1.out _).mono ?_
      rintro e w1 ⟨rfl, hb⟩
      have B1 := Lib.hid (B0.out.trans (hb.mono B0.out.size))
      clear hb B0
      go_wp2_with fail
      refine (H2.out _).mono ?_
      rintro e w2 ⟨rfl, hb⟩
      have B2 := Lib.hid (B1.out.trans (hb.mono B1.out.size))
      clear hb B1
      go_wp2_with fail
      refine (H3.out _).mono ?_
      rintro e w3 ⟨rfl, hb⟩
      have B3 := Lib.hid (B2.out.trans (hb.mono B2.out.size))
      clear hb B2
      go_wp2_with fail
      refine (H4.out _).mono ?_
      rintro e w4 ⟨rfl, hb⟩
      have B4 := Lib.hid (B3.out.trans (hb.mono B3.out.size))
      clear hb B3
      go_wp2_with fail
      refine (H5.out _).mono ?_
      rintro e w5 ⟨rfl, hb⟩
      have B5 := Lib.hid (B4.out.trans (hb.mono B4.out.size))
      clear hb B4
      go_wp2_with fail
      refine (H6.out _ (HP.out _ B5.out)).mono ?_
      rintro e w6 ⟨rfl, hb⟩
      have B6 := Lib.hid (B5.out.trans (hb.mono B5.out.size))
      clear hb B5
      go_wp2_with fail
      refine (HK.out _ (HP.out _ B6.out)).mono ?_
      rintro e w7 ⟨rfl, hb⟩
      have B7 := Lib.hid (B6.out.trans (hb.mono B6.out.size))
      clear hb B6
      go_wp2
      go_ret
      exact ⟨rfl, B7.out⟩
end Go.Proofs.YtlkkgjkbjjifmaaDoor
