/- The walk of ApplyEdits. -/
import Derived.Test.YtdpjnhmnmpmkmaaApplyLawKit
import Derived.IntWalk
namespace Go.Proofs.Ytdpjnhmnmpmkmaa
open Go.RowKit

theorem A.slice_from (t : ByteArray) (n : Int) (h0 : 0 ≤ n) (h : n ≤ t.size) (w : World) : (Instr.slice 9 (.string t) (some (.int .i64 n)) none none).run Try.prog w = .ok (.string (t.extract n.toNat t.size)) w :=
  run_slice_string_l w 9 t Try.underlying9 .i64 n h0 h
theorem A.edit_bytes (z t : ByteArray) (a k : Nat) (h : a + k ≤ z.size) : (⟨(z.data.toList.take a ++ t.data.toList ++ z.data.toList.drop (a + k)).toArray⟩ : ByteArray) = z.extract 0 a ++ t ++ z.extract (a + k) z.size := by
  apply ByteArray.ext
  apply Array.toList_inj.1
  have e1 := D.part_bytes z 0 a
  rw [Nat.zero_add, List.drop_zero] at e1
  have e2 := A.extract_end z (a + k) h
  have e3 : ∀ x y : ByteArray, (x ++ y).data.toList = x.data.toList ++ y.data.toList := fun x y => by simp
  rw [e3, e3, e1, e2]
theorem A.mk_normal (n a k : Int) (t : List UInt8) (h : D.chk (D.mkP n a k t) = 0) : D.normal (D.mkP n a k t) = true := by
  unfold D.mkP at h ⊢
  split
  · rename_i h0
    rw [if_pos h0] at h
    exact A.nf_normal _ h
  · decide
set_option maxRecDepth 100000 in
set_option maxHeartbeats 4000000 in
theorem applyEdits_walk (z : ByteArray) (a k : Int) (t : ByteArray) (w : World) (hz : z.size ≤ 140737488351232) (a0 : -9223372036854775808 ≤ a) (a1 : a < 9223372036854775808) (k0 : -9223372036854775808 ≤ k) (k1 : k < 9223372036854775808) (ht : t.size ≤ 140737488351232) :
    Calls Try.prog 11 #[.string z, .int .i64 a, .int .i64 k, .string t] w fun e w' => e = .returned (.bool true) ∧ Below w.heap.size w w' := by
  have z0 : (-9223372036854775808 : Int) ≤ (z.size : Int) := by omega
  have z1 : (z.size : Int) < 9223372036854775808 := by omega
  have H1 : Hid (∀ W, Calls Try.prog 23 #[.int .i64 (z.size : Int), .int .i64 a, .int .i64 k, .string t] W (A.MkEnd z.size a k t W)) := fun W => replace_any z.size a k t W z0 z1 a0 a1 k0 k1 ht
  have H3 : Hid (∀ W, Calls Try.prog 25 #[.int .i64 (z.size : Int), .int .i64 a, .string t] W (A.MkEnd z.size a 0 t W)) := fun W => insert_any z.size a t W z0 z1 a0 a1 ht
  have H4 : Hid (∀ W, Calls Try.prog 23 #[.int .i64 (z.size : Int), .int .i64 a, .int .i64 0, .string t] W (A.MkEnd z.size a 0 t W)) := fun W => replace_any z.size a 0 t W z0 z1 a0 a1 (by decide) (by decide) ht
  have H5 : Hid (∀ W, Calls Try.prog 26 #[.int .i64 (z.size : Int), .int .i64 a, .int .i64 k] W (A.MkEnd z.size a k ⟨#[]⟩ W)) := fun W => delete_any z.size a k W z0 z1 a0 a1 k0 k1
  have H6 : Hid (∀ W, Calls Try.prog 23 #[.int .i64 (z.size : Int), .int .i64 a, .int .i64 k, .string ⟨#[]⟩] W (A.MkEnd z.size a k ⟨#[]⟩ W)) := fun W => replace_any z.size a k ⟨#[]⟩ W z0 z1 a0 a1 k0 k1 (by decide)
  have S2 := A.hSame (D.mkP z.size a 0 t.data.toList) (Nat.le_trans (A.mkP_len _ _ _ _) (by decide))
  have S3 := A.hSame (D.mkP z.size a k (⟨#[]⟩ : ByteArray).data.toList) (Nat.le_trans (A.mkP_len _ _ _ _) (by decide))
  have HK := A.hKnown
  have K : Hid (D.Kn w w []) := ⟨Below.refl _ _, fun x hx => by simp at hx⟩
  unfold A.MkEnd at H1 H3 H4 H5 H6
  generalize D.mkP z.size a 0 t.data.toList = P2 at H3 H4 S2
  generalize D.mkP z.size a k (⟨#[]⟩ : ByteArray).data.toList = P3 at H5 H6 S3
  generalize D.mkE z.size a 0 t.data.toList = e2 at H3 H4
  generalize D.mkE z.size a k (⟨#[]⟩ : ByteArray).data.toList = e3 at H5 H6
  by_cases h0 : D.mkE z.size a k t.data.toList = 0
  · have hzl : z.data.toList.length = z.size := by simp
    have hzl' : ((z.data.toList.length : Nat) : Int) = (z.size : Int) := by rw [hzl]
    obtain ⟨g1, g2⟩ := D.mk_does (s := z.data.toList) (by rw [hzl']; exact h0)
    rw [hzl'] at g1 g2
    obtain ⟨r1, r2, r3, r4, r5, r6⟩ := D.mkE_in h0
    have htl : t.data.toList.length = t.size := by simp
    rw [htl] at r6
    obtain ⟨a, rfl⟩ := Int.eq_ofNat_of_zero_le r1
    obtain ⟨k, rfl⟩ := Int.eq_ofNat_of_zero_le r3
    have hJ := (D.fitE_zero g1).1
    have H2 := A.hApp z (D.mkP z.size a k t.data.toList) hz (D.bd_of hJ)
    have HN := A.hNormal _ hJ (A.mk_normal _ _ _ _ hJ)
    have hak : a + k ≤ z.size := by omega
    rw [g1, g2] at H2
    rw [show ((a : Int)).toNat = a from rfl, show ((k : Int)).toNat = k from rfl, A.edit_bytes z t a k hak] at H2
    rw [h0] at H1
    generalize D.mkP z.size a k t.data.toList = P1 at H1 H2 HN
    have hs1 := A.slice_to z a (by omega)
    have hs2 := A.slice_from z ((a : Int) + k) (by omega) (by omega)
    have e9 : ((a : Int) + k).toNat = a + k := by omega
    rw [e9] at hs2
    have hn : z.size ≤ 1048576 := by omega
    have htn : t.size ≤ 1048576 := by omega
    have q1 : ¬ (a : Int) < 0 := by omega
    have q2 : ¬ (k : Int) < 0 := by omega
    have q3 : ¬ (z.size : Int) < a := by omega
    have q4 : ¬ (z.size : Int) - a < k := by omega
    have x1 : (z.extract 0 a).size ≤ 1048576 := by simp; omega
    have x2 : (z.extract (a + k) z.size).size ≤ 1048576 := by simp; omega
    generalize z.extract 0 a = E1 at H2 hs1 x1
    generalize z.extract (a + k) z.size = E2 at H2 hs2 x2
    clear z0 z1 a0 a1 k0 k1 hz ht hzl hzl' g1 g2 r1 r2 r3 r4 r5 r6 htl hJ h0 e9
    go_enter Try.func11, Try.ntmps11
    go_wp2_with fail
    refine (H1.out _).mono ?_
    rintro e w1 ⟨v, rfl, hm⟩
    obtain ⟨od, cd, hv, nd, K1⟩ := K.out.made' hm
    subst hv
    clear hm K
    go_wp2_with fail
    refine (H2.out _ _ _ K1.out.r0).mono ?_
    rintro e w2 ⟨rfl, hb⟩
    have K2 := Lib.hid (K1.out.on hb)
    clear hb K1
    go_wp2_with fail
    obtain ⟨W3, hW3⟩ : ∃ W3, Hid (W3 = w2.drew) := ⟨_, rfl⟩
    have K3 : Hid (D.Kn w W3 [(od, P1)]) := by
      have := K2.out.on (Below.refl w2.heap.size w2).drew
      rw [← hW3.out] at this
      exact this
    have y1 : ¬ 9223372036854775807 < E1.size + t.size := by omega
    have y2 : ¬ 9223372036854775807 < E1.size + t.size + E2.size := by omega
    have b1 : decide ((a : Int) < 0) = false := decide_eq_false (by omega)
    have b2 : decide ((k : Int) < 0) = false := decide_eq_false (by omega)
    have b3 : decide (z.size < a) = false := decide_eq_false (by omega)
    have b3' : decide ((z.size : Int) < (a : Int)) = false := decide_eq_false (by omega)
    have b4 : decide ((z.size : Int) - (a : Int) < (k : Int)) = false := decide_eq_false (by omega)
    have v1 : IntKind.i64.wrap ((z.size : Int) - (a : Int)) = (z.size : Int) - (a : Int) := IntWalk.i64_in _ (by omega)
    have v2 : IntKind.i64.wrap ((a : Int) + (k : Int)) = (a : Int) + (k : Int) := IntWalk.i64_in _ (by omega)
    clear K2
    refine A.still_tail 39 (by kernel_rfl) (by kernel_rfl) W3 hW3.out ?_
    simp only [List.take_succ_cons, List.take_zero, List.drop_succ_cons, List.drop_zero]
    repeat still_step
    refine wpStill_nil ?_
    go_wp2_with fail
    refine (HN.out _ _ _ K3.out.r0).mono ?_
    rintro e w11 ⟨rfl, hb⟩
    have K11 := Lib.hid (K3.out.on hb)
    clear hb K3
    go_wp2_with fail
    refine (H3.out _ ).mono ?_
    rintro e w12 ⟨v, rfl, hm⟩
    obtain ⟨ob1, cb1, hv, nb1, K12⟩ := K11.out.made' hm
    subst hv
    clear hm K11
    go_wp2_with fail
    refine (H4.out _ ).mono ?_
    rintro e w13 ⟨v, rfl, hm⟩
    obtain ⟨ob2, cb2, hv, nb2, K13⟩ := K12.out.made' hm
    subst hv
    clear hm K12
    go_wp2_with fail
    refine (S2.out _ _ _ _ _ K13.out.tl.r0 K13.out.r0).mono ?_
    rintro e w14 ⟨rfl, hb⟩
    have K14 := Lib.hid (K13.out.on hb)
    clear hb K13
    go_wp2_with fail
    refine (H5.out _ ).mono ?_
    rintro e w15 ⟨v, rfl, hm⟩
    obtain ⟨od1, cd1, hv, nd1, K15⟩ := K14.out.made' hm
    subst hv
    clear hm K14
    go_wp2_with fail
    refine (H6.out _ ).mono ?_
    rintro e w16 ⟨v, rfl, hm⟩
    obtain ⟨od2, cd2, hv, nd2, K16⟩ := K15.out.made' hm
    subst hv
    clear hm K15
    go_wp2_with fail
    refine (S3.out _ _ _ _ _ K16.out.tl.r0 K16.out.r0).mono ?_
    rintro e w17 ⟨rfl, hb⟩
    have K17 := Lib.hid (K16.out.on hb)
    clear hb K16
    have KB := Lib.hid K17.out.below
    clear K17
    go_wp2_with fail
    refine (HK.out _).mono ?_
    rintro e wk ⟨rfl, hb⟩
    have KC := Lib.hid (KB.out.trans (hb.mono KB.out.size))
    clear hb
    go_wp2
    go_ret
    exact ⟨rfl, KC.out⟩
  · have h' : (D.mkE z.size a k t.data.toList == 0) = false := by simpa using h0
    generalize D.mkP z.size a k t.data.toList = P1 at H1
    generalize D.mkE z.size a k t.data.toList = e1 at H1 h'
    clear h0 z0 z1 a0 a1 k0 k1 hz ht
    go_enter Try.func11, Try.ntmps11
    go_wp2_with fail
    refine (H1.out _ ).mono ?_
    rintro e w21 ⟨v, rfl, hm⟩
    obtain ⟨oa1, ca1, hv, na1, K21⟩ := K.out.made' hm
    subst hv
    clear hm K
    go_wp2_with fail
    refine (H3.out _ ).mono ?_
    rintro e w22 ⟨v, rfl, hm⟩
    obtain ⟨ob1, cb1, hv, nb1, K22⟩ := K21.out.made' hm
    subst hv
    clear hm K21
    go_wp2_with fail
    refine (H4.out _ ).mono ?_
    rintro e w23 ⟨v, rfl, hm⟩
    obtain ⟨ob2, cb2, hv, nb2, K23⟩ := K22.out.made' hm
    subst hv
    clear hm K22
    go_wp2_with fail
    refine (S2.out _ _ _ _ _ K23.out.tl.r0 K23.out.r0).mono ?_
    rintro e w24 ⟨rfl, hb⟩
    have K24 := Lib.hid (K23.out.on hb)
    clear hb K23
    go_wp2_with fail
    refine (H5.out _ ).mono ?_
    rintro e w25 ⟨v, rfl, hm⟩
    obtain ⟨od1, cd1, hv, nd1, K25⟩ := K24.out.made' hm
    subst hv
    clear hm K24
    go_wp2_with fail
    refine (H6.out _ ).mono ?_
    rintro e w26 ⟨v, rfl, hm⟩
    obtain ⟨od2, cd2, hv, nd2, K26⟩ := K25.out.made' hm
    subst hv
    clear hm K25
    go_wp2_with fail
    refine (S3.out _ _ _ _ _ K26.out.tl.r0 K26.out.r0).mono ?_
    rintro e w27 ⟨rfl, hb⟩
    have K27 := Lib.hid (K26.out.on hb)
    clear hb K26
    have KB := Lib.hid K27.out.below
    clear K27
    go_wp2_with fail
    refine (HK.out _).mono ?_
    rintro e wk ⟨rfl, hb⟩
    have KC := Lib.hid (KB.out.trans (hb.mono KB.out.size))
    clear hb
    go_wp2
    go_ret
    exact ⟨rfl, KC.out⟩
end Go.Proofs.Ytdpjnhmnmpmkmaa
