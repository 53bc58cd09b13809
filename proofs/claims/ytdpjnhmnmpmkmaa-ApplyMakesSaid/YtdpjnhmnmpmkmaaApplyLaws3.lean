/- The walk of ApplyMakes. -/
import Derived.Test.YtdpjnhmnmpmkmaaApplyLawKit
namespace Go.Proofs.Ytdpjnhmnmpmkmaa
open Go.RowKit

set_option maxRecDepth 100000 in
set_option maxHeartbeats 4000000 in
theorem applyMakes_walk (n a k : Int) (t : ByteArray) (w : World) (n0 : -9223372036854775808 ≤ n) (n1 : n < 9223372036854775808) (a0 : -9223372036854775808 ≤ a) (a1 : a < 9223372036854775808) (k0 : -9223372036854775808 ≤ k) (k1 : k < 9223372036854775808) (ht : t.size ≤ 140737488351232) :
    Calls Try.prog 6 #[.int .i64 n, .int .i64 a, .int .i64 k, .string t] w fun e w' => e = .returned (.bool true) ∧ Below w.heap.size w w' := by
  have H1 : Hid (∀ W, Calls Try.prog 23 #[.int .i64 n, .int .i64 a, .int .i64 k, .string t] W (A.MkEnd n a k t W)) := fun W => replace_any n a k t W n0 n1 a0 a1 k0 k1 ht
  have H2 : Hid (∀ W, Calls Try.prog 24 #[.int .i64 n, .int .i64 a, .int .i64 k, .string t] W (A.MkEnd n a k t W)) := fun W => refReplace_any n a k t W n0 n1 a0 a1 k0 k1 ht
  have H3 : Hid (∀ W, Calls Try.prog 25 #[.int .i64 n, .int .i64 a, .string t] W (A.MkEnd n a 0 t W)) := fun W => insert_any n a t W n0 n1 a0 a1 ht
  have H4 : Hid (∀ W, Calls Try.prog 24 #[.int .i64 n, .int .i64 a, .int .i64 0, .string t] W (A.MkEnd n a 0 t W)) := fun W => refReplace_any n a 0 t W n0 n1 a0 a1 (by decide) (by decide) ht
  have H5 : Hid (∀ W, Calls Try.prog 26 #[.int .i64 n, .int .i64 a, .int .i64 k] W (A.MkEnd n a k ⟨#[]⟩ W)) := fun W => delete_any n a k W n0 n1 a0 a1 k0 k1
  have H6 : Hid (∀ W, Calls Try.prog 24 #[.int .i64 n, .int .i64 a, .int .i64 k, .string ⟨#[]⟩] W (A.MkEnd n a k ⟨#[]⟩ W)) := fun W => refReplace_any n a k ⟨#[]⟩ W n0 n1 a0 a1 k0 k1 (by decide)
  have S1 := A.hSame (D.mkP n a k t.data.toList) (Nat.le_trans (A.mkP_len _ _ _ _) (by decide))
  have S2 := A.hSame (D.mkP n a 0 t.data.toList) (Nat.le_trans (A.mkP_len _ _ _ _) (by decide))
  have S3 := A.hSame (D.mkP n a k (⟨#[]⟩ : ByteArray).data.toList) (Nat.le_trans (A.mkP_len _ _ _ _) (by decide))
  unfold A.MkEnd at H1 H2 H3 H4 H5 H6
  generalize D.mkP n a k t.data.toList = P1 at H1 H2 S1
  generalize D.mkP n a 0 t.data.toList = P2 at H3 H4 S2
  generalize D.mkP n a k (⟨#[]⟩ : ByteArray).data.toList = P3 at H5 H6 S3
  generalize D.mkE n a k t.data.toList = e1 at H1 H2
  generalize D.mkE n a 0 t.data.toList = e2 at H3 H4
  generalize D.mkE n a k (⟨#[]⟩ : ByteArray).data.toList = e3 at H5 H6
  have HK := A.hKnown
  have K : Hid (D.Kn w w []) := ⟨Below.refl _ _, fun x hx => by simp at hx⟩
  clear ht n0 n1 a0 a1 k0 k1
  go_enter Try.func6, Try.ntmps6
  go_wp2_with fail
  refine (H1.out _ ).mono ?_
  rintro e w1 ⟨v, rfl, hm⟩
  obtain ⟨oa1, ca1, hv, na1, K1⟩ := K.out.made' hm
  subst hv
  clear hm K
  go_wp2_with fail
  refine (H2.out _ ).mono ?_
  rintro e w2 ⟨v, rfl, hm⟩
  obtain ⟨oa2, ca2, hv, na2, K2⟩ := K1.out.made' hm
  subst hv
  clear hm K1
  go_wp2_with fail
  refine (S1.out _ _ _ _ _ K2.out.tl.r0 K2.out.r0).mono ?_
  rintro e w3 ⟨rfl, hb⟩
  have K3 := Lib.hid (K2.out.on hb)
  clear hb K2
  go_wp2_with fail
  refine (H3.out _ ).mono ?_
  rintro e w4 ⟨v, rfl, hm⟩
  obtain ⟨ob1, cb1, hv, nb1, K4⟩ := K3.out.made' hm
  subst hv
  clear hm K3
  go_wp2_with fail
  refine (H4.out _ ).mono ?_
  rintro e w5 ⟨v, rfl, hm⟩
  obtain ⟨ob2, cb2, hv, nb2, K5⟩ := K4.out.made' hm
  subst hv
  clear hm K4
  go_wp2_with fail
  refine (S2.out _ _ _ _ _ K5.out.tl.r0 K5.out.r0).mono ?_
  rintro e w6 ⟨rfl, hb⟩
  have K6 := Lib.hid (K5.out.on hb)
  clear hb K5
  go_wp2_with fail
  refine (H5.out _ ).mono ?_
  rintro e w7 ⟨v, rfl, hm⟩
  obtain ⟨od1, cd1, hv, nd1, K7⟩ := K6.out.made' hm
  subst hv
  clear hm K6
  go_wp2_with fail
  refine (H6.out _ ).mono ?_
  rintro e w8 ⟨v, rfl, hm⟩
  obtain ⟨od2, cd2, hv, nd2, K8⟩ := K7.out.made' hm
  subst hv
  clear hm K7
  go_wp2_with fail
  refine (S3.out _ _ _ _ _ K8.out.tl.r0 K8.out.r0).mono ?_
  rintro e w9 ⟨rfl, hb⟩
  have K9 := Lib.hid (K8.out.on hb)
  clear hb K8
  have KB := Lib.hid K9.out.below
  clear K9
  go_wp2_with fail
  refine (HK.out _).mono ?_
  rintro e wk ⟨rfl, hb⟩
  have KC := Lib.hid (KB.out.trans (hb.mono KB.out.size))
  clear hb
  go_wp2
  go_ret
  exact ⟨rfl, KC.out⟩
end Go.Proofs.Ytdpjnhmnmpmkmaa
