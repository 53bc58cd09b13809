/- The contracts of package handle: unpack, Make, Check, Slot, Gen, Next. -/
import Derived.Test.YtdpaleldalplfaaHandRef2
namespace Go.Proofs.Ytdpaleldalplfaa
open Go.RowKit

/-! ### Bits of numbers of 64 bits without a sign -/
theorem H.ofInt64 (a : Nat) (h : a < 18446744073709551616) : (BitVec.ofInt 64 (a : Int)).toNat = a := by
  rw [BitVec.ofInt_natCast, BitVec.toNat_ofNat]; exact Nat.mod_eq_of_lt h
theorem H.u64_in (a : Nat) (h : a < 18446744073709551616) : IntKind.u64.wrap (a : Int) = (a : Int) := by
  have e : IntKind.u64.wrap (a : Int) = (a : Int) % 18446744073709551616 := by simp [IntKind.wrap, IntKind.bits, IntKind.signed]
  omega
theorem H.and_u64 (a b : Nat) (ha : a < 18446744073709551616) (hb : b < 18446744073709551616) : bits .and .u64 (a : Int) (b : Int) = ((a &&& b : Nat) : Int) := by
  have hx : a &&& b < 2 ^ 64 := Nat.and_lt_two_pow _ (by omega)
  show IntKind.u64.wrap ((BitVec.ofInt 64 (a : Int) &&& BitVec.ofInt 64 (b : Int)).toNat : Int) = _
  rw [BitVec.toNat_and, H.ofInt64 a ha, H.ofInt64 b hb]
  exact H.u64_in _ (by omega)
theorem H.or_u64 (a b : Nat) (ha : a < 18446744073709551616) (hb : b < 18446744073709551616) : bits .or .u64 (a : Int) (b : Int) = ((a ||| b : Nat) : Int) := by
  have hx : a ||| b < 2 ^ 64 := Nat.or_lt_two_pow (by omega) (by omega)
  show IntKind.u64.wrap ((BitVec.ofInt 64 (a : Int) ||| BitVec.ofInt 64 (b : Int)).toNat : Int) = _
  rw [BitVec.toNat_or, H.ofInt64 a ha, H.ofInt64 b hb]
  exact H.u64_in _ (by omega)
theorem H.mask (h : Nat) (h1 : h ≤ 18446744073709551615) : bits .and .u64 (h : Int) 65535 = (H.slot h : Nat) := by
  have := H.and_u64 h 65535 (by omega) (by omega)
  rw [show ((65535 : Nat) : Int) = 65535 from rfl] at this
  rw [this, show 65535 = 2 ^ 16 - 1 from rfl, Nat.and_two_pow_sub_one_eq_mod]
  rfl
theorem H.join (s g : Int) (s0 : 0 ≤ s) (s1 : s < 65536) (g0 : 0 ≤ g) (g1 : g ≤ 4294967295) : bits .or .u64 (g * 65536) s = g * 65536 + s := by
  obtain ⟨a, rfl⟩ := Int.eq_ofNat_of_zero_le s0
  obtain ⟨b, rfl⟩ := Int.eq_ofNat_of_zero_le g0
  have := H.or_u64 (2 ^ 16 * b) a (by omega) (by omega)
  rw [← Nat.two_pow_add_eq_or_of_lt (by omega)] at this
  rw [show ((b : Int) * 65536) = ((2 ^ 16 * b : Nat) : Int) by omega, this]
  omega
/-! ### The package -/
theorem unpack10_any (h : Nat) (h1 : h ≤ 18446744073709551615) (w : World) :
    Calls Try.prog 73 #[.int .u64 (h : Int)] w fun e w' => e = .returned (.tuple #[.int .i64 (H.slot h : Nat), .int .u64 (H.gen h : Nat)]) ∧ w = w' := by
  have m := H.mask h h1
  have d : (h : Int) / 65536 = (H.gen h : Nat) := by unfold H.gen; omega
  have hs := H.slot_lt h
  have hg := H.gen_le h1
  generalize H.slot h = s at *
  generalize H.gen h = g at *
  go_enter Try.func73, Try.ntmps73
  go_wp2
  go_ret2
  exact ⟨rfl, rfl⟩
set_option maxHeartbeats 1000000 in
theorem make10_any (s g : Int) (s0 : -9223372036854775808 ≤ s) (s1 : s ≤ 9223372036854775807) (g0 : 0 ≤ g) (g1 : g ≤ 18446744073709551615) (w : World) :
    Calls Try.prog 72 #[.int .i64 s, .int .u64 g] w fun e w' => e = .returned (.tuple #[.int .u64 (H.mkV s g), .int .i64 (H.mkE s g)]) ∧ w = w' := by
  by_cases h1 : s < 0
  · have e : Hid (H.mkE s g = 3 ∧ H.mkV s g = 0) := by
      have h : H.mkE s g = 3 := by unfold H.mkE; rw [if_pos (Or.inl h1)]
      exact ⟨h, by unfold H.mkV; rw [h]; rfl⟩
    go_enter Try.func72, Try.ntmps72
    go_wp2
    go_ret2
    exact ⟨by rw [e.out.1, e.out.2]; rfl, rfl⟩
  · by_cases h2 : 16384 ≤ s
    · have e : Hid (H.mkE s g = 3 ∧ H.mkV s g = 0) := by
        have h : H.mkE s g = 3 := by unfold H.mkE; rw [if_pos (Or.inr h2)]
        exact ⟨h, by unfold H.mkV; rw [h]; rfl⟩
      go_enter Try.func72, Try.ntmps72
      go_wp2
      go_ret2
      exact ⟨by rw [e.out.1, e.out.2]; rfl, rfl⟩
    · by_cases h3 : g < 1
      · have e : Hid (H.mkE s g = 3 ∧ H.mkV s g = 0) := by
          have h : H.mkE s g = 3 := by unfold H.mkE; rw [if_neg (by omega), if_pos (Or.inl h3)]
          exact ⟨h, by unfold H.mkV; rw [h]; rfl⟩
        go_enter Try.func72, Try.ntmps72
        go_wp2
        go_ret2
        exact ⟨by rw [e.out.1, e.out.2]; rfl, rfl⟩
      · by_cases h4 : 4294967295 < g
        · have e : Hid (H.mkE s g = 3 ∧ H.mkV s g = 0) := by
            have h : H.mkE s g = 3 := by unfold H.mkE; rw [if_neg (by omega), if_pos (Or.inr h4)]
            exact ⟨h, by unfold H.mkV; rw [h]; rfl⟩
          go_enter Try.func72, Try.ntmps72
          go_wp2
          go_ret2
          exact ⟨by rw [e.out.1, e.out.2]; rfl, rfl⟩
        · have e : Hid (H.mkE s g = 0 ∧ H.mkV s g = g * 65536 + s) := by
            have h : H.mkE s g = 0 := by unfold H.mkE; rw [if_neg (by omega), if_neg (by omega)]
            exact ⟨h, by unfold H.mkV; rw [h]; rfl⟩
          have j := H.join s g (by omega) (by omega) (by omega) (by omega)
          go_enter Try.func72, Try.ntmps72
          go_wp2
          go_ret2
          exact ⟨by rw [e.out.1, e.out.2, ← j]; rfl, rfl⟩
theorem H.ck_mk (h : Nat) : H.ckE h = if H.mkE (H.slot h : Nat) (H.gen h : Nat) = 0 then 0 else 2 := by
  unfold H.ckE
  by_cases k : H.Ok h
  · rw [if_pos k, if_pos (H.mkE_ok k)]
  · rw [if_neg k, if_neg fun e => k ?_]
    have := (H.mkE_iff _ _).1 e
    exact ⟨by omega, by omega, by omega⟩
set_option maxHeartbeats 1000000 in
theorem check10_any (h : Nat) (h1 : h ≤ 18446744073709551615) (w : World) :
    Calls Try.prog 41 #[.int .u64 (h : Int)] w fun e w' => e = .returned (.int .i64 (H.ckE h)) ∧ w = w' := by
  have hs := H.slot_lt h
  have hg := H.gen_le h1
  have HU := Lib.hid (unpack10_any h h1 w)
  have HM := Lib.hid (make10_any (H.slot h : Nat) (H.gen h : Nat) (by omega) (by omega) (by omega) (by omega) w)
  have E := Lib.hid (H.ck_mk h)
  rcases H.mkE_or (H.slot h : Nat) (H.gen h : Nat) with k | k
  · have E2 : Hid (H.ckE h = 0) := by show _ = _; rw [E.out, if_pos k]
    rw [k] at HM
    clear E k
    generalize H.mkV (H.slot h : Nat) (H.gen h : Nat) = v at *
    generalize H.slot h = s at *
    generalize H.gen h = g at *
    rw [E2.out]
    go_enter Try.func41, Try.ntmps41
    go_wp2_with (first | (go_at_call 73; refine HU.out.mono ?_; rintro e w1 ⟨rfl, rfl⟩) | (go_at_call 72; refine HM.out.mono ?_; rintro e w1 ⟨rfl, rfl⟩))
    go_ret
    exact ⟨rfl, rfl⟩
  · have E2 : Hid (H.ckE h = 2) := by show _ = _; rw [E.out, k]; rfl
    rw [k] at HM
    clear E k
    generalize H.mkV (H.slot h : Nat) (H.gen h : Nat) = v at *
    generalize H.slot h = s at *
    generalize H.gen h = g at *
    rw [E2.out]
    go_enter Try.func41, Try.ntmps41
    go_wp2_with (first | (go_at_call 73; refine HU.out.mono ?_; rintro e w1 ⟨rfl, rfl⟩) | (go_at_call 72; refine HM.out.mono ?_; rintro e w1 ⟨rfl, rfl⟩))
    go_ret
    exact ⟨rfl, rfl⟩
end Go.Proofs.Ytdpaleldalplfaa
