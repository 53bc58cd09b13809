/- Texts joined: HandRef1 HandRef2 HandPkg1 -/
import Derived.Test.YtniccjbcchdkoaaProg
import Derived.Test.YtniccjbcchdkoaaHandleMath
import Derived.Test.YtniccjbcchdkoaaDeltaRef1
import Derived.Test.YtniccjbcchdkoaaPackSrc
/- HandRef1 -/
namespace Go.Proofs.Ytniccjbcchdkoaa
open Go.RowKit

/-- What the program's divisions by 65,536 are. -/
theorem H.tdiv (h : Nat) : (h : Int).tdiv 65536 = (H.gen h : Nat) := by rw [Int.tdiv_eq_ediv_of_nonneg (by omega)]; unfold H.gen; omega
theorem H.tmod (h : Nat) : (h : Int).tmod 65536 = (H.slot h : Nat) := by rw [Int.tmod_eq_emod_of_nonneg (by omega)]; unfold H.slot; omega
theorem H.mod_bd (h : Nat) : (0 : Int) ≤ (H.slot h : Nat) ∧ ((H.slot h : Nat) : Int) < 65536 := by have := Nat.mod_lt h (show 0 < 65536 by decide); unfold H.slot; omega
set_option maxHeartbeats 1000000 in
theorem refMake10_any (s g : Int) (s0 : -9223372036854775808 ≤ s) (s1 : s ≤ 9223372036854775807) (g0 : 0 ≤ g) (g1 : g ≤ 18446744073709551615) (w : World) :
    Calls Try.prog 101 #[.int .i64 s, .int .u64 g] w fun e w' => e = .returned (.tuple #[.int .u64 (H.mkV s g), .int .i64 (H.mkE s g)]) ∧ w = w' := by
  by_cases h1 : s < 0
  · have e : Hid (H.mkE s g = 3 ∧ H.mkV s g = 0) := by
      have h : H.mkE s g = 3 := by unfold H.mkE; rw [if_pos (Or.inl h1)]
      exact ⟨h, by unfold H.mkV; rw [h]; rfl⟩
    go_enter Try.func101, Try.ntmps101
    go_wp2
    go_ret2
    exact ⟨by rw [e.out.1, e.out.2]; rfl, rfl⟩
  · by_cases h2 : 16384 ≤ s
    · have e : Hid (H.mkE s g = 3 ∧ H.mkV s g = 0) := by
        have h : H.mkE s g = 3 := by unfold H.mkE; rw [if_pos (Or.inr h2)]
        exact ⟨h, by unfold H.mkV; rw [h]; rfl⟩
      go_enter Try.func101, Try.ntmps101
      go_wp2
      go_ret2
      exact ⟨by rw [e.out.1, e.out.2]; rfl, rfl⟩
    · by_cases h3 : g < 1
      · have e : Hid (H.mkE s g = 3 ∧ H.mkV s g = 0) := by
          have h : H.mkE s g = 3 := by unfold H.mkE; rw [if_neg (by omega), if_pos (Or.inl h3)]
          exact ⟨h, by unfold H.mkV; rw [h]; rfl⟩
        go_enter Try.func101, Try.ntmps101
        go_wp2
        go_ret2
        exact ⟨by rw [e.out.1, e.out.2]; rfl, rfl⟩
      · by_cases h4 : 4294967295 < g
        · have e : Hid (H.mkE s g = 3 ∧ H.mkV s g = 0) := by
            have h : H.mkE s g = 3 := by unfold H.mkE; rw [if_neg (by omega), if_pos (Or.inr h4)]
            exact ⟨h, by unfold H.mkV; rw [h]; rfl⟩
          go_enter Try.func101, Try.ntmps101
          go_wp2
          go_ret2
          exact ⟨by rw [e.out.1, e.out.2]; rfl, rfl⟩
        · have e : Hid (H.mkE s g = 0 ∧ H.mkV s g = g * 65536 + s) := by
            have h : H.mkE s g = 0 := by unfold H.mkE; rw [if_neg (by omega), if_neg (by omega)]
            exact ⟨h, by unfold H.mkV; rw [h]; rfl⟩
          go_enter Try.func101, Try.ntmps101
          go_wp2
          go_ret2
          exact ⟨by rw [e.out.1, e.out.2]; rfl, rfl⟩
set_option maxRecDepth 100000 in
set_option maxHeartbeats 1000000 in
theorem refCheck10_any (h : Nat) (h1 : h ≤ 18446744073709551615) (w : World) :
    Calls Try.prog 125 #[.int .u64 (h : Int)] w fun e w' => e = .returned (.int .i64 (H.ckE h)) ∧ w = w' := by
  have d := H.tdiv h
  have m := H.tmod h
  have bad : ¬ H.Ok h → H.ckE h = 2 := fun k => if_neg k
  have good : H.Ok h → H.ckE h = 0 := fun k => if_pos k
  obtain ⟨s, hs⟩ : ∃ s : Int, s = (H.slot h : Nat) := ⟨_, rfl⟩
  obtain ⟨g, hg⟩ : ∃ g : Int, g = (H.gen h : Nat) := ⟨_, rfl⟩
  have s0 : 0 ≤ s := by omega
  have s2 : s < 65536 := by have := Nat.mod_lt h (show 0 < 65536 by decide); unfold H.slot at hs; omega
  have g0 : 0 ≤ g := by omega
  have g2 : g ≤ 281474976710655 := by unfold H.gen at hg; omega
  have hok : H.Ok h ↔ s < 16384 ∧ 1 ≤ g ∧ g ≤ 4294967295 := ⟨fun k => by have := k.1; have := k.2; have := k.3; omega, fun k => ⟨by omega, by omega, by omega⟩⟩
  rw [← hg] at d
  rw [← hs] at m
  clear hs hg
  generalize H.ckE h = c at *
  by_cases k1 : 16384 ≤ s
  · obtain rfl := bad (fun k => by have := hok.1 k; omega)
    clear bad good hok
    go_enter Try.func125, Try.ntmps125
    go_wp2
    go_ret
    exact ⟨rfl, rfl⟩
  · by_cases k2 : g < 1
    · obtain rfl := bad (fun k => by have := hok.1 k; omega)
      clear bad good hok
      go_enter Try.func125, Try.ntmps125
      go_wp2
      go_ret
      exact ⟨rfl, rfl⟩
    · by_cases k3 : 4294967295 < g
      · obtain rfl := bad (fun k => by have := hok.1 k; omega)
        clear bad good hok
        go_enter Try.func125, Try.ntmps125
        go_wp2
        go_ret
        exact ⟨rfl, rfl⟩
      · obtain rfl := good (hok.2 ⟨by omega, by omega, by omega⟩)
        clear bad good hok
        go_enter Try.func125, Try.ntmps125
        go_wp2
        go_ret
        exact ⟨rfl, rfl⟩
end Go.Proofs.Ytniccjbcchdkoaa
/- HandRef2 -/
namespace Go.Proofs.Ytniccjbcchdkoaa
open Go.RowKit

theorem H.gen_le {h : Nat} (h1 : h ≤ 18446744073709551615) : H.gen h ≤ 281474976710655 := by unfold H.gen; omega
theorem H.slot_lt (h : Nat) : H.slot h < 65536 := by unfold H.slot; omega
theorem H.ck_ok {h : Nat} (k : H.Ok h) : H.ckE h = 0 ∧ H.slotV h = (H.slot h : Nat) ∧ H.genV h = (H.gen h : Nat) := ⟨if_pos k, if_pos k, if_pos k⟩
theorem H.ck_bad {h : Nat} (k : ¬ H.Ok h) : H.ckE h = 2 ∧ H.slotV h = 0 ∧ H.genV h = 0 := ⟨if_neg k, if_neg k, if_neg k⟩
theorem refSlot10_any (h : Nat) (h1 : h ≤ 18446744073709551615) (w : World) :
    Calls Try.prog 103 #[.int .u64 (h : Int)] w fun e w' => e = .returned (.tuple #[.int .i64 (H.slotV h), .int .i64 (H.ckE h)]) ∧ w = w' := by
  have HC := Lib.hid (refCheck10_any h h1 w)
  have m := H.tmod h
  have hs := H.slot_lt h
  by_cases k : H.Ok h
  · obtain ⟨e1, e2, _⟩ := H.ck_ok k
    rw [e1] at HC ⊢
    rw [e2]
    clear e1 e2 k
    generalize H.slot h = s at *
    go_enter Try.func103, Try.ntmps103
    go_wp2_with fail
    refine HC.out.mono ?_
    rintro e w1 ⟨rfl, rfl⟩
    go_wp2
    go_ret2
    exact ⟨rfl, rfl⟩
  · obtain ⟨e1, e2, _⟩ := H.ck_bad k
    rw [e1] at HC ⊢
    rw [e2]
    clear e1 e2 k
    go_enter Try.func103, Try.ntmps103
    go_wp2_with fail
    refine HC.out.mono ?_
    rintro e w1 ⟨rfl, rfl⟩
    go_wp2
    go_ret2
    exact ⟨rfl, rfl⟩
theorem refGen10_any (h : Nat) (h1 : h ≤ 18446744073709551615) (w : World) :
    Calls Try.prog 124 #[.int .u64 (h : Int)] w fun e w' => e = .returned (.tuple #[.int .u64 (H.genV h), .int .i64 (H.ckE h)]) ∧ w = w' := by
  have HC := Lib.hid (refCheck10_any h h1 w)
  have m := H.tdiv h
  have hs := H.gen_le h1
  by_cases k : H.Ok h
  · obtain ⟨e1, _, e2⟩ := H.ck_ok k
    rw [e1] at HC ⊢
    rw [e2]
    clear e1 e2 k
    generalize H.gen h = s at *
    go_enter Try.func124, Try.ntmps124
    go_wp2_with fail
    refine HC.out.mono ?_
    rintro e w1 ⟨rfl, rfl⟩
    go_wp2
    go_ret2
    exact ⟨rfl, rfl⟩
  · obtain ⟨e1, _, e2⟩ := H.ck_bad k
    rw [e1] at HC ⊢
    rw [e2]
    clear e1 e2 k
    go_enter Try.func124, Try.ntmps124
    go_wp2_with fail
    refine HC.out.mono ?_
    rintro e w1 ⟨rfl, rfl⟩
    go_wp2
    go_ret2
    exact ⟨rfl, rfl⟩
/-! ### digits, Text -/
def H.DigEnd (n : Nat) (w : World) (e : Ending) (w' : World) : Prop := e = .returned (.string ⟨(D.digs n).toArray⟩) ∧ Below w.heap.size w w'
end Go.Proofs.Ytniccjbcchdkoaa
/- HandPkg1 -/
namespace Go.Proofs.Ytniccjbcchdkoaa
open Go.RowKit

/-! ### Bits of numbers of 64 bits without a sign -/
theorem H.ofInt64 (a : Nat) (h : a < 18446744073709551616) : (BitVec.ofInt 64 (a : Int)).toNat = a := by
  rw [BitVec.ofInt_natCast, BitVec.toNat_ofNat]; exact Nat.mod_eq_of_lt h
theorem H.u64_in (a : Nat) (h : a < 18446744073709551616) : IntKind.u64.wrap (a : Int) = (a : Int) := by
  have e : IntKind.u64.wrap (a : Int) = (a : Int) % 18446744073709551616 := by simp [IntKind.wrap, IntKind.bits, IntKind.signed]
  omega
theorem H.and_u64 (a b : Nat) (ha : a < 18446744073709551616) (hb : b < 18446744073709551616) : bits .and .u64 (a : Int) (b : Int) = ((a &&& b : Nat) : Int) := by
  have hx : a &&& b < 2 ^ 64 := Nat.and_lt_two_pow _ (by omega)
  show IntKind.u64.wrap ((BitVec.ofInt 64 (a : Int) &&& BitVec.ofInt 64 (b : Int)).toNat : Int) = _
  rw [BitVec.toNat_and, H.ofInt64 a ha, H.ofInt64 b hb]
  exact H.u64_in _ (by omega)
theorem H.or_u64 (a b : Nat) (ha : a < 18446744073709551616) (hb : b < 18446744073709551616) : bits .or .u64 (a : Int) (b : Int) = ((a ||| b : Nat) : Int) := by
  have hx : a ||| b < 2 ^ 64 := Nat.or_lt_two_pow (by omega) (by omega)
  show IntKind.u64.wrap ((BitVec.ofInt 64 (a : Int) ||| BitVec.ofInt 64 (b : Int)).toNat : Int) = _
  rw [BitVec.toNat_or, H.ofInt64 a ha, H.ofInt64 b hb]
  exact H.u64_in _ (by omega)
theorem H.mask (h : Nat) (h1 : h ≤ 18446744073709551615) : bits .and .u64 (h : Int) 65535 = (H.slot h : Nat) := by
  have := H.and_u64 h 65535 (by omega) (by omega)
  rw [show ((65535 : Nat) : Int) = 65535 from rfl] at this
  rw [this, show 65535 = 2 ^ 16 - 1 from rfl, Nat.and_two_pow_sub_one_eq_mod]
  rfl
theorem H.join (s g : Int) (s0 : 0 ≤ s) (s1 : s < 65536) (g0 : 0 ≤ g) (g1 : g ≤ 4294967295) : bits .or .u64 (g * 65536) s = g * 65536 + s := by
  obtain ⟨a, rfl⟩ := Int.eq_ofNat_of_zero_le s0
  obtain ⟨b, rfl⟩ := Int.eq_ofNat_of_zero_le g0
  have := H.or_u64 (2 ^ 16 * b) a (by omega) (by omega)
  rw [← Nat.two_pow_add_eq_or_of_lt (by omega)] at this
  rw [show ((b : Int) * 65536) = ((2 ^ 16 * b : Nat) : Int) by omega, this]
  omega
/-! ### The package -/
theorem unpack10_any (h : Nat) (h1 : h ≤ 18446744073709551615) (w : World) :
    Calls Try.prog 97 #[.int .u64 (h : Int)] w fun e w' => e = .returned (.tuple #[.int .i64 (H.slot h : Nat), .int .u64 (H.gen h : Nat)]) ∧ w = w' := by
  have m := H.mask h h1
  have d : (h : Int) / 65536 = (H.gen h : Nat) := by unfold H.gen; omega
  have hs := H.slot_lt h
  have hg := H.gen_le h1
  generalize H.slot h = s at *
  generalize H.gen h = g at *
  go_enter Try.func97, Try.ntmps97
  go_wp2
  go_ret2
  exact ⟨rfl, rfl⟩
set_option maxHeartbeats 1000000 in
theorem make10_any (s g : Int) (s0 : -9223372036854775808 ≤ s) (s1 : s ≤ 9223372036854775807) (g0 : 0 ≤ g) (g1 : g ≤ 18446744073709551615) (w : World) :
    Calls Try.prog 71 #[.int .i64 s, .int .u64 g] w fun e w' => e = .returned (.tuple #[.int .u64 (H.mkV s g), .int .i64 (H.mkE s g)]) ∧ w = w' := by
  by_cases h1 : s < 0
  · have e : Hid (H.mkE s g = 3 ∧ H.mkV s g = 0) := by
      have h : H.mkE s g = 3 := by unfold H.mkE; rw [if_pos (Or.inl h1)]
      exact ⟨h, by unfold H.mkV; rw [h]; rfl⟩
    go_enter Try.func71, Try.ntmps71
    go_wp2
    go_ret2
    exact ⟨by rw [e.out.1, e.out.2]; rfl, rfl⟩
  · by_cases h2 : 16384 ≤ s
    · have e : Hid (H.mkE s g = 3 ∧ H.mkV s g = 0) := by
        have h : H.mkE s g = 3 := by unfold H.mkE; rw [if_pos (Or.inr h2)]
        exact ⟨h, by unfold H.mkV; rw [h]; rfl⟩
      go_enter Try.func71, Try.ntmps71
      go_wp2
      go_ret2
      exact ⟨by rw [e.out.1, e.out.2]; rfl, rfl⟩
    · by_cases h3 : g < 1
      · have e : Hid (H.mkE s g = 3 ∧ H.mkV s g = 0) := by
          have h : H.mkE s g = 3 := by unfold H.mkE; rw [if_neg (by omega), if_pos (Or.inl h3)]
          exact ⟨h, by unfold H.mkV; rw [h]; rfl⟩
        go_enter Try.func71, Try.ntmps71
        go_wp2
        go_ret2
        exact ⟨by rw [e.out.1, e.out.2]; rfl, rfl⟩
      · by_cases h4 : 4294967295 < g
        · have e : Hid (H.mkE s g = 3 ∧ H.mkV s g = 0) := by
            have h : H.mkE s g = 3 := by unfold H.mkE; rw [if_neg (by omega), if_pos (Or.inr h4)]
            exact ⟨h, by unfold H.mkV; rw [h]; rfl⟩
          go_enter Try.func71, Try.ntmps71
          go_wp2
          go_ret2
          exact ⟨by rw [e.out.1, e.out.2]; rfl, rfl⟩
        · have e : Hid (H.mkE s g = 0 ∧ H.mkV s g = g * 65536 + s) := by
            have h : H.mkE s g = 0 := by unfold H.mkE; rw [if_neg (by omega), if_neg (by omega)]
            exact ⟨h, by unfold H.mkV; rw [h]; rfl⟩
          have j := H.join s g (by omega) (by omega) (by omega) (by omega)
          go_enter Try.func71, Try.ntmps71
          go_wp2
          go_ret2
          exact ⟨by rw [e.out.1, e.out.2, ← j]; rfl, rfl⟩
theorem H.ck_mk (h : Nat) : H.ckE h = if H.mkE (H.slot h : Nat) (H.gen h : Nat) = 0 then 0 else 2 := by
  unfold H.ckE
  by_cases k : H.Ok h
  · rw [if_pos k, if_pos (H.mkE_ok k)]
  · rw [if_neg k, if_neg fun e => k ?_]
    have := (H.mkE_iff _ _).1 e
    exact ⟨by omega, by omega, by omega⟩
set_option maxHeartbeats 1000000 in
theorem check10_any (h : Nat) (h1 : h ≤ 18446744073709551615) (w : World) :
    Calls Try.prog 96 #[.int .u64 (h : Int)] w fun e w' => e = .returned (.int .i64 (H.ckE h)) ∧ w = w' := by
  have hs := H.slot_lt h
  have hg := H.gen_le h1
  have HU := Lib.hid (unpack10_any h h1 w)
  have HM := Lib.hid (make10_any (H.slot h : Nat) (H.gen h : Nat) (by omega) (by omega) (by omega) (by omega) w)
  have E := Lib.hid (H.ck_mk h)
  rcases H.mkE_or (H.slot h : Nat) (H.gen h : Nat) with k | k
  · have E2 : Hid (H.ckE h = 0) := by show _ = _; rw [E.out, if_pos k]
    rw [k] at HM
    clear E k
    generalize H.mkV (H.slot h : Nat) (H.gen h : Nat) = v at *
    generalize H.slot h = s at *
    generalize H.gen h = g at *
    rw [E2.out]
    go_enter Try.func96, Try.ntmps96
    go_wp2_with (first | (go_at_call 97; refine HU.out.mono ?_; rintro e w1 ⟨rfl, rfl⟩) | (go_at_call 71; refine HM.out.mono ?_; rintro e w1 ⟨rfl, rfl⟩))
    go_ret
    exact ⟨rfl, rfl⟩
  · have E2 : Hid (H.ckE h = 2) := by show _ = _; rw [E.out, k]; rfl
    rw [k] at HM
    clear E k
    generalize H.mkV (H.slot h : Nat) (H.gen h : Nat) = v at *
    generalize H.slot h = s at *
    generalize H.gen h = g at *
    rw [E2.out]
    go_enter Try.func96, Try.ntmps96
    go_wp2_with (first | (go_at_call 97; refine HU.out.mono ?_; rintro e w1 ⟨rfl, rfl⟩) | (go_at_call 71; refine HM.out.mono ?_; rintro e w1 ⟨rfl, rfl⟩))
    go_ret
    exact ⟨rfl, rfl⟩
theorem slot10_any (h : Nat) (h1 : h ≤ 18446744073709551615) (w : World) :
    Calls Try.prog 75 #[.int .u64 (h : Int)] w fun e w' => e = .returned (.tuple #[.int .i64 (H.slotV h), .int .i64 (H.ckE h)]) ∧ w = w' := by
  have HC := Lib.hid (check10_any h h1 w)
  have HU := Lib.hid (unpack10_any h h1 w)
  by_cases k : H.Ok h
  · obtain ⟨e1, e2, _⟩ := H.ck_ok k
    rw [e1] at HC ⊢
    rw [e2]
    clear e1 e2 k
    generalize H.slot h = s at *
    generalize H.gen h = g at *
    go_enter Try.func75, Try.ntmps75
    go_wp2_with (first | (go_at_call 96; refine HC.out.mono ?_; rintro e w1 ⟨rfl, rfl⟩) | (go_at_call 97; refine HU.out.mono ?_; rintro e w1 ⟨rfl, rfl⟩))
    go_ret2
    exact ⟨rfl, rfl⟩
  · obtain ⟨e1, e2, _⟩ := H.ck_bad k
    rw [e1] at HC ⊢
    rw [e2]
    clear e1 e2 k
    go_enter Try.func75, Try.ntmps75
    go_wp2_with (first | (go_at_call 96; refine HC.out.mono ?_; rintro e w1 ⟨rfl, rfl⟩))
    go_ret2
    exact ⟨rfl, rfl⟩
theorem gen10_any (h : Nat) (h1 : h ≤ 18446744073709551615) (w : World) :
    Calls Try.prog 95 #[.int .u64 (h : Int)] w fun e w' => e = .returned (.tuple #[.int .u64 (H.genV h), .int .i64 (H.ckE h)]) ∧ w = w' := by
  have HC := Lib.hid (check10_any h h1 w)
  have HU := Lib.hid (unpack10_any h h1 w)
  by_cases k : H.Ok h
  · obtain ⟨e1, _, e2⟩ := H.ck_ok k
    rw [e1] at HC ⊢
    rw [e2]
    clear e1 e2 k
    generalize H.slot h = s at *
    generalize H.gen h = g at *
    go_enter Try.func95, Try.ntmps95
    go_wp2_with (first | (go_at_call 96; refine HC.out.mono ?_; rintro e w1 ⟨rfl, rfl⟩) | (go_at_call 97; refine HU.out.mono ?_; rintro e w1 ⟨rfl, rfl⟩))
    go_ret2
    exact ⟨rfl, rfl⟩
  · obtain ⟨e1, _, e2⟩ := H.ck_bad k
    rw [e1] at HC ⊢
    rw [e2]
    clear e1 e2 k
    go_enter Try.func95, Try.ntmps95
    go_wp2_with (first | (go_at_call 96; refine HC.out.mono ?_; rintro e w1 ⟨rfl, rfl⟩))
    go_ret2
    exact ⟨rfl, rfl⟩
end Go.Proofs.Ytniccjbcchdkoaa
