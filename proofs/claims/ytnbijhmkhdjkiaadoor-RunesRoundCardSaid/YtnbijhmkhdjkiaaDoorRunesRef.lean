/- The functions of the reference (but Encode, Decode, Valid): their contracts. -/
import Derived.Test.YtnbijhmkhdjkiaaDoorRunesLeaf
import Derived.Test.YtnbijhmkhdjkiaaDoorRunesMath2
import Derived.LoopTactic
import Derived.Lib.Hide
namespace Go.Proofs.YtnbijhmkhdjkiaaDoor
open Go.RowKit

theorem U.ret_opt2 {o : Option Nat} {a : Int} {b : Bool} (h : o = if b then some a.toNat else none) (h0 : 0 ≤ a) (h1 : b = false → a = 0) :
    Ending.returned (.tuple #[.int .i64 a, .bool b]) = .returned (.tuple #[.int .i64 (o.getD 0 : Nat), .bool o.isSome]) := by
  subst h
  cases b with
  | true => obtain ⟨n, rfl⟩ := Int.eq_ofNat_of_zero_le h0; rfl
  | false => rw [h1 rfl]; rfl
set_option maxHeartbeats 1000000 in
theorem refNext_any (s : ByteArray) (i : Int) (w : World) (hs : s.size < 4611686018427387904) :
    Calls Tryd.prog 24 #[.string s, .int .i64 i] w fun e w' => e = .returned (.tuple #[.int .i64 ((U.nxt s.data.toList i).getD 0 : Nat), .bool (U.nxt s.data.toList i).isSome]) ∧ w = w' := by
  go_enter Tryd.func24, Tryd.ntmps24
  go_wp2
  go_loop [6] (fun p => ∃ k : Nat, k ≤ s.size + 1 ∧ p = .int .i64 k ∧ Hid (∀ j, j < k → U.nxtP s.data.toList i j = false)) (fun p => s.size + 1 - (intOf p).toNat)
  case atStart => exact ⟨0, Nat.zero_le _, rfl, fun j hj => absurd hj (Nat.not_lt_zero _)⟩
  case round =>
    obtain ⟨k, hk, rfl, hnot⟩ := hrel
    have hbn := Lib.hid (U.bnd_natCast s.data.toList k)
    have step : U.nxtP s.data.toList i k = false → Hid (∀ j, j < k + 1 → U.nxtP s.data.toList i j = false) := by
      intro hf j hj
      by_cases e : j = k
      · rw [e]; exact hf
      · exact hnot.out j (by omega)
    have Step := Lib.hid step
    clear step
    by_cases hlt : k ≤ s.size
    · by_cases hi : i < k
      · cases hb : U.bnd s.data.toList (k : Int) with
        | true =>
          have HP : Hid (U.nxtP s.data.toList i k = true) := by
            show _ = _; rw [U.nxtP, ← hbn.out, hb, decide_eq_true hi]; rfl
          have HR := Lib.hid (U.nxt_some s.data.toList i k (by rw [U.len]; exact hlt) HP.out hnot.out)
          go_wp2_with (go_at_call 18; refine (refBoundary_any _ _ _).mono ?_; rintro e w' ⟨rfl, rfl⟩)
          go_ret2
          exact ⟨U.ret_opt2 (by rw [HR.out]; rfl) (by omega) (by simp), rfl⟩
        | false =>
          have HP : Hid (U.nxtP s.data.toList i k = false) := by
            show _ = _; rw [U.nxtP, ← hbn.out, hb]; simp
          go_wp2_with (go_at_call 18; refine (refBoundary_any _ _ _).mono ?_; rintro e w' ⟨rfl, rfl⟩)
          go_round
          case rel => exact ⟨k + 1, by omega, by go_num, Step.out HP.out⟩
          case measure => simp [intOf]; omega
      · have HP : Hid (U.nxtP s.data.toList i k = false) := by
          show _ = _; rw [U.nxtP, decide_eq_false hi]; rfl
        go_wp2_with (go_at_call 18; refine (refBoundary_any _ _ _).mono ?_; rintro e w' ⟨rfl, rfl⟩)
        go_round
        case rel => exact ⟨k + 1, by omega, by go_num, Step.out HP.out⟩
        case measure => simp [intOf]; omega
    · have HR := Lib.hid (U.nxt_none s.data.toList i (fun j hj => hnot.out j (by rw [U.len] at hj; omega)))
      go_wp2
      go_ret2
      exact ⟨U.ret_opt2 (by rw [HR.out]; rfl) (by omega) (by simp), rfl⟩
set_option maxHeartbeats 1000000 in
theorem refPrev_any (s : ByteArray) (i : Int) (w : World) (hs : s.size < 4611686018427387904) :
    Calls Tryd.prog 26 #[.string s, .int .i64 i] w fun e w' => e = .returned (.tuple #[.int .i64 ((U.prv s.data.toList i).getD 0 : Nat), .bool (U.prv s.data.toList i).isSome]) ∧ w = w' := by
  go_enter Tryd.func26, Tryd.ntmps26
  go_wp2
  go_loop [6] (fun p => ∃ k : Nat, k ≤ s.size + 1 ∧ p = .int .i64 ((k : Int) - 1) ∧ Hid (U.prvTo s.data.toList i k = U.prv s.data.toList i)) (fun p => (intOf p + 1).toNat)
  case atStart => exact ⟨s.size + 1, Nat.le_refl _, by rw [show ((s.size + 1 : Nat) : Int) - 1 = s.size by omega], by show _ = _; rw [← U.len s]; exact U.prvTo_all _ _⟩
  case round =>
    obtain ⟨k, hk, rfl, hprv⟩ := hrel
    cases k with
    | zero =>
      have HR : Hid (U.prv s.data.toList i = none) := by show _ = _; rw [← hprv.out]; rfl
      go_wp2
      go_ret2
      exact ⟨U.ret_opt2 (by rw [HR.out]; rfl) (by omega) (by simp), rfl⟩
    | succ k =>
      rw [show ((k + 1 : Nat) : Int) - 1 = (k : Int) by omega]
      have hbn := Lib.hid (U.bnd_natCast s.data.toList k)
      have hstep := Lib.hid (U.prvTo_succ s.data.toList i k)
      by_cases hi : (k : Int) < i
      · cases hb : U.bnd s.data.toList (k : Int) with
        | true =>
          have HR : Hid (U.prv s.data.toList i = some k) := by
            show _ = _
            rw [← hprv.out, hstep.out, U.prvP, ← hbn.out, hb, decide_eq_true hi]; rfl
          go_wp2_with (go_at_call 18; refine (refBoundary_any _ _ _).mono ?_; rintro e w' ⟨rfl, rfl⟩)
          go_ret2
          exact ⟨U.ret_opt2 (by rw [HR.out]; rfl) (by omega) (by simp), rfl⟩
        | false =>
          have HR : Hid (U.prvTo s.data.toList i k = U.prv s.data.toList i) := by
            show _ = _
            rw [← hprv.out, hstep.out, U.prvP, ← hbn.out, hb]; simp
          go_wp2_with (go_at_call 18; refine (refBoundary_any _ _ _).mono ?_; rintro e w' ⟨rfl, rfl⟩)
          go_round
          case rel => exact ⟨k, by omega, rfl, HR⟩
          case measure => simp [intOf]
      · have HR : Hid (U.prvTo s.data.toList i k = U.prv s.data.toList i) := by
          show _ = _
          rw [← hprv.out, hstep.out, U.prvP, decide_eq_false hi]; simp
        go_wp2_with (go_at_call 18; refine (refBoundary_any _ _ _).mono ?_; rintro e w' ⟨rfl, rfl⟩)
        go_round
        case rel => exact ⟨k, by omega, rfl, HR⟩
        case measure => simp [intOf]
set_option maxHeartbeats 1000000 in
theorem refCount_any (s : ByteArray) (w : World) (hs : s.size < 4611686018427387904) :
    Calls Tryd.prog 16 #[.string s] w fun e w' => e = .returned (.int .i64 (U.cnt s.data.toList)) ∧ w = w' := by
  go_enter Tryd.func16, Tryd.ntmps16
  go_wp2
  go_loop [3, 4] (fun n p => ∃ k : Nat, k ≤ s.size ∧ p = .int .i64 k ∧ n = .int .i64 (U.cntTo s.data.toList k)) (fun _ p => s.size - (intOf p).toNat)
  case atStart => exact ⟨0, Nat.zero_le _, rfl, rfl⟩
  case round =>
    obtain ⟨k, hk, rfl, rfl⟩ := hrel
    have hle := U.cntTo_le s.data.toList k
    by_cases hlt : k < s.size
    · have hstep : Hid (U.cntTo s.data.toList (k + 1) = U.cntTo s.data.toList k + if U.cont s[k] then 0 else 1) := by
        show _ = _; rw [U.cntTo_succ, U.at_lt s k hlt]
      cases hb : U.cont s[k] with
      | true =>
        have hs1 : Hid (U.cntTo s.data.toList (k + 1) = U.cntTo s.data.toList k) := by show _ = _; rw [hstep.out, hb]; rfl
        go_wp2_with (go_at_call 30; refine (refCont_any _ _).mono ?_; rintro e w' ⟨rfl, rfl⟩)
        go_round
        case rel => exact ⟨k + 1, by omega, by go_num, by rw [hs1.out]⟩
        case measure => simp [intOf]; omega
      | false =>
        have hs1 : Hid (U.cntTo s.data.toList (k + 1) = U.cntTo s.data.toList k + 1) := by show _ = _; rw [hstep.out, hb]; rfl
        go_wp2_with (go_at_call 30; refine (refCont_any _ _).mono ?_; rintro e w' ⟨rfl, rfl⟩)
        go_round
        case rel => exact ⟨k + 1, by omega, by go_num, by rw [hs1.out]; go_num⟩
        case measure => simp [intOf]; omega
    · obtain rfl : k = s.size := by omega
      have he : Hid (U.cnt s.data.toList = U.cntTo s.data.toList s.size) := by show _ = _; rw [U.cnt, U.len]
      go_wp2
      go_ret
      exact ⟨U.ret_int (by rw [he.out]), rfl⟩
set_option maxHeartbeats 1000000 in
theorem refClip_any (s : ByteArray) (i : Int) (w : World) (hs : s.size < 4611686018427387904) :
    Calls Tryd.prog 28 #[.string s, .int .i64 i] w fun e w' => e = .returned (.string (s.extract 0 (U.clipN s.data.toList i))) ∧ w = w' := by
  go_enter Tryd.func28, Tryd.ntmps28
  go_wp2
  go_loop [5, 6] (fun b p => ∃ k : Nat, k ≤ s.size + 1 ∧ p = .int .i64 k ∧ b = .int .i64 ((U.prvTo s.data.toList (i + 1) k).getD 0 : Nat)) (fun _ p => s.size + 1 - (intOf p).toNat)
  case atStart => exact ⟨0, Nat.zero_le _, rfl, rfl⟩
  case round =>
    obtain ⟨k, hk, rfl, rfl⟩ := hrel
    have hle := U.prvTo_lt s.data.toList (i + 1) k
    have hbn := Lib.hid (U.bnd_natCast s.data.toList k)
    have hstep := Lib.hid (U.prvTo_succ s.data.toList (i + 1) k)
    by_cases hlt : k ≤ s.size
    · by_cases hi : (k : Int) ≤ i
      · cases hb : U.bnd s.data.toList (k : Int) with
        | true =>
          have HR : Hid ((U.prvTo s.data.toList (i + 1) (k + 1)).getD 0 = k) := by
            show _ = _
            rw [hstep.out, U.prvP, ← hbn.out, hb, decide_eq_true (by omega)]; rfl
          go_wp2_with (go_at_call 18; refine (refBoundary_any _ _ _).mono ?_; rintro e w' ⟨rfl, rfl⟩)
          go_round
          case rel => exact ⟨k + 1, by omega, by go_num, by rw [HR.out]⟩
          case measure => simp [intOf]; omega
        | false =>
          have HR : Hid ((U.prvTo s.data.toList (i + 1) (k + 1)).getD 0 = (U.prvTo s.data.toList (i + 1) k).getD 0) := by
            show _ = _
            rw [hstep.out, U.prvP, ← hbn.out, hb]; simp
          go_wp2_with (go_at_call 18; refine (refBoundary_any _ _ _).mono ?_; rintro e w' ⟨rfl, rfl⟩)
          go_round
          case rel => exact ⟨k + 1, by omega, by go_num, by rw [HR.out]⟩
          case measure => simp [intOf]; omega
      · have HR : Hid ((U.prvTo s.data.toList (i + 1) (k + 1)).getD 0 = (U.prvTo s.data.toList (i + 1) k).getD 0) := by
          show _ = _
          rw [hstep.out, U.prvP, decide_eq_false (by omega)]; simp
        go_wp2_with (go_at_call 18; refine (refBoundary_any _ _ _).mono ?_; rintro e w' ⟨rfl, rfl⟩)
        go_round
        case rel => exact ⟨k + 1, by omega, by go_num, by rw [HR.out]⟩
        case measure => simp [intOf]; omega
    · obtain rfl : k = s.size + 1 := by omega
      have he : Hid (U.clipN s.data.toList i = (U.prvTo s.data.toList (i + 1) (s.size + 1)).getD 0) := by show _ = _; rw [U.clipN, ← U.prvTo_all, U.len]
      have hle' : (U.prvTo s.data.toList (i + 1) (s.size + 1)).getD 0 ≤ s.size := by omega
      go_wp2
      go_ret
      exact ⟨U.ret_str (by rw [he.out]), rfl⟩
end Go.Proofs.YtnbijhmkhdjkiaaDoor
