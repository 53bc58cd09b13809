/- Decode and Valid of the reference: their contracts. -/
import Derived.Test.YtnbijhmkhdjkiaaDoorRunesRefEnc
import Derived.Test.YtnbijhmkhdjkiaaDoorRunesValid
namespace Go.Proofs.YtnbijhmkhdjkiaaDoor
open Go.RowKit

theorem U.acc_stepG (s : ByteArray) (r : Int) (k : Nat) (h1 : 1 ≤ k) (h : k < s.size) : 64 * U.accG r s.data.toList k + (s[k].toNat : Int) - 128 = U.accG r s.data.toList (k + 1) := by
  rw [U.accG_succ _ _ k h1 (by rw [U.len]; exact h), U.at_lt s k h]; omega
theorem U.dec_no_of (l : List UInt8) (h : U.decB l = true → False) : U.decB l = false := Bool.eq_false_iff.2 h
theorem U.toList_eq {a b : ByteArray} : a.toList = b.toList ↔ a.data.toList = b.data.toList := by rw [ByteArray.toList_eq, ByteArray.toList_eq]

set_option maxRecDepth 100000 in
set_option maxHeartbeats 1000000 in
theorem refDecode_walk1 (s : ByteArray) (w : World) (hs : s.size ≤ maxLen) (h0 : 0 < s.size) (hne : s.toList.isEmpty = false) (q2 : (s[0].toNat : Int) < (192 : Int)) (hrn : U.rn s[0] = 1) (hrb : U.rb s[0] = (s[0].toNat : Int)) :
    Calls Tryd.prog 20 #[.string s] w fun e w' => e = .returned (.tuple #[.int .i64 (U.decR s.data.toList), .int .i64 (U.decN s.data.toList), .int .i64 (U.decE s.data.toList)]) ∧ Below w.heap.size w w' := by
  unfold maxLen at hs
  have hb := U.rb_bd s[0]
  have h256 := U.lt256 s[0]
  have hw : wrap64 (s[0].toNat : Int) = (s[0].toNat : Int) := IntWalk.wrap64_in _ ⟨by omega, by omega⟩
  have Hrn := Lib.hid hrn
  have Hrb := Lib.hid hrb
  have H0 := Lib.hid (U.at_lt s 0 h0)
  have Hne := Lib.hid (U.ne_nil s h0)
  clear hrn hrb
  go_enter Tryd.func20, Tryd.ntmps20
  go_wp2
  go_loop [5, 7] (fun r i => ∃ k : Nat, 1 ≤ k ∧ k ≤ 1 ∧ k ≤ s.size ∧ i = .int .i64 k ∧ r = .int .i64 (U.accG (U.rb s[0]) s.data.toList k) ∧ Hid (U.conK s.data.toList k = true)) (fun _ i => 1 - (intOf i).toNat)
  case atStart => exact ⟨1, by omega, by omega, by omega, rfl, by rw [U.accG_one, Hrb.out], U.conK_one _⟩
  case round =>
    obtain ⟨k, hk1, hk2, hk3, rfl, rfl, hcon⟩ := hrel
    have hbd := U.accG_bd (U.rb s[0]) s.data.toList hb k hk1 (by rw [U.len]; exact hk3) (by omega) hcon.out
    have hbd1 := hbd.1
    have hbd2 := hbd.2.1
    clear hbd
    by_cases hlt : k < 1
    · exact absurd hlt (by omega)
    · obtain rfl : k = 1 := by omega
      have HE : Hid (U.decB s.data.toList = true ↔ (U.isR (U.accG (U.rb s[0]) s.data.toList 1) = true ∧ U.encL (U.accG (U.rb s[0]) s.data.toList 1) = s.data.toList.take 1)) := by
        have := U.ref_end s.data.toList (by rw [H0.out, Hrn.out, U.len]; exact hk3) (by rw [H0.out, Hrn.out]; exact hcon.out)
        rwa [H0.out, Hrn.out] at this
      have HR := Lib.hid (fun hd : U.decB s.data.toList = true => (U.dec_rn _ hd).2.2)
      clear hcon
      cases hi : U.isR (U.accG (U.rb s[0]) s.data.toList 1) with
      | false =>
        have HD : Hid (U.decB s.data.toList = false) := U.dec_no_of _ fun hd => by
          have := (HE.out.1 hd).1
          rw [hi] at this; cases this
        have he : U.encE (U.accG (U.rb s[0]) s.data.toList 1) = 2 := by rw [U.encE, hi]; rfl
        clear hi
        go_wp2_with (go_at_call 22; refine (refEncode_any _ _).mono ?_; rintro e w' ⟨rfl, hbw⟩)
        go_ret3
        exact ⟨U.ret3 (U.dec_no _ HD.out Hne.out), ‹_›⟩
      | true =>
        have he : U.encE (U.accG (U.rb s[0]) s.data.toList 1) = 0 := by rw [U.encE, hi]; rfl
        by_cases hq : U.encL (U.accG (U.rb s[0]) s.data.toList 1) = s.data.toList.take 1
        · have HD : Hid (U.decB s.data.toList = true) := HE.out.2 ⟨hi, hq⟩
          have heq : ((U.encB (U.accG (U.rb s[0]) s.data.toList 1)).toList == (s.extract 0 1).toList) = true := by
            rw [beq_iff_eq, U.toList_eq, U.encB_data, hq, Lib.extract_data]; rfl
          clear hi hq
          go_wp2_with (go_at_call 22; refine (refEncode_any _ _).mono ?_; rintro e w' ⟨rfl, hbw⟩)
          go_ret3
          have hr := HR.out HD.out
          rw [H0.out, Hrn.out] at hr
          exact ⟨U.ret3 ⟨hr.2, by rw [← hr.1]; rfl, (U.dec_yes _ HD.out Hne.out).2.2⟩, ‹_›⟩
        · have HD : Hid (U.decB s.data.toList = false) := U.dec_no_of _ fun hd => hq (HE.out.1 hd).2
          have heq : ((U.encB (U.accG (U.rb s[0]) s.data.toList 1)).toList == (s.extract 0 1).toList) = false := by
            rw [beq_eq_false_iff_ne, ne_eq, U.toList_eq, U.encB_data, Lib.extract_data]; exact hq
          clear hi hq
          go_wp2_with (go_at_call 22; refine (refEncode_any _ _).mono ?_; rintro e w' ⟨rfl, hbw⟩)
          go_ret3
          exact ⟨U.ret3 (U.dec_no _ HD.out Hne.out), ‹_›⟩
set_option maxRecDepth 100000 in
set_option maxHeartbeats 1000000 in
theorem refDecode_walk2 (s : ByteArray) (w : World) (hs : s.size ≤ maxLen) (h0 : 0 < s.size) (hne : s.toList.isEmpty = false) (q1 : (192 : Int) ≤ (s[0].toNat : Int)) (q2 : (s[0].toNat : Int) < (224 : Int)) (hrn : U.rn s[0] = 2) (hrb : U.rb s[0] = (s[0].toNat : Int) - 192) :
    Calls Tryd.prog 20 #[.string s] w fun e w' => e = .returned (.tuple #[.int .i64 (U.decR s.data.toList), .int .i64 (U.decN s.data.toList), .int .i64 (U.decE s.data.toList)]) ∧ Below w.heap.size w w' := by
  unfold maxLen at hs
  have hb := U.rb_bd s[0]
  have h256 := U.lt256 s[0]
  have hw : wrap64 (s[0].toNat : Int) = (s[0].toNat : Int) := IntWalk.wrap64_in _ ⟨by omega, by omega⟩
  have Hrn := Lib.hid hrn
  have Hrb := Lib.hid hrb
  have H0 := Lib.hid (U.at_lt s 0 h0)
  have Hne := Lib.hid (U.ne_nil s h0)
  clear hrn hrb
  go_enter Tryd.func20, Tryd.ntmps20
  go_wp2
  go_loop [5, 7] (fun r i => ∃ k : Nat, 1 ≤ k ∧ k ≤ 2 ∧ k ≤ s.size ∧ i = .int .i64 k ∧ r = .int .i64 (U.accG (U.rb s[0]) s.data.toList k) ∧ Hid (U.conK s.data.toList k = true)) (fun _ i => 2 - (intOf i).toNat)
  case atStart => exact ⟨1, by omega, by omega, by omega, rfl, by rw [U.accG_one, Hrb.out], U.conK_one _⟩
  case round =>
    obtain ⟨k, hk1, hk2, hk3, rfl, rfl, hcon⟩ := hrel
    have hbd := U.accG_bd (U.rb s[0]) s.data.toList hb k hk1 (by rw [U.len]; exact hk3) (by omega) hcon.out
    have hbd1 := hbd.1
    have hbd2 := hbd.2.1
    clear hbd
    by_cases hlt : k < 2
    · by_cases hin : k < s.size
      · cases hk : U.cont s[k] with
        | true =>
          have Hst := Lib.hid (U.acc_stepG s (U.rb s[0]) k hk1 hin)
          have HC : Hid (U.conK s.data.toList (k + 1) = true) := by show _ = _; rw [U.con_step s k hk1 hin, hcon.out, hk]; rfl
          have hx := (U.cont_iff _).1 hk
          have hw2 : wrap64 (s[k].toNat : Int) = (s[k].toNat : Int) := IntWalk.wrap64_in _ ⟨by omega, by omega⟩
          go_wp2_with (go_at_call 30; refine (refCont_any _ _).mono ?_; rintro e w' ⟨rfl, rfl⟩)
          go_round
          case rel => exact ⟨k + 1, by omega, by omega, by omega, by go_num, by rw [← Hst.out], HC⟩
          case measure => simp [intOf]; omega
        | false =>
          have HD : Hid (U.decB s.data.toList = false) := U.dec_no_of _ fun hd => by
            have := (U.dec_rn _ hd).2.1
            rw [H0.out, Hrn.out] at this
            have := U.conK_mono _ (show k + 1 ≤ 2 by omega) this
            rw [U.con_step s k hk1 hin, hk] at this
            simp at this
          go_wp2_with (go_at_call 30; refine (refCont_any _ _).mono ?_; rintro e w' ⟨rfl, rfl⟩)
          go_ret3
          exact ⟨U.ret3 (U.dec_no _ HD.out Hne.out), Below.refl _ _⟩
      · have HD : Hid (U.decB s.data.toList = false) := U.dec_no_of _ fun hd => by
          have := (U.dec_rn _ hd).1
          rw [H0.out, Hrn.out, U.len] at this
          omega
        go_wp2
        go_ret3
        exact ⟨U.ret3 (U.dec_no _ HD.out Hne.out), Below.refl _ _⟩
    · obtain rfl : k = 2 := by omega
      have HE : Hid (U.decB s.data.toList = true ↔ (U.isR (U.accG (U.rb s[0]) s.data.toList 2) = true ∧ U.encL (U.accG (U.rb s[0]) s.data.toList 2) = s.data.toList.take 2)) := by
        have := U.ref_end s.data.toList (by rw [H0.out, Hrn.out, U.len]; exact hk3) (by rw [H0.out, Hrn.out]; exact hcon.out)
        rwa [H0.out, Hrn.out] at this
      have HR := Lib.hid (fun hd : U.decB s.data.toList = true => (U.dec_rn _ hd).2.2)
      clear hcon
      cases hi : U.isR (U.accG (U.rb s[0]) s.data.toList 2) with
      | false =>
        have HD : Hid (U.decB s.data.toList = false) := U.dec_no_of _ fun hd => by
          have := (HE.out.1 hd).1
          rw [hi] at this; cases this
        have he : U.encE (U.accG (U.rb s[0]) s.data.toList 2) = 2 := by rw [U.encE, hi]; rfl
        clear hi
        go_wp2_with (go_at_call 22; refine (refEncode_any _ _).mono ?_; rintro e w' ⟨rfl, hbw⟩)
        go_ret3
        exact ⟨U.ret3 (U.dec_no _ HD.out Hne.out), ‹_›⟩
      | true =>
        have he : U.encE (U.accG (U.rb s[0]) s.data.toList 2) = 0 := by rw [U.encE, hi]; rfl
        by_cases hq : U.encL (U.accG (U.rb s[0]) s.data.toList 2) = s.data.toList.take 2
        · have HD : Hid (U.decB s.data.toList = true) := HE.out.2 ⟨hi, hq⟩
          have heq : ((U.encB (U.accG (U.rb s[0]) s.data.toList 2)).toList == (s.extract 0 2).toList) = true := by
            rw [beq_iff_eq, U.toList_eq, U.encB_data, hq, Lib.extract_data]; rfl
          clear hi hq
          go_wp2_with (go_at_call 22; refine (refEncode_any _ _).mono ?_; rintro e w' ⟨rfl, hbw⟩)
          go_ret3
          have hr := HR.out HD.out
          rw [H0.out, Hrn.out] at hr
          exact ⟨U.ret3 ⟨hr.2, by rw [← hr.1]; rfl, (U.dec_yes _ HD.out Hne.out).2.2⟩, ‹_›⟩
        · have HD : Hid (U.decB s.data.toList = false) := U.dec_no_of _ fun hd => hq (HE.out.1 hd).2
          have heq : ((U.encB (U.accG (U.rb s[0]) s.data.toList 2)).toList == (s.extract 0 2).toList) = false := by
            rw [beq_eq_false_iff_ne, ne_eq, U.toList_eq, U.encB_data, Lib.extract_data]; exact hq
          clear hi hq
          go_wp2_with (go_at_call 22; refine (refEncode_any _ _).mono ?_; rintro e w' ⟨rfl, hbw⟩)
          go_ret3
          exact ⟨U.ret3 (U.dec_no _ HD.out Hne.out), ‹_›⟩
set_option maxRecDepth 100000 in
set_option maxHeartbeats 1000000 in
theorem refDecode_walk3 (s : ByteArray) (w : World) (hs : s.size ≤ maxLen) (h0 : 0 < s.size) (hne : s.toList.isEmpty = false) (q1 : (224 : Int) ≤ (s[0].toNat : Int)) (q2 : (s[0].toNat : Int) < (240 : Int)) (hrn : U.rn s[0] = 3) (hrb : U.rb s[0] = (s[0].toNat : Int) - 224) :
    Calls Tryd.prog 20 #[.string s] w fun e w' => e = .returned (.tuple #[.int .i64 (U.decR s.data.toList), .int .i64 (U.decN s.data.toList), .int .i64 (U.decE s.data.toList)]) ∧ Below w.heap.size w w' := by
  unfold maxLen at hs
  have hb := U.rb_bd s[0]
  have h256 := U.lt256 s[0]
  have hw : wrap64 (s[0].toNat : Int) = (s[0].toNat : Int) := IntWalk.wrap64_in _ ⟨by omega, by omega⟩
  have Hrn := Lib.hid hrn
  have Hrb := Lib.hid hrb
  have H0 := Lib.hid (U.at_lt s 0 h0)
  have Hne := Lib.hid (U.ne_nil s h0)
  clear hrn hrb
  go_enter Tryd.func20, Tryd.ntmps20
  go_wp2
  go_loop [5, 7] (fun r i => ∃ k : Nat, 1 ≤ k ∧ k ≤ 3 ∧ k ≤ s.size ∧ i = .int .i64 k ∧ r = .int .i64 (U.accG (U.rb s[0]) s.data.toList k) ∧ Hid (U.conK s.data.toList k = true)) (fun _ i => 3 - (intOf i).toNat)
  case atStart => exact ⟨1, by omega, by omega, by omega, rfl, by rw [U.accG_one, Hrb.out], U.conK_one _⟩
  case round =>
    obtain ⟨k, hk1, hk2, hk3, rfl, rfl, hcon⟩ := hrel
    have hbd := U.accG_bd (U.rb s[0]) s.data.toList hb k hk1 (by rw [U.len]; exact hk3) (by omega) hcon.out
    have hbd1 := hbd.1
    have hbd2 := hbd.2.1
    clear hbd
    by_cases hlt : k < 3
    · by_cases hin : k < s.size
      · cases hk : U.cont s[k] with
        | true =>
          have Hst := Lib.hid (U.acc_stepG s (U.rb s[0]) k hk1 hin)
          have HC : Hid (U.conK s.data.toList (k + 1) = true) := by show _ = _; rw [U.con_step s k hk1 hin, hcon.out, hk]; rfl
          have hx := (U.cont_iff _).1 hk
          have hw2 : wrap64 (s[k].toNat : Int) = (s[k].toNat : Int) := IntWalk.wrap64_in _ ⟨by omega, by omega⟩
          go_wp2_with (go_at_call 30; refine (refCont_any _ _).mono ?_; rintro e w' ⟨rfl, rfl⟩)
          go_round
          case rel => exact ⟨k + 1, by omega, by omega, by omega, by go_num, by rw [← Hst.out], HC⟩
          case measure => simp [intOf]; omega
        | false =>
          have HD : Hid (U.decB s.data.toList = false) := U.dec_no_of _ fun hd => by
            have := (U.dec_rn _ hd).2.1
            rw [H0.out, Hrn.out] at this
            have := U.conK_mono _ (show k + 1 ≤ 3 by omega) this
            rw [U.con_step s k hk1 hin, hk] at this
            simp at this
          go_wp2_with (go_at_call 30; refine (refCont_any _ _).mono ?_; rintro e w' ⟨rfl, rfl⟩)
          go_ret3
          exact ⟨U.ret3 (U.dec_no _ HD.out Hne.out), Below.refl _ _⟩
      · have HD : Hid (U.decB s.data.toList = false) := U.dec_no_of _ fun hd => by
          have := (U.dec_rn _ hd).1
          rw [H0.out, Hrn.out, U.len] at this
          omega
        go_wp2
        go_ret3
        exact ⟨U.ret3 (U.dec_no _ HD.out Hne.out), Below.refl _ _⟩
    · obtain rfl : k = 3 := by omega
      have HE : Hid (U.decB s.data.toList = true ↔ (U.isR (U.accG (U.rb s[0]) s.data.toList 3) = true ∧ U.encL (U.accG (U.rb s[0]) s.data.toList 3) = s.data.toList.take 3)) := by
        have := U.ref_end s.data.toList (by rw [H0.out, Hrn.out, U.len]; exact hk3) (by rw [H0.out, Hrn.out]; exact hcon.out)
        rwa [H0.out, Hrn.out] at this
      have HR := Lib.hid (fun hd : U.decB s.data.toList = true => (U.dec_rn _ hd).2.2)
      clear hcon
      cases hi : U.isR (U.accG (U.rb s[0]) s.data.toList 3) with
      | false =>
        have HD : Hid (U.decB s.data.toList = false) := U.dec_no_of _ fun hd => by
          have := (HE.out.1 hd).1
          rw [hi] at this; cases this
        have he : U.encE (U.accG (U.rb s[0]) s.data.toList 3) = 2 := by rw [U.encE, hi]; rfl
        clear hi
        go_wp2_with (go_at_call 22; refine (refEncode_any _ _).mono ?_; rintro e w' ⟨rfl, hbw⟩)
        go_ret3
        exact ⟨U.ret3 (U.dec_no _ HD.out Hne.out), ‹_›⟩
      | true =>
        have he : U.encE (U.accG (U.rb s[0]) s.data.toList 3) = 0 := by rw [U.encE, hi]; rfl
        by_cases hq : U.encL (U.accG (U.rb s[0]) s.data.toList 3) = s.data.toList.take 3
        · have HD : Hid (U.decB s.data.toList = true) := HE.out.2 ⟨hi, hq⟩
          have heq : ((U.encB (U.accG (U.rb s[0]) s.data.toList 3)).toList == (s.extract 0 3).toList) = true := by
            rw [beq_iff_eq, U.toList_eq, U.encB_data, hq, Lib.extract_data]; rfl
          clear hi hq
          go_wp2_with (go_at_call 22; refine (refEncode_any _ _).mono ?_; rintro e w' ⟨rfl, hbw⟩)
          go_ret3
          have hr := HR.out HD.out
          rw [H0.out, Hrn.out] at hr
          exact ⟨U.ret3 ⟨hr.2, by rw [← hr.1]; rfl, (U.dec_yes _ HD.out Hne.out).2.2⟩, ‹_›⟩
        · have HD : Hid (U.decB s.data.toList = false) := U.dec_no_of _ fun hd => hq (HE.out.1 hd).2
          have heq : ((U.encB (U.accG (U.rb s[0]) s.data.toList 3)).toList == (s.extract 0 3).toList) = false := by
            rw [beq_eq_false_iff_ne, ne_eq, U.toList_eq, U.encB_data, Lib.extract_data]; exact hq
          clear hi hq
          go_wp2_with (go_at_call 22; refine (refEncode_any _ _).mono ?_; rintro e w' ⟨rfl, hbw⟩)
          go_ret3
          exact ⟨U.ret3 (U.dec_no _ HD.out Hne.out), ‹_›⟩
set_option maxRecDepth 100000 in
set_option maxHeartbeats 1000000 in
theorem refDecode_walk4 (s : ByteArray) (w : World) (hs : s.size ≤ maxLen) (h0 : 0 < s.size) (hne : s.toList.isEmpty = false) (q1 : (240 : Int) ≤ (s[0].toNat : Int)) (hrn : U.rn s[0] = 4) (hrb : U.rb s[0] = (s[0].toNat : Int) - 240) :
    Calls Tryd.prog 20 #[.string s] w fun e w' => e = .returned (.tuple #[.int .i64 (U.decR s.data.toList), .int .i64 (U.decN s.data.toList), .int .i64 (U.decE s.data.toList)]) ∧ Below w.heap.size w w' := by
  unfold maxLen at hs
  have hb := U.rb_bd s[0]
  have h256 := U.lt256 s[0]
  have hw : wrap64 (s[0].toNat : Int) = (s[0].toNat : Int) := IntWalk.wrap64_in _ ⟨by omega, by omega⟩
  have Hrn := Lib.hid hrn
  have Hrb := Lib.hid hrb
  have H0 := Lib.hid (U.at_lt s 0 h0)
  have Hne := Lib.hid (U.ne_nil s h0)
  clear hrn hrb
  go_enter Tryd.func20, Tryd.ntmps20
  go_wp2
  go_loop [5, 7] (fun r i => ∃ k : Nat, 1 ≤ k ∧ k ≤ 4 ∧ k ≤ s.size ∧ i = .int .i64 k ∧ r = .int .i64 (U.accG (U.rb s[0]) s.data.toList k) ∧ Hid (U.conK s.data.toList k = true)) (fun _ i => 4 - (intOf i).toNat)
  case atStart => exact ⟨1, by omega, by omega, by omega, rfl, by rw [U.accG_one, Hrb.out], U.conK_one _⟩
  case round =>
    obtain ⟨k, hk1, hk2, hk3, rfl, rfl, hcon⟩ := hrel
    have hbd := U.accG_bd (U.rb s[0]) s.data.toList hb k hk1 (by rw [U.len]; exact hk3) (by omega) hcon.out
    have hbd1 := hbd.1
    have hbd2 := hbd.2.1
    clear hbd
    by_cases hlt : k < 4
    · by_cases hin : k < s.size
      · cases hk : U.cont s[k] with
        | true =>
          have Hst := Lib.hid (U.acc_stepG s (U.rb s[0]) k hk1 hin)
          have HC : Hid (U.conK s.data.toList (k + 1) = true) := by show _ = _; rw [U.con_step s k hk1 hin, hcon.out, hk]; rfl
          have hx := (U.cont_iff _).1 hk
          have hw2 : wrap64 (s[k].toNat : Int) = (s[k].toNat : Int) := IntWalk.wrap64_in _ ⟨by omega, by omega⟩
          go_wp2_with (go_at_call 30; refine (refCont_any _ _).mono ?_; rintro e w' ⟨rfl, rfl⟩)
          go_round
          case rel => exact ⟨k + 1, by omega, by omega, by omega, by go_num, by rw [← Hst.out], HC⟩
          case measure => simp [intOf]; omega
        | false =>
          have HD : Hid (U.decB s.data.toList = false) := U.dec_no_of _ fun hd => by
            have := (U.dec_rn _ hd).2.1
            rw [H0.out, Hrn.out] at this
            have := U.conK_mono _ (show k + 1 ≤ 4 by omega) this
            rw [U.con_step s k hk1 hin, hk] at this
            simp at this
          go_wp2_with (go_at_call 30; refine (refCont_any _ _).mono ?_; rintro e w' ⟨rfl, rfl⟩)
          go_ret3
          exact ⟨U.ret3 (U.dec_no _ HD.out Hne.out), Below.refl _ _⟩
      · have HD : Hid (U.decB s.data.toList = false) := U.dec_no_of _ fun hd => by
          have := (U.dec_rn _ hd).1
          rw [H0.out, Hrn.out, U.len] at this
          omega
        go_wp2
        go_ret3
        exact ⟨U.ret3 (U.dec_no _ HD.out Hne.out), Below.refl _ _⟩
    · obtain rfl : k = 4 := by omega
      have HE : Hid (U.decB s.data.toList = true ↔ (U.isR (U.accG (U.rb s[0]) s.data.toList 4) = true ∧ U.encL (U.accG (U.rb s[0]) s.data.toList 4) = s.data.toList.take 4)) := by
        have := U.ref_end s.data.toList (by rw [H0.out, Hrn.out, U.len]; exact hk3) (by rw [H0.out, Hrn.out]; exact hcon.out)
        rwa [H0.out, Hrn.out] at this
      have HR := Lib.hid (fun hd : U.decB s.data.toList = true => (U.dec_rn _ hd).2.2)
      clear hcon
      cases hi : U.isR (U.accG (U.rb s[0]) s.data.toList 4) with
      | false =>
        have HD : Hid (U.decB s.data.toList = false) := U.dec_no_of _ fun hd => by
          have := (HE.out.1 hd).1
          rw [hi] at this; cases this
        have he : U.encE (U.accG (U.rb s[0]) s.data.toList 4) = 2 := by rw [U.encE, hi]; rfl
        clear hi
        go_wp2_with (go_at_call 22; refine (refEncode_any _ _).mono ?_; rintro e w' ⟨rfl, hbw⟩)
        go_ret3
        exact ⟨U.ret3 (U.dec_no _ HD.out Hne.out), ‹_›⟩
      | true =>
        have he : U.encE (U.accG (U.rb s[0]) s.data.toList 4) = 0 := by rw [U.encE, hi]; rfl
        by_cases hq : U.encL (U.accG (U.rb s[0]) s.data.toList 4) = s.data.toList.take 4
        · have HD : Hid (U.decB s.data.toList = true) := HE.out.2 ⟨hi, hq⟩
          have heq : ((U.encB (U.accG (U.rb s[0]) s.data.toList 4)).toList == (s.extract 0 4).toList) = true := by
            rw [beq_iff_eq, U.toList_eq, U.encB_data, hq, Lib.extract_data]; rfl
          clear hi hq
          go_wp2_with (go_at_call 22; refine (refEncode_any _ _).mono ?_; rintro e w' ⟨rfl, hbw⟩)
          go_ret3
          have hr := HR.out HD.out
          rw [H0.out, Hrn.out] at hr
          exact ⟨U.ret3 ⟨hr.2, by rw [← hr.1]; rfl, (U.dec_yes _ HD.out Hne.out).2.2⟩, ‹_›⟩
        · have HD : Hid (U.decB s.data.toList = false) := U.dec_no_of _ fun hd => hq (HE.out.1 hd).2
          have heq : ((U.encB (U.accG (U.rb s[0]) s.data.toList 4)).toList == (s.extract 0 4).toList) = false := by
            rw [beq_eq_false_iff_ne, ne_eq, U.toList_eq, U.encB_data, Lib.extract_data]; exact hq
          clear hi hq
          go_wp2_with (go_at_call 22; refine (refEncode_any _ _).mono ?_; rintro e w' ⟨rfl, hbw⟩)
          go_ret3
          exact ⟨U.ret3 (U.dec_no _ HD.out Hne.out), ‹_›⟩
theorem refDecode_any (s : ByteArray) (w : World) (hs : s.size ≤ maxLen) :
    Calls Tryd.prog 20 #[.string s] w fun e w' => e = .returned (.tuple #[.int .i64 (U.decR s.data.toList), .int .i64 (U.decN s.data.toList), .int .i64 (U.decE s.data.toList)]) ∧ Below w.heap.size w w' := by
  by_cases h0 : 0 < s.size
  · have hne := U.toList_isEmpty s h0
    by_cases h1 : (s[0].toNat : Int) < 192
    · exact refDecode_walk1 s w hs h0 hne h1 (by unfold U.rn; (repeat' split) <;> omega) (by unfold U.rb; (repeat' split) <;> omega)
    · by_cases h2 : (s[0].toNat : Int) < 224
      · exact refDecode_walk2 s w hs h0 hne (by omega) h2 (by unfold U.rn; (repeat' split) <;> omega) (by unfold U.rb; (repeat' split) <;> omega)
      · by_cases h3 : (s[0].toNat : Int) < 240
        · exact refDecode_walk3 s w hs h0 hne (by omega) h3 (by unfold U.rn; (repeat' split) <;> omega) (by unfold U.rb; (repeat' split) <;> omega)
        · exact refDecode_walk4 s w hs h0 hne (by omega) (by unfold U.rn; (repeat' split) <;> omega) (by unfold U.rb; (repeat' split) <;> omega)
  · obtain ⟨hn, hne⟩ := U.nil_of_empty s (by omega)
    have hd : Hid ((0 : Int) = U.decR s.data.toList ∧ (0 : Int) = U.decN s.data.toList ∧ (3 : Int) = U.decE s.data.toList) := by rw [hn]; exact ⟨rfl, rfl, rfl⟩
    clear hn h0
    go_enter Tryd.func20, Tryd.ntmps20
    go_wp2
    go_ret3
    exact ⟨U.ret3 hd.out, Below.refl _ _⟩
set_option maxHeartbeats 1000000 in
theorem refValid_any (s : ByteArray) (w : World) (hs : s.size < 4611686018427387904) :
    Calls Tryd.prog 14 #[.string s] w fun e w' => e = .returned (.bool (U.valid s.data.toList)) ∧ Below w.heap.size w w' := by
  go_enter Tryd.func14, Tryd.ntmps14
  go_wp2
  go_loopw [3] (fun v wr => ∃ k : Nat, v = .int .i64 k ∧ k ≤ s.size ∧ Hid (U.valid (s.extract k s.size).data.toList = U.valid s.data.toList) ∧ Below w.heap.size w wr) (fun v _ => s.size - (intOf v).toNat)
  case atStart => exact ⟨0, rfl, Nat.zero_le _, by show _ = _; rw [U.drop_data]; rfl, Below.refl _ _⟩
  case round =>
    obtain ⟨k, rfl, hk, hv, hb⟩ := hrel
    by_cases hlt : k < s.size
    · have hpos : 0 < (s.extract k s.size).size := by simp; omega
      have hnn := U.ne_nil _ hpos
      have hsz : (s.extract k s.size).size ≤ maxLen := by simp [maxLen]; omega
      cases hd : U.decB (s.extract k s.size).data.toList with
      | false =>
        have HV : Hid (false = U.valid s.data.toList) := by show _ = _; rw [← hv.out, U.valid_no _ hnn hd]
        have he : U.decE (s.extract k s.size).data.toList = 11 := by rw [U.decE, if_neg hnn, hd]; rfl
        have hcall : ∃ (r : Int) (n : Nat), Hid (∀ W, Calls Tryd.prog 20 #[.string (s.extract k s.size)] W fun e w' => e = .returned (.tuple #[.int .i64 r, .int .i64 n, .int .i64 11]) ∧ Below W.heap.size W w') :=
          ⟨_, _, fun W => (refDecode_any _ W hsz).mono fun e w' h => by rw [he] at h; exact h⟩
        obtain ⟨r, n, Hcall⟩ := hcall
        clear hnn hd hpos hsz he
        go_wp2_with (go_at_call 20; refine (Hcall.out _).mono ?_; rintro e w' ⟨rfl, hb'⟩)
        go_ret
        exact ⟨U.ret_bool HV.out, hb.trans (‹Below wr.heap.size wr _›.mono hb.size)⟩
      | true =>
        have hl := U.decB_len _ hd
        have he : U.decE (s.extract k s.size).data.toList = 0 := by rw [U.decE, if_neg hnn, hd]; rfl
        have hcall : ∃ (r : Int) (n : Nat), Hid (n = U.decN (s.extract k s.size).data.toList) ∧ Hid (∀ W, Calls Tryd.prog 20 #[.string (s.extract k s.size)] W fun e w' => e = .returned (.tuple #[.int .i64 r, .int .i64 n, .int .i64 0]) ∧ Below W.heap.size W w') :=
          ⟨_, _, rfl, fun W => (refDecode_any _ W hsz).mono fun e w' h => by rw [he] at h; exact h⟩
        obtain ⟨r, n, hn, Hcall⟩ := hcall
        rw [U.len, ← hn.out] at hl
        have hl2 : n ≤ s.size - k := by have := hl.2.1; simpa using this
        have hl1 := hl.1
        have HV : Hid (U.valid (s.extract (k + n) s.size).data.toList = U.valid s.data.toList) := by
          show _ = _
          have h2 := U.valid_yes _ hnn hd
          rw [← hn.out, U.drop_data, List.drop_drop] at h2
          rw [U.drop_data, ← h2, ← U.drop_data]; exact hv.out
        clear hnn hd hpos hl hsz he hn
        go_wp2_with (go_at_call 20; refine (Hcall.out _).mono ?_; rintro e w' ⟨rfl, hb'⟩)
        go_roundw
        case rel => exact ⟨k + n, by go_num, by omega, HV, hb.trans (‹Below wr.heap.size wr _›.mono hb.size)⟩
        case measure => simp [intOf]; omega
    · obtain rfl : k = s.size := by omega
      have HV : Hid (true = U.valid s.data.toList) := by show _ = _; rw [← hv.out, (U.nil_of_empty (s.extract s.size s.size) (by simp)).1, U.valid_nil]
      go_wp2
      go_ret
      exact ⟨U.ret_bool HV.out, hb⟩
end Go.Proofs.YtnbijhmkhdjkiaaDoor
