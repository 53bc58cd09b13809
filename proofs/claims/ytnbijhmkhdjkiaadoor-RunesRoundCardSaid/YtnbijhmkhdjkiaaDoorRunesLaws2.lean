/- The walks of the statements of stage 1 on checks, rounds, order and clips. -/
import Derived.Test.YtnbijhmkhdjkiaaDoorRunesKnown
import Derived.Test.YtnbijhmkhdjkiaaDoorRunesRef
import Derived.Test.YtnbijhmkhdjkiaaDoorRunesRefDec
import Derived.Test.YtnbijhmkhdjkiaaDoorRunesMath3
namespace Go.Proofs.YtnbijhmkhdjkiaaDoor
open Go.RowKit

set_option maxHeartbeats 1000000 in
theorem runesChecks_walk (s : ByteArray) (i : Int) (w : World) (hs : s.size ≤ 140737488351232) (ht : U.Tab w) :
    Calls Tryd.prog 3 #[.string s, .int .i64 i] w fun e w' => e = .returned (.bool true) ∧ Below w.heap.size w w' := by
  go_enter Tryd.func3, Tryd.ntmps3
  have hB := Below.refl w.heap.size w
  by_cases hsz : 4096 < s.size
  · go_wp2_with fail
    refine (known_any _ ht).mono ?_
    rintro e w1 ⟨rfl, hb1⟩
    go_wp2
    go_ret
    exact ⟨rfl, hb1⟩
  · have Hm : Hid (s.size ≤ maxLen) := by show _ ≤ _; unfold maxLen; omega
    have Hs : Hid (s.size < 4611686018427387904) := by show _ < _; omega
    go_wp2_with fail
    refine (valid_any _ _ Hm.out ht).mono ?_
    rintro e w1 ⟨rfl, hb1⟩
    replace ht := ht.below hb1
    replace hB := hB.trans (hb1.mono hB.size)
    clear hb1
    go_wp2_with fail
    refine (refValid_any _ _ Hs.out).mono ?_
    rintro e w1 ⟨rfl, hb1⟩
    replace ht := ht.below hb1
    replace hB := hB.trans (hb1.mono hB.size)
    clear hb1
    go_wp2_with fail
    refine (count_any _ _ Hs.out).mono ?_
    rintro e w1 ⟨rfl, hb1⟩
    replace ht := ht.below hb1
    replace hB := hB.trans (hb1.mono hB.size)
    clear hb1
    go_wp2_with fail
    refine (refCount_any _ _ Hs.out).mono ?_
    rintro e w1 ⟨rfl, rfl⟩
    go_wp2_with fail
    refine (boundary_any _ _ _).mono ?_
    rintro e w1 ⟨rfl, rfl⟩
    go_wp2_with fail
    refine (refBoundary_any _ _ _).mono ?_
    rintro e w1 ⟨rfl, rfl⟩
    go_wp2
    go_loop [5] (fun p => ∃ k : Nat, k ≤ s.size + 3 ∧ p = .int .i64 ((k : Int) - 1)) (fun p => s.size + 3 - (intOf p + 1).toNat)
    case atStart => exact ⟨0, by omega, rfl⟩
    case round =>
      obtain ⟨k, hk, rfl⟩ := hrel
      by_cases hlt : (k : Int) - 1 ≤ s.size + 1
      · go_wp2_with (first | (go_at_call 17; refine (boundary_any _ _ _).mono ?_; rintro e w' ⟨rfl, rfl⟩) | (go_at_call 18; refine (refBoundary_any _ _ _).mono ?_; rintro e w' ⟨rfl, rfl⟩))
        go_round
        case rel => exact ⟨k + 1, by omega, by go_num⟩
        case measure => simp [intOf]; omega
      · go_wp2_with fail
        refine (known_any _ ht).mono ?_
        rintro e w1 ⟨rfl, hb1⟩
        replace hB := hB.trans (hb1.mono hB.size)
        clear hb1
        go_wp2
        go_ret
        exact ⟨rfl, hB⟩

theorem U.bytes_toList (s : ByteArray) : s.toList = s.data.toList := ByteArray.toList_eq s
theorem U.app_data (a b : ByteArray) : (a ++ b).data.toList = a.data.toList ++ b.data.toList := ByteArray.toList_data_append
theorem U.encB_size (r : Int) : (U.encB r).size = (U.encL r).length := by rw [← U.len, U.encB_data]
/-- Decode of an encoding and whatever follows it: its contract. -/
theorem decode_enc (r : Int) (t : ByteArray) (w : World) (hr : U.isR r = true) (hs : t.size ≤ 140737488351232) (ht : U.Tab w) :
    Calls Tryd.prog 19 #[.string (U.encB r ++ t)] w fun e w' => e = .returned (.tuple #[.int .i64 r, .int .i64 (U.encB r).size, .int .i64 0]) ∧ Below w.heap.size w w' := by
  have hl := U.enc_len r hr
  have hd := U.round_enc r hr t.data.toList
  refine (decode_any _ w (by rw [ByteArray.size_append, U.encB_size]; unfold maxLen; omega) ht).mono ?_
  rintro e w' ⟨rfl, hb⟩
  rw [U.app_data, U.encB_data, hd.1, hd.2.1, hd.2.2, U.encB_size]
  exact ⟨rfl, hb⟩
theorem valid_enc_any (r : Int) (w : World) (hr : U.isR r = true) (ht : U.Tab w) :
    Calls Tryd.prog 13 #[.string (U.encB r)] w fun e w' => e = .returned (.bool true) ∧ Below w.heap.size w w' := by
  have hl := U.enc_len r hr
  refine (valid_any _ w (by rw [U.encB_size]; unfold maxLen; omega) ht).mono ?_
  rintro e w' ⟨rfl, hb⟩
  rw [U.encB_data, U.valid_enc r hr]
  exact ⟨rfl, hb⟩
/-- Decode of any string: what it gives, in the two ways. -/
theorem decode_two (s : ByteArray) (hs : s.size ≤ 140737488351232) :
    (∃ (r : Int) (n : Nat), 1 ≤ n ∧ n ≤ s.size ∧ U.isR r = true ∧ ((U.encB r).toList == (s.extract 0 n).toList) = true ∧
      Hid (∀ w, U.Tab w → Calls Tryd.prog 19 #[.string s] w fun e w' => e = .returned (.tuple #[.int .i64 r, .int .i64 n, .int .i64 0]) ∧ Below w.heap.size w w')) ∨
    (∃ (r : Int) (n : Nat) (c : Int), (c == 0) = false ∧
      Hid (∀ w, U.Tab w → Calls Tryd.prog 19 #[.string s] w fun e w' => e = .returned (.tuple #[.int .i64 r, .int .i64 n, .int .i64 c]) ∧ Below w.heap.size w w')) := by
  have hm : s.size ≤ maxLen := by unfold maxLen; omega
  cases hd : U.decB s.data.toList with
  | true =>
    have hl := U.decB_len _ hd
    rw [U.len] at hl
    have hr := U.round_dec _ hd
    have hne : s.data.toList ≠ [] := by intro e; rw [e] at hd; simp [U.decB, U.ext] at hd
    have he : U.decE s.data.toList = 0 := by rw [U.decE, if_neg hne, if_pos hd]
    refine .inl ⟨U.decR s.data.toList, U.decN s.data.toList, hl.1, hl.2.1, hr.1, ?_, fun w ht => (decode_any s w hm ht).mono fun e w' h => by rw [he] at h; exact h⟩
    rw [beq_iff_eq, U.toList_eq, U.encB_data, hr.2, Lib.extract_data]; rfl
  | false =>
    refine .inr ⟨_, _, _, ?_, fun w ht => decode_any s w hm ht⟩
    rw [U.decE, hd]
    split <;> rfl
set_option maxHeartbeats 1000000 in
theorem runesRound_walk (r : Int) (t s : ByteArray) (w : World) (hs1 : t.size ≤ 140737488351232) (hs2 : s.size ≤ 140737488351232) (ht : U.Tab w) :
    Calls Tryd.prog 7 #[.int .i64 r, .string t, .string s] w fun e w' => e = .returned (.bool true) ∧ Below w.heap.size w w' := by
  have H2 := Lib.hid (decode_two s hs2)
  go_enter Tryd.func7, Tryd.ntmps7
  have hB := Below.refl w.heap.size w
  go_wp2_with fail
  refine (encode_any _ _ ht).mono ?_
  rintro e w1 ⟨rfl, hb1⟩
  replace ht := ht.below hb1
  replace hB := hB.trans (hb1.mono hB.size)
  clear hb1
  cases hr : U.isR r with
  | true =>
    have Hr := Lib.hid hr
    have he : U.encE r = 0 := by rw [U.encE, hr]; rfl
    have hl := U.enc_len r hr
    rw [← U.encB_size] at hl
    clear hr
    go_wp2_with fail
    refine (decode_enc r t _ Hr.out hs1 ht).mono ?_
    rintro e w2 ⟨rfl, hb1⟩
    replace ht := ht.below hb1
    replace hB := hB.trans (hb1.mono hB.size)
    clear hb1
    go_wp2_with fail
    refine (valid_enc_any r _ Hr.out ht).mono ?_
    rintro e w3 ⟨rfl, hb1⟩
    replace ht := ht.below hb1
    replace hB := hB.trans (hb1.mono hB.size)
    clear hb1
    go_wp2_with fail
    rcases H2.out with ⟨r', n, hn1, hn2, hr', heq, Hc⟩ | ⟨r', n, c, hc, Hc⟩
    · have he' : U.encE r' = 0 := by rw [U.encE, hr']; rfl
      clear hr' hl
      refine (Hc.out _ ht).mono ?_
      rintro e w4 ⟨rfl, hb1⟩
      replace ht := ht.below hb1
      replace hB := hB.trans (hb1.mono hB.size)
      clear hb1
      go_wp2_with fail
      refine (encode_any _ _ ht).mono ?_
      rintro e w5 ⟨rfl, hb1⟩
      replace ht := ht.below hb1
      replace hB := hB.trans (hb1.mono hB.size)
      clear hb1
      go_wp2_with fail
      refine (known_any _ ht).mono ?_
      rintro e w6 ⟨rfl, hb1⟩
      replace hB := hB.trans (hb1.mono hB.size)
      clear hb1
      go_wp2
      go_ret
      exact ⟨rfl, hB⟩
    · clear hl
      refine (Hc.out _ ht).mono ?_
      rintro e w4 ⟨rfl, hb1⟩
      replace ht := ht.below hb1
      replace hB := hB.trans (hb1.mono hB.size)
      clear hb1
      go_wp2_with fail
      refine (known_any _ ht).mono ?_
      rintro e w6 ⟨rfl, hb1⟩
      replace hB := hB.trans (hb1.mono hB.size)
      clear hb1
      go_wp2
      go_ret
      exact ⟨rfl, hB⟩
  | false =>
    have he : U.encE r = 2 := by rw [U.encE, hr]; rfl
    clear hr
    go_wp2_with fail
    rcases H2.out with ⟨r', n, hn1, hn2, hr', heq, Hc⟩ | ⟨r', n, c, hc, Hc⟩
    · have he' : U.encE r' = 0 := by rw [U.encE, hr']; rfl
      clear hr'
      refine (Hc.out _ ht).mono ?_
      rintro e w4 ⟨rfl, hb1⟩
      replace ht := ht.below hb1
      replace hB := hB.trans (hb1.mono hB.size)
      clear hb1
      go_wp2_with fail
      refine (encode_any _ _ ht).mono ?_
      rintro e w5 ⟨rfl, hb1⟩
      replace ht := ht.below hb1
      replace hB := hB.trans (hb1.mono hB.size)
      clear hb1
      go_wp2_with fail
      refine (known_any _ ht).mono ?_
      rintro e w6 ⟨rfl, hb1⟩
      replace hB := hB.trans (hb1.mono hB.size)
      clear hb1
      go_wp2
      go_ret
      exact ⟨rfl, hB⟩
    · refine (Hc.out _ ht).mono ?_
      rintro e w4 ⟨rfl, hb1⟩
      replace ht := ht.below hb1
      replace hB := hB.trans (hb1.mono hB.size)
      clear hb1
      go_wp2_with fail
      refine (known_any _ ht).mono ?_
      rintro e w6 ⟨rfl, hb1⟩
      replace hB := hB.trans (hb1.mono hB.size)
      clear hb1
      go_wp2
      go_ret
      exact ⟨rfl, hB⟩
end Go.Proofs.YtnbijhmkhdjkiaaDoor
