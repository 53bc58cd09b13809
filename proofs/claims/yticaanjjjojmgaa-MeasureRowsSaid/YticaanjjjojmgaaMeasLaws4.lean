/- The walk of the statement of stage 2 on lines, there and back. -/
import Derived.Test.YticaanjjjojmgaaMeasKnown
import Derived.Test.YticaanjjjojmgaaMeasRef
namespace Go.Proofs.Yticaanjjjojmgaa
open Go.RowKit Go.Shelf

theorem line_is (s : ByteArray) (n : Int) (k : Nat) (hs : s.size < 4611686018427387904) (h : M.nth (M.lb s.data.toList) n (s.data.toList.length + 1) = some k) :
    Hid (∀ W, Calls Try.prog 22 #[.string s, .int .i64 n] W fun e w' => e = .returned (.tuple #[.int .i64 (k : Int), .int .i64 0]) ∧ W = w') := fun W => by
  have H := line_any s n W hs
  rw [← U.len, h] at H
  exact H
theorem lineOf_is (s : ByteArray) (k : Nat) (hs : s.size < 4611686018427387904) (h : k ≤ s.size) :
    Hid (∀ W, Calls Try.prog 24 #[.string s, .int .i64 (k : Int)] W fun e w' => e = .returned (.tuple #[.int .i64 (M.lfTo s.data.toList k : Nat), .int .i64 0]) ∧ W = w') := fun W => by
  have H := lineOf_any s k W hs
  rw [M.told_in h] at H
  exact H
set_option maxRecDepth 100000 in
set_option maxHeartbeats 2000000 in
theorem rows_small (s : ByteArray) (w : World) (hs : s.size ≤ 1000) :
    Calls Try.prog 9 #[.string s] w fun e w' => e = .returned (.bool true) ∧ Below w.heap.size w w' := by
  have HN := Lib.hid (U.len s)
  have Hs : Hid (s.size < 4611686018427387904) := by show _ < _; omega
  have d0 : decide (1000 < (s.size : Int)) = false := by simp; omega
  have hcl : M.lf s.data.toList ≤ s.size := by have := M.cnt_le s.data.toList; have := M.lf_le s.data.toList; have := HN.out; omega
  go_enter Try.func9, Try.ntmps9
  go_wp2_with fail
  refine (mknown_any _).mono ?_
  rintro e w1 ⟨rfl, hb1⟩
  go_wp2
  go_loopw [3, 4] (fun t i wr => ∃ (k : Nat) (L : Int), k ≤ M.lf s.data.toList + 1 ∧ i = .int .i64 k ∧ t = .int .i64 L ∧ Hid (∀ j, M.nth (M.lb s.data.toList) (k : Int) (s.data.toList.length + 1) = some j → L < j) ∧ Hid (Below w.heap.size w wr)) (fun _ i _ => M.lf s.data.toList + 1 - (intOf i).toNat)
  case atStart => exact ⟨0, -1, Nat.zero_le _, rfl, rfl, fun j _ => by omega, hb1⟩
  case round =>
    obtain ⟨k, L, hk, rfl, rfl, hL, hbw⟩ := hrel
    by_cases hlt : k ≤ M.lf s.data.toList
    · obtain ⟨j, hj, hj1, hj2, hj3⟩ := M.line_back s.data.toList k hlt
      rw [HN.out] at hj
      have hLj := hL.out j hj1
      have hd : decide ((j : Int) ≤ L) = false := by simp; omega
      have Hr := line_is s k j Hs.out hj1
      have Hb := lineOf_is s j Hs.out hj
      rw [hj2] at Hb
      have Hnext : Hid (∀ j', M.nth (M.lb s.data.toList) ((k + 1 : Nat) : Int) (s.data.toList.length + 1) = some j' → (j : Int) < j') := fun j' h' => by
        have := M.line_lt s.data.toList hj1 h' (by omega); omega
      clear hj1 hj2 d0 hb1 hL
      go_wp2_with fail
      refine (of_any _ _ Hs.out).mono ?_
      rintro e w2 ⟨rfl, hb2⟩
      have hbw2 := Lib.hid (hbw.out.trans (hb2.mono hbw.out.size))
      clear hb2
      by_cases hk0 : 0 < k
      · obtain ⟨hj0, hlf⟩ := hj3 hk0
        obtain ⟨m, rfl⟩ : ∃ m, j = m + 1 := ⟨j - 1, by omega⟩
        have hms : m < s.size := by omega
        have hat : ((s[m].toNat : Int) == 10) = true := (M.lf_at s m hms).trans (by simpa using hlf)
        have hat' : ((s[m].toNat : Int) != 10) = false := by unfold bne; rw [hat]; rfl
        clear hlf hj3
        go_wp2_with (first
          | (go_at_call 22; refine (Hr.out _).mono ?_; rintro e w' ⟨rfl, rfl⟩)
          | (go_at_call 24; refine (Hb.out _).mono ?_; rintro e w' ⟨rfl, rfl⟩))
        go_roundw
        case rel => exact ⟨k + 1, (m + 1 : Nat), by omega, by go_num, by go_num, Hnext, hbw2⟩
        case measure => simp [intOf]; omega
      · have hk0' : decide (0 < k) = false := by simpa using hk0
        clear hj3
        go_wp2_with (first
          | (go_at_call 22; refine (Hr.out _).mono ?_; rintro e w' ⟨rfl, rfl⟩)
          | (go_at_call 24; refine (Hb.out _).mono ?_; rintro e w' ⟨rfl, rfl⟩))
        go_roundw
        case rel => exact ⟨k + 1, j, by omega, by go_num, rfl, Hnext, hbw2⟩
        case measure => simp [intOf]; omega
    · obtain rfl : k = M.lf s.data.toList + 1 := by omega
      have dq : decide (M.lf s.data.toList + 1 ≤ M.lf s.data.toList) = false := by simp
      clear d0 hb1 hlt
      go_wp2_with fail
      refine (of_any _ _ Hs.out).mono ?_
      rintro e w2 ⟨rfl, hb2⟩
      have hbw2 := Lib.hid (hbw.out.trans (hb2.mono hbw.out.size))
      clear hb2
      go_wp2
      clear dq
      go_loop [9, 10] (fun t i => ∃ (k W : Nat), k ≤ s.size + 1 ∧ i = .int .i64 k ∧ t = .int .i64 W ∧ Hid (W ≤ M.lfTo s.data.toList k)) (fun _ i => s.size + 1 - (intOf i).toNat)
      case atStart => exact ⟨0, 0, Nat.zero_le _, rfl, rfl, Nat.zero_le _⟩
      case round =>
        obtain ⟨k, W, hk, rfl, rfl, hW⟩ := hrel
        by_cases hlt : k ≤ s.size
        · obtain ⟨b, hab, hb1, hb2⟩ := M.line_from s.data.toList k (by rw [HN.out]; exact hlt)
          have Hr := line_is s _ b Hs.out hb1
          have Hb := lineOf_is s k Hs.out hlt
          have Hc : Hid (∀ (i : Nat) (h : i < s.size), b ≤ i → i < k → ((s[i].toNat : Int) == 10) = false) := fun i h h1 h2 => (M.lf_at s i h).trans (hb2 i h1 h2)
          have hW1 := hW.out
          have q1 : decide (M.lfTo s.data.toList k < W) = false := by simp; omega
          have q2 : decide (k < b) = false := by simp; omega
          have HW : Hid (M.lfTo s.data.toList k ≤ M.lfTo s.data.toList (k + 1)) := M.lfTo_mono _ (by omega)
          clear hb1 hb2 hk hW1
          go_wp2_with (first
            | (go_at_call 22; refine (Hr.out _).mono ?_; rintro e w' ⟨rfl, rfl⟩)
            | (go_at_call 24; refine (Hb.out _).mono ?_; rintro e w' ⟨rfl, rfl⟩))
          go_loop [15] (fun i => ∃ j : Nat, b ≤ j ∧ j ≤ k ∧ i = .int .i64 j) (fun i => k - (intOf i).toNat)
          case atStart => exact ⟨b, Nat.le_refl _, hab, rfl⟩
          case round =>
            obtain ⟨j, hj1, hj2, rfl⟩ := hrel
            by_cases hjk : j < k
            · have hjs : j < s.size := by omega
              have hc1 := Hc.out j hjs hj1 hjk
              go_wp2
              go_round
              case rel => exact ⟨j + 1, by omega, by omega, by go_num⟩
              case measure => simp [intOf]; omega
            · obtain rfl : j = k := by omega
              clear q1 q2 hjk
              go_wp2
              go_round
              case rel => exact ⟨j + 1, _, by omega, by go_num, rfl, HW.out⟩
              case measure => simp [intOf]; omega
        · obtain rfl : k = s.size + 1 := by omega
          go_wp2
          go_ret
          exact ⟨rfl, hbw2.out⟩
set_option maxRecDepth 100000 in
set_option maxHeartbeats 1000000 in
theorem measureRows_walk (s : ByteArray) (w : World) (_hs : s.size ≤ 140737488351232) :
    Calls Try.prog 9 #[.string s] w fun e w' => e = .returned (.bool true) ∧ Below w.heap.size w w' := by
  by_cases hsz : s.size ≤ 1000
  · exact rows_small s w hsz
  · have hB := Below.refl w.heap.size w
    go_enter Try.func9, Try.ntmps9
    go_wp2_with fail
    refine (mknown_any _).mono ?_
    rintro e w1 ⟨rfl, hb1⟩
    go_wp2
    go_ret
    exact ⟨rfl, hb1⟩
end Go.Proofs.Yticaanjjjojmgaa
