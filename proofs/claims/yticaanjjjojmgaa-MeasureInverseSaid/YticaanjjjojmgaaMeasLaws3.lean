/- The walk of the statement of stage 2 on runes, there and back. -/
import Derived.Test.YticaanjjjojmgaaMeasKnown
import Derived.Deep.DeepCutAuto
import Derived.Deep.CutBlock
import Derived.Outline
namespace Go.Proofs.Yticaanjjjojmgaa
open Go.RowKit Go.Shelf

theorem rune_is (s : ByteArray) (n : Int) (k : Nat) (hs : s.size < 4611686018427387904) (h : M.nth (U.bndN s.data.toList) n (s.data.toList.length + 1) = some k) :
    Hid (∀ W, Calls Try.prog 18 #[.string s, .int .i64 n] W fun e w' => e = .returned (.tuple #[.int .i64 (k : Int), .int .i64 0]) ∧ W = w') := fun W => by
  have H := rune_any s n W hs
  rw [← U.len, h] at H
  exact H
theorem runesBefore_is (s : ByteArray) (k : Nat) (hs : s.size < 4611686018427387904) (h : k ≤ s.size) :
    Hid (∀ W, Calls Try.prog 20 #[.string s, .int .i64 (k : Int)] W fun e w' => e = .returned (.tuple #[.int .i64 (U.cntTo s.data.toList k : Nat), .int .i64 0]) ∧ W = w') := fun W => by
  have H := runesBefore_any s k W hs
  rw [M.told_in h] at H
  exact H
theorem M.cont_at (s : ByteArray) (k : Nat) (h : k < s.size) : (128 ≤ (s[k].toNat : Int) ∧ (s[k].toNat : Int) ≤ 191) ↔ U.cont (s.data.toList.getD k 0) = true := by
  rw [U.at_lt s k h, U.cont_iff]; omega
set_option maxRecDepth 100000 in
set_option maxHeartbeats 2000000 in
theorem inverse_small (s : ByteArray) (w : World) (hs : s.size ≤ 1000) :
    Calls Try.prog 8 #[.string s] w fun e w' => e = .returned (.bool true) ∧ Below w.heap.size w w' := by
  have HN := Lib.hid (U.len s)
  have Hs : Hid (s.size < 4611686018427387904) := by show _ < _; omega
  have d0 : decide (1000 < (s.size : Int)) = false := by simp; omega
  have hcl : U.cnt s.data.toList ≤ s.size := by have := M.cnt_le s.data.toList; rwa [HN.out] at this
  go_enter Try.func8, Try.ntmps8
  go_wp2_with fail
  refine (mknown_any _).mono ?_
  rintro e w1 ⟨rfl, hb1⟩
  go_wp2
  go_loopw [3] (fun i wr => ∃ k : Nat, k ≤ U.cnt s.data.toList ∧ i = .int .i64 k ∧ Hid (Below w.heap.size w wr)) (fun i _ => U.cnt s.data.toList - (intOf i).toNat)
  case atStart => exact ⟨0, Nat.zero_le _, rfl, hb1⟩
  case round =>
    obtain ⟨k, hk, rfl, hbw⟩ := hrel
    by_cases hlt : k < U.cnt s.data.toList
    · obtain ⟨j, hj, hj1, hj2⟩ := M.rune_back s.data.toList k (by omega) (by omega)
      rw [HN.out] at hj
      have Hr := rune_is s k j Hs.out hj1
      have Hb := runesBefore_is s j Hs.out hj
      have hj3 : U.cntTo s.data.toList j = k := by omega
      rw [hj3] at Hb
      clear hj1 hj2 hj3 d0 hb1
      go_wp2_with fail
      refine (of_any _ _ Hs.out).mono ?_
      rintro e w2 ⟨rfl, hb2⟩
      have hbw2 := Lib.hid (hbw.out.trans (hb2.mono hbw.out.size))
      clear hb2
      go_wp2_with (first
        | (go_at_call 18; refine (Hr.out _).mono ?_; rintro e w' ⟨rfl, rfl⟩)
        | (go_at_call 20; refine (Hb.out _).mono ?_; rintro e w' ⟨rfl, rfl⟩))
      go_roundw
      case rel => exact ⟨k + 1, by omega, by go_num, hbw2⟩
      case measure => simp [intOf]; omega
    · obtain rfl : k = U.cnt s.data.toList := by omega
      clear d0 hb1
      go_wp2_with fail
      refine (of_any _ _ Hs.out).mono ?_
      rintro e w2 ⟨rfl, hb2⟩
      have hbw2 := Lib.hid (hbw.out.trans (hb2.mono hbw.out.size))
      clear hb2 hlt
      go_wp2
      go_loop [8] (fun i => ∃ k : Nat, k ≤ s.size + 1 ∧ i = .int .i64 k) (fun i => s.size + 1 - (intOf i).toNat)
      case atStart => exact ⟨0, Nat.zero_le _, rfl⟩
      case round =>
        obtain ⟨k, hk, rfl⟩ := hrel
        by_cases hlt : k ≤ s.size
        · obtain ⟨b, hab, hbl, hb1, hb2, hb3⟩ := M.rune_from s.data.toList k (by rw [HN.out]; exact hlt)
          rw [HN.out] at hbl
          have Hr := rune_is s _ b Hs.out hb1
          have Hb := runesBefore_is s k Hs.out hlt
          have Hc : Hid (∀ (i : Nat) (h : i < s.size), k ≤ i → i < b → 128 ≤ (s[i].toNat : Int) ∧ (s[i].toNat : Int) ≤ 191) := fun i h h1 h2 => (M.cont_at s i h).2 (hb2 i h1 h2)
          have He : Hid (∀ (h : b < s.size), ¬ (128 ≤ (s[b].toNat : Int) ∧ (s[b].toNat : Int) ≤ 191)) := fun h hc => by
            have := (M.cont_at s b h).1 hc
            rw [hb3 (by rw [HN.out]; exact h)] at this
            cases this
          clear hb1 hb2 hb3 hk
          have q1 : decide ((b : Int) < (k : Int)) = false := by simp; omega
          have q2 : decide (s.size < b) = false := by simp; omega
          go_wp2_with (first
            | (go_at_call 18; refine (Hr.out _).mono ?_; rintro e w' ⟨rfl, rfl⟩)
            | (go_at_call 20; refine (Hb.out _).mono ?_; rintro e w' ⟨rfl, rfl⟩))
          go_loop [13] (fun i => ∃ j : Nat, k ≤ j ∧ j ≤ b ∧ i = .int .i64 j) (fun i => b - (intOf i).toNat)
          case atStart => exact ⟨k, Nat.le_refl _, hab, rfl⟩
          case round =>
            obtain ⟨j, hj1, hj2, rfl⟩ := hrel
            by_cases hjb : j < b
            · have hjs : j < s.size := by omega
              obtain ⟨hc1, hc2⟩ := Hc.out j hjs hj1 hjb
              go_wp2
              go_round
              case rel => exact ⟨j + 1, by omega, by omega, by go_num⟩
              case measure => simp [intOf]; omega
            · obtain rfl : j = b := by omega
              clear q1 q2 hjb
              by_cases hbs : j < s.size
              · have he := He.out hbs
                by_cases h128 : 128 ≤ (s[j].toNat : Int)
                · have h191 : ¬ (s[j].toNat : Int) ≤ 191 := fun h => he ⟨h128, h⟩
                  clear he
                  go_wp2
                  go_round
                  case rel => exact ⟨k + 1, by omega, by go_num⟩
                  case measure => simp [intOf]; omega
                · clear he
                  go_wp2
                  go_round
                  case rel => exact ⟨k + 1, by omega, by go_num⟩
                  case measure => simp [intOf]; omega
              · have hbs' : decide (j < s.size) = false := by simpa using hbs
                go_wp2
                go_round
                case rel => exact ⟨k + 1, by omega, by go_num⟩
                case measure => simp [intOf]; omega
        · obtain rfl : k = s.size + 1 := by omega
          go_wp2
          go_ret
          exact ⟨rfl, hbw2.out⟩
set_option maxRecDepth 100000 in
set_option maxHeartbeats 1000000 in
theorem measureInverse_walk (s : ByteArray) (w : World) (_hs : s.size ≤ 140737488351232) :
    Calls Try.prog 8 #[.string s] w fun e w' => e = .returned (.bool true) ∧ Below w.heap.size w w' := by
  by_cases hsz : s.size ≤ 1000
  · exact inverse_small s w hsz
  · have hB := Below.refl w.heap.size w
    go_enter Try.func8, Try.ntmps8
    go_wp2_with fail
    refine (mknown_any _).mono ?_
    rintro e w1 ⟨rfl, hb1⟩
    go_wp2
    go_ret
    exact ⟨rfl, hb1⟩
end Go.Proofs.Yticaanjjjojmgaa
