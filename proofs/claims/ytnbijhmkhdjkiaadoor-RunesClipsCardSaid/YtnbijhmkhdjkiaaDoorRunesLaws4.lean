/- The walks of the statements of stage 1 on clips and on parts. -/
import Derived.Test.YtnbijhmkhdjkiaaDoorRunesKnown
import Derived.Test.YtnbijhmkhdjkiaaDoorRunesMath3
namespace Go.Proofs.YtnbijhmkhdjkiaaDoor
open Go.RowKit

/-! ### What Clip's offset is -/
theorem U.clip_spec (l : List UInt8) (n : Int) : (0 < U.clipN l n → (U.clipN l n : Int) ≤ n ∧ U.bndN l (U.clipN l n) = true) ∧ (∀ k : Nat, U.clipN l n < k → k ≤ l.length → (k : Int) ≤ n → U.bndN l k = false) := by
  unfold U.clipN
  have key : ∀ m : Nat, (0 < (U.prvTo l (n + 1) m).getD 0 → (((U.prvTo l (n + 1) m).getD 0 : Nat) : Int) ≤ n ∧ U.bndN l ((U.prvTo l (n + 1) m).getD 0) = true) ∧ (∀ k : Nat, (U.prvTo l (n + 1) m).getD 0 < k → k < m → (k : Int) ≤ n → U.bndN l k = false) := by
    intro m
    induction m with
    | zero => exact ⟨fun h => absurd h (Nat.lt_irrefl 0), fun k _ h => absurd h (Nat.not_lt_zero _)⟩
    | succ m ih =>
      rw [U.prvTo_succ]
      cases hp : U.prvP l (n + 1) m with
      | true =>
        rw [if_pos rfl]
        simp only [Option.getD_some]
        unfold U.prvP at hp
        simp only [Bool.and_eq_true, decide_eq_true_eq] at hp
        exact ⟨fun _ => ⟨by omega, hp.2⟩, fun k h1 h2 => absurd h1 (by omega)⟩
      | false =>
        rw [if_neg (by simp)]
        refine ⟨ih.1, fun k h1 h2 h3 => ?_⟩
        by_cases e : k = m
        · subst e
          unfold U.prvP at hp
          rw [decide_eq_true (by omega), Bool.true_and] at hp
          exact hp
        · exact ih.2 k h1 (by omega) h3
  have := key (l.length + 1)
  rw [U.prvTo_all] at this
  exact ⟨this.1, fun k h1 h2 h3 => this.2 k h1 (by omega) h3⟩

set_option maxHeartbeats 1000000 in
theorem runesClips_walk (s : ByteArray) (i : Int) (w : World) (hs : s.size ≤ 140737488351232) (ht : U.Tab w) :
    Calls Tryd.prog 11 #[.string s, .int .i64 i] w fun e w' => e = .returned (.bool true) ∧ Below w.heap.size w w' := by
  go_enter Tryd.func11, Tryd.ntmps11
  have hB := Below.refl w.heap.size w
  by_cases hsz : 4096 < s.size
  · go_wp2_with fail
    refine (known_any _ ht).mono ?_
    rintro e w1 ⟨rfl, hb1⟩
    go_wp2
    go_ret
    exact ⟨rfl, hb1⟩
  · have Hs : Hid (s.size < 4611686018427387904) := by show _ < _; omega
    have d0 : decide (4096 < (s.size : Int)) = false := by simp; omega
    have hle := U.clipN_le s.data.toList i
    rw [U.len] at hle
    have hsp := U.clip_spec s.data.toList i
    rw [U.len] at hsp
    obtain ⟨c, hc⟩ : ∃ c, c = U.clipN s.data.toList i := ⟨_, rfl⟩
    rw [← hc] at hle hsp
    have Hc := Lib.hid hc
    clear hc
    have Hsp1 := Lib.hid hsp.1
    have Hsp2 := Lib.hid hsp.2
    clear hsp
    have d1 : decide (s.size < c) = false := by simp; omega
    go_wp2_with fail
    refine (clip_any _ _ _ Hs.out).mono ?_
    rw [← Hc.out]
    rintro e w1 ⟨rfl, hb1⟩
    replace ht := ht.below hb1
    replace hB := hB.trans (hb1.mono hB.size)
    clear hb1
    by_cases hc0 : 0 < c
    · have hci := (Hsp1.out hc0).1
      have d2 : decide (i < (c : Int)) = false := by simp; omega
      have d3 : decide (0 < c) = true := by simp; omega
      have hbc : U.bnd s.data.toList (c : Int) = true := by rw [U.bnd_natCast]; exact (Hsp1.out hc0).2
      go_wp2_with (go_at_call 17; refine (boundary_any _ _ _).mono ?_; rintro e w' ⟨rfl, rfl⟩)
      go_loop [6] (fun p => ∃ k : Nat, c < k ∧ k ≤ s.size + 1 ∧ p = .int .i64 k) (fun p => s.size + 1 - (intOf p).toNat)
      case atStart => exact ⟨c + 1, by omega, by omega, by go_num⟩
      case round =>
        obtain ⟨k, hk1, hk2, rfl⟩ := hrel
        by_cases hlt : k ≤ s.size
        · by_cases hki : (k : Int) ≤ i
          · have hbk : U.bnd s.data.toList (k : Int) = false := by rw [U.bnd_natCast]; exact Hsp2.out k hk1 hlt hki
            go_wp2_with (go_at_call 17; refine (boundary_any _ _ _).mono ?_; rintro e w' ⟨rfl, rfl⟩)
            go_round
            case rel => exact ⟨k + 1, by omega, by omega, by go_num⟩
            case measure => simp [intOf]; omega
          · go_wp2_with fail
            refine (known_any _ ht).mono ?_
            rintro e w2 ⟨rfl, hb1⟩
            replace hB := hB.trans (hb1.mono hB.size)
            clear hb1
            go_wp2
            go_ret
            exact ⟨rfl, hB⟩
        · go_wp2_with fail
          refine (known_any _ ht).mono ?_
          rintro e w2 ⟨rfl, hb1⟩
          replace hB := hB.trans (hb1.mono hB.size)
          clear hb1
          go_wp2
          go_ret
          exact ⟨rfl, hB⟩
    · have d3 : decide (0 < c) = false := by simp; omega
      go_wp2_with fail
      go_loop [6] (fun p => ∃ k : Nat, c < k ∧ k ≤ s.size + 1 ∧ p = .int .i64 k) (fun p => s.size + 1 - (intOf p).toNat)
      case atStart => exact ⟨c + 1, by omega, by omega, by go_num⟩
      case round =>
        obtain ⟨k, hk1, hk2, rfl⟩ := hrel
        by_cases hlt : k ≤ s.size
        · by_cases hki : (k : Int) ≤ i
          · have hbk : U.bnd s.data.toList (k : Int) = false := by rw [U.bnd_natCast]; exact Hsp2.out k hk1 hlt hki
            go_wp2_with (go_at_call 17; refine (boundary_any _ _ _).mono ?_; rintro e w' ⟨rfl, rfl⟩)
            go_round
            case rel => exact ⟨k + 1, by omega, by omega, by go_num⟩
            case measure => simp [intOf]; omega
          · go_wp2_with fail
            refine (known_any _ ht).mono ?_
            rintro e w2 ⟨rfl, hb1⟩
            replace hB := hB.trans (hb1.mono hB.size)
            clear hb1
            go_wp2
            go_ret
            exact ⟨rfl, hB⟩
        · go_wp2_with fail
          refine (known_any _ ht).mono ?_
          rintro e w2 ⟨rfl, hb1⟩
          replace hB := hB.trans (hb1.mono hB.size)
          clear hb1
          go_wp2
          go_ret
          exact ⟨rfl, hB⟩
end Go.Proofs.YtnbijhmkhdjkiaaDoor
