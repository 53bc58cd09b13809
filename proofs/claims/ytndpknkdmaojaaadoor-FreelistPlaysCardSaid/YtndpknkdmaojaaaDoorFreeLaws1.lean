/- The walk of FreelistMakes. -/
import Derived.Test.YtndpknkdmaojaaaDoorPackFLaw
namespace Go.Proofs.YtndpknkdmaojaaaDoor
open Go.RowKit

theorem FL.eqI (l : List Nat) (hl : l.length ≤ 16384) {W : World} {ao bo : Option Addr} {c c' : Nat} (ha : V.Row W ao (FL.ints l)) (hb : V.Row W bo (FL.ints l)) : Calls Tryd.prog 20 #[.slice ao l.length c, .slice bo l.length c'] W fun e w' => e = .returned (.bool true) ∧ Below W.heap.size W w' := by
  have := equalInts_any ao bo c c' l l W ha hb (by unfold maxLen; omega)
  rwa [decide_eq_true rfl] at this
set_option maxRecDepth 100000 in
set_option maxHeartbeats 4000000 in
theorem freelistMakes_walk (n g : Int) (w : World) (n0 : -9223372036854775808 ≤ n) (n1 : n < 9223372036854775808) (g0 : 0 ≤ g) (g1 : g ≤ 18446744073709551615) (hp : H.Pow w.heap.size w) :
    Calls Tryd.prog 4 #[.int .i64 n, .int .u64 g] w fun e w' => e = .returned (.bool true) ∧ Below w.heap.size w w' := by
  have HK : Hid (∀ W, Below w.heap.size w W → Calls Tryd.prog 19 #[] W (fun e w' => e = .returned (.bool true) ∧ Below W.heap.size W w')) := fun W hb => awake11_any W (H.Pow.go hp hb)
  clear hp
  by_cases h : n < 1 ∨ 16384 < n ∨ g < 1 ∨ 4294967295 < g
  · have H1 := Lib.hid (new11_bad n g h w)
    have H2 := Lib.hid (refNew11_bad n g h w)
    clear h
    go_enter Tryd.func4, Tryd.ntmps4
    go_wp2_with fail
    refine H1.out.mono ?_
    rintro e w1 ⟨rfl, rfl⟩
    go_wp2_with fail
    refine H2.out.mono ?_
    rintro e w1 ⟨rfl, rfl⟩
    go_wp2_with fail
    refine (HK.out _ (Below.refl _ _)).mono ?_
    rintro e w1 ⟨rfl, hb⟩
    have B1 := Lib.hid hb
    clear hb
    go_wp2
    go_ret
    exact ⟨rfl, B1.out⟩
  · obtain ⟨m, rfl⟩ := Int.eq_ofNat_of_zero_le (show 0 ≤ n by omega)
    obtain ⟨k, rfl⟩ := Int.eq_ofNat_of_zero_le g0
    have H1 := Lib.hid (new11_ok m k (by omega) (by omega) (by omega) (by omega) w)
    have H2 : Hid (∀ W, Calls Tryd.prog 12 #[.int .i64 (m : Int), .int .u64 (k : Int)] W fun e w' => ∃ p R, e = .returned (.tuple #[FL.ptr p, .int .i64 0]) ∧ FL.ROwn w' p (FL.new m k) R ∧ Below W.heap.size W w' ∧ ∀ k, R k → W.heap.size ≤ k) := fun W => refNew11_ok m k (by omega) (by omega) (by omega) (by omega) W
    unfold FL.ptr at H1 H2
    have hm : m ≤ 16384 := by omega
    obtain ⟨ki, hki⟩ : ∃ ki : Int, (k : Int) = ki := ⟨_, rfl⟩
    rw [hki] at H1 H2 ⊢
    by_cases h3 : 300 < m ∧ m < 16384
    · obtain ⟨h3, h4⟩ := h3
      have q1 : decide ((300 : Int) < (m : Int)) = true := by simp; omega
      have q2 : decide ((m : Int) < 16384) = true := by simp; omega
      clear h g1 g0 n0 n1 hki h3 h4
      go_enter Tryd.func4, Tryd.ntmps4
      go_wp2_with fail
      refine H1.out.mono ?_
      rintro e w1 ⟨p, R, rfl, ho, hb, hn⟩
      have B1 := Lib.hid hb
      clear ho hb hn
      go_wp2_with fail
      refine (H2.out _).mono ?_
      rintro e w2 ⟨p', R', rfl, ho, hb, hn⟩
      have B2 := Lib.hid (B1.out.trans (hb.mono B1.out.size))
      clear ho hb hn B1
      go_wp2_with fail
      refine (HK.out _ B2.out).mono ?_
      rintro e w3 ⟨rfl, hb⟩
      have B3 := Lib.hid (B2.out.trans (hb.mono B2.out.size))
      clear hb
      go_wp2
      go_ret
      exact ⟨rfl, B3.out⟩
    · have qq : (decide ((300 : Int) < (m : Int)) = false) ∨ (decide ((300 : Int) < (m : Int)) = true ∧ decide ((m : Int) < 16384) = false) := by
        by_cases c : 300 < m
        · exact .inr ⟨by simp; omega, by simp; omega⟩
        · exact .inl (by simp; omega)
      have hq1 : (m : Int) ≤ 16384 := by omega
      clear h g1 g0 n0 n1 hki h3
      rcases qq with q1 | ⟨q1, q2⟩
      all_goals
        go_enter Tryd.func4, Tryd.ntmps4
        go_wp2_with fail
        refine H1.out.mono ?_
        rintro e w1 ⟨p, R, rfl, ho, hb, hn⟩
        have A1 := Lib.hid (show FL.Own w1 p (FL.new m k) R ∧ Below w.heap.size w w1 ∧ ∀ k, R k → w.heap.size ≤ k from ⟨ho, hb, hn⟩)
        clear ho hb hn
        go_wp2_with fail
        refine (H2.out _).mono ?_
        rintro e w2 ⟨q, Q, rfl, ho, hb, hn⟩
        obtain ⟨B, hB⟩ : ∃ B, w2.heap.size = B := ⟨_, rfl⟩
        have T : Hid (FL.Two w p q R Q (FL.new m k) (FL.new m k) B w2) := by
          rw [← hB]; exact FL.Two.make A1.out.1 A1.out.2.1 A1.out.2.2 ho hb hn
        clear ho hb hn A1 hB
        go_wp2
        go_loopw [9] (fun j wr => ∃ (i : Nat) (s : FL.S), i ≤ 4 ∧ j = .int .i64 i ∧ Hid (FL.Two w p q R Q s s B wr ∧ s.st.length ≤ 16384)) (fun j _ => 4 - (intOf j).toNat)
        case atStart => exact ⟨0, _, by omega, rfl, T.out, T.out.x.inv.n2⟩
        case round =>
          obtain ⟨i, s, hi, rfl, hT⟩ := hrel
          clear T
          by_cases hlt : i < 4
          · have h4 : (i : Int) < 4 := by omega
            have T0 := Lib.hid hT.out.1
            have HL : Hid (s.tk.st.length ≤ 16384) := (FL.inv_tk hT.out.1.x.inv).n2
            clear hT
            go_wp2_with fail
            refine T0.out.takeX.mono ?_
            rintro e w3 ⟨rfl, t, _⟩
            have T1 := Lib.hid t
            clear t T0
            go_wp2_with fail
            refine T1.out.takeY.mono ?_
            rintro e w4 ⟨rfl, t, _⟩
            have T2 := Lib.hid t
            clear t T1
            generalize ((s.tkH : Nat) : Int) = z at *
            generalize s.tkE = ze at *
            have q5 : (z != z) = false := by simp
            have q6 : (ze != ze) = false := by simp
            go_wp2
            go_roundw
            case rel => exact ⟨i + 1, _, by omega, by go_num, T2.out, HL.out⟩
            case measure => simp [intOf]; omega
          · obtain rfl : i = 4 := by omega
            have T0 := Lib.hid hT.out.1
            have hl : s.stk.length ≤ 16384 := Nat.le_trans (FL.stk_len hT.out.1.x.inv) hT.out.2
            clear hT
            rw [show ((4 : Nat) : Int) = 4 from rfl]
            go_wp2_with fail
            refine T0.out.freeX.mono ?_
            rintro e w3 ⟨ao, c, rfl, hr, hb⟩
            have T1 := Lib.hid (T0.out.on hb)
            have R1 := Lib.hid hr
            clear hb hr T0
            go_wp2_with fail
            refine T1.out.freeY.mono ?_
            rintro e w4 ⟨bo, d, rfl, hr, hb⟩
            have T2 := Lib.hid (T1.out.on hb)
            have R2 := Lib.hid (R1.out.below hb)
            have R3 := Lib.hid hr
            clear hb hr T1 R1
            go_wp2_with fail
            refine (FL.eqI s.stk hl R2.out R3.out).mono ?_
            rintro e w5 ⟨rfl, hb⟩
            have T3 := Lib.hid (T2.out.on hb)
            clear hb T2 R2 R3
            go_wp2_with fail
            refine (HK.out _ T3.out.below).mono ?_
            rintro e w6 ⟨rfl, hb⟩
            have T4 := Lib.hid (T3.out.on hb).below
            clear hb
            go_wp2
            go_ret
            exact ⟨rfl, T4.out⟩
end Go.Proofs.YtndpknkdmaojaaaDoor
