/- The walk of ShiftGaps. -/
import Derived.Test.YtampekldlnlhdaaShiftLawKit
import Derived.Test.YtampekldlnlhdaaDeltaInts
namespace Go.Proofs.Ytampekldlnlhdaa
open Go.RowKit

set_option maxRecDepth 100000 in
set_option maxHeartbeats 8000000 in
theorem shiftGaps_walk (s : D.Src) (p : Int) (w : World) (hs : D.ArgOk w s) (_ : -9223372036854775808 ≤ p) (_ : p < 9223372036854775808) :
    Calls Try.prog 7 #[.slice s.a s.x.length s.c, .int .i64 p] w fun e w' => e = .returned (.bool true) ∧ Below w.heap.size w w' := by
  rename_i hpl hpu
  clear hpl hpu
  have HO := L.hOwn s.x hs.fit
  have HK := L.hKnown
  have H1 := L.hLen s.x (L.bd_arg hs)
  have G1 := L.hLarge s.x (L.bd_arg hs) hs.num
  have K : Hid (D.Kn w w [(s.a, s.x)]) := ⟨Below.refl _ _, fun x hx => by simp at hx; subst hx; exact hs.src.row⟩
  have nS : Hid ((s.a = none → s.c = 0) ∧ s.x.length ≤ s.c) := ⟨hs.src.nil, hs.cap⟩
  by_cases h0 : D.chk s.x = 0
  · obtain ⟨l1, l2⟩ := D.len_qs h0
    have ob := (D.valid_qs h0).2.2.2.2
    rw [h0, l1, l2] at H1
    by_cases hp : 0 ≤ p ∧ p ≤ (D.inL (D.qs s.x) : Int)
    · obtain ⟨p0, p1⟩ := hp
      obtain ⟨k, rfl⟩ := Int.eq_ofNat_of_zero_le p0
      have o := D.gap6 h0 p0 p1
      have B1 := L.hBoth s.x hs.fit (L.bd_arg hs) k
      have A1 := L.hAtoms s.x h0
      rw [decide_eq_true ((D.posE_iff (by decide)).2 ⟨h0, by decide, p0, p1⟩), o.v0, o.v1] at B1
      have hal : (D.atoms 0 (D.qs s.x)).length = D.outL (D.qs s.x) := D.atoms_length _ _
      have p2 : ¬ (k : Int) < 0 := by omega
      have p3 : ¬ (D.inL (D.qs s.x) : Int) < (k : Int) := by omega
      have g1 := o.le
      have g2 := o.end_
      have g3 := o.mid
      have g4 := o.fore
      have g5 := o.aft
      simp only [Int.toNat_natCast] at B1 g1 g2 g3 g4 g5
      obtain ⟨oS, cS, S⟩ := s
      dsimp only at *
      generalize D.lft (D.qs S) k = a at *
      generalize D.rgt (D.qs S) k = b at *
      generalize D.atoms 0 (D.qs S) = X at *
      generalize D.inL (D.qs S) = n at *
      generalize D.outL (D.qs S) = m at *
      cases hg : D.large S with
      | true =>
        rw [hg] at G1
        clear hs h0 l1 l2 o p0 p1 g1 g2 g3 g4 g5 hal A1 B1 hg
        go_enter Try.func7, Try.ntmps7
        go_wp2_with fail
        refine (HO.out _ _ _ K.out.r0 nS.out.1).mono ?_
        rintro e w1 ⟨v, rfl, hm⟩
        obtain ⟨ox1, cx1, hv, nx1, K1⟩ := L.made5 K.out hm
        subst hv
        clear hm K
        go_wp2_with fail
        refine (H1.out _ _ _ K1.out.r0).mono ?_
        rintro e w2 ⟨rfl, hb⟩
        have K2 := Lib.hid (K1.out.on hb)
        clear hb K1
        go_wp2_with fail
        refine (G1.out _ _ _ K2.out.tl.r0).mono ?_
        rintro e w3 ⟨rfl, hb⟩
        have KB := Lib.hid (K2.out.on hb).below
        clear hb K2
        go_wp2_with fail
        refine (HK.out _).mono ?_
        rintro e wk ⟨rfl, hb⟩
        have KC := Lib.hid (KB.out.trans (hb.mono KB.out.size))
        clear hb
        go_wp2
        go_ret
        exact ⟨rfl, KC.out⟩
      | false =>
        rw [hg] at G1
        subst hal
        obtain ⟨m, hm⟩ : ∃ m, Hid (X.length = m) := ⟨_, rfl⟩
        rw [hm.out] at H1 g2 g5 ob
        have HM := Lib.hid (And.intro g3 (And.intro g4 g5))
        have ab : ¬ (b : Int) < (a : Int) := by omega
        have bm : ¬ (m : Int) < (b : Int) := by omega
        have hmb : m ≤ 1048576 := ob.2
        clear hs h0 l1 l2 o p0 p1 g3 g4 g5 hg ob
        go_enter Try.func7, Try.ntmps7
        go_wp2_with fail
        refine (HO.out _ _ _ K.out.r0 nS.out.1).mono ?_
        rintro e w1 ⟨v, rfl, hmm⟩
        obtain ⟨ox1, cx1, hv, nx1, K1⟩ := L.made5 K.out hmm
        subst hv
        clear hmm K
        go_wp2_with fail
        refine (H1.out _ _ _ K1.out.r0).mono ?_
        rintro e w2 ⟨rfl, hb⟩
        have K2 := Lib.hid (K1.out.on hb)
        clear hb K1
        go_wp2_with fail
        refine (G1.out _ _ _ K2.out.tl.r0).mono ?_
        rintro e w3 ⟨rfl, hb⟩
        have K3 := Lib.hid (K2.out.on hb)
        clear hb K2
        go_wp2_with fail
        refine (B1.out _ _ _ K3.out.tl.r0 nS.out.1).mono ?_
        rintro e w4 ⟨rfl, hb⟩
        have K4 := Lib.hid (K3.out.on hb)
        clear hb K3
        go_wp2_with fail
        refine (A1.out _ _ _ K4.out.tl.r0).mono ?_
        rintro e w5 ⟨v, rfl, hi⟩
        have KB := Lib.hid (K4.out.below.trans (hi.below.mono K4.out.below.size))
        obtain ⟨oi, ci, hv, hrow⟩ := hi.irow
        subst hv
        have HI := Lib.hid hrow
        clear hi hrow K4
        rw [hm.out]
        go_wp2
        go_loop [12] (fun v => ∃ i : Nat, a ≤ i ∧ i ≤ b ∧ v = .int .i64 i) (fun v => b - (intOf v).toNat)
        case atStart => exact ⟨a, Nat.le_refl _, by omega, rfl⟩
        case round =>
          obtain ⟨i, i1, i2, rfl⟩ := hrel
          by_cases hlt : i < b
          · obtain ⟨z, hz⟩ : ∃ z, X[i]? = some z := ⟨_, List.getElem?_eq_getElem (show i < X.length by rw [hm.out]; omega)⟩
            have hz0 : ¬ 0 ≤ z := by have := HM.out.1 i z i1 hlt hz; omega
            obtain ⟨bb, bo, e, hbl, c0⟩ := HI.out i z hz
            subst e
            have him : i < m := by omega
            have hm' : Hid (b - (i + 1) < b - i) := by show _ < _; omega
            clear hz
            go_wp2
            go_round
            case rel => exact ⟨i + 1, by omega, by omega, by go_num⟩
            case measure => simp [intOf]; exact hm'.out
          · obtain rfl : i = b := by omega
            clear i1 i2 hlt
            have ends : Hid (∀ W, Below w5.heap.size w5 W → Below w.heap.size w W) := fun W h => KB.out.trans (h.mono KB.out.size)
            cases a with
            | zero =>
              by_cases hbm : i = m
              · subst hbm
                go_wp2_with fail
                refine (HK.out _).mono ?_
                rintro e wk ⟨rfl, hb⟩
                have KC := Lib.hid (KB.out.trans (hb.mono KB.out.size))
                clear hb
                go_wp2
                go_ret
                exact ⟨rfl, KC.out⟩
              · have him : i < m := by omega
                have hbm' : ((i : Int) == (m : Int)) = false := by simp; omega
                obtain ⟨z, hz, hz1⟩ := HM.out.2.2 hbm
                obtain ⟨bb, bo, e, hbl, c0⟩ := HI.out i z hz
                subst e
                clear hz hbm
                go_wp2_with fail
                refine (HK.out _).mono ?_
                rintro e wk ⟨rfl, hb⟩
                have KC := Lib.hid (KB.out.trans (hb.mono KB.out.size))
                clear hb
                go_wp2
                go_ret
                exact ⟨rfl, KC.out⟩
            | succ a =>
              obtain ⟨y, hy, hy0, hy1⟩ := HM.out.2.1 (Nat.succ_ne_zero a)
              rw [Nat.add_sub_cancel] at hy
              obtain ⟨bb, bo, e, hbl, c1⟩ := HI.out a y hy
              have ham : a < m := by omega
              have haz : (((a + 1 : Nat) : Int) == 0) = false := by simp; omega
              by_cases hbm : i = m
              · subst hbm
                subst e
                clear hy
                go_wp2_with fail
                refine (HK.out _).mono ?_
                rintro e wk ⟨rfl, hb⟩
                have KC := Lib.hid (KB.out.trans (hb.mono KB.out.size))
                clear hb
                go_wp2
                go_ret
                exact ⟨rfl, KC.out⟩
              · have him : i < m := by omega
                have hbm' : ((i : Int) == (m : Int)) = false := by simp; omega
                obtain ⟨z, hz, hz1⟩ := HM.out.2.2 hbm
                obtain ⟨bb', bo', e', hbl', c0⟩ := HI.out i z hz
                subst e
                cases e'
                clear hz hbm hy
                go_wp2_with fail
                refine (HK.out _).mono ?_
                rintro e wk ⟨rfl, hb⟩
                have KC := Lib.hid (KB.out.trans (hb.mono KB.out.size))
                clear hb
                go_wp2
                go_ret
                exact ⟨rfl, KC.out⟩
    · have hp2 : p < 0 ∨ (¬ p < 0 ∧ (D.inL (D.qs s.x) : Int) < p) := by omega
      obtain ⟨oS, cS, S⟩ := s
      dsimp only at *
      generalize D.inL (D.qs S) = n at *
      generalize D.outL (D.qs S) = m at *
      clear hs h0 l1 l2 hp G1
      rcases hp2 with d1 | ⟨d1, d2⟩
      all_goals
        go_enter Try.func7, Try.ntmps7
        go_wp2_with fail
        refine (HO.out _ _ _ K.out.r0 nS.out.1).mono ?_
        rintro e w1 ⟨v, rfl, hm⟩
        obtain ⟨ox1, cx1, hv, nx1, K1⟩ := L.made5 K.out hm
        subst hv
        clear hm K
        go_wp2_with fail
        refine (H1.out _ _ _ K1.out.r0).mono ?_
        rintro e w2 ⟨rfl, hb⟩
        have KB := Lib.hid (K1.out.on hb).below
        clear hb K1
        go_wp2_with fail
        refine (HK.out _).mono ?_
        rintro e wk ⟨rfl, hb⟩
        have KC := Lib.hid (KB.out.trans (hb.mono KB.out.size))
        clear hb
        go_wp2
        go_ret
        exact ⟨rfl, KC.out⟩
  · have q9 : (D.chk s.x != 0) = true := by simpa using h0
    obtain ⟨oS, cS, S⟩ := s
    dsimp only at *
    generalize D.lenI S = n at *
    generalize D.lenO S = m at *
    generalize D.chk S = k0 at *
    clear hs h0 G1
    go_enter Try.func7, Try.ntmps7
    go_wp2_with fail
    refine (HO.out _ _ _ K.out.r0 nS.out.1).mono ?_
    rintro e w1 ⟨v, rfl, hm⟩
    obtain ⟨ox1, cx1, hv, nx1, K1⟩ := L.made5 K.out hm
    subst hv
    clear hm K
    go_wp2_with fail
    refine (H1.out _ _ _ K1.out.r0).mono ?_
    rintro e w2 ⟨rfl, hb⟩
    have KB := Lib.hid (K1.out.on hb).below
    clear hb K1
    go_wp2_with fail
    refine (HK.out _).mono ?_
    rintro e wk ⟨rfl, hb⟩
    have KC := Lib.hid (KB.out.trans (hb.mono KB.out.size))
    clear hb
    go_wp2
    go_ret
    exact ⟨rfl, KC.out⟩
end Go.Proofs.Ytampekldlnlhdaa
