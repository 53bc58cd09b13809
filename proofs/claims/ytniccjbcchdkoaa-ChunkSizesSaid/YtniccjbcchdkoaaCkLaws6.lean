/- The walk of layer 14's law Sizes. -/
import Derived.Test.YtniccjbcchdkoaaCkLaws1
namespace Go.Proofs.Ytniccjbcchdkoaa
open Go.RowKit

theorem Ck.take14 {α : Type} {l : List α} {k : Nat} {x : α} (h : l[k]? = some x) : l.take (k + 1) = l.take k ++ [x] := by rw [List.take_add_one, h]; rfl
set_option maxRecDepth 100000 in
set_option maxHeartbeats 8000000 in
theorem chunkSizes_walk (n m : Int) (w : World) (n0 : -9223372036854775808 ≤ n) (n1 : n < 9223372036854775808) (m0 : -9223372036854775808 ≤ m) (m1 : m < 9223372036854775808) :
    Calls Try.prog 7 #[.int .i64 n, .int .i64 m] w fun e w' => e = .returned (.bool true) ∧ Below w.heap.size w w' := by
  have HE := Lib.hid (fun W => even14_any n m W n0 (by omega) m0 (by omega))
  unfold Ck.EvEnd at HE
  have HW := Ck.hW
  have K0 := Lib.hid (Ck.kn0 w)
  by_cases h0 : C14.evE n m = 0
  · obtain ⟨h1, h2, h3⟩ := (C14.evE_iff n m).1 h0
    have eL : C14.evL n m = C14.sizes n.toNat m.toNat := by unfold C14.evL; rw [if_pos h0]
    obtain ⟨N, rfl⟩ : ∃ N : Nat, n = (N : Int) := ⟨n.toNat, by omega⟩
    obtain ⟨M, rfl⟩ : ∃ M : Nat, m = (M : Int) := ⟨m.toNat, by omega⟩
    rw [Int.toNat_natCast, Int.toNat_natCast] at eL
    rw [h0, eL] at HE
    have hM : 1 ≤ M := by omega
    have hlen := C14.len_sizes N hM
    have hsum := C14.sizes_sum N hM
    have hcn := C14.cnt_le N hM
    have hci : Hid (C14.cnt N M = 0 ↔ N = 0) := C14.cnt_iff N hM
    have hfw : Hid (2 ≤ C14.cnt N M → (C14.cnt N M - 1) * M < N ∧ M < N) := C14.fewest hM
    have HA0 : Hid (∀ i, i < C14.cnt N M → (C14.sizes N M)[i]? = some (C14.size N (C14.cnt N M) i) ∧ C14.Fair N M i (C14.size N (C14.cnt N M) i)) := fun i hi => ⟨C14.at_sizes N hM hi, C14.fair hM hi⟩
    have hF : Hid (∀ i x, C14.Fair N M i x → 1 ≤ x ∧ x ≤ M ∧ x ≤ C14.size N (C14.cnt N M) 0 ∧ C14.size N (C14.cnt N M) 0 ≤ x + 1 ∧ (0 < i → x ≤ C14.size N (C14.cnt N M) (i - 1)) ∧ (1 < C14.cnt N M → M / 2 ≤ x)) := fun i x h => ⟨h.one, h.most, h.first, h.near, h.prev, h.half⟩
    have HA : Hid (∀ i, i < C14.cnt N M → (C14.sizes N M)[i]? = some (C14.size N (C14.cnt N M) i) ∧ 1 ≤ C14.size N (C14.cnt N M) i ∧ C14.size N (C14.cnt N M) i ≤ M ∧ C14.size N (C14.cnt N M) i ≤ C14.size N (C14.cnt N M) 0 ∧ C14.size N (C14.cnt N M) 0 ≤ C14.size N (C14.cnt N M) i + 1 ∧ (0 < i → C14.size N (C14.cnt N M) i ≤ C14.size N (C14.cnt N M) (i - 1)) ∧ (1 < C14.cnt N M → M / 2 ≤ C14.size N (C14.cnt N M) i)) := fun i hi => ⟨(HA0.out i hi).1, hF.out i _ (HA0.out i hi).2⟩
    clear hF HA0
    have hd := Ck.tdiv M 2
    have hNI : (N : Int) ≤ 65536 := by omega
    clear eL h0 h1 n0 n1 m0
    generalize C14.sizes N M = L at *
    generalize C14.cnt N M = c at *
    obtain ⟨f, hf⟩ : ∃ f : Nat → Nat, Hid (∀ i, C14.size N c i = f i) := ⟨fun i => C14.size N c i, fun i => rfl⟩
    have HB : Hid (∀ i, i < c → L[i]? = some (f i) ∧ 1 ≤ f i ∧ f i ≤ M ∧ f i ≤ f 0 ∧ f 0 ≤ f i + 1 ∧ (0 < i → f i ≤ f (i - 1)) ∧ (1 < c → M / 2 ≤ f i)) := fun i hi => by
      have := HA.out i hi
      rw [hf.out i, hf.out 0, hf.out (i - 1)] at this
      exact this
    clear hf HA
    obtain ⟨H, hH⟩ : ∃ H, M / 2 = H := ⟨_, rfl⟩
    rw [hH] at hd HB
    have HL := Lib.hid hlen
    have HL2 : Hid ((Ck.ints L).length = c) := (Ck.ints_len L).trans hlen
    have HS := Lib.hid hsum
    have hc : c ≤ 65536 := by omega
    have hM2 := Lib.hid (And.intro hM m1)
    obtain ⟨Mi, hMi⟩ : ∃ Mi : Int, Hid ((M : Int) = Mi) := ⟨_, rfl⟩
    obtain ⟨Ni, hNi⟩ : ∃ Ni : Int, Hid ((N : Int) = Ni) := ⟨_, rfl⟩
    obtain ⟨Hi, hHi⟩ : ∃ Hi : Int, Hid ((H : Int) = Hi) := ⟨_, rfl⟩
    rw [hMi.out] at HE hd h3 ⊢
    rw [hNi.out] at HE h2 hNI ⊢
    rw [hHi.out] at hd
    have hd : Mi.tdiv 2 = Hi := hd
    have hN0 : Hid (0 ≤ Ni) := by show 0 ≤ Ni; rw [← hNi.out]; omega
    have hn0 := hN0.out
    have hn1 : ¬ Ni < 0 := by omega
    have hm1 : ¬ Mi < 1 := by omega
    have hn2 : ¬ 65536 < Ni := by omega
    clear hlen hsum hcn hM m1 h2 h3 hH
    have hcz : ((c : Int) == 0) = (Ni == 0) := by
      have := hci.out
      have := hNi.out
      rw [Bool.eq_iff_iff, beq_iff_eq, beq_iff_eq]; omega
    obtain ⟨zb, hzb⟩ : ∃ zb, (Ni == 0) = zb := ⟨_, rfl⟩
    rw [hzb] at hcz
    go_enter Try.func7, Try.ntmps7
    go_wp2_with fail
    refine (HE.out _).mono ?_
    rintro e w1 ⟨v, rfl, hm⟩
    obtain ⟨a1, c1, rfl, K1⟩ := K0.out.made hm HL2.out
    clear hm K0 HE
    go_wp2
    clear hcz hzb
    go_loopw [7, 8] (fun t i wr => ∃ j : Nat, j ≤ c ∧ t = .int .i64 ((L.take j).sum : Nat) ∧ i = .int .i64 j ∧ Hid (Ck.Kn w wr [(a1, Ck.ints L)])) (fun _ i _ => c - (intOf i).toNat)
    case atStart => exact ⟨0, Nat.zero_le _, rfl, rfl, K1⟩
    case round =>
      clear K1
      obtain ⟨j, hj, rfl, rfl, hx⟩ := hrel
      by_cases hlt : j < c
      · obtain ⟨z0, g1, g2, g3, g4, g5, g6⟩ := HB.out j hlt
        obtain ⟨y0, y1, y2, _, _, _, _⟩ := HB.out 0 (by omega)
        obtain ⟨b, o, rfl, _, c0⟩ := hx.out.r0 j _ (Ck.ints_at z0)
        obtain ⟨_, _, e1, _, d0⟩ := hx.out.r0 0 _ (Ck.ints_at y0)
        injection e1 with e1
        injection e1 with e1 e2
        subst e1
        subst e2
        rw [Nat.add_zero] at d0
        have R : Hid (∀ z, Ck.Kn w (wr.drewN z) [(some ⟨b, o, none⟩, Ck.ints L)]) := fun z => Ck.Kn.on hx.out (below_drewN (Below.refl _ _) z)
        have tl := C14.sum_take_le L (j + 1)
        have ts : (L.take (j + 1)).sum = (L.take j).sum + f j := by rw [Ck.take14 z0, List.sum_append]; simp
        rw [HS.out] at tl
        obtain ⟨xi, hxi⟩ : ∃ xi : Int, (f j : Int) = xi := ⟨_, rfl⟩
        obtain ⟨x0, hx0⟩ : ∃ x0 : Int, (f 0 : Int) = x0 := ⟨_, rfl⟩
        obtain ⟨ti, hti⟩ : ∃ ti : Int, ((L.take j).sum : Int) = ti := ⟨_, rfl⟩
        have SM : Hid (((L.take (j + 1)).sum : Int) = ti + xi) := by show _ = _; rw [ts, Int.natCast_add, hti, hxi]
        have b1 : 1 ≤ xi := by omega
        have b2 : xi ≤ Mi := by have := hMi.out; omega
        have b3 : xi ≤ x0 := by omega
        have b4 : x0 ≤ xi + 1 := by omega
        have b5 : 0 ≤ ti := by omega
        have b6 : ti + xi ≤ 65536 := by have := hNi.out; omega
        have g6 : 1 < c → Hi ≤ xi := fun h => by have := g6 h; have := hHi.out; omega
        obtain ⟨di, hdi⟩ : ∃ di, x0 - xi = di := ⟨_, rfl⟩
        have wd : IntKind.i64.wrap (x0 - xi) = di := by rw [hdi]; exact IntWalk.i64_in _ (by omega)
        have q1 : decide (xi < 1) = false := by rw [decide_eq_false_iff_not]; omega
        have q1' : ¬ xi < 1 := by omega
        have q2 : decide (Mi < xi) = false := by rw [decide_eq_false_iff_not]; omega
        have q2' : ¬ Mi < xi := by omega
        have q3 : decide (x0 < xi) = false := by rw [decide_eq_false_iff_not]; omega
        have q3' : ¬ x0 < xi := by omega
        have q4 : decide (1 < di) = false := by rw [decide_eq_false_iff_not]; omega
        have q4' : ¬ 1 < di := by omega
        have J0 : Hid (j < c) := hlt
        rw [hxi] at c0
        rw [hx0] at d0
        rw [hti]
        have hc0 : 0 < c := by omega
        by_cases hj0 : j = 0
        · subst hj0
          obtain rfl : xi = x0 := hxi.symm.trans hx0
          clear d0 wd q3 q3' q4 q4'
          clear g5 z0 y0 y1 y2 tl ts hti hdi hx hj
          rw [Nat.add_zero] at c0
          by_cases hcc : 1 < c
          · have u1 : decide ((1 : Int) < (c : Int)) = true := by rw [decide_eq_true_iff]; omega
            have u2 : decide (1 < c) = true := by rw [decide_eq_true_iff]; exact hcc
            have u3 : decide (xi < Hi) = false := by rw [decide_eq_false_iff_not]; have := g6 hcc; omega
            have u3' : ¬ xi < Hi := by have := g6 hcc; omega
            have wH : IntKind.i64.wrap Hi = Hi := IntWalk.i64_in _ (by have := g6 hcc; have := hHi.out; omega)
            clear g6 hcc
            go_upto_region 10 with (fail)
            go_quiet (fail)
            clear u1 u2 hd wH
            go_wp2
            go_roundw
            case rel => exact ⟨0 + 1, by have := J0.out; omega, by rw [SM.out], by go_num, R.out _⟩
            case measure => have := J0.out; simp [intOf]; omega
          · have wH : Hid True := trivial
            have u1 : decide ((1 : Int) < (c : Int)) = false := by rw [decide_eq_false_iff_not]; omega
            have u2 : decide (1 < c) = false := by rw [decide_eq_false_iff_not]; exact hcc
            clear g6 hcc
            go_upto_region 10 with (fail)
            go_quiet (fail)
            clear u1 u2 hd wH
            go_wp2
            go_roundw
            case rel => exact ⟨0 + 1, by have := J0.out; omega, by rw [SM.out], by go_num, R.out _⟩
            case measure => have := J0.out; simp [intOf]; omega
        · obtain ⟨p, rfl⟩ : ∃ p, j = p + 1 := ⟨j - 1, by omega⟩
          have g5 := g5 (by omega)
          obtain ⟨v0, _, _, _, _, _, _⟩ := HB.out p (by omega)
          obtain ⟨_, _, e1, _, e0⟩ := hx.out.r0 p _ (Ck.ints_at v0)
          injection e1 with e1
          injection e1 with e1 e2
          subst e1
          subst e2
          have g5 : f (p + 1) ≤ f p := g5
          obtain ⟨xp, hxp⟩ : ∃ xp : Int, (f p : Int) = xp := ⟨_, rfl⟩
          rw [hxp] at e0
          have q5 : decide (xp < xi) = false := by rw [decide_eq_false_iff_not]; omega
          have q5' : ¬ xp < xi := by omega
          have q6 : decide ((0 : Int) < (p : Int) + 1) = true := by rw [decide_eq_true_iff]; omega
          have pI : (p : Int) + 1 < (c : Int) := by omega
          have pI2 : (p : Int) < (c : Int) := by omega
          clear g5 z0 y0 y1 y2 tl ts hti hdi hx hj v0 hj0
          by_cases hcc : 1 < c
          · have u1 : decide ((1 : Int) < (c : Int)) = true := by rw [decide_eq_true_iff]; omega
            have u2 : decide (1 < c) = true := by rw [decide_eq_true_iff]; exact hcc
            have u3 : decide (xi < Hi) = false := by rw [decide_eq_false_iff_not]; have := g6 hcc; omega
            have u3' : ¬ xi < Hi := by have := g6 hcc; omega
            have wH : IntKind.i64.wrap Hi = Hi := IntWalk.i64_in _ (by have := g6 hcc; have := hHi.out; omega)
            clear g6 hcc
            go_upto_region 10 with (fail)
            go_quiet (fail)
            clear u1 u2 hd wH
            go_wp2
            go_roundw
            case rel => exact ⟨p + 1 + 1, by have := J0.out; omega, by rw [SM.out], by go_num, R.out _⟩
            case measure => have := J0.out; simp [intOf]; omega
          · have wH : Hid True := trivial
            have u1 : decide ((1 : Int) < (c : Int)) = false := by rw [decide_eq_false_iff_not]; omega
            have u2 : decide (1 < c) = false := by rw [decide_eq_false_iff_not]; exact hcc
            clear g6 hcc
            go_upto_region 10 with (fail)
            go_quiet (fail)
            clear u1 u2 hd wH
            go_wp2
            go_roundw
            case rel => exact ⟨p + 1 + 1, by have := J0.out; omega, by rw [SM.out], by go_num, R.out _⟩
            case measure => have := J0.out; simp [intOf]; omega
      · obtain rfl : c = j := by omega
        have ts : ((L.take c).sum : Int) = Ni := by
          rw [List.take_of_length_le (by rw [HL.out]; exact Nat.le_refl _), HS.out]; exact hNi.out
        have B := Lib.hid hx.out.below
        rw [ts]
        clear hx ts hlt hj
        by_cases hcc : c < 2
        · have hcI : (c : Int) < 2 := by omega
          go_wp2
          go_ret
          exact ⟨rfl, B.out⟩
        · have hcI : ¬ (c : Int) < 2 := by omega
          obtain ⟨f1, f2⟩ := hfw.out (by omega)
          have mi : Mi ≤ 65536 := by have := hMi.out; have := hNi.out; omega
          obtain ⟨pr, hpr⟩ : ∃ pr, ((c : Int) - 1) * Mi = pr := ⟨_, rfl⟩
          have hpr2 : (((c - 1) * M : Nat) : Int) = pr := by rw [← hpr, ← hMi.out, Int.natCast_mul]; congr 1; omega
          obtain ⟨qq, hqq⟩ : ∃ qq : Nat, (c - 1) * M = qq := ⟨_, rfl⟩
          rw [hqq] at f1 hpr2
          have hp1 : pr < Ni := by have := hNi.out; omega
          have hp0 : 0 ≤ pr := by omega
          clear f1 f2 hpr2 hqq hcc hd
          go_wp2
          go_ret
          exact ⟨rfl, B.out⟩
  · have eL : C14.evL n m = [] := by unfold C14.evL; rw [if_neg h0]
    rw [eL] at HE
    have hiff : Hid (¬ (0 ≤ n ∧ n ≤ 65536 ∧ 1 ≤ m)) := fun h => h0 ((C14.evE_iff n m).2 h)
    obtain ⟨z, hz⟩ : ∃ z, C14.evE n m = z := ⟨_, rfl⟩
    rw [hz] at HE h0
    have hz0 : (z != 0) = true := by simpa using h0
    clear eL hz h0
    by_cases p1 : n < 0
    · clear hiff
      go_enter Try.func7, Try.ntmps7
      go_wp2_with fail
      refine (HE.out _).mono ?_
      rintro e w1 ⟨v, rfl, hm⟩
      obtain ⟨a1, c1, rfl, K1⟩ := K0.out.made hm (n := 0) rfl
      clear hm K0 HE
      go_wp2_with fail
      refine (HW.out _).mono ?_
      rintro e w2 ⟨rfl, hb⟩
      have B2 := Lib.hid (K1.out.on hb).below
      clear hb HW K1
      go_wp2
      go_ret
      exact ⟨rfl, B2.out⟩
    · by_cases p2 : m < 1
      · clear hiff
        go_enter Try.func7, Try.ntmps7
        go_wp2_with fail
        refine (HE.out _).mono ?_
        rintro e w1 ⟨v, rfl, hm⟩
        obtain ⟨a1, c1, rfl, K1⟩ := K0.out.made hm (n := 0) rfl
        clear hm K0 HE
        go_wp2_with fail
        refine (HW.out _).mono ?_
        rintro e w2 ⟨rfl, hb⟩
        have B2 := Lib.hid (K1.out.on hb).below
        clear hb HW K1
        go_wp2
        go_ret
        exact ⟨rfl, B2.out⟩
      · have p3 : 65536 < n := by
          by_cases p4 : 65536 < n
          · exact p4
          · exact absurd ⟨by omega, by omega, by omega⟩ hiff.out
        clear hiff
        go_enter Try.func7, Try.ntmps7
        go_wp2_with fail
        refine (HE.out _).mono ?_
        rintro e w1 ⟨v, rfl, hm⟩
        obtain ⟨a1, c1, rfl, K1⟩ := K0.out.made hm (n := 0) rfl
        clear hm K0 HE
        go_wp2_with fail
        refine (HW.out _).mono ?_
        rintro e w2 ⟨rfl, hb⟩
        have B2 := Lib.hid (K1.out.on hb).below
        clear hb HW K1
        go_wp2
        go_ret
        exact ⟨rfl, B2.out⟩
end Go.Proofs.Ytniccjbcchdkoaa
