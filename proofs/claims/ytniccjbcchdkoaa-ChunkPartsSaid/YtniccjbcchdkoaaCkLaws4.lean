/- The walk of layer 14's law Parts. -/
import Derived.Test.YtniccjbcchdkoaaCkCat
namespace Go.Proofs.Ytniccjbcchdkoaa
open Go.RowKit

theorem Ck.part_bd {s : List UInt8} {i : Nat} {t : List UInt8} (h : (C14.chunks s)[i]? = some t) : (C14.sizes s.length 16)[i]? = some t.length ∧ 1 ≤ t.length ∧ t.length ≤ 16 ∧ (8 ≤ s.length → 8 ≤ t.length) := by
  have b := C14.chunks_bd (List.mem_of_getElem? h)
  refine ⟨?_, b⟩
  rw [← C14.chunks_sizes, List.getElem?_map, h]; rfl
set_option maxRecDepth 100000 in
set_option maxHeartbeats 4000000 in
theorem chunkParts_walk (s : ByteArray) (w : World) (_ : s.size ≤ 140737488351232) :
    Calls Try.prog 8 #[.string s] w fun e w' => e = .returned (.bool true) ∧ Below w.heap.size w w' := by
  have HW := Ck.hW
  by_cases hs : 3000 < s.size
  · go_enter Try.func8, Try.ntmps8
    go_wp2_with fail
    refine (HW.out _).mono ?_
    rintro e w1 ⟨rfl, hb⟩
    have B := Lib.hid hb
    clear hb HW
    go_wp2
    go_ret
    exact ⟨rfl, B.out⟩
  · have hs3 : s.size ≤ 3000 := by omega
    obtain ⟨N, hN⟩ : ∃ N, s.size = N := ⟨_, rfl⟩
    have HC := Lib.hid (fun W => chunks14_any s W (by omega))
    unfold Ck.ChEnd at HC
    have HE := Lib.hid (fun W => even14_any (N : Int) 16 W (by omega) (by omega) (by decide) (by decide))
    unfold Ck.EvEnd at HE
    have e0 : C14.evE (N : Int) 16 = 0 := (C14.evE_iff _ _).2 ⟨by omega, by omega, by omega⟩
    have eL : C14.evL (N : Int) 16 = C14.sizes N 16 := by unfold C14.evL; rw [if_pos e0]; rfl
    rw [e0, eL] at HE
    have hlen : s.data.toList.length = N := (Ck.len s).trans hN
    obtain ⟨k, hk⟩ : ∃ k, C14.cnt N 16 = k := ⟨_, rfl⟩
    have kL : (C14.chunks s.data.toList).length = k := by rw [C14.len_chunks, hlen, hk]
    have kZ : (C14.sizes N 16).length = k := by rw [C14.len_sizes _ (by decide), hk]
    have k16 : k = (N + 15) / 16 := by rw [← hk]; exact (C14.cnt_16 N).1
    have kN : k ≤ 3000 := by omega
    have HJ : Hid (∀ ao ca W, V.Row W ao (Ck.strs (C14.chunks s.data.toList)) → k ≤ ca → Calls Try.prog 37 #[.slice ao k ca, .string ⟨#[]⟩] W fun e w' => e = .returned (.string s) ∧ Below W.heap.size W w') := fun ao ca W hr hca =>
      Ck.cat_any _ ao ca k s W (by rw [← Ck.strs_map]; exact hr) (by rw [List.length_map]; exact kL) hca (by rw [Ck.flat_map]; exact C14.chunks_flat _) (by omega) (by omega)
    have HP : Hid (∀ (i : Nat) (t : List UInt8), (C14.chunks s.data.toList)[i]? = some t → (C14.sizes N 16)[i]? = some t.length ∧ 1 ≤ t.length ∧ t.length ≤ 16 ∧ (8 ≤ N → 8 ≤ t.length)) := fun i t h => by
      have := Ck.part_bd h
      rwa [hlen] at this
    have kd : ((N : Int) + 16 - 1).tdiv 16 = (k : Int) := by have := Ck.tdiv (N + 15) 16; rw [← k16] at this; rw [← this]; congr 1; omega
    have hkL := Lib.hid ((Ck.strs_len _).trans kL)
    have hkZ := Lib.hid ((Ck.ints_len _).trans kZ)
    have hkL2 := Lib.hid kL
    clear e0 eL hk kL kZ k16 hs hlen
    generalize C14.chunks s.data.toList = L at *
    generalize C14.sizes N 16 = Z at *
    have K0 := Lib.hid (Ck.kn0 w)
    go_enter Try.func8, Try.ntmps8
    go_wp2_with fail
    refine (HC.out _).mono ?_
    rintro e w1 ⟨v, rfl, hm⟩
    obtain ⟨a1, c1, rfl, hcap, K1⟩ := K0.out.madeC hm hkL.out
    clear hm K0 HC
    go_wp2_with fail
    refine (HE.out _).mono ?_
    rintro e w2 ⟨v, rfl, hm⟩
    obtain ⟨a2, c2, rfl, K2⟩ := K1.out.made hm hkZ.out
    clear hm K1 HE
    go_wp2_with fail
    refine (HJ.out _ _ _ K2.out.tl.r0 hcap).mono ?_
    rintro e w3 ⟨rfl, hb⟩
    have K3 := Lib.hid (K2.out.on hb)
    clear hb K2 HJ
    go_wp2
    go_loopw [6] (fun i wr => ∃ j : Nat, j ≤ k ∧ i = .int .i64 j ∧ Hid (Ck.Kn w wr [(a2, Ck.ints Z), (a1, Ck.strs L)])) (fun i _ => k - (intOf i).toNat)
    case atStart => exact ⟨0, Nat.zero_le _, rfl, K3⟩
    case round =>
      clear K3
      obtain ⟨j, hj, rfl, hx⟩ := hrel
      by_cases hlt : j < k
      · obtain ⟨t, ht⟩ : ∃ t, L[j]? = some t := ⟨_, List.getElem?_eq_getElem (by rw [hkL2.out]; exact hlt)⟩
        obtain ⟨z0, z1, z2, z3⟩ := HP.out j t ht
        obtain ⟨b, o, rfl, _, c0⟩ := hx.out.tl.r0 j _ (Ck.strs_at ht)
        obtain ⟨b2, o2, rfl, _, d0⟩ := hx.out.r0 j _ (Ck.ints_at z0)
        have hn := Lib.hid (Ck.Kn.on hx.out (Below.refl _ _).drew)
        have ts : (⟨t.toArray⟩ : ByteArray).size = t.length := D.size_l t
        rw [← ts] at d0 z1 z2 z3
        unfold V.str at c0
        clear ht z0 ts hx
        generalize (⟨t.toArray⟩ : ByteArray) = x at *
        have q1 : decide ((x.size : Int) < 1) = false := by rw [decide_eq_false_iff_not]; omega
        have q2 : decide (x.size < 1) = false := by rw [decide_eq_false_iff_not]; omega
        have q3 : ¬ x.size < 1 := by omega
        have p1 : decide ((16 : Int) < (x.size : Int)) = false := by rw [decide_eq_false_iff_not]; omega
        have p2 : decide (16 < x.size) = false := by rw [decide_eq_false_iff_not]; omega
        have p3 : ¬ 16 < x.size := by omega
        by_cases h8 : 8 ≤ N
        · have z4 := z3 h8
          have r1 : decide ((8 : Int) ≤ (N : Int)) = true := by rw [decide_eq_true_iff]; omega
          have r2 : decide (8 ≤ N) = true := by rw [decide_eq_true_iff]; omega
          have r4 : decide ((x.size : Int) < 8) = false := by rw [decide_eq_false_iff_not]; omega
          have r5 : decide (x.size < 8) = false := by rw [decide_eq_false_iff_not]; omega
          have r6 : ¬ x.size < 8 := by omega
          clear z3
          go_upto_region 10 with (fail)
          go_region
          all_goals
            go_wp2
            go_roundw
            case rel => exact ⟨j + 1, by omega, by go_num, hn⟩
            case measure => simp [intOf]; omega
        · have r1 : decide ((8 : Int) ≤ (N : Int)) = false := by rw [decide_eq_false_iff_not]; omega
          have r2 : decide (8 ≤ N) = false := by rw [decide_eq_false_iff_not]; omega
          clear z3
          go_upto_region 10 with (fail)
          go_region
          all_goals
            go_wp2
            go_roundw
            case rel => exact ⟨j + 1, by omega, by go_num, hn⟩
            case measure => simp [intOf]; omega
      · obtain rfl : k = j := by omega
        have K4 := hx
        clear hx
        go_wp2_with fail
        refine (HW.out _).mono ?_
        rintro e w4 ⟨rfl, hb⟩
        have B4 := Lib.hid (K4.out.on hb).below
        clear hb HW K4
        go_wp2
        go_ret
        exact ⟨rfl, B4.out⟩
end Go.Proofs.Ytniccjbcchdkoaa
