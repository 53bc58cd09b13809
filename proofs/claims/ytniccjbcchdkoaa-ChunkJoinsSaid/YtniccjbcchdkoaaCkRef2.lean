/- The contracts of the reference of layer 14: Even, Chunks, Join. -/
import Derived.Test.YtniccjbcchdkoaaCkRef1
namespace Go.Proofs.Ytniccjbcchdkoaa
open Go.RowKit

set_option maxRecDepth 100000 in
set_option maxHeartbeats 2000000 in
theorem refEven14_any (n m : Int) (w : World) (n0 : -9223372036854775808 ≤ n) (n1 : n ≤ 9223372036854775807) (m0 : -9223372036854775808 ≤ m) (m1 : m ≤ 9223372036854775807) :
    Calls Try.prog 33 #[.int .i64 n, .int .i64 m] w (Ck.EvEnd n m w) := by
  by_cases h1 : n < 0 ∨ m < 1
  · have R := Lib.hid (Ck.ev_bad (n := n) (m := m) (if_pos h1) (by decide) w)
    by_cases h2 : n < 0
    · clear h1
      go_enter Try.func33, Try.ntmps33
      go_wp2
      go_ret2
      exact R.out
    · have h3 : m < 1 := by omega
      clear h1
      go_enter Try.func33, Try.ntmps33
      go_wp2
      go_ret2
      exact R.out
  · have h2 : ¬ n < 0 := by omega
    have h3 : ¬ m < 1 := by omega
    by_cases h4 : 65536 < n
    · have R := Lib.hid (Ck.ev_bad (n := n) (m := m) (z := 5) (by unfold C14.evE; rw [if_neg h1, if_pos h4]) (by decide) w)
      clear h1
      go_enter Try.func33, Try.ntmps33
      go_wp2
      go_ret2
      exact R.out
    · have e0 : C14.evE n m = 0 := (C14.evE_iff n m).2 ⟨by omega, by omega, by omega⟩
      have eL : C14.evL n m = C14.sizes n.toNat m.toNat := by unfold C14.evL; rw [if_pos e0]
      unfold Ck.EvEnd
      rw [e0, eL]
      obtain ⟨N, rfl⟩ : ∃ N : Nat, n = (N : Int) := ⟨n.toNat, by omega⟩
      obtain ⟨M, rfl⟩ : ∃ M : Nat, m = (M : Int) := ⟨m.toNat, by omega⟩
      rw [Int.toNat_natCast, Int.toNat_natCast]
      have HS := Lib.hid (refSizes14_any N M w (by omega) (by omega) (by omega))
      unfold Ck.SzEnd at HS
      clear h1 e0 eL
      go_enter Try.func33, Try.ntmps33
      go_wp2_with fail
      refine HS.out.mono ?_
      rintro e w1 ⟨v, rfl, hm⟩
      have R : Hid (∃ u, Ending.returned (.tuple #[v, .int .i64 0]) = .returned (.tuple #[u, .int .i64 0]) ∧ V.Made 3 (Ck.ints (C14.sizes N M)) w u w1) := ⟨_, rfl, hm⟩
      clear hm HS
      go_wp2
      go_ret2
      exact R.out
set_option maxRecDepth 100000 in
set_option maxHeartbeats 1000000 in
theorem refJoin14_any (a b : ByteArray) (w : World) : Calls Try.prog 35 #[.string a, .string b] w (Ck.JnEnd a.data.toList b.data.toList w) := by
  have HA := Lib.hid (fun W => refLeaf14_any a W)
  have HB := Lib.hid (fun W => refLeaf14_any b W)
  by_cases ha : C14.leaf a.data.toList = true
  · by_cases hb : C14.leaf b.data.toList = true
    · obtain ⟨a1, a2⟩ := (C14.leaf_iff _).1 ha
      obtain ⟨b1, b2⟩ := (C14.leaf_iff _).1 hb
      have hap : (a ++ b).data.toList = a.data.toList ++ b.data.toList := by simp
      have hsz : (a ++ b).size = a.size + b.size := ByteArray.size_append
      have hno : ¬ 9223372036854775807 < a.size + b.size := by rw [Ck.len] at a2 b2; omega
      have OK : Hid (∀ v w', V.Made 9 (Ck.strs (C14.join a.data.toList b.data.toList)) w v w' → Ck.JnEnd a.data.toList b.data.toList w (.returned (.tuple #[v, .int .i64 0])) w') := fun v w' => Ck.jn_ok ha hb
      have J : C14.join a.data.toList b.data.toList = if (a ++ b).size ≤ 16 then [(a ++ b).data.toList] else if 8 ≤ a.size ∧ 8 ≤ b.size then [a.data.toList, b.data.toList] else [(a ++ b).data.toList.take (((a ++ b).size + 1) / 2), (a ++ b).data.toList.drop (((a ++ b).size + 1) / 2)] := by
        unfold C14.join; rw [← hap, Ck.len, Ck.len, Ck.len]
      rw [ha] at HA
      rw [hb] at HB
      rw [Ck.len] at a1 a2 b1 b2
      clear ha hb hap
      by_cases h16 : a.size + b.size ≤ 16
      · rw [if_pos (by omega)] at J
        have h17 : (a.size : Int) + (b.size : Int) ≤ 16 := by omega
        have R := OK.out (.slice (some ⟨w.heap.size, 0, none⟩) 1 1) (w.alloc (.cells #[.string (a ++ b)] 9)) (by
          rw [J, V.str_of (a ++ b)]
          exact Ck.lit w (Ck.strs [(a ++ b).data.toList]) 9 1 rfl (by decide))
        have R := Lib.hid R
        clear OK J hsz h16
        go_enter Try.func35, Try.ntmps35
        go_wp2_with fail
        refine (HA.out _).mono ?_
        rintro e w1 ⟨rfl, rfl⟩
        go_wp2_with fail
        refine (HB.out _).mono ?_
        rintro e w1 ⟨rfl, rfl⟩
        clear HA HB
        go_wp2
        go_ret2
        exact R.out
      · rw [if_neg (by omega)] at J
        have h17 : ¬ (a ++ b).size ≤ 16 := by omega
        by_cases h8 : 8 ≤ a.size ∧ 8 ≤ b.size
        · rw [if_pos h8] at J
          obtain ⟨p8, q8⟩ := h8
          have R := OK.out (.slice (some ⟨w.heap.size, 0, none⟩) 2 2) (w.alloc (.cells #[.string a, .string b] 9)) (by
            rw [J, V.str_of a, V.str_of b]
            exact Ck.lit w (Ck.strs [a.data.toList, b.data.toList]) 9 2 rfl (by decide))
          have R := Lib.hid R
          have h18 : ¬ (a.size : Int) + (b.size : Int) ≤ 16 := by omega
          clear OK J h16 h17 hsz
          go_enter Try.func35, Try.ntmps35
          go_wp2_with fail
          refine (HA.out _).mono ?_
          rintro e w1 ⟨rfl, rfl⟩
          go_wp2_with fail
          refine (HB.out _).mono ?_
          rintro e w1 ⟨rfl, rfl⟩
          clear HA HB
          go_wp2
          go_ret2
          exact R.out
        · rw [if_neg h8] at J
          obtain ⟨c, hc⟩ : ∃ c, a ++ b = c := ⟨_, rfl⟩
          rw [hc] at J hsz h17
          obtain ⟨K, hK⟩ : ∃ K, Hid ((c.size + 1) / 2 = K) := ⟨_, rfl⟩
          have kd := Ck.tdiv (c.size + 1) 2
          rw [hK.out] at J kd
          have hKl : K ≤ c.size := by have := hK.out; omega
          have hK2 : c.size ≤ 32 := by omega
          have kd : ((c.size : Int) + 1).tdiv 2 = (K : Int) := kd
          have R := OK.out (.slice (some ⟨w.heap.size, 0, none⟩) 2 2) (w.alloc (.cells #[.string (c.extract 0 K), .string (c.extract K c.size)] 9)) (by
            rw [J, Ck.take_at rfl K, V.str_of (c.extract K c.size), Ck.drop_at rfl K]
            exact Ck.lit w (Ck.strs [c.data.toList.take K, c.data.toList.drop K]) 9 2 rfl (by decide))
          obtain ⟨v, r1, r2⟩ := R
          have R : Hid (Ck.JnEnd a.data.toList b.data.toList w (.returned (.tuple #[.slice (some ⟨w.heap.size, 0, none⟩) 2 2, .int .i64 0])) (w.alloc (.cells #[.string (c.extract 0 K), .string (c.extract K c.size)] 9)).drew) := ⟨v, r1, r2.drew⟩
          have hcat : ∀ V, (Op.stringOp .add a b).run Try.prog V = .ok (.string c) V := fun V => by rw [← hc]; exact run_string_add_sum V a b (by omega)
          clear OK J h16 r1 r2 hno hc hsz
          by_cases h9 : 8 ≤ a.size
          · have h10 : ¬ 8 ≤ b.size := fun h => h8 ⟨h9, h⟩
            clear h8
            go_enter Try.func35, Try.ntmps35
            go_wp2_with fail
            refine (HA.out _).mono ?_
            rintro e w1 ⟨rfl, rfl⟩
            go_wp2_with fail
            refine (HB.out _).mono ?_
            rintro e w1 ⟨rfl, rfl⟩
            clear HA HB
            go_upto_region 9 with (fail)
            clear hcat kd
            go_region
            all_goals
              go_wp2
              go_ret2
              exact R.out
          · clear h8
            go_enter Try.func35, Try.ntmps35
            go_wp2_with fail
            refine (HA.out _).mono ?_
            rintro e w1 ⟨rfl, rfl⟩
            go_wp2_with fail
            refine (HB.out _).mono ?_
            rintro e w1 ⟨rfl, rfl⟩
            clear HA HB
            go_upto_region 9 with (fail)
            clear hcat kd
            go_region
            all_goals
              go_wp2
              go_ret2
              exact R.out
    · have R := Lib.hid (Ck.jn_bad (a := a.data.toList) (b := b.data.toList) (fun h => hb h.2) w)
      rw [ha] at HA
      rw [Bool.eq_false_iff.2 hb] at HB
      clear ha hb
      go_enter Try.func35, Try.ntmps35
      go_wp2_with fail
      refine (HA.out _).mono ?_
      rintro e w1 ⟨rfl, rfl⟩
      go_wp2_with fail
      refine (HB.out _).mono ?_
      rintro e w1 ⟨rfl, rfl⟩
      clear HA HB
      go_wp2
      go_ret2
      exact R.out
  · have R := Lib.hid (Ck.jn_bad (a := a.data.toList) (b := b.data.toList) (fun h => ha h.1) w)
    rw [Bool.eq_false_iff.2 ha] at HA
    clear ha HB
    go_enter Try.func35, Try.ntmps35
    go_wp2_with fail
    refine (HA.out _).mono ?_
    rintro e w1 ⟨rfl, rfl⟩
    clear HA
    go_wp2
    go_ret2
    exact R.out
end Go.Proofs.Ytniccjbcchdkoaa
