/- The walk of layer 14's law Back. -/
import Derived.Test.YtniccjbcchdkoaaCkLaws1
namespace Go.Proofs.Ytniccjbcchdkoaa
open Go.RowKit

theorem Ck.size0 {t : ByteArray} (h : t.size = 0) : t = ⟨#[]⟩ := by
  obtain ⟨⟨l⟩⟩ := t
  have : l = [] := List.eq_nil_of_length_eq_zero h
  rw [this]
theorem Ck.size1 {t : ByteArray} (h : t.size ≠ 0) : t.toList.isEmpty = false ∧ ¬ t.toList = [] := by
  have e : t.toList.isEmpty = false := by rw [D.isEmpty_eq]; exact decide_eq_false h
  exact ⟨e, fun x => by rw [x] at e; cases e⟩
theorem Ck.str_add (s t : List UInt8) : (⟨s.toArray⟩ : ByteArray) ++ ⟨t.toArray⟩ = ⟨(s ++ t).toArray⟩ := by
  rw [← D.bytes_eq ((⟨s.toArray⟩ : ByteArray) ++ ⟨t.toArray⟩)]; simp
set_option maxRecDepth 100000 in
set_option maxHeartbeats 4000000 in
theorem chunkBack_walk (s : ByteArray) (n : Int) (w : World) (_ : s.size ≤ 140737488351232) (n0 : -9223372036854775808 ≤ n) (n1 : n < 9223372036854775808) :
    Calls Try.prog 10 #[.string s, .int .i64 n] w fun e w' => e = .returned (.bool true) ∧ Below w.heap.size w w' := by
  have HW := Ck.hW
  have HC := cut14_any s n w n0 (by omega)
  unfold Ck.CtEnd at HC
  have hlf := C14.leaf_iff s.data.toList
  rw [Ck.len] at hlf
  by_cases h0 : C14.ctE s.data.toList n = 0
  · obtain ⟨g1, g2, g3⟩ := (C14.ctE_iff _ _).1 h0
    obtain ⟨l1, l2⟩ := hlf.1 g1
    rw [Ck.len] at g3
    obtain ⟨K, rfl⟩ : ∃ K : Nat, n = (K : Int) := ⟨n.toNat, by omega⟩
    have hKs : K ≤ s.size := by omega
    have eL : C14.ctL s.data.toList (K : Int) = s.data.toList.take K := by unfold C14.ctL; rw [if_pos h0, Int.toNat_natCast]
    have eR : C14.ctR s.data.toList (K : Int) = s.data.toList.drop K := by unfold C14.ctR; rw [if_pos h0, Int.toNat_natCast]
    rw [h0, eL, eR] at HC
    have xl : (⟨(s.data.toList.take K).toArray⟩ : ByteArray).size = K := by rw [D.size_l, List.length_take, Ck.len]; omega
    have yl : (⟨(s.data.toList.drop K).toArray⟩ : ByteArray).size = s.size - K := by rw [D.size_l, List.length_drop, Ck.len]
    have xy : (⟨(s.data.toList.take K).toArray⟩ : ByteArray) ++ ⟨(s.data.toList.drop K).toArray⟩ = s := by rw [Ck.str_add, List.take_append_drop, D.bytes_eq]
    have HJ : Hid (∀ W, 1 ≤ K → K < s.size → Calls Try.prog 31 #[V.str (s.data.toList.take K), V.str (s.data.toList.drop K)] W (fun e w' => ∃ v, e = .returned (.tuple #[v, .int .i64 0]) ∧ V.Made 9 [.string s] W v w')) := fun W k1 k2 => by
      have := join14_any ⟨(s.data.toList.take K).toArray⟩ ⟨(s.data.toList.drop K).toArray⟩ W
      unfold Ck.JnEnd at this
      dsimp only at this
      have lx : C14.leaf (s.data.toList.take K) = true := (C14.leaf_iff _).2 (by rw [← D.size_l, xl]; omega)
      have ly : C14.leaf (s.data.toList.drop K) = true := (C14.leaf_iff _).2 (by rw [← D.size_l, yl]; omega)
      have e1 : C14.jnE (s.data.toList.take K) (s.data.toList.drop K) = 0 := if_pos ⟨lx, ly⟩
      have e2 : C14.jnL (s.data.toList.take K) (s.data.toList.drop K) = [s.data.toList] := by unfold C14.jnL; rw [if_pos e1, C14.join_cut g1]
      rw [e1, e2] at this
      rw [V.str_of s]
      exact this
    unfold V.str at HC HJ
    have HC := Lib.hid HC
    clear hlf h0 g1 eL eR n0 n1 g2 g3
    generalize (⟨(s.data.toList.take K).toArray⟩ : ByteArray) = x at *
    generalize (⟨(s.data.toList.drop K).toArray⟩ : ByteArray) = y at *
    have hcat : ∀ V, (Op.stringOp .add x y).run Try.prog V = .ok (.string s) V := fun V => by rw [← xy]; exact run_string_add_sum V x y (by omega)
    have q1 : ¬ (s.size : Int) < (K : Int) := by omega
    have hXl := Lib.hid xl
    have hYl := Lib.hid yl
    have xlI : (x.size : Int) = (K : Int) := by omega
    clear xl yl xy
    by_cases k0 : K = 0
    · subst k0
      obtain rfl : x = ⟨#[]⟩ := Ck.size0 hXl.out
      clear xlI HJ
      go_enter Try.func10, Try.ntmps10
      go_wp2_with fail
      refine HC.out.mono ?_
      rintro e w1 ⟨rfl, hb⟩
      have B1 := Lib.hid hb
      clear hb HC
      go_wp2_with fail
      refine (HW.out _).mono ?_
      rintro e w2 ⟨rfl, hb⟩
      have B2 := Lib.hid (B1.out.trans (hb.mono B1.out.size))
      clear hb HW
      go_wp2
      go_ret
      exact ⟨rfl, B2.out⟩
    · obtain ⟨x1, x2⟩ := Ck.size1 (t := x) (by rw [hXl.out]; exact k0)
      by_cases ks : K = s.size
      · obtain rfl : y = ⟨#[]⟩ := Ck.size0 (by rw [hYl.out]; omega)
        clear HJ ks
        go_enter Try.func10, Try.ntmps10
        go_wp2_with fail
        refine HC.out.mono ?_
        rintro e w1 ⟨rfl, hb⟩
        have B1 := Lib.hid hb
        clear hb HC
        go_wp2_with fail
        refine (HW.out _).mono ?_
        rintro e w2 ⟨rfl, hb⟩
        have B2 := Lib.hid (B1.out.trans (hb.mono B1.out.size))
        clear hb HW
        go_wp2
        go_ret
        exact ⟨rfl, B2.out⟩
      · obtain ⟨y1, y2⟩ := Ck.size1 (t := y) (by rw [hYl.out]; omega)
        have HJ := Lib.hid (fun W => HJ.out W (by omega) (by omega))
        clear ks k0
        go_enter Try.func10, Try.ntmps10
        go_wp2_with fail
        refine HC.out.mono ?_
        rintro e w1 ⟨rfl, hb⟩
        have B1 := Lib.hid hb
        clear hb HC
        go_wp2_with fail
        refine (HJ.out _).mono ?_
        rintro e w2 ⟨v, rfl, hm⟩
        obtain ⟨ao, ca, hv, hrow⟩ := hm.row
        have hv : v = .slice ao 1 ca := hv
        subst hv
        obtain ⟨b, o, rfl, hbl, c0⟩ := hrow 0 _ rfl
        rw [Nat.add_zero] at c0
        have B2 := Lib.hid (B1.out.trans (hm.below.mono B1.out.size))
        clear hm hrow HJ
        go_wp2
        go_ret
        exact ⟨rfl, B2.out⟩
  · have eL : C14.ctL s.data.toList n = [] := by unfold C14.ctL; rw [if_neg h0]
    have eR : C14.ctR s.data.toList n = [] := by unfold C14.ctR; rw [if_neg h0]
    rw [eL, eR] at HC
    have HC := Lib.hid HC
    have hiff : Hid (¬ (1 ≤ s.size ∧ s.size ≤ 16 ∧ 0 ≤ n ∧ n ≤ s.size)) := fun ⟨a, b, c, d⟩ => h0 ((C14.ctE_iff _ _).2 ⟨hlf.2 ⟨a, b⟩, c, by rw [Ck.len]; exact d⟩)
    obtain ⟨z, hz⟩ : ∃ z, C14.ctE s.data.toList n = z := ⟨_, rfl⟩
    rw [hz] at HC h0
    have hz0 : (z != 0) = true := by simpa using h0
    unfold V.str at HC
    clear eL eR hlf hz h0
    by_cases p1 : s.size < 1
    · clear hiff
      go_enter Try.func10, Try.ntmps10
      go_wp2_with fail
      refine HC.out.mono ?_
      rintro e w1 ⟨rfl, hb⟩
      have B1 := Lib.hid hb
      clear hb HC
      go_wp2_with fail
      refine (HW.out _).mono ?_
      rintro e w2 ⟨rfl, hb⟩
      have B2 := Lib.hid (B1.out.trans (hb.mono B1.out.size))
      clear hb HW
      go_wp2
      go_ret
      exact ⟨rfl, B2.out⟩
    · by_cases p2 : 16 < s.size
      · clear hiff
        go_enter Try.func10, Try.ntmps10
        go_wp2_with fail
        refine HC.out.mono ?_
        rintro e w1 ⟨rfl, hb⟩
        have B1 := Lib.hid hb
        clear hb HC
        go_wp2_with fail
        refine (HW.out _).mono ?_
        rintro e w2 ⟨rfl, hb⟩
        have B2 := Lib.hid (B1.out.trans (hb.mono B1.out.size))
        clear hb HW
        go_wp2
        go_ret
        exact ⟨rfl, B2.out⟩
      · by_cases p3 : n < 0
        · clear hiff
          go_enter Try.func10, Try.ntmps10
          go_wp2_with fail
          refine HC.out.mono ?_
          rintro e w1 ⟨rfl, hb⟩
          have B1 := Lib.hid hb
          clear hb HC
          go_wp2_with fail
          refine (HW.out _).mono ?_
          rintro e w2 ⟨rfl, hb⟩
          have B2 := Lib.hid (B1.out.trans (hb.mono B1.out.size))
          clear hb HW
          go_wp2
          go_ret
          exact ⟨rfl, B2.out⟩
        · have p4 : (s.size : Int) < n := by
            by_cases p5 : (s.size : Int) < n
            · exact p5
            · exact absurd ⟨by omega, by omega, by omega, by omega⟩ hiff.out
          clear hiff
          go_enter Try.func10, Try.ntmps10
          go_wp2_with fail
          refine HC.out.mono ?_
          rintro e w1 ⟨rfl, hb⟩
          have B1 := Lib.hid hb
          clear hb HC
          go_wp2_with fail
          refine (HW.out _).mono ?_
          rintro e w2 ⟨rfl, hb⟩
          have B2 := Lib.hid (B1.out.trans (hb.mono B1.out.size))
          clear hb HW
          go_wp2
          go_ret
          exact ⟨rfl, B2.out⟩
end Go.Proofs.Ytniccjbcchdkoaa
