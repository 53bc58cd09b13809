/- Texts joined: FreeKit1 -/
import Derived.Test.YtniccjbcchdkoaaPackFPkg
/- FreeKit1 -/
namespace Go.Proofs.Ytniccjbcchdkoaa
open Go.RowKit

theorem FL.row_at {l : List Nat} {W : World} {ao : Option Addr} (h : V.Row W ao (FL.ints l)) {i x : Nat} (hx : l[i]? = some x) : ∃ b o, ao = some ⟨b, o, none⟩ ∧ b < W.heap.size ∧ W.cell? ⟨b, o + i, none⟩ = some (.int .i64 (x : Int)) :=
  h i _ (FL.ints_at hx)
set_option maxHeartbeats 1000000 in
theorem equalInts_any (ao bo : Option Addr) (ca cb : Nat) (a b : List Nat) (w : World) (ha : V.Row w ao (FL.ints a)) (hb : V.Row w bo (FL.ints b)) (la : a.length ≤ maxLen) :
    Calls Try.prog 61 #[.slice ao a.length ca, .slice bo b.length cb] w fun e w' => e = .returned (.bool (decide (a = b))) ∧ Below w.heap.size w w' := by
  unfold maxLen at la
  by_cases hl : a.length = b.length
  · have Ha := Lib.hid ha
    have Hb := Lib.hid hb
    have Hl := Lib.hid hl
    have hq : ((a.length : Int) != (b.length : Int)) = false := by simp [hl]
    clear ha hb hl
    go_enter Try.func61, Try.ntmps61
    go_wp2
    go_loopw [5] (fun j wr => ∃ k : Nat, k ≤ a.length ∧ j = .int .i64 k ∧ Hid (a.drop k = b.drop k ↔ a = b) ∧ Hid (Below w.heap.size w wr)) (fun j _ => a.length - (intOf j).toNat)
    case atStart => exact ⟨0, Nat.zero_le _, rfl, Iff.rfl, Below.refl _ _⟩
    case round =>
      obtain ⟨k, hk, rfl, hs, hw⟩ := hrel
      by_cases hlt : k < a.length
      · obtain ⟨p, hp, hpd⟩ := H.drop_cons hlt
        obtain ⟨r, hr, hrd⟩ := H.drop_cons (l := b) (k := k) (by have := Hl.out; omega)
        obtain ⟨b1, o1, e1, l1, hc⟩ := FL.row_at Ha.out hp
        obtain ⟨b2, o2, e2, l2, hd⟩ := FL.row_at Hb.out hr
        have c0 := H.cell hw.out l1 hc
        have d0 := H.cell hw.out l2 hd
        clear hc hd
        subst e1
        subst e2
        have hkb : k < b.length := by have := Hl.out; omega
        have hst : Hid ((p = r ∧ a.drop (k + 1) = b.drop (k + 1)) ↔ a = b) := by show _ ↔ _; rw [← hs.out, hpd, hrd, List.cons.injEq]
        obtain ⟨pi, hpi⟩ : ∃ pi : Int, (p : Int) = pi := ⟨_, rfl⟩
        obtain ⟨ri, hri⟩ : ∃ ri : Int, (r : Int) = ri := ⟨_, rfl⟩
        rw [hpi] at c0
        rw [hri] at d0
        by_cases hpe : p = r
        · have hn : Hid (a.drop (k + 1) = b.drop (k + 1) ↔ a = b) := by show _ ↔ _; rw [← hst.out]; simp [hpe]
          have q1 : (pi != ri) = false := by rw [← hpi, ← hri, hpe]; simp
          clear hpd hrd hp hr hpe hs hst hpi hri
          go_wp2_with fail
          go_quiet (fail)
          go_wp2
          go_roundw
          case rel => exact ⟨k + 1, by omega, by go_num, hn, H.drewN hw.out _⟩
          case measure => simp [intOf]; omega
        · have hn : Hid (decide (a = b) = false) := by show _ = _; rw [decide_eq_false_iff_not, ← hst.out]; exact fun h => hpe h.1
          have q1 : (pi != ri) = true := by rw [← hpi, ← hri]; simp; omega
          clear hpd hrd hp hr hpe hs hst hpi hri
          go_wp2_with fail
          go_quiet (fail)
          go_wp2
          go_ret
          exact ⟨by rw [hn.out]; rfl, H.drewN hw.out _⟩
      · obtain rfl : k = a.length := by omega
        have hn : Hid (decide (a = b) = true) := by show _ = _; rw [decide_eq_true_iff, ← hs.out, List.drop_length, Hl.out, List.drop_length]
        go_wp2
        go_ret
        exact ⟨by rw [hn.out]; rfl, hw.out⟩
  · have hn : Hid (decide (a = b) = false) := by show _ = _; rw [decide_eq_false_iff_not]; exact fun h => hl (by rw [h])
    have hq : ((a.length : Int) != (b.length : Int)) = true := by simp; omega
    clear ha hb hl
    go_enter Try.func61, Try.ntmps61
    go_wp2
    go_ret
    exact ⟨by rw [hn.out]; rfl, Below.refl _ _⟩
/-! ### mod -/
theorem FL.mod_of (n m : Int) (hm : 0 < m) : (n.tmod m + m).tmod m = n % m := by
  rcases Int.lt_or_le n 0 with h | h
  · have e : n.tmod m = -((-n) % m) := by
      rw [← Int.tmod_eq_emod_of_nonneg (by omega), Int.neg_tmod, Int.neg_neg]
    have b0 := Int.emod_nonneg (-n) (show m ≠ 0 by omega)
    have b1 := Int.emod_lt_of_pos (-n) hm
    rw [e, Int.tmod_eq_emod_of_nonneg (by omega)]
    have d := Int.emod_add_mul_ediv (-n) m
    have e2 : n = (-((-n) % m) + m) + m * (-((-n) / m) - 1) := by rw [Int.mul_sub, Int.mul_neg, Int.mul_one]; omega
    conv => rhs; rw [e2]
    rw [Int.add_mul_emod_self_left]
  · rw [Int.tmod_eq_emod_of_nonneg h, Int.tmod_eq_emod_of_nonneg (by have := Int.emod_nonneg n (show m ≠ 0 by omega); omega), Int.add_emod_right, Int.emod_emod_of_dvd n (Int.dvd_refl m)]
theorem FL.tmod_bd (n m : Int) (hm : 0 < m) : -m < n.tmod m ∧ n.tmod m < m := by
  rcases Int.lt_or_le n 0 with h | h
  · have e : n.tmod m = -((-n) % m) := by
      rw [← Int.tmod_eq_emod_of_nonneg (by omega), Int.neg_tmod, Int.neg_neg]
    have b0 := Int.emod_nonneg (-n) (show m ≠ 0 by omega)
    have b1 := Int.emod_lt_of_pos (-n) hm
    omega
  · rw [Int.tmod_eq_emod_of_nonneg h]
    have b0 := Int.emod_nonneg n (show m ≠ 0 by omega)
    have b1 := Int.emod_lt_of_pos n hm
    omega
set_option maxRecDepth 100000 in
theorem mod11_any (n m : Int) (hm : 0 < m) (hm1 : m ≤ 1000000000) (w : World) : Calls Try.prog 51 #[.int .i64 n, .int .i64 m] w fun x w' => x = .returned (.int .i64 (n % m)) ∧ w = w' := by
  have e1 := FL.mod_of n m hm
  obtain ⟨b1, b2⟩ := FL.tmod_bd n m hm
  generalize n % m = z at *
  obtain ⟨t, ht⟩ : ∃ t, n.tmod m = t := ⟨_, rfl⟩
  rw [ht] at e1 b1 b2
  have w1 : IntKind.i64.wrap (t + m) = t + m := IntWalk.i64_in _ (by omega)
  have b0 := FL.tmod_bd (t + m) m hm
  rw [e1] at b0
  have w2 : IntKind.i64.wrap t = t := IntWalk.i64_in _ (by omega)
  have w3 : IntKind.i64.wrap z = z := IntWalk.i64_in _ (by omega)
  have hm0 : (m == 0) = false := by simp; omega
  clear b0
  go_enter Try.func51, Try.ntmps51
  go_wp2
  go_ret
  exact ⟨rfl, rfl⟩
/-! ### has -/
end Go.Proofs.Ytniccjbcchdkoaa
