/- Texts joined: FreeKit1 FreeKit2 FreeAwake FreeAwake2 -/
import Derived.Test.YtndpknkdmaojaaaDoorPackFPkg
import Derived.Test.YtndpknkdmaojaaaDoorPackFRef
import Derived.Test.YtndpknkdmaojaaaDoorHandPkg4
/- FreeKit1 -/
namespace Go.Proofs.YtndpknkdmaojaaaDoor
open Go.RowKit

theorem FL.row_at {l : List Nat} {W : World} {ao : Option Addr} (h : V.Row W ao (FL.ints l)) {i x : Nat} (hx : l[i]? = some x) : ∃ b o, ao = some ⟨b, o, none⟩ ∧ b < W.heap.size ∧ W.cell? ⟨b, o + i, none⟩ = some (.int .i64 (x : Int)) :=
  h i _ (FL.ints_at hx)
set_option maxHeartbeats 1000000 in
theorem equalInts_any (ao bo : Option Addr) (ca cb : Nat) (a b : List Nat) (w : World) (ha : V.Row w ao (FL.ints a)) (hb : V.Row w bo (FL.ints b)) (la : a.length ≤ maxLen) :
    Calls Tryd.prog 20 #[.slice ao a.length ca, .slice bo b.length cb] w fun e w' => e = .returned (.bool (decide (a = b))) ∧ Below w.heap.size w w' := by
  unfold maxLen at la
  by_cases hl : a.length = b.length
  · have Ha := Lib.hid ha
    have Hb := Lib.hid hb
    have Hl := Lib.hid hl
    have hq : ((a.length : Int) != (b.length : Int)) = false := by simp [hl]
    clear ha hb hl
    go_enter Tryd.func20, Tryd.ntmps20
    go_wp2
    go_loopw [5] (fun j wr => ∃ k : Nat, k ≤ a.length ∧ j = .int .i64 k ∧ Hid (a.drop k = b.drop k ↔ a = b) ∧ Hid (Below w.heap.size w wr)) (fun j _ => a.length - (intOf j).toNat)
    case atStart => exact ⟨0, Nat.zero_le _, rfl, Iff.rfl, Below.refl _ _⟩
    case round =>
      obtain ⟨k, hk, rfl, hs, hw⟩ := hrel
      by_cases hlt : k < a.length
      · obtain ⟨p, hp, hpd⟩ := H.drop_cons hlt
        obtain ⟨r, hr, hrd⟩ := H.drop_cons (l := b) (k := k) (by have := Hl.out; omega)
        obtain ⟨b1, o1, e1, l1, hc⟩ := FL.row_at Ha.out hp
        obtain ⟨b2, o2, e2, l2, hd⟩ := FL.row_at Hb.out hr
        have c0 := H.cell hw.out l1 hc
        have d0 := H.cell hw.out l2 hd
        clear hc hd
        subst e1
        subst e2
        have hkb : k < b.length := by have := Hl.out; omega
        have hst : Hid ((p = r ∧ a.drop (k + 1) = b.drop (k + 1)) ↔ a = b) := by show _ ↔ _; rw [← hs.out, hpd, hrd, List.cons.injEq]
        obtain ⟨pi, hpi⟩ : ∃ pi : Int, (p : Int) = pi := ⟨_, rfl⟩
        obtain ⟨ri, hri⟩ : ∃ ri : Int, (r : Int) = ri := ⟨_, rfl⟩
        rw [hpi] at c0
        rw [hri] at d0
        by_cases hpe : p = r
        · have hn : Hid (a.drop (k + 1) = b.drop (k + 1) ↔ a = b) := by show _ ↔ _; rw [← hst.out]; simp [hpe]
          have q1 : (pi != ri) = false := by rw [← hpi, ← hri, hpe]; simp
          clear hpd hrd hp hr hpe hs hst hpi hri
          go_wp2_with fail
          go_quiet (fail)
          go_wp2
          go_roundw
          case rel => exact ⟨k + 1, by omega, by go_num, hn, H.drewN hw.out _⟩
          case measure => simp [intOf]; omega
        · have hn : Hid (decide (a = b) = false) := by show _ = _; rw [decide_eq_false_iff_not, ← hst.out]; exact fun h => hpe h.1
          have q1 : (pi != ri) = true := by rw [← hpi, ← hri]; simp; omega
          clear hpd hrd hp hr hpe hs hst hpi hri
          go_wp2_with fail
          go_quiet (fail)
          go_wp2
          go_ret
          exact ⟨by rw [hn.out]; rfl, H.drewN hw.out _⟩
      · obtain rfl : k = a.length := by omega
        have hn : Hid (decide (a = b) = true) := by show _ = _; rw [decide_eq_true_iff, ← hs.out, List.drop_length, Hl.out, List.drop_length]
        go_wp2
        go_ret
        exact ⟨by rw [hn.out]; rfl, hw.out⟩
  · have hn : Hid (decide (a = b) = false) := by show _ = _; rw [decide_eq_false_iff_not]; exact fun h => hl (by rw [h])
    have hq : ((a.length : Int) != (b.length : Int)) = true := by simp; omega
    clear ha hb hl
    go_enter Tryd.func20, Tryd.ntmps20
    go_wp2
    go_ret
    exact ⟨by rw [hn.out]; rfl, Below.refl _ _⟩
/-! ### mod -/
theorem FL.mod_of (n m : Int) (hm : 0 < m) : (n.tmod m + m).tmod m = n % m := by
  rcases Int.lt_or_le n 0 with h | h
  · have e : n.tmod m = -((-n) % m) := by
      rw [← Int.tmod_eq_emod_of_nonneg (by omega), Int.neg_tmod, Int.neg_neg]
    have b0 := Int.emod_nonneg (-n) (show m ≠ 0 by omega)
    have b1 := Int.emod_lt_of_pos (-n) hm
    rw [e, Int.tmod_eq_emod_of_nonneg (by omega)]
    have d := Int.emod_add_mul_ediv (-n) m
    have e2 : n = (-((-n) % m) + m) + m * (-((-n) / m) - 1) := by rw [Int.mul_sub, Int.mul_neg, Int.mul_one]; omega
    conv => rhs; rw [e2]
    rw [Int.add_mul_emod_self_left]
  · rw [Int.tmod_eq_emod_of_nonneg h, Int.tmod_eq_emod_of_nonneg (by have := Int.emod_nonneg n (show m ≠ 0 by omega); omega), Int.add_emod_right, Int.emod_emod_of_dvd n (Int.dvd_refl m)]
theorem FL.tmod_bd (n m : Int) (hm : 0 < m) : -m < n.tmod m ∧ n.tmod m < m := by
  rcases Int.lt_or_le n 0 with h | h
  · have e : n.tmod m = -((-n) % m) := by
      rw [← Int.tmod_eq_emod_of_nonneg (by omega), Int.neg_tmod, Int.neg_neg]
    have b0 := Int.emod_nonneg (-n) (show m ≠ 0 by omega)
    have b1 := Int.emod_lt_of_pos (-n) hm
    omega
  · rw [Int.tmod_eq_emod_of_nonneg h]
    have b0 := Int.emod_nonneg n (show m ≠ 0 by omega)
    have b1 := Int.emod_lt_of_pos n hm
    omega
set_option maxRecDepth 100000 in
theorem mod11_any (n m : Int) (hm : 0 < m) (hm1 : m ≤ 1000000000) (w : World) : Calls Tryd.prog 11 #[.int .i64 n, .int .i64 m] w fun x w' => x = .returned (.int .i64 (n % m)) ∧ w = w' := by
  have e1 := FL.mod_of n m hm
  obtain ⟨b1, b2⟩ := FL.tmod_bd n m hm
  generalize n % m = z at *
  obtain ⟨t, ht⟩ : ∃ t, n.tmod m = t := ⟨_, rfl⟩
  rw [ht] at e1 b1 b2
  have w1 : IntKind.i64.wrap (t + m) = t + m := IntWalk.i64_in _ (by omega)
  have b0 := FL.tmod_bd (t + m) m hm
  rw [e1] at b0
  have w2 : IntKind.i64.wrap t = t := IntWalk.i64_in _ (by omega)
  have w3 : IntKind.i64.wrap z = z := IntWalk.i64_in _ (by omega)
  have hm0 : (m == 0) = false := by simp; omega
  clear b0
  go_enter Tryd.func11, Tryd.ntmps11
  go_wp2
  go_ret
  exact ⟨rfl, rfl⟩
/-! ### has -/
set_option maxHeartbeats 1000000 in
theorem has11_any (ao : Option Addr) (ca : Nat) (l : List Nat) (h : Nat) (w : World) (ha : V.Row w ao (H.row l)) (la : l.length ≤ maxLen) :
    Calls Tryd.prog 30 #[.slice ao l.length ca, .int .u64 (h : Int)] w fun e w' => e = .returned (.bool (decide (h ∈ l))) ∧ w' = w := by
  unfold maxLen at la
  have Ha := Lib.hid ha
  clear ha
  obtain ⟨hi, hhi⟩ : ∃ hi : Int, Hid ((h : Int) = hi) := ⟨_, rfl⟩
  rw [hhi.out]
  go_enter Tryd.func30, Tryd.ntmps30
  go_wp2
  go_loopw [5] (fun j wr => ∃ k : Nat, k ≤ l.length ∧ j = .int .i64 k ∧ Hid (h ∉ l.take k) ∧ wr = w) (fun j _ => l.length - (intOf j).toNat)
  case atStart => exact ⟨0, Nat.zero_le _, rfl, (by show h ∉ l.take 0; simp), rfl⟩
  case round =>
    obtain ⟨k, hk, rfl, hs, rfl⟩ := hrel
    by_cases hlt : k < l.length
    · obtain ⟨p, hp, hpd⟩ := H.drop_cons hlt
      obtain ⟨b1, o1, e1, l1, hc⟩ := H.row_at Ha.out hp
      have c0 := hc
      clear hc
      subst e1
      obtain ⟨pi, hpi⟩ : ∃ pi : Int, (p : Int) = pi := ⟨_, rfl⟩
      rw [hpi] at c0
      by_cases hpe : p = h
      · have hn : Hid (decide (h ∈ l) = true) := by show _ = _; rw [decide_eq_true_iff, ← hpe]; exact List.mem_of_getElem? hp
        have q1 : (pi == hi) = true := by rw [← hpi, ← hhi.out, hpe]; simp
        clear hpd hp hpe hs hpi
        go_wp2
        go_ret
        exact ⟨by rw [hn.out]; rfl, rfl⟩
      · have hn : Hid (h ∉ l.take (k + 1)) := by
          show _ ∉ _
          rw [List.take_add_one, hp]
          intro c
          rcases List.mem_append.1 c with c | c
          · exact hs.out c
          · exact hpe (List.mem_singleton.1 c).symm
        have q1 : (pi == hi) = false := by rw [← hpi, ← hhi.out]; simp; omega
        clear hpd hp hpe hs hpi
        go_wp2
        go_roundw
        case rel => exact ⟨k + 1, by omega, by go_num, hn, trivial⟩
        case measure => simp [intOf]; omega
    · obtain rfl : k = l.length := by omega
      have hn : Hid (decide (h ∈ l) = false) := by show _ = _; rw [decide_eq_false_iff_not]; have := hs.out; rwa [List.take_length] at this
      go_wp2
      go_ret
      exact ⟨by rw [hn.out]; rfl, rfl⟩
end Go.Proofs.YtndpknkdmaojaaaDoor
/- FreeKit2 -/
namespace Go.Proofs.YtndpknkdmaojaaaDoor
open Go.RowKit

/-! ### spoil -/
/-- A row that is written over lies in a block below the other rows' bases. -/
theorem FL.own_far {W : World} {g i base : Nat} {e : TypeId} {v u : Value} {n : Nat} {xs : List Value} (h : W.ownsRow base e 1 v n xs) (hg : g < base) : (W.setCell ⟨g, i, none⟩ u).ownsRow base e 1 v n xs :=
  (FL.But.set (R := fun k => k = g) W u rfl).row h (fun b hb c => by have := (h.lt b hb).1; omega)
/-- A row of n places of a call's own, whatever it holds. -/
def FL.Pl (base : Nat) (e : TypeId) (v : Value) (n : Nat) (W : World) : Prop := ∃ xs, W.ownsRow base e 1 v n xs
theorem FL.Pl.below {base n : Nat} {e : TypeId} {v : Value} {W W' : World} (h : FL.Pl base e v n W) (hb : Below W.heap.size W W') : FL.Pl base e v n W' := by obtain ⟨xs, h⟩ := h; exact ⟨xs, D.own_below h hb⟩
theorem FL.Pl.far {base n g i : Nat} {e : TypeId} {v u : Value} {W : World} (h : FL.Pl base e v n W) (hg : g < base) : FL.Pl base e v n (W.setCell ⟨g, i, none⟩ u) := by obtain ⟨xs, h⟩ := h; exact ⟨xs, FL.own_far h hg⟩
theorem FL.Pl.slice {base n : Nat} {e : TypeId} {v : Value} {W : World} (h : FL.Pl base e v n W) : ∃ ao c, v = .slice ao n c := by obtain ⟨xs, h⟩ := h; exact D.slice_of_own h
/-- What a store at a place of it wants and leaves. -/
theorem FL.Pl.put {base n : Nat} {e : TypeId} {v : Value} {W : World} (h : FL.Pl base e v n W) {i : Nat} (hi : i < n) : ∃ g c, v = .slice (some ⟨g, 0, none⟩) n c ∧ base ≤ g ∧ g < W.heap.size ∧ (∃ y, W.cell? ⟨g, i, none⟩ = some y) ∧ W.frozen? ⟨g, i, none⟩ = false ∧ ∀ u, FL.Pl base e v n (W.setCell ⟨g, i, none⟩ u) := by
  obtain ⟨xs, h⟩ := h
  obtain ⟨g, c, rfl, r, hb, _⟩ := FL.rw_of h (by omega)
  have hl : xs.length = n := by have := h.1; omega
  obtain ⟨y, hy⟩ : ∃ y, xs[i]? = some y := ⟨_, List.getElem?_eq_getElem (by omega)⟩
  have := r.cell hy
  exact ⟨g, c, rfl, hb, r.lt, ⟨y, this.1⟩, this.2, fun u => ⟨_, V.own_set h i u⟩⟩
theorem FL.Made.pl {e : TypeId} {l : List Value} {w : World} {v : Value} {wr : World} (h : V.Made e l w v wr) : FL.Pl w.heap.size e v l.length wr := ⟨_, h.own⟩
theorem FL.Pl.block {base n : Nat} {e : TypeId} {v : Value} {W : World} (h : FL.Pl base e v n W) : ∀ g c, v = .slice (some ⟨g, 0, none⟩) n c → base ≤ g ∧ g < W.heap.size := by
  obtain ⟨xs, h⟩ := h
  rintro g c rfl
  exact h.lt g rfl
set_option maxHeartbeats 4000000 in
theorem spoil11_any (p : Nat) (s : FL.S) (R : Nat → Prop) (w : World) (hO : FL.Own w p s R) :
    Calls Tryd.prog 17 #[FL.ptr p] w fun e w' => e = .returned (.tuple #[]) ∧ Below w.heap.size w w' := by
  obtain ⟨b1, b2, b3, c1, c2, c3, hA, rfl⟩ := hO
  have HF := Lib.hid (free11_any p b1 b2 b3 c1 c2 c3 s w hA)
  have HA : Hid (∀ V, Below w.heap.size w V → FL.At V p b1 b2 b3 c1 c2 c3 s) := fun V hb => hA.but (R := fun _ => False) (FL.But.below hb) (fun _ _ => id)
  have n1 : (FL.ints s.stk).length ≤ 16384 := by rw [FL.ints_len]; exact Nat.le_trans (FL.stk_len hA.inv) hA.inv.n2
  have n2 : (H.row s.hands).length ≤ 16384 := by rw [H.row_len, ← FL.hk_all]; exact Nat.le_trans (FL.hk_len _ _) hA.inv.n2
  have n3 : (FL.ints (s.those 2)).length ≤ 16384 := by rw [FL.ints_len, ← FL.wk_all]; exact Nat.le_trans (FL.wk_len _ _) hA.inv.n2
  clear hA
  go_enter Tryd.func17, Tryd.ntmps17
  go_wp2_with fail
  refine HF.out.mono ?_
  rintro e w1 ⟨v1, rfl, m1⟩
  have HH := Lib.hid (handles11_any p b1 b2 b3 c1 c2 c3 s w1 (HA.out _ m1.below))
  have B1 := Lib.hid m1.below
  have P1 := Lib.hid (FL.Made.pl m1)
  obtain ⟨ao1, cc1, rfl⟩ := P1.out.slice
  clear m1 HF
  go_wp2_with fail
  refine HH.out.mono ?_
  rintro e w2 ⟨v2, rfl, m2⟩
  have B2 : Hid (Below w.heap.size w w2) := B1.out.trans (m2.below.mono B1.out.size)
  have HW := Lib.hid (withdrawn11_any p b1 b2 b3 c1 c2 c3 s w2 (HA.out _ B2.out))
  have P1' : Hid (FL.Pl w.heap.size 3 (.slice ao1 (FL.ints s.stk).length cc1) (FL.ints s.stk).length w2) := P1.out.below m2.below
  have P2 := Lib.hid (FL.Made.pl (show V.Made _ _ _ _ _ from m2))
  have S1 : Hid (w.heap.size ≤ w1.heap.size) := B1.out.size
  have K1 : Hid (∀ g c, (.slice ao1 (FL.ints s.stk).length cc1 : Value) = .slice (some ⟨g, 0, none⟩) (FL.ints s.stk).length c → w.heap.size ≤ g ∧ g < w1.heap.size) := P1.out.block
  obtain ⟨ao2, cc2, rfl⟩ := P2.out.slice
  have K2 : Hid (∀ g c, (.slice ao2 (H.row s.hands).length cc2 : Value) = .slice (some ⟨g, 0, none⟩) (H.row s.hands).length c → w1.heap.size ≤ g ∧ g < w2.heap.size) := P2.out.block
  have S3' : Hid (w1.heap.size ≤ w2.heap.size) := m2.below.size
  clear m2 HH HA P1 B1
  generalize w1.heap.size = z1 at *
  go_wp2_with fail
  refine HW.out.mono ?_
  rintro e w3 ⟨v3, rfl, m3⟩
  have m3 : V.Made 3 (FL.ints (s.those 2)) w2 v3 w3 := m3
  have B3 : Hid (Below w.heap.size w w3) := B2.out.trans (m3.below.mono B2.out.size)
  have P1 : Hid (FL.Pl w.heap.size 3 (.slice ao1 (FL.ints s.stk).length cc1) (FL.ints s.stk).length w3) := P1'.out.below m3.below
  have P2' : Hid (FL.Pl z1 33 (.slice ao2 (H.row s.hands).length cc2) (H.row s.hands).length w3) := P2.out.below m3.below
  have P3 := Lib.hid (FL.Made.pl m3)
  have S2 : Hid (w.heap.size ≤ w2.heap.size) := B2.out.size
  obtain ⟨ao3, cc3, rfl⟩ := P3.out.slice
  clear m3 HW P1' P2 B2
  generalize w2.heap.size = z2 at *
  generalize (FL.ints s.stk).length = L1 at *
  generalize (H.row s.hands).length = L2 at *
  generalize (FL.ints (s.those 2)).length = L3 at *
  have HS := Lib.hid (show w.heap.size ≤ z1 ∧ z1 ≤ z2 from ⟨S1.out, S3'.out⟩)
  clear S1 S2 S3'
  go_wp2
  go_loopw [5] (fun j wr => ∃ k : Nat, k ≤ L1 ∧ j = .int .i64 k ∧ Hid (Below w.heap.size w wr ∧ FL.Pl w.heap.size 3 (.slice ao1 L1 cc1) L1 wr ∧ FL.Pl z1 33 (.slice ao2 L2 cc2) L2 wr ∧ FL.Pl z2 3 (.slice ao3 L3 cc3) L3 wr)) (fun j _ => L1 - (intOf j).toNat)
  case atStart => exact ⟨0, Nat.zero_le _, rfl, B3.out, P1.out, P2'.out, P3.out⟩
  case round =>
    obtain ⟨k, hk, rfl, hL⟩ := hrel
    clear B3 P1 P2' P3
    by_cases hlt : k < L1
    · obtain ⟨hb, h1, h2, h3⟩ := hL.out
      obtain ⟨g, c, e, l1, l2, ⟨y, hy⟩, hf, hset⟩ := h1.put hlt
      have := HS.out
      have lg := K1.out g c e
      have R := Lib.hid (show Below w.heap.size w (wr.setCell ⟨g, k, none⟩ (.int .i64 (-1))) ∧ FL.Pl w.heap.size 3 (.slice ao1 L1 cc1) L1 (wr.setCell ⟨g, k, none⟩ (.int .i64 (-1))) ∧ FL.Pl z1 33 (.slice ao2 L2 cc2) L2 (wr.setCell ⟨g, k, none⟩ (.int .i64 (-1))) ∧ FL.Pl z2 3 (.slice ao3 L3 cc3) L3 (wr.setCell ⟨g, k, none⟩ (.int .i64 (-1))) from ⟨hb.setCell (p := ⟨g, k, none⟩) l1 _, hset _, h2.far (by omega), h3.far (by omega)⟩)
      cases e
      clear hb h1 h2 h3 hset hL lg this
      go_wp2
      go_roundw
      case rel => exact ⟨k + 1, by omega, by go_num, R⟩
      case measure => simp [intOf]; omega
    · obtain rfl : k = L1 := by omega
      obtain ⟨hb, _, h2, h3⟩ := hL.out
      have B4 := Lib.hid hb
      have P2 := Lib.hid h2
      have P3 := Lib.hid h3
      clear hb h2 h3 hL
      go_wp2
      go_loopw [6] (fun j wr => ∃ k : Nat, k ≤ L2 ∧ j = .int .i64 k ∧ Hid (Below w.heap.size w wr ∧ FL.Pl z1 33 (.slice ao2 L2 cc2) L2 wr ∧ FL.Pl z2 3 (.slice ao3 L3 cc3) L3 wr)) (fun j _ => L2 - (intOf j).toNat)
      case atStart => exact ⟨0, Nat.zero_le _, rfl, B4.out, P2.out, P3.out⟩
      case round =>
        obtain ⟨k2, hk2, rfl, hL⟩ := hrel
        clear B4 P2 P3
        by_cases hlt : k2 < L2
        · obtain ⟨hb, h2, h3⟩ := hL.out
          obtain ⟨g, c, e, l1, l2, ⟨y, hy⟩, hf, hset⟩ := h2.put hlt
          have := HS.out
          have lg := K2.out g c e
          have R := Lib.hid (show Below w.heap.size w (wr.setCell ⟨g, k2, none⟩ (.int .u64 0)) ∧ FL.Pl z1 33 (.slice ao2 L2 cc2) L2 (wr.setCell ⟨g, k2, none⟩ (.int .u64 0)) ∧ FL.Pl z2 3 (.slice ao3 L3 cc3) L3 (wr.setCell ⟨g, k2, none⟩ (.int .u64 0)) from ⟨hb.setCell (p := ⟨g, k2, none⟩) (by show _ ≤ g; omega) _, hset _, h3.far (by omega)⟩)
          cases e
          clear hb h2 h3 hset hL lg this
          go_wp2
          go_roundw
          case rel => exact ⟨k2 + 1, by omega, by go_num, R⟩
          case measure => simp [intOf]; omega
        · obtain rfl : k2 = L2 := by omega
          obtain ⟨hb, _, h3⟩ := hL.out
          have B4 := Lib.hid hb
          have P3 := Lib.hid h3
          clear hb h3 hL
          go_wp2
          go_loopw [7] (fun j wr => ∃ k : Nat, k ≤ L3 ∧ j = .int .i64 k ∧ Hid (Below w.heap.size w wr ∧ FL.Pl z2 3 (.slice ao3 L3 cc3) L3 wr)) (fun j _ => L3 - (intOf j).toNat)
          case atStart => exact ⟨0, Nat.zero_le _, rfl, B4.out, P3.out⟩
          case round =>
            obtain ⟨k3, hk3, rfl, hL⟩ := hrel
            clear B4 P3
            by_cases hlt : k3 < L3
            · obtain ⟨hb, h3⟩ := hL.out
              obtain ⟨g, c, e, l1, l2, ⟨y, hy⟩, hf, hset⟩ := h3.put hlt
              have := HS.out
              have R := Lib.hid (show Below w.heap.size w (wr.setCell ⟨g, k3, none⟩ (.int .i64 (-1))) ∧ FL.Pl z2 3 (.slice ao3 L3 cc3) L3 (wr.setCell ⟨g, k3, none⟩ (.int .i64 (-1))) from ⟨hb.setCell (p := ⟨g, k3, none⟩) (by show _ ≤ g; omega) _, hset _⟩)
              cases e
              clear hb h3 hset hL this
              go_wp2
              go_roundw
              case rel => exact ⟨k3 + 1, by omega, by go_num, R⟩
              case measure => simp [intOf]; omega
            · obtain rfl : k3 = L3 := by omega
              go_wp2
              go_end0
              exact ⟨rfl, hL.out.1⟩
/-! ### same -/
set_option maxRecDepth 100000 in
set_option maxHeartbeats 4000000 in
theorem same11_any (p q : Nat) (s : FL.S) (R Q : Nat → Prop) (h : Nat) (i : Int) (h1 : h ≤ 18446744073709551615) (i0 : -9223372036854775808 ≤ i) (i1 : i ≤ 9223372036854775807) (w : World) (hX : FL.Own w p s R) (hY : FL.ROwn w q s Q) :
    Calls Tryd.prog 18 #[FL.ptr p, FL.ptr q, .int .u64 (h : Int), .int .i64 i] w fun e w' => e = .returned (.bool true) ∧ Below w.heap.size w w' := by
  obtain ⟨b1, b2, b3, c1, c2, c3, hA, rfl⟩ := hX
  obtain ⟨r1, r2, r3, k1, k2, k3, hB, rfl⟩ := hY
  have HX : Hid (∀ V, Below w.heap.size w V → FL.At V p b1 b2 b3 c1 c2 c3 s) := fun V hb => hA.but (R := fun _ => False) (FL.But.below hb) (fun _ _ => id)
  have HY : Hid (∀ V, Below w.heap.size w V → FL.RAt V q r1 r2 r3 k1 k2 k3 s) := fun V hb => hB.but (R := fun _ => False) (FL.But.below hb) (fun _ _ => id)
  have n1 : s.stk.length ≤ 16384 := Nat.le_trans (FL.stk_len hA.inv) hA.inv.n2
  have n2 : s.hands.length ≤ 16384 := by rw [← FL.hk_all]; exact Nat.le_trans (FL.hk_len _ _) hA.inv.n2
  have n3 : (s.those 2).length ≤ 16384 := by rw [← FL.wk_all]; exact Nat.le_trans (FL.wk_len _ _) hA.inv.n2
  have B0 : Hid (Below w.heap.size w w) := Below.refl _ _
  have EI : Hid (∀ (l : List Nat), l.length ≤ 16384 → ∀ ao bo ca cb W, V.Row W ao (FL.ints l) → V.Row W bo (FL.ints l) → Calls Tryd.prog 20 #[.slice ao l.length ca, .slice bo l.length cb] W fun e w' => e = .returned (.bool true) ∧ Below W.heap.size W w') := fun l hl ao bo ca cb W ha hb => by
    have := equalInts_any ao bo ca cb l l W ha hb (by unfold maxLen; omega)
    rwa [decide_eq_true rfl] at this
  have EH : Hid (∀ (l : List Nat), l.length ≤ 16384 → ∀ ao bo ca cb W, V.Row W ao (H.row l) → V.Row W bo (H.row l) → Calls Tryd.prog 38 #[.slice ao l.length ca, .slice bo l.length cb] W fun e w' => e = .returned (.bool true) ∧ Below W.heap.size W w') := fun l hl ao bo ca cb W ha hb => by
    have := equalHandles_any ao bo ca cb l l W ha hb (by unfold maxLen; omega)
    rwa [decide_eq_true rfl] at this
  clear hA hB
  go_enter Tryd.func18, Tryd.ntmps18
  go_wp2_with fail
  refine (gen11_any p b1 b2 b3 c1 c2 c3 s i i0 i1 _ (HX.out _ B0.out)).mono ?_
  rintro e w1 ⟨rfl, hb⟩
  have B1 := Lib.hid (B0.out.trans (hb.mono B0.out.size))
  clear hb B0
  go_wp2_with fail
  refine (refGen11_any q r1 r2 r3 k1 k2 k3 s i i0 i1 _ (HY.out _ B1.out)).mono ?_
  rintro e w2 ⟨rfl, rfl⟩
  obtain ⟨gv, hgv⟩ : ∃ gv : Int, ((s.gnV i : Nat) : Int) = gv := ⟨_, rfl⟩
  rw [hgv]
  generalize s.gnE i = ge at *
  clear hgv i0 i1
  go_wp2_with fail
  refine (free11_any p b1 b2 b3 c1 c2 c3 s _ (HX.out _ B1.out)).mono ?_
  rintro e w3 ⟨v, rfl, hm⟩
  have B3 := Lib.hid (B1.out.trans (hm.below.mono B1.out.size))
  obtain ⟨ao, ca, rfl, ha⟩ := FL.MI.row hm
  have RA := Lib.hid ha
  clear hm ha B1
  go_wp2_with fail
  refine (refFree11_any q r1 r2 r3 k1 k2 k3 s _ (HY.out _ B3.out)).mono ?_
  rintro e w4 ⟨v, rfl, hm⟩
  have B4 := Lib.hid (B3.out.trans (V.Made.below hm |>.mono B3.out.size))
  obtain ⟨bo, cb, rfl, ha⟩ := FL.MI.row hm
  have RA4 := Lib.hid (RA.out.below (V.Made.below hm))
  have RB := Lib.hid ha
  clear hm ha B3 RA
  go_wp2_with fail
  refine (EI.out s.stk n1 _ _ _ _ _ RA4.out RB.out).mono ?_
  rintro e w5 ⟨rfl, hb⟩
  have B5 := Lib.hid (B4.out.trans (hb.mono B4.out.size))
  clear hb B4 RA4 RB
  go_wp2_with fail
  refine (handles11_any p b1 b2 b3 c1 c2 c3 s _ (HX.out _ B5.out)).mono ?_
  rintro e w6 ⟨v, rfl, hm⟩
  have B6 := Lib.hid (B5.out.trans (V.Made.below hm |>.mono B5.out.size))
  obtain ⟨ao, ca, rfl, ha⟩ := H.Made.row hm
  have RA := Lib.hid ha
  clear hm ha B5
  go_wp2_with fail
  refine (refHandles11_any q r1 r2 r3 k1 k2 k3 s _ (HY.out _ B6.out)).mono ?_
  rintro e w7 ⟨v, rfl, hm⟩
  have B7 := Lib.hid (B6.out.trans (V.Made.below hm |>.mono B6.out.size))
  obtain ⟨bo, cb, rfl, ha⟩ := H.Made.row hm
  have RA4 := Lib.hid (RA.out.below (V.Made.below hm))
  have RB := Lib.hid ha
  clear hm ha B6 RA
  go_wp2_with fail
  refine (EH.out s.hands n2 _ _ _ _ _ RA4.out RB.out).mono ?_
  rintro e w8 ⟨rfl, hb⟩
  have B8 := Lib.hid (B7.out.trans (hb.mono B7.out.size))
  clear hb B7 RA4 RB
  go_wp2_with fail
  refine (withdrawn11_any p b1 b2 b3 c1 c2 c3 s _ (HX.out _ B8.out)).mono ?_
  rintro e w9 ⟨v, rfl, hm⟩
  have B9 := Lib.hid (B8.out.trans (V.Made.below hm |>.mono B8.out.size))
  obtain ⟨ao, ca, rfl, ha⟩ := FL.MI.row hm
  have RA := Lib.hid ha
  clear hm ha B8
  go_wp2_with fail
  refine (refWithdrawn11_any q r1 r2 r3 k1 k2 k3 s _ (HY.out _ B9.out)).mono ?_
  rintro e w10 ⟨v, rfl, hm⟩
  have B10 := Lib.hid (B9.out.trans (V.Made.below hm |>.mono B9.out.size))
  obtain ⟨bo, cb, rfl, ha⟩ := FL.MI.row hm
  have RA4 := Lib.hid (RA.out.below (V.Made.below hm))
  have RB := Lib.hid ha
  clear hm ha B9 RA
  go_wp2_with fail
  refine (EI.out (s.those 2) n3 _ _ _ _ _ RA4.out RB.out).mono ?_
  rintro e w11 ⟨rfl, hb⟩
  have B11 := Lib.hid (B10.out.trans (hb.mono B10.out.size))
  clear hb B10 RA4 RB
  go_wp2_with fail
  refine (live11_any p b1 b2 b3 c1 c2 c3 s h h1 _ (HX.out _ B11.out)).mono ?_
  rintro e w12 ⟨rfl, rfl⟩
  go_wp2_with fail
  refine (refLive11_any q r1 r2 r3 k1 k2 k3 s h h1 _ (HY.out _ B11.out)).mono ?_
  rintro e w13 ⟨rfl, rfl⟩
  generalize s.live h = lv at *
  have q1 : (lv == lv) = true := by simp
  have q2 : (gv == gv) = true := by simp
  have q3 : (ge == ge) = true := by simp
  go_wp2
  go_ret
  exact ⟨rfl, B11.out⟩
end Go.Proofs.YtndpknkdmaojaaaDoor
/- FreeAwake -/
namespace Go.Proofs.YtndpknkdmaojaaaDoor
open Go.RowKit

/-- A list of package freelist that was made since w, in the world W. -/
structure FL.On (w : World) (p : Nat) (s : FL.S) (R : Nat → Prop) (W : World) : Prop where
  below : Below w.heap.size w W
  own : FL.Own W p s R
  new : ∀ k, R k → w.heap.size ≤ k
theorem FL.On.turn {w W W' : World} {p : Nat} {s s' : FL.S} {R : Nat → Prop} (h : FL.On w p s R W) (ho : FL.Own W' p s' R) (hb : FL.But R W W') : FL.On w p s' R W' := ⟨hb.toBelow h.below h.below.size h.new, ho, h.new⟩
theorem FL.On.on {w W W' : World} {p : Nat} {s : FL.S} {R : Nat → Prop} (h : FL.On w p s R W) (hb : Below W.heap.size W W') : FL.On w p s R W' := ⟨h.below.trans (hb.mono h.below.size), h.own.below hb, h.new⟩
theorem FL.On.alloc {w W : World} {p : Nat} {s : FL.S} {R : Nat → Prop} (h : FL.On w p s R W) (o : Obj) : FL.On w p s R (W.alloc o) := h.on ((Below.refl _ _).alloc (Nat.le_refl _) _)
/-! The package's calls on such a list -/
theorem FL.On.take {w W : World} {p : Nat} {s : FL.S} {R : Nat → Prop} (h : FL.On w p s R W) : Calls Tryd.prog 13 #[FL.ptr p] W fun e w' => e = .returned (.tuple #[.int .u64 (s.tkH : Nat), .int .i64 s.tkE]) ∧ FL.On w p s.tk R w' :=
  (take11_any p s R W h.own).mono fun _ _ k => ⟨k.1, h.turn k.2.1 k.2.2⟩
theorem FL.On.give {w W : World} {p : Nat} {s : FL.S} {R : Nat → Prop} (h : FL.On w p s R W) (x : Nat) (hx : x ≤ 18446744073709551615) : Calls Tryd.prog 15 #[FL.ptr p, .int .u64 (x : Int)] W fun e w' => e = .returned (.tuple #[.bool (s.gvB x), .int .i64 (s.gvE x)]) ∧ FL.On w p (s.gv x) R w' :=
  (give11_any p s R x hx W h.own).mono fun _ _ k => ⟨k.1, h.turn k.2.1 k.2.2⟩
theorem FL.On.gen {w W : World} {p : Nat} {s : FL.S} {R : Nat → Prop} (h : FL.On w p s R W) (i : Int) (i0 : -9223372036854775808 ≤ i) (i1 : i ≤ 9223372036854775807) : Calls Tryd.prog 23 #[FL.ptr p, .int .i64 i] W fun e w' => e = .returned (.tuple #[.int .u64 (s.gnV i : Nat), .int .i64 (s.gnE i)]) ∧ FL.On w p s R w' := by
  obtain ⟨b1, b2, b3, c1, c2, c3, hA, rfl⟩ := h.own
  exact (gen11_any p b1 b2 b3 c1 c2 c3 s i i0 i1 W hA).mono fun _ _ k => ⟨k.1, h.on k.2⟩
theorem FL.On.live {w W : World} {p : Nat} {s : FL.S} {R : Nat → Prop} (h : FL.On w p s R W) (x : Nat) (hx : x ≤ 18446744073709551615) : Calls Tryd.prog 24 #[FL.ptr p, .int .u64 (x : Int)] W fun e w' => e = .returned (.bool (s.live x)) ∧ W = w' := by
  obtain ⟨b1, b2, b3, c1, c2, c3, hA, rfl⟩ := h.own
  exact live11_any p b1 b2 b3 c1 c2 c3 s x hx W hA
theorem FL.On.free {w W : World} {p : Nat} {s : FL.S} {R : Nat → Prop} (h : FL.On w p s R W) : Calls Tryd.prog 21 #[FL.ptr p] W fun e w' => ∃ ao c, e = .returned (.slice ao s.stk.length c) ∧ V.Row w' ao (FL.ints s.stk) ∧ Below W.heap.size W w' := by
  obtain ⟨b1, b2, b3, c1, c2, c3, hA, rfl⟩ := h.own
  refine (free11_any p b1 b2 b3 c1 c2 c3 s W hA).mono fun _ _ k => ?_
  obtain ⟨v, rfl, m⟩ := k
  obtain ⟨ao, c, rfl, hr⟩ := FL.MI.row m
  exact ⟨ao, c, rfl, hr, m.below⟩
theorem FL.On.handles {w W : World} {p : Nat} {s : FL.S} {R : Nat → Prop} (h : FL.On w p s R W) : Calls Tryd.prog 25 #[FL.ptr p] W fun e w' => ∃ ao c, e = .returned (.slice ao s.hands.length c) ∧ V.Row w' ao (H.row s.hands) ∧ Below W.heap.size W w' := by
  obtain ⟨b1, b2, b3, c1, c2, c3, hA, rfl⟩ := h.own
  refine (handles11_any p b1 b2 b3 c1 c2 c3 s W hA).mono fun _ _ k => ?_
  obtain ⟨v, rfl, m⟩ := k
  obtain ⟨ao, c, rfl, hr⟩ := H.Made.row m
  exact ⟨ao, c, rfl, hr, V.Made.below m⟩
theorem FL.On.withdrawn {w W : World} {p : Nat} {s : FL.S} {R : Nat → Prop} (h : FL.On w p s R W) : Calls Tryd.prog 26 #[FL.ptr p] W fun e w' => ∃ ao c, e = .returned (.slice ao (s.those 2).length c) ∧ V.Row w' ao (FL.ints (s.those 2)) ∧ Below W.heap.size W w' := by
  obtain ⟨b1, b2, b3, c1, c2, c3, hA, rfl⟩ := h.own
  refine (withdrawn11_any p b1 b2 b3 c1 c2 c3 s W hA).mono fun _ _ k => ?_
  obtain ⟨v, rfl, m⟩ := k
  obtain ⟨ao, c, rfl, hr⟩ := FL.MI.row m
  exact ⟨ao, c, rfl, hr, V.Made.below m⟩
set_option maxHeartbeats 1000000 in
theorem FL.On.took {w W : World} {p : Nat} {s : FL.S} {R : Nat → Prop} (h : FL.On w p s R W) (hp : H.Pow w.heap.size w) (he : s.tkE = 0) : Calls Tryd.prog 41 #[FL.ptr p, .string ⟨(H.textL s.tkH).toArray⟩] W fun e w' => e = .returned (.bool true) ∧ FL.On w p s.tk R w' := by
  have hb : s.tkH ≤ 18446744073709551615 := by
    cases e : s.stk with
    | nil => rw [(FL.tk_nil e).2.1]; omega
    | cons x r =>
      have t := FL.tk_cons h.own.inv e
      have := H.ok_lt t.ok
      rw [t.hand]; omega
  have HT := h.take
  rw [he] at HT
  have HT := Lib.hid HT
  have HX : Hid (∀ W', Below w.heap.size w W' → Calls Tryd.prog 47 #[.int .u64 (s.tkH : Nat)] W' fun e w' => ∃ ce, e = .returned (.tuple #[.string ⟨(H.textL s.tkH).toArray⟩, .int .i64 ce]) ∧ Below W'.heap.size W' w') := fun W' hw => (text10_any s.tkH hb W' (H.Pow.go hp hw)).mono fun _ _ k => ⟨_, k⟩
  clear hp he hb h
  generalize H.textL s.tkH = tt at *
  obtain ⟨z, hz⟩ : ∃ z : Int, ((s.tkH : Nat) : Int) = z := ⟨_, rfl⟩
  rw [hz] at HT HX
  have q1 : ((⟨tt.toArray⟩ : ByteArray).toList == (⟨tt.toArray⟩ : ByteArray).toList) = true := by simp
  go_enter Tryd.func41, Tryd.ntmps41
  go_wp2_with fail
  refine HT.out.mono ?_
  rintro e w1 ⟨rfl, o⟩
  have O1 := Lib.hid o
  clear o
  go_wp2_with fail
  refine (HX.out _ O1.out.below).mono ?_
  rintro e w2 ⟨ce, rfl, hb⟩
  have O2 := Lib.hid (O1.out.on hb)
  clear hb
  go_wp2
  go_ret
  exact ⟨rfl, O2.out⟩
end Go.Proofs.YtndpknkdmaojaaaDoor
/- FreeAwake2 -/
namespace Go.Proofs.YtndpknkdmaojaaaDoor
open Go.RowKit

theorem FL.On.takeL {w W : World} {p : Nat} {s : FL.S} {R : Nat → Prop} (h : FL.On w p s R W) {x : Int} {e : Int} {s' : FL.S} (h1 : ((s.tkH : Nat) : Int) = x) (h2 : s.tkE = e) (h3 : s.tk = s') : Calls Tryd.prog 13 #[FL.ptr p] W fun z w' => z = .returned (.tuple #[.int .u64 x, .int .i64 e]) ∧ FL.On w p s' R w' := by subst h1; subst h2; subst h3; exact h.take
theorem FL.On.giveL {w W : World} {p : Nat} {s : FL.S} {R : Nat → Prop} (h : FL.On w p s R W) (x : Nat) (hx : x ≤ 18446744073709551615) {xi : Int} (hxi : (x : Int) = xi) {b : Bool} {e : Int} {s' : FL.S} (h1 : s.gvB x = b) (h2 : s.gvE x = e) (h3 : s.gv x = s') : Calls Tryd.prog 15 #[FL.ptr p, .int .u64 xi] W fun z w' => z = .returned (.tuple #[.bool b, .int .i64 e]) ∧ FL.On w p s' R w' := by subst hxi; subst h1; subst h2; subst h3; exact h.give x hx
theorem FL.On.genL {w W : World} {p : Nat} {s : FL.S} {R : Nat → Prop} (h : FL.On w p s R W) (i : Int) (i0 : -9223372036854775808 ≤ i) (i1 : i ≤ 9223372036854775807) {v e : Int} (h1 : ((s.gnV i : Nat) : Int) = v) (h2 : s.gnE i = e) : Calls Tryd.prog 23 #[FL.ptr p, .int .i64 i] W fun z w' => z = .returned (.tuple #[.int .u64 v, .int .i64 e]) ∧ FL.On w p s R w' := by subst h1; subst h2; exact h.gen i i0 i1
theorem FL.On.liveL {w W : World} {p : Nat} {s : FL.S} {R : Nat → Prop} (h : FL.On w p s R W) (x : Nat) (hx : x ≤ 18446744073709551615) {xi : Int} (hxi : (x : Int) = xi) {b : Bool} (h1 : s.live x = b) : Calls Tryd.prog 24 #[FL.ptr p, .int .u64 xi] W fun z w' => z = .returned (.bool b) ∧ W = w' := by subst hxi; subst h1; exact h.live x hx
theorem FL.On.freeL {w W : World} {p : Nat} {s : FL.S} {R : Nat → Prop} (h : FL.On w p s R W) {l : List Nat} {n : Nat} (h1 : s.stk = l) (h2 : l.length = n) : Calls Tryd.prog 21 #[FL.ptr p] W fun e w' => ∃ ao c, e = .returned (.slice ao n c) ∧ V.Row w' ao (FL.ints l) ∧ Below W.heap.size W w' := by subst h1; subst h2; exact h.free
theorem FL.On.handlesL {w W : World} {p : Nat} {s : FL.S} {R : Nat → Prop} (h : FL.On w p s R W) {l : List Nat} {n : Nat} (h1 : s.hands = l) (h2 : l.length = n) : Calls Tryd.prog 25 #[FL.ptr p] W fun e w' => ∃ ao c, e = .returned (.slice ao n c) ∧ V.Row w' ao (H.row l) ∧ Below W.heap.size W w' := by subst h1; subst h2; exact h.handles
theorem FL.On.withdrawnL {w W : World} {p : Nat} {s : FL.S} {R : Nat → Prop} (h : FL.On w p s R W) {l : List Nat} {n : Nat} (h1 : s.those 2 = l) (h2 : l.length = n) : Calls Tryd.prog 26 #[FL.ptr p] W fun e w' => ∃ ao c, e = .returned (.slice ao n c) ∧ V.Row w' ao (FL.ints l) ∧ Below W.heap.size W w' := by subst h1; subst h2; exact h.withdrawn
theorem FL.On.tookL {w W : World} {p : Nat} {s : FL.S} {R : Nat → Prop} (h : FL.On w p s R W) (hp : H.Pow w.heap.size w) {a : Array UInt8} {s' : FL.S} (he : s.tkE = 0) (ht : (H.textL s.tkH).toArray = a) (h3 : s.tk = s') : Calls Tryd.prog 41 #[FL.ptr p, .string ⟨a⟩] W fun e w' => e = .returned (.bool true) ∧ FL.On w p s' R w' := by subst ht; subst h3; exact h.took hp he
theorem FL.eqIL (l : List Nat) (n : Nat) (h2 : l.length = n) (hn : n ≤ 1000) {W : World} {ao bo : Option Addr} {c c' : Nat} (ha : V.Row W ao (FL.ints l)) (hb : V.Row W bo (FL.ints l)) : Calls Tryd.prog 20 #[.slice ao n c, .slice bo n c'] W fun e w' => e = .returned (.bool true) ∧ Below W.heap.size W w' := by
  subst h2
  have := equalInts_any ao bo c c' l l W ha hb (by unfold maxLen; omega)
  rwa [decide_eq_true rfl] at this
theorem FL.eqHL (l : List Nat) (n : Nat) (h2 : l.length = n) (hn : n ≤ 1000) {W : World} {ao bo : Option Addr} {c c' : Nat} (ha : V.Row W ao (H.row l)) (hb : V.Row W bo (H.row l)) : Calls Tryd.prog 38 #[.slice ao n c, .slice bo n c'] W fun e w' => e = .returned (.bool true) ∧ Below W.heap.size W w' := by
  subst h2
  have := equalHandles_any ao bo c c' l l W ha hb (by unfold maxLen; omega)
  rwa [decide_eq_true rfl] at this
theorem FL.int_lit (w : World) (l : List Nat) : V.Row (w.alloc (.cells (FL.ints l).toArray 3)) (some ⟨w.heap.size, 0, none⟩) (FL.ints l) := fun i x hx => by
  refine ⟨w.heap.size, 0, rfl, by simp, ?_⟩
  rw [Nat.zero_add, Lib.cell_of_heap (heap_alloc_new w _)]; simpa using hx
theorem FL.h_lit (w : World) (l : List Nat) : V.Row (w.alloc (.cells (H.row l).toArray 33)) (some ⟨w.heap.size, 0, none⟩) (H.row l) := fun i x hx => by
  refine ⟨w.heap.size, 0, rfl, by simp, ?_⟩
  rw [Nat.zero_add, Lib.cell_of_heap (heap_alloc_new w _)]; simpa using hx
theorem FL.text1 : (H.textL (FL.S.tkH ⟨2, [0, 0, 0], [1, 1, 1], [0, 1, 2]⟩)).toArray = #[48, 46, 49] := by
  rw [show FL.S.tkH ⟨2, [0, 0, 0], [1, 1, 1], [0, 1, 2]⟩ = 65536 from rfl]
  unfold H.textL; rw [if_pos (by decide), show H.slot 65536 = 0 by decide, show H.gen 65536 = 1 by decide, D.digs_lt (by decide), D.digs_lt (by decide)]; rfl
theorem FL.text2 : (H.textL (FL.S.tkH ⟨2, [1, 0, 0], [1, 1, 1], [1, 2]⟩)).toArray = #[49, 46, 49] := by
  rw [show FL.S.tkH ⟨2, [1, 0, 0], [1, 1, 1], [1, 2]⟩ = 65537 from rfl]
  unfold H.textL; rw [if_pos (by decide), show H.slot 65537 = 1 by decide, show H.gen 65537 = 1 by decide, D.digs_lt (by decide)]; rfl
theorem FL.text3 : (H.textL (FL.S.tkH ⟨2, [0, 1, 0], [2, 1, 1], [0, 2]⟩)).toArray = #[48, 46, 50] := by
  rw [show FL.S.tkH ⟨2, [0, 1, 0], [2, 1, 1], [0, 2]⟩ = 131072 from rfl]
  unfold H.textL; rw [if_pos (by decide), show H.slot 131072 = 0 by decide, show H.gen 131072 = 2 by decide, D.digs_lt (by decide), D.digs_lt (by decide)]; rfl
theorem FL.text4 : (H.textL (FL.S.tkH ⟨2, [2, 1, 0], [2, 1, 1], [2]⟩)).toArray = #[50, 46, 49] := by
  rw [show FL.S.tkH ⟨2, [2, 1, 0], [2, 1, 1], [2]⟩ = 65538 from rfl]
  unfold H.textL; rw [if_pos (by decide), show H.slot 65538 = 2 by decide, show H.gen 65538 = 1 by decide, D.digs_lt (by decide), D.digs_lt (by decide)]; rfl
set_option maxRecDepth 100000 in
set_option maxHeartbeats 8000000 in
theorem awake11_any (w : World) (hp : H.Pow w.heap.size w) : Calls Tryd.prog 19 #[] w fun e w' => e = .returned (.bool true) ∧ Below w.heap.size w w' := by
  have HP := Lib.hid hp
  have HN := Lib.hid (new11_ok 3 2 (by decide) (by decide) (by decide) (by decide) w)
  clear hp
  go_enter Tryd.func19, Tryd.ntmps19
  go_wp2_with fail
  refine HN.out.mono ?_
  rintro e w1 ⟨p, R, rfl, ho, hb, hn⟩
  have O0 : Hid (FL.On w p ⟨2, [0, 0, 0], [1, 1, 1], [0, 1, 2]⟩ R w1) := ⟨hb, ho, hn⟩
  clear ho hb hn HN
  go_wp2_with fail
  refine (O0.out.tookL HP.out rfl FL.text1 (s' := ⟨2, [1, 0, 0], [1, 1, 1], [1, 2]⟩) rfl).mono ?_
  rintro e w2 ⟨rfl, o⟩
  have O1 := Lib.hid o
  clear o O0
  go_wp2_with fail
  refine (O1.out.tookL HP.out rfl FL.text2 (s' := ⟨2, [1, 1, 0], [1, 1, 1], [2]⟩) rfl).mono ?_
  rintro e w3 ⟨rfl, o⟩
  have O2 := Lib.hid o
  clear o O1
  go_wp2_with fail
  refine (O2.out.freeL (l := [2]) (n := 1) rfl rfl).mono ?_
  rintro e w4 ⟨ao, c, rfl, hr, hb⟩
  have O3 := Lib.hid (O2.out.on hb)
  have RR := Lib.hid hr
  clear hb hr O2
  go_wp2_with fail
  change Calls _ _ _ (w4.alloc (.cells (FL.ints [2]).toArray 3)) _
  have RA := Lib.hid (RR.out.below ((Below.refl w4.heap.size w4).alloc (Nat.le_refl _) (.cells (FL.ints [2]).toArray 3)))
  have RL := Lib.hid (FL.int_lit w4 [2])
  have O4 := Lib.hid (O3.out.alloc (.cells (FL.ints [2]).toArray 3))
  generalize w4.alloc (.cells (FL.ints [2]).toArray 3) = wa at RA RL O4 ⊢
  clear RR O3
  refine (FL.eqIL [2] 1 rfl (by decide) RA.out RL.out).mono ?_
  rintro e w5 ⟨rfl, hb⟩
  have O5 := Lib.hid (O4.out.on hb)
  clear hb RA RL O4
  go_wp2_with fail
  refine (O5.out.handlesL (l := [65536, 65537]) (n := 2) rfl rfl).mono ?_
  rintro e w6 ⟨ao, c, rfl, hr, hb⟩
  have O6 := Lib.hid (O5.out.on hb)
  have RR := Lib.hid hr
  clear hb hr O5
  go_wp2_with fail
  change Calls _ _ _ (w6.alloc (.cells (H.row [65536, 65537]).toArray 33)) _
  have RA := Lib.hid (RR.out.below ((Below.refl w6.heap.size w6).alloc (Nat.le_refl _) (.cells (H.row [65536, 65537]).toArray 33)))
  have RL := Lib.hid (FL.h_lit w6 [65536, 65537])
  have O7 := Lib.hid (O6.out.alloc (.cells (H.row [65536, 65537]).toArray 33))
  generalize w6.alloc (.cells (H.row [65536, 65537]).toArray 33) = wa at RA RL O7 ⊢
  clear RR O6
  refine (FL.eqHL [65536, 65537] 2 rfl (by decide) RA.out RL.out).mono ?_
  rintro e w7 ⟨rfl, hb⟩
  have O8 := Lib.hid (O7.out.on hb)
  clear hb RA RL O7
  go_wp2_with fail
  refine (O8.out.giveL 65536 (by decide) (xi := 65536) rfl (b := false) (e := 0) (s' := ⟨2, [0, 1, 0], [2, 1, 1], [0, 2]⟩) rfl rfl rfl).mono ?_
  rintro e w8 ⟨rfl, o⟩
  have O9 := Lib.hid o
  clear o O8
  go_wp2_with fail
  refine (O9.out.genL 0 (by decide) (by decide) (v := 2) (e := 0) rfl rfl).mono ?_
  rintro e w9 ⟨rfl, o⟩
  have O10 := Lib.hid o
  clear o O9
  go_wp2_with fail
  refine (O10.out.freeL (l := [0, 2]) (n := 2) rfl rfl).mono ?_
  rintro e w10 ⟨ao, c, rfl, hr, hb⟩
  have O11 := Lib.hid (O10.out.on hb)
  have RR := Lib.hid hr
  clear hb hr O10
  go_wp2_with fail
  change Calls _ _ _ (w10.alloc (.cells (FL.ints [0, 2]).toArray 3)) _
  have RA := Lib.hid (RR.out.below ((Below.refl w10.heap.size w10).alloc (Nat.le_refl _) (.cells (FL.ints [0, 2]).toArray 3)))
  have RL := Lib.hid (FL.int_lit w10 [0, 2])
  have O12 := Lib.hid (O11.out.alloc (.cells (FL.ints [0, 2]).toArray 3))
  generalize w10.alloc (.cells (FL.ints [0, 2]).toArray 3) = wa at RA RL O12 ⊢
  clear RR O11
  refine (FL.eqIL [0, 2] 2 rfl (by decide) RA.out RL.out).mono ?_
  rintro e w11 ⟨rfl, hb⟩
  have O13 := Lib.hid (O12.out.on hb)
  clear hb RA RL O12
  go_wp2_with fail
  refine (O13.out.liveL 65536 (by decide) (xi := 65536) rfl (b := false) rfl).mono ?_
  rintro e w12 ⟨rfl, rfl⟩
  go_wp2_with fail
  refine (O13.out.tookL HP.out rfl FL.text3 (s' := ⟨2, [1, 1, 0], [2, 1, 1], [2]⟩) rfl).mono ?_
  rintro e w13 ⟨rfl, o⟩
  have O14 := Lib.hid o
  clear o O13
  go_wp2_with fail
  refine (O14.out.giveL 131072 (by decide) (xi := 131072) rfl (b := true) (e := 0) (s' := ⟨2, [2, 1, 0], [2, 1, 1], [2]⟩) rfl rfl rfl).mono ?_
  rintro e w14 ⟨rfl, o⟩
  have O15 := Lib.hid o
  clear o O14
  go_wp2_with fail
  refine (O15.out.genL 0 (by decide) (by decide) (v := 0) (e := 7) rfl rfl).mono ?_
  rintro e w15 ⟨rfl, o⟩
  have O16 := Lib.hid o
  clear o O15
  go_wp2_with fail
  refine (O16.out.giveL 131072 (by decide) (xi := 131072) rfl (b := false) (e := 10) (s' := ⟨2, [2, 1, 0], [2, 1, 1], [2]⟩) rfl rfl rfl).mono ?_
  rintro e w16 ⟨rfl, o⟩
  have O17 := Lib.hid o
  clear o O16
  go_wp2_with fail
  refine (O17.out.withdrawnL (l := [0]) (n := 1) rfl rfl).mono ?_
  rintro e w17 ⟨ao, c, rfl, hr, hb⟩
  have O18 := Lib.hid (O17.out.on hb)
  have RR := Lib.hid hr
  clear hb hr O17
  go_wp2_with fail
  change Calls _ _ _ (w17.alloc (.cells (FL.ints [0]).toArray 3)) _
  have RA := Lib.hid (RR.out.below ((Below.refl w17.heap.size w17).alloc (Nat.le_refl _) (.cells (FL.ints [0]).toArray 3)))
  have RL := Lib.hid (FL.int_lit w17 [0])
  have O19 := Lib.hid (O18.out.alloc (.cells (FL.ints [0]).toArray 3))
  generalize w17.alloc (.cells (FL.ints [0]).toArray 3) = wa at RA RL O19 ⊢
  clear RR O18
  refine (FL.eqIL [0] 1 rfl (by decide) RA.out RL.out).mono ?_
  rintro e w18 ⟨rfl, hb⟩
  have O20 := Lib.hid (O19.out.on hb)
  clear hb RA RL O19
  go_wp2_with fail
  refine (O20.out.tookL HP.out rfl FL.text4 (s' := ⟨2, [2, 1, 1], [2, 1, 1], []⟩) rfl).mono ?_
  rintro e w19 ⟨rfl, o⟩
  have O21 := Lib.hid o
  clear o O20
  go_wp2_with fail
  refine (O21.out.takeL (x := 0) (e := 6) (s' := ⟨2, [2, 1, 1], [2, 1, 1], []⟩) rfl rfl rfl).mono ?_
  rintro e w20 ⟨rfl, o⟩
  have O22 := Lib.hid o
  clear o O21
  go_wp2_with fail
  refine (O22.out.genL 3 (by decide) (by decide) (v := 0) (e := 3) rfl rfl).mono ?_
  rintro e w21 ⟨rfl, o⟩
  have O23 := Lib.hid o
  clear o O22
  go_wp2
  go_ret
  exact ⟨rfl, O23.out.below⟩
theorem FL.hAw : Hid (∀ W, H.Pow W.heap.size W → Calls Tryd.prog 19 #[] W (fun e w' => e = .returned (.bool true) ∧ Below W.heap.size W w')) := fun W hp => awake11_any W hp
end Go.Proofs.YtndpknkdmaojaaaDoor
