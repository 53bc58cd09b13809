/- The contracts of the reference of layer 14: Chunks, Ints, Texts; works. -/
import Derived.Test.YtniccjbcchdkoaaCkRef2
namespace Go.Proofs.Ytniccjbcchdkoaa
open Go.RowKit

set_option maxRecDepth 100000 in
set_option maxHeartbeats 2000000 in
theorem refChunks14_any (s : ByteArray) (w : World) (hs : s.size ≤ 1000000) :
    Calls Try.prog 34 #[.string s] w (Ck.ChEnd s.data.toList w) := by
  obtain ⟨ii, i0, i1, i2, i3⟩ := info_parts Try.infoStr14
  have HI := Lib.hid (And.intro i0 (And.intro i1 (And.intro i2 i3)))
  clear i0 i1 i2 i3
  have hN : s.data.toList.length = s.size := Ck.len s
  obtain ⟨N, hN2⟩ : ∃ N, s.size = N := ⟨_, rfl⟩
  rw [hN2] at hN hs
  have HS := Lib.hid (refSizes14_any N 16 w hs (by decide) (by decide))
  have hcN := C14.cnt_le N (m := 16) (by decide)
  have HL : Hid ((C14.chunks s.data.toList).length = C14.cnt N 16) := by show _ = _; rw [C14.len_chunks, hN]
  have HL2 : (C14.sizes N 16).length = C14.cnt N 16 := C14.len_sizes N (by decide)
  have HR : Hid (∀ i, i < C14.cnt N 16 → ∃ k, (C14.sizes N 16)[i]? = some k ∧ k ≤ (C14.rest s.data.toList i).length ∧ (C14.chunks s.data.toList)[i]? = some ((C14.rest s.data.toList i).take k) ∧ C14.rest s.data.toList (i + 1) = (C14.rest s.data.toList i).drop k) := fun i hi => by
    obtain ⟨k, h0, _, h1, h2, h3⟩ := C14.rest_at (s := s.data.toList) (i := i) (by rw [hN]; exact hi)
    rw [hN] at h0
    exact ⟨k, h0, h1, h2, h3⟩
  have hR0 : C14.rest s.data.toList 0 = s.data.toList := C14.rest_zero _
  obtain ⟨rs, hrs⟩ : ∃ rs, C14.rest s.data.toList = rs := ⟨_, rfl⟩
  rw [hrs] at HR hR0
  unfold Ck.ChEnd
  unfold Ck.SzEnd at HS
  generalize C14.chunks s.data.toList = L at HL HR ⊢
  generalize C14.sizes N 16 = SZ at HS HL2 HR
  generalize C14.cnt N 16 = c at *
  have S0 : Hid (s.data.toList = rs 0) := hR0.symm
  have HL2 := Lib.hid HL2
  have hc : c ≤ 1000000 := by omega
  clear hrs hR0 hcN hN
  go_enter Try.func34, Try.ntmps34
  go_wp2_with fail
  refine HS.out.mono ?_
  rintro e w1 ⟨v, rfl, hm⟩
  obtain ⟨ao, ca, hv, hrow⟩ := hm.row
  rw [Ck.ints_len, HL2.out] at hv
  subst hv
  have HG := Lib.hid (And.intro hm.below hrow)
  clear hm hrow HS hN2 hs
  go_wp2
  go_loopw [0, 3, 5] (fun t v i wr => ∃ (k : Nat) (r : ByteArray), k ≤ c ∧ t = .string r ∧ i = .int .i64 k ∧ Hid (r.data.toList = rs k) ∧ Hid (V.Made 9 (Ck.strs (L.take k)) w1 v wr)) (fun _ _ i _ => c - (intOf i).toNat)
  case atStart => exact ⟨0, s, Nat.zero_le _, rfl, rfl, S0, V.Made.nil _ _ (Below.refl _ _)⟩
  case round =>
    clear S0
    obtain ⟨k, r, hk, rfl, rfl, hr, hx⟩ := hrel
    by_cases hlt : k < c
    · obtain ⟨z, z0, z1, z2, z3⟩ := HR.out k hlt
      obtain ⟨b, o, rfl, hbl, hcell⟩ := HG.out.2 k _ (Ck.ints_at z0)
      have hb := hx.out.below
      have c0 := ((D.bcell hb).1 _ _ hbl).trans hcell
      have c1 : ∀ y : Obj, (wr.alloc y).cell? ⟨b, o + k, none⟩ = some (.int .i64 (z : Int)) := fun y => Lib.cell?_alloc_some _ c0
      obtain ⟨X, hX⟩ : ∃ X, Hid (Ck.strs (L.take k) = X) := ⟨_, rfl⟩
      have hXl : Hid (X.length = k) := by show _ = _; rw [← hX.out, Ck.strs_len, List.length_take, HL.out]; omega
      have hnx := Ck.strs_next z2
      rw [hX.out] at hx hnx
      rw [← Ck.take_at hr.out z] at hnx
      obtain ⟨pa, pc, rfl⟩ := hx.out.slice
      have HX := Lib.hid hb
      have R : Hid (∀ Z v' w', Hid (Z = X ++ [.string (r.extract 0 z)]) → w'.ownsRow w1.heap.size 9 1 v' Z.length Z → wr.grownBy w' (Value.slice pa X.length pc).ownBlock → V.Made 9 (Ck.strs (L.take (k + 1))) w1 v' w' ∧ w'.cell? ⟨b, o + k, none⟩ = some (.int .i64 (z : Int))) := fun Z v' w' hZ h1 h2 => by
        have hm := hx.out.on h1 h2
        refine ⟨by rw [hnx, ← hZ.out]; exact hm, ((D.bcell hm.below).1 _ _ hbl).trans hcell⟩
      have HO := Lib.hid hx.out.own
      have S2 : Hid ((r.extract z r.size).data.toList = rs (k + 1)) := by show _ = _; rw [Ck.drop_at hr.out z, z3]
      have hzr : z ≤ r.size := by rw [← Ck.len r, hr.out]; exact z1
      have hz0 : (0 : Int) ≤ (z : Int) := by omega
      clear hnx hx z0 z1 z2 z3 hr hb hcell
      go_wp2_with (at_builtin; refine V.append_one Try.underlying57 HI.out.1 HI.out.2.1 HI.out.2.2.1 HI.out.2.2.2 rfl (by decide) rfl _ _ rfl w1.heap.size _ X rfl HO.out (.string (r.extract 0 z)) rfl 1 rfl ?a1 ?a2 ?_)
      case a1 => rw [hXl.out]; omega
      case a2 => exact HX.out.size
      intro Z v' w' hZ h1 h2
      obtain ⟨R, d0⟩ := R.out Z v' w' hZ h1 h2
      have R := Lib.hid R
      clear h1 h2 hZ HO c0 c1
      go_wp2
      go_roundw
      case rel => exact ⟨k + 1, _, by omega, rfl, by go_num, S2, R⟩
      case measure => simp [intOf]; omega
    · obtain rfl : c = k := by omega
      have R : Hid (∃ v, Ending.returned u3 = .returned v ∧ V.Made 9 (Ck.strs L) w v wr) := by
        have h := hx.out
        rw [List.take_of_length_le (by rw [HL.out]; exact Nat.le_refl _)] at h
        exact ⟨_, rfl, h.weak HG.out.1⟩
      clear hx
      go_wp2
      go_ret
      exact R.out
/-! ### Comparing rows -/
theorem Ck.drop_cons {α : Type} {l : List α} {k : Nat} (h : k < l.length) : ∃ p, l[k]? = some p ∧ l.drop k = p :: l.drop (k + 1) := ⟨l[k], List.getElem?_eq_getElem h, List.drop_eq_getElem_cons h⟩
set_option maxHeartbeats 1000000 in
theorem ints14_any (ao bo : Option Addr) (ca cb : Nat) (a b : List Nat) (w : World) (ha : V.Row w ao (Ck.ints a)) (hb : V.Row w bo (Ck.ints b)) (la : a.length ≤ maxLen) :
    Calls Try.prog 30 #[.slice ao a.length ca, .slice bo b.length cb] w fun e w' => e = .returned (.bool (decide (a = b))) ∧ Below w.heap.size w w' := by
  unfold maxLen at la
  by_cases hl : a.length = b.length
  · have Ha := Lib.hid ha
    have Hb := Lib.hid hb
    have Hl := Lib.hid hl
    have hq : ((a.length : Int) != (b.length : Int)) = false := by simp [hl]
    clear ha hb hl
    go_enter Try.func30, Try.ntmps30
    go_wp2
    go_loopw [5] (fun j wr => ∃ k : Nat, k ≤ a.length ∧ j = .int .i64 k ∧ Hid (a.drop k = b.drop k ↔ a = b) ∧ Hid (Below w.heap.size w wr)) (fun j _ => a.length - (intOf j).toNat)
    case atStart => exact ⟨0, Nat.zero_le _, rfl, Iff.rfl, Below.refl _ _⟩
    case round =>
      obtain ⟨k, hk, rfl, hs, hw⟩ := hrel
      by_cases hlt : k < a.length
      · obtain ⟨p, hp, hpd⟩ := Ck.drop_cons hlt
        obtain ⟨r, hr, hrd⟩ := Ck.drop_cons (l := b) (k := k) (by have := Hl.out; omega)
        obtain ⟨b1, o1, e1, l1, hc⟩ := Ha.out k _ (Ck.ints_at hp)
        obtain ⟨b2, o2, e2, l2, hd⟩ := Hb.out k _ (Ck.ints_at hr)
        have c0 := ((D.bcell hw.out).1 _ _ l1).trans hc
        have d0 := ((D.bcell hw.out).1 _ _ l2).trans hd
        clear hc hd
        subst e1
        subst e2
        have hkb : k < b.length := by have := Hl.out; omega
        have hst : Hid ((p = r ∧ a.drop (k + 1) = b.drop (k + 1)) ↔ a = b) := by show _ ↔ _; rw [← hs.out, hpd, hrd, List.cons.injEq]
        obtain ⟨pi, hpi⟩ : ∃ pi : Int, (p : Int) = pi := ⟨_, rfl⟩
        obtain ⟨ri, hri⟩ : ∃ ri : Int, (r : Int) = ri := ⟨_, rfl⟩
        rw [hpi] at c0
        rw [hri] at d0
        by_cases hpe : p = r
        · have hn : Hid (a.drop (k + 1) = b.drop (k + 1) ↔ a = b) := by show _ ↔ _; rw [← hst.out]; simp [hpe]
          have q1 : (pi != ri) = false := by rw [← hpi, ← hri, hpe]; simp
          clear hpd hrd hp hr hpe hs hst hpi hri
          go_wp2_with fail
          go_quiet (fail)
          go_wp2
          go_roundw
          case rel => exact ⟨k + 1, by omega, by go_num, hn, below_drewN hw.out _⟩
          case measure => simp [intOf]; omega
        · have hn : Hid (decide (a = b) = false) := by show _ = _; rw [decide_eq_false_iff_not, ← hst.out]; exact fun h => hpe h.1
          have q1 : (pi != ri) = true := by rw [← hpi, ← hri]; simp; omega
          clear hpd hrd hp hr hpe hs hst hpi hri
          go_wp2_with fail
          go_quiet (fail)
          go_wp2
          go_ret
          exact ⟨by rw [hn.out]; rfl, below_drewN hw.out _⟩
      · obtain rfl : k = a.length := by omega
        have hn : Hid (decide (a = b) = true) := by show _ = _; rw [decide_eq_true_iff, ← hs.out, List.drop_length, Hl.out, List.drop_length]
        go_wp2
        go_ret
        exact ⟨by rw [hn.out]; rfl, hw.out⟩
  · have hn : Hid (decide (a = b) = false) := by show _ = _; rw [decide_eq_false_iff_not]; exact fun h => hl (by rw [h])
    have hq : ((a.length : Int) != (b.length : Int)) = true := by simp; omega
    clear ha hb hl
    go_enter Try.func30, Try.ntmps30
    go_wp2
    go_ret
    exact ⟨by rw [hn.out]; rfl, Below.refl _ _⟩
set_option maxHeartbeats 1000000 in
theorem texts14_any (ao bo : Option Addr) (ca cb : Nat) (a b : List (List UInt8)) (w : World) (ha : V.Row w ao (Ck.strs a)) (hb : V.Row w bo (Ck.strs b)) (la : a.length ≤ maxLen) :
    Calls Try.prog 28 #[.slice ao a.length ca, .slice bo b.length cb] w fun e w' => e = .returned (.bool (decide (a = b))) ∧ Below w.heap.size w w' := by
  unfold maxLen at la
  by_cases hl : a.length = b.length
  · have Ha := Lib.hid ha
    have Hb := Lib.hid hb
    have Hl := Lib.hid hl
    have hq : ((a.length : Int) != (b.length : Int)) = false := by simp [hl]
    clear ha hb hl
    go_enter Try.func28, Try.ntmps28
    go_wp2
    go_loopw [5] (fun j wr => ∃ k : Nat, k ≤ a.length ∧ j = .int .i64 k ∧ Hid (a.drop k = b.drop k ↔ a = b) ∧ Hid (Below w.heap.size w wr)) (fun j _ => a.length - (intOf j).toNat)
    case atStart => exact ⟨0, Nat.zero_le _, rfl, Iff.rfl, Below.refl _ _⟩
    case round =>
      obtain ⟨k, hk, rfl, hs, hw⟩ := hrel
      by_cases hlt : k < a.length
      · obtain ⟨p, hp, hpd⟩ := Ck.drop_cons hlt
        obtain ⟨r, hr, hrd⟩ := Ck.drop_cons (l := b) (k := k) (by have := Hl.out; omega)
        obtain ⟨b1, o1, e1, l1, hc⟩ := Ha.out k _ (Ck.strs_at hp)
        obtain ⟨b2, o2, e2, l2, hd⟩ := Hb.out k _ (Ck.strs_at hr)
        have c0 := ((D.bcell hw.out).1 _ _ l1).trans hc
        have d0 := ((D.bcell hw.out).1 _ _ l2).trans hd
        clear hc hd
        subst e1
        subst e2
        have hkb : k < b.length := by have := Hl.out; omega
        have hst : Hid ((p = r ∧ a.drop (k + 1) = b.drop (k + 1)) ↔ a = b) := by show _ ↔ _; rw [← hs.out, hpd, hrd, List.cons.injEq]
        unfold V.str at c0 d0
        by_cases hpe : p = r
        · have hn : Hid (a.drop (k + 1) = b.drop (k + 1) ↔ a = b) := by show _ ↔ _; rw [← hst.out]; simp [hpe]
          have q1 : (p == r) = true := by rw [hpe]; simp
          clear hpd hrd hp hr hpe hs hst
          go_wp2_with fail
          go_quiet (fail)
          go_wp2
          go_roundw
          case rel => exact ⟨k + 1, by omega, by go_num, hn, below_drewN hw.out _⟩
          case measure => simp [intOf]; omega
        · have hn : Hid (decide (a = b) = false) := by show _ = _; rw [decide_eq_false_iff_not, ← hst.out]; exact fun h => hpe h.1
          have q1 : (p == r) = false := by simpa using hpe
          clear hpd hrd hp hr hpe hs hst
          go_wp2_with fail
          go_quiet (fail)
          go_wp2
          go_ret
          exact ⟨by rw [hn.out]; rfl, below_drewN hw.out _⟩
      · obtain rfl : k = a.length := by omega
        have hn : Hid (decide (a = b) = true) := by show _ = _; rw [decide_eq_true_iff, ← hs.out, List.drop_length, Hl.out, List.drop_length]
        go_wp2
        go_ret
        exact ⟨by rw [hn.out]; rfl, hw.out⟩
  · have hn : Hid (decide (a = b) = false) := by show _ = _; rw [decide_eq_false_iff_not]; exact fun h => hl (by rw [h])
    have hq : ((a.length : Int) != (b.length : Int)) = true := by simp; omega
    clear ha hb hl
    go_enter Try.func28, Try.ntmps28
    go_wp2
    go_ret
    exact ⟨by rw [hn.out]; rfl, Below.refl _ _⟩
/-! ### works -/
theorem Ck.works_is : C14.chunks [97, 98, 99, 100, 101, 102, 103, 104, 105, 106, 107, 108, 109, 110, 111, 112, 113] = [[97, 98, 99, 100, 101, 102, 103, 104, 105], [106, 107, 108, 109, 110, 111, 112, 113]] := by decide
set_option maxRecDepth 100000 in
set_option maxHeartbeats 1000000 in
theorem works14_any (w : World) : Calls Try.prog 26 #[] w fun e w' => e = .returned (.bool true) ∧ Below w.heap.size w w' := by
  have HC := chunks14_any ⟨#[97, 98, 99, 100, 101, 102, 103, 104, 105, 106, 107, 108, 109, 110, 111, 112, 113]⟩ w (by decide)
  unfold Ck.ChEnd at HC
  rw [show (⟨#[97, 98, 99, 100, 101, 102, 103, 104, 105, 106, 107, 108, 109, 110, 111, 112, 113]⟩ : ByteArray).data.toList = [97, 98, 99, 100, 101, 102, 103, 104, 105, 106, 107, 108, 109, 110, 111, 112, 113] from rfl, Ck.works_is] at HC
  have HC := Lib.hid HC
  go_enter Try.func26, Try.ntmps26
  go_wp2_with fail
  refine HC.out.mono ?_
  rintro e w1 ⟨v, rfl, hm⟩
  have B := Lib.hid hm.below
  obtain ⟨ao, ca, hv, hrow⟩ := hm.row
  have hv : v = .slice ao 2 ca := hv
  subst hv
  obtain ⟨b, o, rfl, hbl, c0⟩ := hrow 0 _ rfl
  obtain ⟨_, _, e1, _, c1⟩ := hrow 1 _ rfl
  injection e1 with e1
  injection e1 with e1 e2
  subst e1
  subst e2
  unfold V.str at c0 c1
  rw [Nat.add_zero] at c0
  clear hrow hm HC
  go_wp2
  go_ret
  exact ⟨rfl, B.out⟩
end Go.Proofs.Ytniccjbcchdkoaa
