/- The contract of Lines. -/
import Derived.Test.YtdilkoogjkabfaaDoorPackDCode
import Derived.Test.YtdilkoogjkabfaaDoorPackDIter
import Derived.Test.YtdilkoogjkabfaaDoorDiffCom
import Derived.Test.YtdilkoogjkabfaaDoorDeltaJoinKit
namespace Go.Proofs.YtdilkoogjkabfaaDoor
open Go.RowKit

/-- What Lines answers. -/
def F.lnE (a b : List UInt8) : Int := if 1048576 < a.length ∨ 1048576 < b.length ∨ 1024 < (F.rows a).length ∨ 1024 < (F.rows b).length then 5 else 0
def F.lnQ (a b : List UInt8) : List D.P := if F.lnE a b = 0 then F.lnP a b else []
theorem F.lnE_ok {a b : List UInt8} (h : F.lnE a b = 0) : a.length ≤ 1048576 ∧ b.length ≤ 1048576 ∧ (F.rows a).length ≤ 1024 ∧ (F.rows b).length ≤ 1024 := by
  unfold F.lnE at h
  split at h
  · omega
  · omega
theorem F.lnQ_ln {a b : List UInt8} (h : F.lnE a b = 0) : F.Ln a b (F.lnQ a b) := by
  obtain ⟨h1, h2, h3, h4⟩ := F.lnE_ok h
  unfold F.lnQ; rw [if_pos h]; exact F.lnP_ln h1 h2 h3 h4
theorem F.lnQ_bad {a b : List UInt8} (h : F.lnE a b ≠ 0) : F.lnQ a b = [] := if_neg h
theorem F.lnE_cases (a b : List UInt8) : F.lnE a b = 0 ∨ F.lnE a b = 5 := by unfold F.lnE; split <;> simp
def F.LinesEnd (a b : List UInt8) (w : World) (e : Ending) (w' : World) : Prop := ∃ v, e = .returned (.tuple #[v, .int .i64 (F.lnE a b)]) ∧ D.Made (F.lnQ a b) w v w'
theorem V.row_cap {W : World} {base : Nat} {e : TypeId} {v : Value} {l : List Value} (h : W.ownsRow base e 1 v l.length l) : ∃ ao c, v = .slice ao l.length c ∧ l.length ≤ c ∧ V.Row W ao l := by
  by_cases h0 : l = []
  · subst h0
    obtain ⟨ao, c, hv, hr⟩ := V.row_of h
    exact ⟨ao, c, hv, Nat.zero_le _, hr⟩
  · obtain ⟨g, c, hv, _, hl, hc, hr⟩ := V.own_some h h0
    exact ⟨some ⟨g, 0, none⟩, c, hv, hc, fun i x hx => ⟨g, 0, rfl, hl, by rw [Nat.zero_add]; exact hr i x hx⟩⟩
theorem F.opP_map (o : List F.Op) : o.map F.opP = (o.map F.opQ).map D.raw := by rw [List.map_map]; rfl
/-- What the pieces come to. -/
theorem F.pieces_ok {a b : List UInt8} (h : F.lnE a b = 0) : D.chk ((F.pk (F.rows a) (F.rows b)).map F.opP) = 0 ∧ D.normP ((F.pk (F.rows a) (F.rows b)).map F.opP) = F.lnQ a b := by
  obtain ⟨h1, h2, h3, h4⟩ := F.lnE_ok h
  have hx := F.pk_frm (F.rows a) (F.rows b)
  have hy := F.pk_too (F.rows a) (F.rows b)
  have hl := F.pk_len (F.rows a) (F.rows b)
  have hp := F.op_pos (F.pk (F.rows a) (F.rows b)) (by rw [hx]; exact F.rows_ne a) (by rw [hy]; exact F.rows_ne b)
  have hi : D.inL ((F.pk (F.rows a) (F.rows b)).map F.opQ) = a.length := by rw [F.op_in, hx, F.rows_join]
  have ho : D.outL ((F.pk (F.rows a) (F.rows b)).map F.opQ) = b.length := by rw [F.op_out, hy, F.rows_join]
  rw [F.opP_map]
  refine ⟨?_, ?_⟩
  · rw [D.chk_pos _ hp (by rw [List.length_map]; omega), hi, ho, if_pos (by omega)]
  · rw [D.normP_raw]
    unfold F.lnQ; rw [if_pos h]; rfl
theorem D.Made.weak {l : List D.P} {w W W' : World} {v : Value} (h : D.Made l W v W') (hb : Below w.heap.size w W) : D.Made l w v W' := by
  obtain ⟨h1, h2⟩ := h.own
  exact ⟨⟨h1, h2.imp id (fun ⟨g, cap, cur, a, b, c⟩ => ⟨g, cap, cur, a, Nat.le_trans hb.size b, c⟩)⟩, hb.trans (h.below.mono hb.size)⟩
theorem F.tooB_f {a b : ByteArray} (h : F.tooB a b = false) : a.size ≤ 1048576 ∧ b.size ≤ 1048576 := by
  unfold F.tooB at h
  rw [Bool.or_eq_false_iff, decide_eq_false_iff_not, decide_eq_false_iff_not] at h
  omega
theorem F.tooB_t {a b : ByteArray} (h : F.tooB a b = true) : 1048576 < a.size ∨ 1048576 < b.size := by
  unfold F.tooB at h
  rwa [Bool.or_eq_true, decide_eq_true_eq, decide_eq_true_eq] at h
set_option maxRecDepth 100000 in
set_option maxHeartbeats 4000000 in
theorem lines_any (a b : ByteArray) (w : World) (za : a.size ≤ 140737488351232) (zb : b.size ≤ 140737488351232) :
    Calls Tryd.prog 13 #[.string a, .string b] w (F.LinesEnd a.data.toList b.data.toList w) := by
  have H0 := Lib.hid (tooLong_any a b w za zb)
  cases ht : F.tooB a b with
  | true =>
    have e5 : F.lnE a.data.toList b.data.toList = 5 := by
      have := F.tooB_t ht
      unfold F.lnE; rw [U.len, U.len, if_pos (by omega)]
    have R : F.LinesEnd a.data.toList b.data.toList w (.returned (.tuple #[.slice none 0 0, .int .i64 5])) w := ⟨_, by rw [e5], by rw [F.lnQ_bad (by rw [e5]; decide)]; exact D.Made.nil w (Below.refl _ _)⟩
    have R := Lib.hid R
    rw [ht] at H0
    clear ht e5
    go_enter Tryd.func13, Tryd.ntmps13
    go_wp2_with fail
    refine H0.out.mono ?_
    rintro e w1 ⟨rfl, rfl⟩
    go_wp2
    go_ret2
    exact R.out
  | false =>
    obtain ⟨sa, sb⟩ := F.tooB_f ht
    have L1 : Hid (∀ W, Calls Tryd.prog 29 #[.string a] W fun e w' => e = .returned (.func (.func 38) #[] #[.pointer (some ⟨W.heap.size, 0, none⟩)]) ∧ W.alloc (.cells #[.string a] 9) = w') := fun W => linesFn_any a W
    have L2 : Hid (∀ W, Calls Tryd.prog 29 #[.string b] W fun e w' => e = .returned (.func (.func 38) #[] #[.pointer (some ⟨W.heap.size, 0, none⟩)]) ∧ W.alloc (.cells #[.string b] 9) = w') := fun W => linesFn_any b W
    have C1 := Lib.hid (collect8_any a w sa)
    have C2 : Hid (∀ W, Calls Tryd.prog 28 #[.func (.func 38) #[] #[.pointer (some ⟨W.heap.size, 0, none⟩)]] (W.alloc (.cells #[.string b] 9)) fun e w' => ∃ v, e = .returned v ∧ V.Made 9 ((F.rows b.data.toList).map V.str) W v w') := fun W => collect8_any b W sb
    have ra := F.rows_len a.data.toList
    have rb := F.rows_len b.data.toList
    rw [U.len] at ra rb
    have SX : Hid (F.sumW List.length (F.rows a.data.toList) ≤ 1048576) := by show _ ≤ _; rw [F.sum_rows, U.len]; exact sa
    have SY : Hid (F.sumW List.length (F.rows b.data.toList) ≤ 1048576) := by show _ ≤ _; rw [F.sum_rows, U.len]; exact sb
    have EE : Hid (F.lnE a.data.toList b.data.toList = if 1024 < (F.rows a.data.toList).length ∨ 1024 < (F.rows b.data.toList).length then 5 else 0) := by
      show _ = _
      unfold F.lnE
      rw [U.len, U.len]
      by_cases c : 1024 < (F.rows a.data.toList).length ∨ 1024 < (F.rows b.data.toList).length
      · rw [if_pos c, if_pos (by omega)]
      · rw [if_neg c, if_neg (by omega)]
    have PK : Hid (F.lnE a.data.toList b.data.toList = 0 → D.chk ((F.pk (F.rows a.data.toList) (F.rows b.data.toList)).map F.opP) = 0 ∧ D.normP ((F.pk (F.rows a.data.toList) (F.rows b.data.toList)).map F.opP) = F.lnQ a.data.toList b.data.toList) := F.pieces_ok
    have QB : Hid (F.lnE a.data.toList b.data.toList ≠ 0 → F.lnQ a.data.toList b.data.toList = []) := F.lnQ_bad
    rw [ht] at H0
    clear ht
    unfold F.LinesEnd
    generalize F.lnE a.data.toList b.data.toList = E at *
    generalize F.lnQ a.data.toList b.data.toList = Q at *
    generalize F.rows a.data.toList = x at *
    generalize F.rows b.data.toList = y at *
    obtain ⟨n, hn⟩ : ∃ n, Hid (x.length = n) := ⟨_, rfl⟩
    obtain ⟨m, hm⟩ : ∃ m, Hid (y.length = m) := ⟨_, rfl⟩
    rw [hn.out] at ra EE
    rw [hm.out] at rb EE
    go_enter Tryd.func13, Tryd.ntmps13
    go_wp2_with fail
    refine H0.out.mono ?_
    rintro e w0 ⟨rfl, rfl⟩
    go_wp2_with fail
    refine (L1.out _).mono ?_
    rintro e w1 ⟨rfl, rfl⟩
    go_wp2_with fail
    refine C1.out.mono ?_
    rintro e w1 ⟨v, rfl, hm1⟩
    obtain ⟨ao, ca, hv, hca, hra⟩ := V.row_cap hm1.own
    rw [List.length_map, hn.out] at hv hca
    subst hv
    have M1 := Lib.hid (And.intro hm1.below (And.intro hra hca))
    clear hm1 hra hca H0 C1 L1
    go_wp2_with fail
    refine (L2.out _).mono ?_
    rintro e w2 ⟨rfl, rfl⟩
    go_wp2_with fail
    refine (C2.out _).mono ?_
    rintro e w2 ⟨v, rfl, hm2⟩
    obtain ⟨bo, cb, hv, hcb, hrb⟩ := V.row_cap hm2.own
    rw [List.length_map, hm.out] at hv hcb
    subst hv
    have M2 := Lib.hid (And.intro (M1.out.1.trans (hm2.below.mono M1.out.1.size)) (And.intro (M1.out.2.1.below hm2.below) (And.intro M1.out.2.2 (And.intro hrb hcb))))
    clear hm2 hrb hcb C2 L2 M1
    by_cases hc : 1024 < n ∨ 1024 < m
    · have R : Hid (∃ v, Ending.returned (.tuple #[.slice none 0 0, .int .i64 5]) = .returned (.tuple #[v, .int .i64 E]) ∧ D.Made Q w v w2) := by
        have e5 : E = 5 := by rw [EE.out, if_pos hc]
        exact ⟨_, by rw [e5], by rw [QB.out (by rw [e5]; decide)]; exact D.Made.nil w M2.out.1⟩
      have R := Lib.hid R
      by_cases c : n < m
      · have c2 : 1024 < m := by omega
        go_wp2
        go_ret2
        exact R.out
      · have c2 : 1024 < n := by omega
        go_wp2
        go_ret2
        exact R.out
    · have e0 : E = 0 := by rw [EE.out, if_neg hc]
      have hx : x.length ≤ 1024 := by rw [hn.out]; omega
      have hy : y.length ≤ 1024 := by rw [hm.out]; omega
      have SH := shortest_any x y ao bo ca cb w2 hx hy SX.out SY.out M2.out.2.1 M2.out.2.2.2.1
      rw [hn.out, hm.out] at SH
      have SH := Lib.hid SH
      obtain ⟨p1, p2⟩ := PK.out e0
      have hpl := F.pk_len x y
      have PF := F.pk_frm x y
      have PT := F.pk_too x y
      have PC : Hid (∀ ko kc W, Below w2.heap.size w2 W → V.Row W ko ((F.pk x y).map F.kdV) → Calls Tryd.prog 32 #[.slice ao n ca, .slice bo m cb, .slice ko (F.pk x y).length kc] W (F.PcEnd (F.pk x y) W)) := fun ko kc W hb hk =>
        pieces8_any (F.pk x y) _ _ ko kc W (by omega) ⟨ao, ca, by rw [PF, hn.out], by rw [PF, hn.out]; exact M2.out.2.2.1, by rw [PF]; exact M2.out.2.1.below hb⟩ ⟨bo, cb, by rw [PT, hm.out], by rw [PT, hm.out]; exact M2.out.2.2.2.2, by rw [PT]; exact M2.out.2.2.2.1.below hb⟩ hk
      have NZ : Hid (∀ g c W, D.Row W (some ⟨g, 0, none⟩) ((F.pk x y).map F.opP) → Calls Tryd.prog 9 #[.slice (some ⟨g, 0, none⟩) (F.pk x y).length c] W (fun e w' => ∃ v, e = .returned (.tuple #[v, .int .i64 0]) ∧ D.Made Q W v w')) := fun g c W hr => by
        have := normalize_any (some ⟨g, 0, none⟩) c ((F.pk x y).map F.opP) W (D.bd_of p1).1 hr (D.bd_of p1).2
        unfold D.NormEnd at this
        rw [p1, if_pos rfl, p2, List.length_map] at this
        exact this
      have FIN : Hid (∀ v W W', Below w.heap.size w W → D.Made Q W v W' → ∃ v', Ending.returned (.tuple #[v, .int .i64 0]) = .returned (.tuple #[v', .int .i64 E]) ∧ D.Made Q w v' W') := fun v W W' hb hm => ⟨v, by rw [e0], hm.weak hb⟩
      unfold F.ShEnd at SH
      unfold F.PcEnd at PC
      have MB := Lib.hid M2.out.1
      clear e0 hx hy p1 p2 PF PT PK QB EE M2 SX SY
      generalize F.pk x y = o at *
      have ol : o.length ≤ 4096 := by rw [hn.out, hm.out] at hpl; omega
      obtain ⟨z, hz⟩ : ∃ z, Hid (o.length = z) := ⟨_, rfl⟩
      rw [hz.out] at SH PC NZ ol
      clear hpl
      have c1 : ¬ 1024 < n := by omega
      have c2 : ¬ 1024 < m := by omega
      go_upto_region 4 with (fail)
      go_cut [23] (fun v wx => v = .bool false ∧ Hid (wx = w2))
      case first =>
        go_wp2
        go_meet
        case rel => exact ⟨by congr 1; rw [decide_eq_false_iff_not]; omega, rfl⟩
      case rest =>
      obtain ⟨rfl, hw⟩ := hcut
      obtain rfl := hw.out
      clear hw
      obtain ⟨w2, rfl⟩ : ∃ w2 : World, w2 = wc := ⟨_, rfl⟩
      go_wp2_with fail
      refine SH.out.mono ?_
      rintro e w3 ⟨ko, kc, rfl, hk, hb3⟩
      have P3 := Lib.hid (PC.out ko kc w3 hb3 hk)
      have B3 := Lib.hid (MB.out.trans (hb3.mono MB.out.size))
      clear hk hb3 PC SH MB
      go_wp2_with fail
      refine P3.out.mono ?_
      rintro e w4 ⟨g, rfl, hr, hb4⟩
      have N4 := Lib.hid (NZ.out g z w4 hr)
      have B4 := Lib.hid (B3.out.trans (hb4.mono B3.out.size))
      clear hr hb4 NZ P3 B3
      go_wp2_with fail
      refine N4.out.mono ?_
      rintro e w5 ⟨v, rfl, hm5⟩
      have R := Lib.hid (FIN.out v w4 w5 B4.out hm5)
      clear hm5 N4 B4 FIN
      go_wp2
      go_ret2
      exact R.out
end Go.Proofs.YtdilkoogjkabfaaDoor
