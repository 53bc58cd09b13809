/- The contracts of the reference of layer 3: Sizes, Lengths, Same. -/
import Derived.Test.YtmbgcbgbdjiacaaDeltaRef1
import Derived.RangeFuncBox
import Derived.Maps.AppendAt
namespace Go.Proofs.Ytmbgcbgbdjiacaa
open Go.RowKit

theorem D.eqPiece (a b x y : Int) (s t : ByteArray) (w : World) : (Op.equalIn 10000 53 (.agg #[.int .u8 a, .int .i64 b, .string s]) (.agg #[.int .u8 x, .int .i64 y, .string t])).run Try.prog w = .ok (a == x && b == y && s.toList == t.toList) w := by
  have u3 := Try.underlying3
  have u5 := Try.underlying5
  have u9 := Try.underlying9
  have a3 := Try.isAgg3
  have a5 := Try.isAgg5
  have a9 := Try.isAgg9
  have z3 := Try.sizeOf3
  have z5 := Try.sizeOf5
  have z9 := Try.sizeOf9
  have hS : Try.prog.underlying 53 = some (.struct (Try.prog.fieldsOf 53)) := by kernel_rfl
  rw [show (10000 : Nat) = 9999 + 1 from rfl, run_equalIn_agg w 9999 53 _ _ hS (by kernel_rfl)]
  simp only [Program.fieldsOf, Try.underlying53]
  go_simp
  by_cases h1 : a = x <;> by_cases h2 : b = y <;> by_cases h3 : s.toList = t.toList <;> simp [h1, h2, h3]
set_option maxHeartbeats 1000000 in
theorem refSizes_any (ao : Option Addr) (cap : Nat) (l : List D.P) (w : World) (hr : D.Row w ao l) (hv : D.chk l = 0) :
    Calls Try.prog 67 #[.slice ao l.length cap] w fun e w' => e = .returned (.tuple #[.int .i64 (D.inP l), .int .i64 (D.outP l)]) ∧ w = w' := by
  have hn : l.length ≤ 4096 := by
    unfold D.chk at hv
    split at hv
    · cases hv
    · omega
  have Hr := Lib.hid hr
  have Hv := Lib.hid hv
  clear hr hv
  go_enter Try.func67, Try.ntmps67
  go_wp2
  go_loop [4, 5, 6] (fun a b j => ∃ k : Nat, k ≤ l.length ∧ j = .int .i64 k ∧ a = .int .i64 (D.inP (l.take k)) ∧ b = .int .i64 (D.outP (l.take k))) (fun _ _ j => l.length - (intOf j).toNat)
  case atStart => exact ⟨0, Nat.zero_le _, rfl, rfl, rfl⟩
  case round =>
    obtain ⟨k, hk, rfl, rfl, rfl⟩ := hrel
    obtain ⟨i0, i1, o0, o1⟩ := D.sizes_bd l Hv.out k
    by_cases hlt : k < l.length
    · obtain ⟨p, hp, _⟩ := D.drop_cons hlt
      obtain ⟨b, q, e, hbl, c0, c1, c2⟩ := Hr.out k p hp
      subst e
      have hi := Lib.hid (D.inP_snoc l k p hp)
      have ho := Lib.hid (D.outP_snoc l k p hp)
      obtain ⟨i2, i3, o2, o3⟩ := D.sizes_bd l Hv.out (k + 1)
      rw [hi.out] at i2 i3
      rw [ho.out] at o2 o3
      rcases D.vP_forms (D.piece_of_chk Hv.out hp) with ⟨n, hn0, rfl⟩ | ⟨t, ht0, rfl⟩ | ⟨n, hn0, rfl⟩
      · simp only [if_true, D.size_e] at o2 o3
        clear hp
        go_wp2
        go_round
        case rel => exact ⟨k + 1, by omega, by go_num, by rw [hi.out], by rw [ho.out]; simp [D.size_e]⟩
        case measure => simp [intOf]; omega
      · simp only [show ¬ (2 : Int) = 1 by decide, if_false] at o2 o3
        clear hp
        go_wp2
        go_round
        case rel => exact ⟨k + 1, by omega, by go_num, by rw [hi.out]; simp, by rw [ho.out]; simp⟩
        case measure => simp [intOf]; omega
      · simp only [show ¬ (3 : Int) = 1 by decide, if_false, D.size_e] at o2 o3
        dsimp only at i2 i3
        clear hp
        go_wp2
        go_round
        case rel => exact ⟨k + 1, by omega, by go_num, by rw [hi.out], by rw [ho.out]; simp [D.size_e]⟩
        case measure => simp [intOf]; omega
    · obtain rfl : k = l.length := by omega
      go_wp2
      go_ret2
      exact ⟨rfl, rfl⟩
theorem refLengths_any (ao : Option Addr) (cap : Nat) (l : List D.P) (w : World) (hn : l.length ≤ maxLen) (hr : D.Row w ao l) (ht : ∀ p ∈ l, p.t.size ≤ 140737488351232) :
    Calls Try.prog 41 #[.slice ao l.length cap] w fun e w' => e = .returned (.tuple #[.int .i64 (if D.chk l = 0 then D.inP l else 0), .int .i64 (if D.chk l = 0 then D.outP l else 0), .int .i64 (D.chk l)]) ∧ Below w.heap.size w w' := by
  have hc := refCheck_any ao cap l w hn hr ht
  by_cases h : D.chk l = 0
  · have hs : Hid (∀ V, Below w.heap.size w V → Calls Try.prog 67 #[.slice ao l.length cap] V fun e w' => e = .returned (.tuple #[.int .i64 (D.inP l), .int .i64 (D.outP l)]) ∧ V = w') := fun V hb => refSizes_any ao cap l V (hr.below hb) h
    rw [if_pos h, if_pos h, h]
    rw [h] at hc
    have Hc := Lib.hid hc
    clear hc h hr ht
    go_enter Try.func41, Try.ntmps41
    go_wp2_with fail
    refine Hc.out.mono ?_
    rintro e w1 ⟨rfl, hb⟩
    go_wp2_with (go_at_call 67; refine (hs.out _ hb).mono ?_; rintro e w' ⟨rfl, rfl⟩)
    go_ret3
    exact ⟨rfl, hb⟩
  · have h' : (D.chk l != 0) = true := by simpa using h
    rw [if_neg h, if_neg h]
    generalize D.chk l = c at hc h'
    have Hc := Lib.hid hc
    clear hc h hr ht
    go_enter Try.func41, Try.ntmps41
    go_wp2_with fail
    refine Hc.out.mono ?_
    rintro e w1 ⟨rfl, hb⟩
    go_wp2
    go_ret3
    exact ⟨rfl, hb⟩
theorem D.peq_walk (p q : D.P) : (p.k == q.k && p.n == q.n && p.t.toList == q.t.toList) = D.peq p q := by rw [ByteArray.toList_eq, ByteArray.toList_eq]; rfl
set_option maxHeartbeats 1000000 in
theorem refSame_any (ao bo : Option Addr) (ca cb : Nat) (a b : List D.P) (w : World) (ha : D.Row w ao a) (hb : D.Row w bo b) (la : a.length ≤ maxLen) (_lb : b.length ≤ maxLen) :
    Calls Try.prog 25 #[.slice ao a.length ca, .slice bo b.length cb] w fun e w' => e = .returned (.bool (D.same a b)) ∧ Below w.heap.size w w' := by
  unfold maxLen at la
  by_cases hl : a.length = b.length
  · have Ha := Lib.hid ha
    have Hb := Lib.hid hb
    have Hl := Lib.hid hl
    have hq : ((a.length : Int) != (b.length : Int)) = false := by simp [hl]
    clear ha hb hl
    go_enter Try.func25, Try.ntmps25
    go_wp2
    go_loopw [5] (fun j wr => ∃ k : Nat, k ≤ a.length ∧ j = .int .i64 k ∧ Hid (D.same (a.drop k) (b.drop k) = D.same a b) ∧ Hid (Below w.heap.size w wr)) (fun j _ => a.length - (intOf j).toNat)
    case atStart => exact ⟨0, Nat.zero_le _, rfl, rfl, Below.refl _ _⟩
    case round =>
      obtain ⟨k, hk, rfl, hs, hw⟩ := hrel
      by_cases hlt : k < a.length
      · obtain ⟨p, hp, hpd⟩ := D.drop_cons hlt
        obtain ⟨r, hr, hrd⟩ := D.drop_cons (l := b) (k := k) (by have := Hl.out; omega)
        obtain ⟨b1, o1, e1, l1, hc⟩ := Ha.out k p hp
        obtain ⟨b2, o2, e2, l2, hd⟩ := Hb.out k r hr
        obtain ⟨c0, c1, c2⟩ := D.cell3 hw.out l1 hc
        obtain ⟨d0, d1, d2⟩ := D.cell3 hw.out l2 hd
        clear hc hd
        subst e1
        subst e2
        have hkb : k < b.length := by have := Hl.out; omega
        have hst : Hid (D.same a b = (D.peq p r && D.same (a.drop (k + 1)) (b.drop (k + 1)))) := by show _ = _; rw [← hs.out, hpd, hrd]; rfl
        cases hpe : D.peq p r with
        | true =>
          have hn : Hid (D.same (a.drop (k + 1)) (b.drop (k + 1)) = D.same a b) := by show _ = _; rw [hst.out, hpe]; rfl
          have hrun : ∀ W : World, (Op.equalIn 10000 53 (.agg #[.int .u8 p.k, .int .i64 p.n, .string p.t]) (.agg #[.int .u8 r.k, .int .i64 r.n, .string r.t])).run Try.prog W = .ok true W := fun W => by rw [D.eqPiece, D.peq_walk, hpe]
          clear hpd hrd hp hr hpe hs hst
          go_wp2_with fail
          go_quiet (fail)
          go_wp2
          go_roundw
          case rel => exact ⟨k + 1, by omega, by go_num, hn, below_drewN hw.out _⟩
          case measure => simp [intOf]; omega
        | false =>
          have hn : Hid (D.same a b = false) := by show _ = _; rw [hst.out, hpe]; rfl
          have hrun : ∀ W : World, (Op.equalIn 10000 53 (.agg #[.int .u8 p.k, .int .i64 p.n, .string p.t]) (.agg #[.int .u8 r.k, .int .i64 r.n, .string r.t])).run Try.prog W = .ok false W := fun W => by rw [D.eqPiece, D.peq_walk, hpe]
          clear hpd hrd hp hr hpe hs hst
          go_wp2_with fail
          go_quiet (fail)
          go_wp2
          go_ret
          exact ⟨by rw [hn.out]; rfl, below_drewN hw.out _⟩
      · obtain rfl : k = a.length := by omega
        have hn : Hid (D.same a b = true) := by show _ = _; rw [← hs.out, List.drop_length, Hl.out, List.drop_length]; rfl
        go_wp2
        go_ret
        exact ⟨by rw [hn.out]; rfl, hw.out⟩
  · have hn : Hid (D.same a b = false) := D.same_len hl
    have hq : ((a.length : Int) != (b.length : Int)) = true := by simp; omega
    clear ha hb hl
    go_enter Try.func25, Try.ntmps25
    go_wp2
    go_ret
    exact ⟨by rw [hn.out]; rfl, Below.refl _ _⟩
end Go.Proofs.Ytmbgcbgbdjiacaa
