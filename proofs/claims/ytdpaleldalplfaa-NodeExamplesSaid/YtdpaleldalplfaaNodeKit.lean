/- The laws' kit at rows of children: comparing and copying. -/
import Derived.Test.YtdpaleldalplfaaNodeRow
import Derived.Test.YtdpaleldalplfaaNodeEq
namespace Go.Proofs.Ytdpaleldalplfaa
open Go.RowKit

theorem N.cell4 {W V : World} {b o : Nat} {x y z u : Value} (hb : Below W.heap.size W V) (hl : b < W.heap.size) (h : W.cell? ⟨b, o, none⟩ = some x ∧ W.cell? ⟨b, o + 1, none⟩ = some y ∧ W.cell? ⟨b, o + 2, none⟩ = some z ∧ W.cell? ⟨b, o + 3, none⟩ = some u) :
    V.cell? ⟨b, o, none⟩ = some x ∧ V.cell? ⟨b, o + 1, none⟩ = some y ∧ V.cell? ⟨b, o + 2, none⟩ = some z ∧ V.cell? ⟨b, o + 3, none⟩ = some u := by
  have hc := (D.bcell hb).1
  exact ⟨(hc _ _ hl).trans h.1, (hc _ _ hl).trans h.2.1, (hc _ _ hl).trans h.2.2.1, (hc _ _ hl).trans h.2.2.2⟩
/-- A child as the program holds it. -/
def N.kv (k : N.K) : Value := .agg #[.int .u64 (k.at_ : Int), .int .i64 k.b, .int .i64 k.r, .int .i64 k.l]
set_option maxHeartbeats 1000000 in
theorem copyKids_any (ao : Option Addr) (ca : Nat) (l : List N.K) (w : World) (hr : N.Row w ao l) (la : l.length * 32 ≤ 140737488351232) :
    Calls Try.prog 29 #[.slice ao l.length ca] w fun e w' => ∃ v, e = .returned v ∧ N.Made l w v w' := by
  have Hr := Lib.hid hr
  clear hr
  go_enter Try.func29, Try.ntmps29
  go_wp2
  go_loopw [3, 4] (fun v j wr => ∃ k : Nat, k ≤ l.length ∧ j = .int .i64 k ∧ Hid (N.Made (l.take k) w v wr)) (fun _ j _ => l.length - (intOf j).toNat)
  case atStart => exact ⟨0, Nat.zero_le _, rfl, N.Made.nil w (Below.refl _ _)⟩
  case round =>
    obtain ⟨k, hk, rfl, hL⟩ := hrel
    by_cases hlt : k < l.length
    · obtain ⟨p, hp, _⟩ := N.drop_cons hlt
      obtain ⟨b1, o1, e1, l1, hc⟩ := Hr.out k p hp
      have hb := Lib.hid hL.out.below
      have hbs := hb.out.size
      obtain ⟨c0, c1, c2, c3⟩ := N.cell4 hb.out l1 hc
      subst e1
      have hst : Hid (l.take (k + 1) = l.take k ++ [p]) := by show _ = _; rw [List.take_add_one, hp]; rfl
      obtain ⟨X, hX⟩ : ∃ X, Hid (l.take k = X) := ⟨_, rfl⟩
      have hle : (X.length + 1) * 32 ≤ 140737488355328 := by rw [← hX.out, List.length_take]; omega
      rw [hX.out] at hst hL
      clear hc hp
      obtain ⟨vo, vc, hv, _⟩ := hL.out.form
      subst hv
      obtain ⟨W0, rfl⟩ : ∃ W0 : World, W0 = wr := ⟨_, rfl⟩
      go_wp2_with (at_builtin; refine N.append_one rfl _ _ rfl w.heap.size (.slice vo X.length vc) X rfl hL.out.own p 1 rfl ?a1 ?a2 ?_)
      case a1 => exact hle
      case a2 => exact hbs
      intro Z v' w3 hZ hO hg
      have R : Hid (N.Made (l.take (k + 1)) w v' w3) := by
        show N.Made _ _ _ _
        rw [hst.out, ← hZ.out]
        exact N.Made.on hL.out hO hg
      clear hO hg hL
      go_wp2
      go_roundw
      case rel => exact ⟨k + 1, by omega, by go_num, R⟩
      case measure => simp [intOf]; omega
    · obtain rfl : k = l.length := by omega
      rw [List.take_length] at hL
      go_wp2
      go_ret
      exact ⟨_, rfl, hL.out⟩
theorem N.kv_eq {p r : N.K} : p = r ↔ p.at_ = r.at_ ∧ p.b = r.b ∧ p.r = r.r ∧ p.l = r.l := by
  constructor
  · rintro rfl; exact ⟨rfl, rfl, rfl, rfl⟩
  · obtain ⟨a, b, c, d⟩ := p
    obtain ⟨a', b', c', d'⟩ := r
    rintro ⟨rfl, rfl, rfl, rfl⟩; rfl
set_option maxHeartbeats 1000000 in
theorem equalKids_any (ao bo : Option Addr) (ca cb : Nat) (a b : List N.K) (w : World) (ha : N.Row w ao a) (hb : N.Row w bo b) (la : a.length ≤ maxLen) :
    Calls Try.prog 33 #[.slice ao a.length ca, .slice bo b.length cb] w fun e w' => e = .returned (.bool (decide (a = b))) ∧ Below w.heap.size w w' := by
  unfold maxLen at la
  by_cases hl : a.length = b.length
  · have Ha := Lib.hid ha
    have Hb := Lib.hid hb
    have Hl := Lib.hid hl
    have hq : ((a.length : Int) != (b.length : Int)) = false := by simp [hl]
    clear ha hb hl
    go_enter Try.func33, Try.ntmps33
    go_wp2
    go_loopw [5] (fun j wr => ∃ k : Nat, k ≤ a.length ∧ j = .int .i64 k ∧ Hid (a.drop k = b.drop k ↔ a = b) ∧ Hid (Below w.heap.size w wr)) (fun j _ => a.length - (intOf j).toNat)
    case atStart => exact ⟨0, Nat.zero_le _, rfl, Iff.rfl, Below.refl _ _⟩
    case round =>
      obtain ⟨k, hk, rfl, hs, hw⟩ := hrel
      by_cases hlt : k < a.length
      · obtain ⟨p, hp, hpd⟩ := N.drop_cons hlt
        obtain ⟨r, hr, hrd⟩ := N.drop_cons (l := b) (k := k) (by have := Hl.out; omega)
        obtain ⟨b1, o1, e1, l1, hc⟩ := Ha.out k p hp
        obtain ⟨b2, o2, e2, l2, hd⟩ := Hb.out k r hr
        obtain ⟨c0, c1, c2, c3⟩ := N.cell4 hw.out l1 hc
        obtain ⟨d0, d1, d2, d3⟩ := N.cell4 hw.out l2 hd
        clear hc hd
        subst e1
        subst e2
        have hkb : k < b.length := by have := Hl.out; omega
        have hst : Hid ((p = r ∧ a.drop (k + 1) = b.drop (k + 1)) ↔ a = b) := by show _ ↔ _; rw [← hs.out, hpd, hrd, List.cons.injEq]
        by_cases hpe : p = r
        · have hn : Hid (a.drop (k + 1) = b.drop (k + 1) ↔ a = b) := by show _ ↔ _; rw [← hst.out]; simp [hpe]
          subst hpe
          have hpe2 := N.same4_t (p.at_ : Int) p.b p.r p.l
          clear hpd hrd hp hr hs hst
          go_wp2_with fail
          go_quiet (fail)
          go_wp2
          go_roundw
          case rel => exact ⟨k + 1, by omega, by go_num, hn, H.drewN hw.out _⟩
          case measure => simp [intOf]; omega
        · have hn : Hid (decide (a = b) = false) := by show _ = _; rw [decide_eq_false_iff_not, ← hst.out]; exact fun h => hpe h.1
          have hpe2 : N.same4 (p.at_ : Int) p.b p.r p.l (r.at_ : Int) r.b r.r r.l = false := by unfold N.same4; rw [decide_eq_false_iff_not]; exact fun h => hpe (N.kv_eq.2 ⟨by have := h.1; omega, h.2⟩)
          clear hpd hrd hp hr hs hst hpe
          obtain ⟨pa, hpa⟩ : ∃ x : Int, x = (p.at_ : Int) := ⟨_, rfl⟩
          obtain ⟨ra, hra⟩ : ∃ x : Int, x = (r.at_ : Int) := ⟨_, rfl⟩
          rw [← hpa] at c0 hpe2
          rw [← hra] at d0 hpe2
          clear hpa hra
          generalize p.b = x1 at *
          generalize p.r = x2 at *
          generalize p.l = x3 at *
          generalize r.b = y1 at *
          generalize r.r = y2 at *
          generalize r.l = y3 at *
          have hc4 : pa ≠ ra ∨ (pa = ra ∧ x1 ≠ y1) ∨ (pa = ra ∧ x1 = y1 ∧ x2 ≠ y2) ∨ (pa = ra ∧ x1 = y1 ∧ x2 = y2 ∧ x3 ≠ y3) := by
            unfold N.same4 at hpe2
            rw [decide_eq_false_iff_not] at hpe2
            omega
          clear hpe2
          rcases hc4 with h1 | ⟨rfl, h1⟩ | ⟨rfl, rfl, h1⟩ | ⟨rfl, rfl, rfl, h1⟩
          · go_wp2_with fail
            go_quiet (fail)
            go_wp2
            go_ret
            exact ⟨by rw [hn.out]; rfl, H.drewN hw.out _⟩
          · go_wp2_with fail
            go_quiet (fail)
            go_wp2
            go_ret
            exact ⟨by rw [hn.out]; rfl, H.drewN hw.out _⟩
          · go_wp2_with fail
            go_quiet (fail)
            go_wp2
            go_ret
            exact ⟨by rw [hn.out]; rfl, H.drewN hw.out _⟩
          · go_wp2_with fail
            go_quiet (fail)
            go_wp2
            go_ret
            exact ⟨by rw [hn.out]; rfl, H.drewN hw.out _⟩
      · obtain rfl : k = a.length := by omega
        have hn : Hid (decide (a = b) = true) := by show _ = _; rw [decide_eq_true_iff, ← hs.out, List.drop_length, Hl.out, List.drop_length]
        go_wp2
        go_ret
        exact ⟨by rw [hn.out]; rfl, hw.out⟩
  · have hn : Hid (decide (a = b) = false) := by show _ = _; rw [decide_eq_false_iff_not]; exact fun h => hl (by rw [h])
    have hq : ((a.length : Int) != (b.length : Int)) = true := by simp; omega
    clear ha hb hl
    go_enter Try.func33, Try.ntmps33
    go_wp2
    go_ret
    exact ⟨by rw [hn.out]; rfl, Below.refl _ _⟩
end Go.Proofs.Ytdpaleldalplfaa
