/- The contracts of slices.Equal at children, of node.Equal and the laws' kit's EqualNode. -/
import Derived.Test.YtdpaleldalplfaaPackNPkg
namespace Go.Proofs.Ytdpaleldalplfaa
open Go.RowKit

set_option maxHeartbeats 1000000 in
theorem slicesEqualKid_any (ao bo : Option Addr) (ca cb : Nat) (a b : List N.K) (w : World) (ha : N.Row w ao a) (hb : N.Row w bo b) (la : a.length ≤ maxLen) :
    Calls Try.prog 63 #[.slice ao a.length ca, .slice bo b.length cb] w fun e w' => e = .returned (.bool (decide (a = b))) ∧ Below w.heap.size w w' := by
  unfold maxLen at la
  by_cases hl : a.length = b.length
  · have Ha := Lib.hid ha
    have Hb := Lib.hid hb
    have Hl := Lib.hid hl
    have hq : ((a.length : Int) != (b.length : Int)) = false := by simp [hl]
    clear ha hb hl
    go_enter Try.func63, Try.ntmps63
    go_wp2
    go_loopw [13] (fun j wr => ∃ k : Nat, k ≤ a.length ∧ j = .int .i64 k ∧ Hid (a.drop k = b.drop k ↔ a = b) ∧ Hid (Below w.heap.size w wr)) (fun j _ => a.length - (intOf j).toNat)
    case atStart => exact ⟨0, Nat.zero_le _, rfl, Iff.rfl, Below.refl _ _⟩
    case round =>
      obtain ⟨k, hk, rfl, hs, hw⟩ := hrel
      by_cases hlt : k < a.length
      · obtain ⟨p, hp, hpd⟩ := N.drop_cons hlt
        obtain ⟨r, hr, hrd⟩ := N.drop_cons (l := b) (k := k) (by have := Hl.out; omega)
        obtain ⟨b1, o1, e1, l1, hc⟩ := Ha.out k p hp
        obtain ⟨b2, o2, e2, l2, hd⟩ := Hb.out k r hr
        obtain ⟨c0, c1, c2, c3⟩ := N.cell4 hw.out l1 hc
        obtain ⟨d0, d1, d2, d3⟩ := N.cell4 hw.out l2 hd
        clear hc hd
        subst e1
        subst e2
        have hkb : k < b.length := by have := Hl.out; omega
        have hst : Hid ((p = r ∧ a.drop (k + 1) = b.drop (k + 1)) ↔ a = b) := by show _ ↔ _; rw [← hs.out, hpd, hrd, List.cons.injEq]
        by_cases hpe : p = r
        · have hn : Hid (a.drop (k + 1) = b.drop (k + 1) ↔ a = b) := by show _ ↔ _; rw [← hst.out]; simp [hpe]
          subst hpe
          have hpe2 := N.same4_t (p.at_ : Int) p.b p.r p.l
          clear hpd hrd hp hr hs hst
          go_wp2_with fail
          go_quiet (fail)
          go_wp2
          go_roundw
          case rel => exact ⟨k + 1, by omega, by go_num, hn, H.drewN hw.out _⟩
          case measure => simp [intOf]; omega
        · have hn : Hid (decide (a = b) = false) := by show _ = _; rw [decide_eq_false_iff_not, ← hst.out]; exact fun h => hpe h.1
          have hpe2 : N.same4 (p.at_ : Int) p.b p.r p.l (r.at_ : Int) r.b r.r r.l = false := by unfold N.same4; rw [decide_eq_false_iff_not]; exact fun h => hpe (N.kv_eq.2 ⟨by have := h.1; omega, h.2⟩)
          clear hpd hrd hp hr hs hst hpe
          obtain ⟨pa, hpa⟩ : ∃ x : Int, x = (p.at_ : Int) := ⟨_, rfl⟩
          obtain ⟨ra, hra⟩ : ∃ x : Int, x = (r.at_ : Int) := ⟨_, rfl⟩
          rw [← hpa] at c0 hpe2
          rw [← hra] at d0 hpe2
          clear hpa hra
          generalize p.b = x1 at *
          generalize p.r = x2 at *
          generalize p.l = x3 at *
          generalize r.b = y1 at *
          generalize r.r = y2 at *
          generalize r.l = y3 at *
          have hc4 : pa ≠ ra ∨ (pa = ra ∧ x1 ≠ y1) ∨ (pa = ra ∧ x1 = y1 ∧ x2 ≠ y2) ∨ (pa = ra ∧ x1 = y1 ∧ x2 = y2 ∧ x3 ≠ y3) := by
            unfold N.same4 at hpe2
            rw [decide_eq_false_iff_not] at hpe2
            omega
          clear hpe2
          rcases hc4 with h1 | ⟨rfl, h1⟩ | ⟨rfl, rfl, h1⟩ | ⟨rfl, rfl, rfl, h1⟩
          · go_wp2_with fail
            go_quiet (fail)
            go_wp2
            go_ret
            exact ⟨by rw [hn.out]; rfl, H.drewN hw.out _⟩
          · go_wp2_with fail
            go_quiet (fail)
            go_wp2
            go_ret
            exact ⟨by rw [hn.out]; rfl, H.drewN hw.out _⟩
          · go_wp2_with fail
            go_quiet (fail)
            go_wp2
            go_ret
            exact ⟨by rw [hn.out]; rfl, H.drewN hw.out _⟩
          · go_wp2_with fail
            go_quiet (fail)
            go_wp2
            go_ret
            exact ⟨by rw [hn.out]; rfl, H.drewN hw.out _⟩
      · obtain rfl : k = a.length := by omega
        have hn : Hid (decide (a = b) = true) := by show _ = _; rw [decide_eq_true_iff, ← hs.out, List.drop_length, Hl.out, List.drop_length]
        go_wp2
        go_ret
        exact ⟨by rw [hn.out]; rfl, hw.out⟩
  · have hn : Hid (decide (a = b) = false) := by show _ = _; rw [decide_eq_false_iff_not]; exact fun h => hl (by rw [h])
    have hq : ((a.length : Int) != (b.length : Int)) = true := by simp; omega
    clear ha hb hl
    go_enter Try.func63, Try.ntmps63
    go_wp2
    go_ret
    exact ⟨by rw [hn.out]; rfl, Below.refl _ _⟩
theorem N.nd_eq {h k : Int} {s t : ByteArray} {a b : List N.K} : N.nd h s a = N.nd k t b ↔ h = k ∧ s = t ∧ a = b := by
  unfold N.nd
  constructor
  · intro e
    cases s; cases t
    simp only [N.Nd.mk.injEq] at e
    obtain ⟨e1, e2, e3⟩ := e
    refine ⟨e1, ?_, e3⟩
    have := Array.toList_inj.1 e2
    rw [this]
  · rintro ⟨rfl, rfl, rfl⟩; rfl
theorem N.str_ne {s t : ByteArray} (h : s ≠ t) : (s.toList == t.toList) = false := by
  rw [ByteArray.toList_eq, ByteArray.toList_eq, beq_eq_false_iff_ne]
  intro e
  apply h
  cases s; cases t
  exact congrArg ByteArray.mk (Array.toList_inj.1 e)
set_option maxRecDepth 100000 in
set_option maxHeartbeats 1000000 in
theorem equalNode_any (h k : Int) (s t : ByteArray) (ao bo : Option Addr) (ca cb : Nat) (a b : List N.K) (w : World) (ha : N.Row w ao a) (hb : N.Row w bo b) (la : a.length ≤ maxLen) :
    Calls Try.prog 25 #[N.nv h s (.slice ao a.length ca), N.nv k t (.slice bo b.length cb)] w fun e w' => e = .returned (.bool (decide (N.nd h s a = N.nd k t b))) ∧ Below w.heap.size w w' := by
  have B1 : Hid (Below w.heap.size w ((w.alloc (.cells #[.int .i64 h, .string s, .slice ao a.length ca] 24)).alloc (.cells #[.int .i64 k, .string t, .slice bo b.length cb] 24))) := ((Below.refl _ _).alloc (Nat.le_refl _) _).alloc (by simp) _
  unfold N.nv
  by_cases h0 : h = k
  · subst h0
    by_cases h1 : s = t
    · subst h1
      have HE := Lib.hid (equalKids_any ao bo ca cb a b _ (ha.below B1.out) (hb.below B1.out) la)
      have hd : Hid (decide (N.nd h s a = N.nd h s b) = decide (a = b)) := by
        show _ = _
        apply decide_eq_decide.2
        rw [N.nd_eq]; exact ⟨fun x => x.2.2, fun x => ⟨rfl, rfl, x⟩⟩
      generalize decide (a = b) = u at *
      have q1 : (s.toList == s.toList) = true := by simp
      clear ha hb
      go_enter Try.func25, Try.ntmps25
      go_wp2_with (go_at_call 33; refine HE.out.mono ?_; rintro e w1 ⟨rfl, hb⟩; have B2 := Lib.hid (B1.out.trans (hb.mono B1.out.size)); clear hb)
      go_ret
      exact ⟨by rw [hd.out]; rfl, B2.out⟩
    · have hd : Hid (decide (N.nd h s a = N.nd h t b) = false) := by show _ = _; rw [decide_eq_false_iff_not, N.nd_eq]; exact fun x => h1 x.2.1
      have q1 := N.str_ne h1
      clear ha hb h1
      go_enter Try.func25, Try.ntmps25
      go_wp2
      go_ret
      exact ⟨by rw [hd.out]; rfl, B1.out⟩
  · have hd : Hid (decide (N.nd h s a = N.nd k t b) = false) := by show _ = _; rw [decide_eq_false_iff_not, N.nd_eq]; exact fun x => h0 x.1
    have q1 : (h == k) = false := by simpa using h0
    clear ha hb h0
    go_enter Try.func25, Try.ntmps25
    go_wp2
    go_ret
    exact ⟨by rw [hd.out]; rfl, B1.out⟩
set_option maxRecDepth 100000 in
set_option maxHeartbeats 1000000 in
theorem equal12_any (h k : Int) (s t : ByteArray) (ao bo : Option Addr) (ca cb : Nat) (a b : List N.K) (w : World) (ha : N.Row w ao a) (hb : N.Row w bo b) (la : a.length ≤ maxLen) :
    Calls Try.prog 36 #[N.nv h s (.slice ao a.length ca), N.nv k t (.slice bo b.length cb)] w fun e w' => e = .returned (.bool (decide (N.nd h s a = N.nd k t b))) ∧ Below w.heap.size w w' := by
  have B1 : Hid (Below w.heap.size w ((w.alloc (.cells #[.int .i64 h, .string s, .slice ao a.length ca] 24)).alloc (.cells #[.int .i64 k, .string t, .slice bo b.length cb] 24))) := ((Below.refl _ _).alloc (Nat.le_refl _) _).alloc (by simp) _
  unfold N.nv
  by_cases h0 : h = k
  · subst h0
    by_cases h1 : s = t
    · subst h1
      have HE := Lib.hid (slicesEqualKid_any ao bo ca cb a b _ (ha.below B1.out) (hb.below B1.out) la)
      have hd : Hid (decide (N.nd h s a = N.nd h s b) = decide (a = b)) := by
        show _ = _
        apply decide_eq_decide.2
        rw [N.nd_eq]; exact ⟨fun x => x.2.2, fun x => ⟨rfl, rfl, x⟩⟩
      generalize decide (a = b) = u at *
      have q1 : (s.toList == s.toList) = true := by simp
      clear ha hb
      go_enter Try.func36, Try.ntmps36
      go_wp2_with (go_at_call 63; refine HE.out.mono ?_; rintro e w1 ⟨rfl, hb⟩; have B2 := Lib.hid (B1.out.trans (hb.mono B1.out.size)); clear hb)
      go_ret
      exact ⟨by rw [hd.out]; rfl, B2.out⟩
    · have hd : Hid (decide (N.nd h s a = N.nd h t b) = false) := by show _ = _; rw [decide_eq_false_iff_not, N.nd_eq]; exact fun x => h1 x.2.1
      have q1 := N.str_ne h1
      clear ha hb h1
      go_enter Try.func36, Try.ntmps36
      go_wp2
      go_ret
      exact ⟨by rw [hd.out]; rfl, B1.out⟩
  · have hd : Hid (decide (N.nd h s a = N.nd k t b) = false) := by show _ = _; rw [decide_eq_false_iff_not, N.nd_eq]; exact fun x => h0 x.1
    have q1 : (h == k) = false := by simpa using h0
    clear ha hb h0
    go_enter Try.func36, Try.ntmps36
    go_wp2
    go_ret
    exact ⟨by rw [hd.out]; rfl, B1.out⟩
end Go.Proofs.Ytdpaleldalplfaa
