/- The contracts of slices.Equal at children, of node.Equal and the laws' kit's EqualNode. -/
import Derived.Test.YtniccjbcchdkoaaPackNPkg
namespace Go.Proofs.Ytniccjbcchdkoaa
open Go.RowKit

theorem N.nd_eq {h k : Int} {s t : ByteArray} {a b : List N.K} : N.nd h s a = N.nd k t b ↔ h = k ∧ s = t ∧ a = b := by
  unfold N.nd
  constructor
  · intro e
    cases s; cases t
    simp only [N.Nd.mk.injEq] at e
    obtain ⟨e1, e2, e3⟩ := e
    refine ⟨e1, ?_, e3⟩
    have := Array.toList_inj.1 e2
    rw [this]
  · rintro ⟨rfl, rfl, rfl⟩; rfl
theorem N.str_ne {s t : ByteArray} (h : s ≠ t) : (s.toList == t.toList) = false := by
  rw [ByteArray.toList_eq, ByteArray.toList_eq, beq_eq_false_iff_ne]
  intro e
  apply h
  cases s; cases t
  exact congrArg ByteArray.mk (Array.toList_inj.1 e)
set_option maxRecDepth 100000 in
set_option maxHeartbeats 1000000 in
theorem equalNode_any (h k : Int) (s t : ByteArray) (ao bo : Option Addr) (ca cb : Nat) (a b : List N.K) (w : World) (ha : N.Row w ao a) (hb : N.Row w bo b) (la : a.length ≤ maxLen) :
    Calls Try.prog 15 #[N.nv h s (.slice ao a.length ca), N.nv k t (.slice bo b.length cb)] w fun e w' => e = .returned (.bool (decide (N.nd h s a = N.nd k t b))) ∧ Below w.heap.size w w' := by
  have B1 : Hid (Below w.heap.size w ((w.alloc (.cells #[.int .i64 h, .string s, .slice ao a.length ca] 30)).alloc (.cells #[.int .i64 k, .string t, .slice bo b.length cb] 30))) := ((Below.refl _ _).alloc (Nat.le_refl _) _).alloc (by simp) _
  unfold N.nv
  by_cases h0 : h = k
  · subst h0
    by_cases h1 : s = t
    · subst h1
      have HE := Lib.hid (equalKids_any ao bo ca cb a b _ (ha.below B1.out) (hb.below B1.out) la)
      have hd : Hid (decide (N.nd h s a = N.nd h s b) = decide (a = b)) := by
        show _ = _
        apply decide_eq_decide.2
        rw [N.nd_eq]; exact ⟨fun x => x.2.2, fun x => ⟨rfl, rfl, x⟩⟩
      generalize decide (a = b) = u at *
      have q1 : (s.toList == s.toList) = true := by simp
      clear ha hb
      go_enter Try.func15, Try.ntmps15
      go_wp2_with (go_at_call 46; refine HE.out.mono ?_; rintro e w1 ⟨rfl, hb⟩; have B2 := Lib.hid (B1.out.trans (hb.mono B1.out.size)); clear hb)
      go_ret
      exact ⟨by rw [hd.out]; rfl, B2.out⟩
    · have hd : Hid (decide (N.nd h s a = N.nd h t b) = false) := by show _ = _; rw [decide_eq_false_iff_not, N.nd_eq]; exact fun x => h1 x.2.1
      have q1 := N.str_ne h1
      clear ha hb h1
      go_enter Try.func15, Try.ntmps15
      go_wp2
      go_ret
      exact ⟨by rw [hd.out]; rfl, B1.out⟩
  · have hd : Hid (decide (N.nd h s a = N.nd k t b) = false) := by show _ = _; rw [decide_eq_false_iff_not, N.nd_eq]; exact fun x => h0 x.1
    have q1 : (h == k) = false := by simpa using h0
    clear ha hb h0
    go_enter Try.func15, Try.ntmps15
    go_wp2
    go_ret
    exact ⟨by rw [hd.out]; rfl, B1.out⟩
end Go.Proofs.Ytniccjbcchdkoaa
