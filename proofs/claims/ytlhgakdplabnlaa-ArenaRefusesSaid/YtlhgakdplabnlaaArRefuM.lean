/- What ArenaRefuses asks of Alloc, Free and the counts (layer 13's laws). -/
import Derived.Test.YtlhgakdplabnlaaArKeepM
namespace Go.Proofs.Ytlhgakdplabnlaa
open Go.RowKit

theorem Ar.has_look13 {a : A13.A} {h : Nat} (k : a.has h = true) : ∃ y, a.look h = some y := by
  unfold A13.A.has at k
  cases e : a.look h with
  | none => rw [e] at k; cases k
  | some y => exact ⟨y, rfl⟩
theorem Ar.nd_of13 {x : N.Nd} {t : ByteArray} (ht : t.data.toList = x.t) : N.nd x.h t x.ks = x := by unfold N.nd; rw [ht]
theorem Ar.chk_val (x : N.Nd) : N.chk x = 0 ∨ N.chk x = 5 ∨ N.chk x = 23 := by
  unfold N.chk
  split
  · split
    · exact .inr (.inl rfl)
    · exact .inl rfl
  · exact .inr (.inr rfl)
theorem Ar.kidsE_val (a : A13.A) (x : N.Nd) : ∀ l : List N.K, A13.kidsE Ar.ms a x l = 0 ∨ A13.kidsE Ar.ms a x l = 10 ∨ A13.kidsE Ar.ms a x l = 23
  | [] => .inl rfl
  | k :: r => by
    have ih := Ar.kidsE_val a x r
    have h : A13.kidE Ar.ms a x k = 0 ∨ A13.kidE Ar.ms a x k = 10 ∨ A13.kidE Ar.ms a x k = 23 := by
      unfold A13.kidE
      split
      · exact .inr (.inl rfl)
      · split
        · exact .inl rfl
        · exact .inr (.inr rfl)
    show (if _ then _ else _) = _ ∨ (if _ then _ else _) = _ ∨ (if _ then _ else _) = _
    by_cases c : A13.kidE Ar.ms a x k = 0
    · rw [if_pos c]; exact ih
    · rw [if_neg c]; exact h
/-- Does a node fit? -/
def Ar.fits (a : A13.A) (x : N.Nd) : Bool := decide (N.chk x = 0) && decide (A13.kidsE Ar.ms a x x.ks = 0)
/-- What Alloc answers, by whether the node fits. -/
theorem Ar.alE_cases (a : A13.A) (v : A13.Inv a) (x : N.Nd) : (A13.alE Ar.ms a x = 0 ∧ Ar.fits a x = true ∧ 0 < a.l.stk.length) ∨ (A13.alE Ar.ms a x = 6 ∧ Ar.fits a x = true ∧ a.l.stk.length = 0) ∨ (A13.alE Ar.ms a x ≠ 0 ∧ A13.alE Ar.ms a x ≠ 6 ∧ Ar.fits a x = false) := by
  unfold A13.alE Ar.fits
  by_cases c : N.chk x = 0
  · rw [if_pos c, decide_eq_true c, Bool.true_and]
    by_cases k : A13.kidsE Ar.ms a x x.ks = 0
    · rw [if_pos k, decide_eq_true k]
      cases e : a.l.stk with
      | nil => exact .inr (.inl ⟨(FL.tk_nil e).2.2, rfl, rfl⟩)
      | cons s r => exact .inl ⟨(FL.tk_cons v.l e).err, rfl, by rw [List.length_cons]; omega⟩
    · rw [if_neg k, decide_eq_false k]
      rcases Ar.kidsE_val a x x.ks with h | h | h
      · exact absurd h k
      · rw [h]; exact .inr (.inr ⟨by decide, by decide, rfl⟩)
      · rw [h]; exact .inr (.inr ⟨by decide, by decide, rfl⟩)
  · rw [if_neg c, decide_eq_false c, Bool.false_and]
    rcases Ar.chk_val x with h | h | h
    · exact absurd h c
    · rw [h]; exact .inr (.inr ⟨by decide, by decide, rfl⟩)
    · rw [h]; exact .inr (.inr ⟨by decide, by decide, rfl⟩)
theorem Ar.hands_al {a : A13.A} (v : A13.Inv a) {x : N.Nd} (e : A13.alE Ar.ms a x = 0) : (A13.al Ar.ms a x).l.hands.length = a.l.hands.length + 1 ∧ (A13.al Ar.ms a x).has (A13.alH Ar.ms a x) = true := by
  refine ⟨?_, Ar.look_has (A13.look_new v e)⟩
  rw [← A13.items_len (A13.inv_al (ms := Ar.ms) v x), ← A13.items_len v, (A13.al_yes e).next, List.length_append]; rfl
section
variable {O : World → Nat → A13.A → (Nat → Prop) → Prop} {w W W' : World} {p : Nat} {a : A13.A} {v : Value} {all pend : List Ar.I} {L : Nat → Prop}
/-- An arena that has just been made, beside blocks of the law's own that were there before. -/
theorem Ar.St.make2 {W0 : World} {R : Nat → Prop} (hO : O W p a R) (hb0 : Below w.heap.size w W0) (hb : Below W0.heap.size W0 W) (hR : ∀ k, R k → W0.heap.size ≤ k) {L : Nat → Prop} (hL : ∀ k, L k → w.heap.size ≤ k ∧ k < W0.heap.size) : Ar.St O w p a (.slice none 0 0) [] [] L W := by
  have h0 := hb0.size
  have h1 := hb.size
  refine ⟨Ar.bt hb0 hb, (fun i hi => by cases hi), R, fun _ => False, hO, fun k c => Nat.le_trans h0 (hR k c), World.ownsRow_nil _ _ _ _, Ar.Ok.nil _ _, (fun g e => by cases e), fun k c => ?_, fun k c => ⟨id, (hL k c).1⟩⟩
  rcases c with c | c
  · exact c.elim
  · have := hL k c
    exact ⟨fun c' => by have := hR k c'; omega, (fun e => by cases e), by omega⟩
theorem Ar.St.alloc (X : Ar.Pa O) (h : Ar.St O w p a v all pend L W) (x : N.NArg) (hx : N.NOk W x) (hxw : ∀ g o, x.s.a = some ⟨g, o, none⟩ → x.s.x ≠ [] → g < w.heap.size) :
    Calls Try.prog 16 #[FL.ptr p, .agg #[.int .i64 x.h, .string x.t, .slice x.s.a x.s.x.length x.s.c]] W fun E W' => E = .returned (.tuple #[.int .u64 (A13.alH Ar.ms a x.nd : Nat), .int .i64 (A13.alE Ar.ms a x.nd)]) ∧ Ar.St O w p (A13.al Ar.ms a x.nd) v all pend L W' ∧ Ar.Kept L W W' ∧ W.heap.size ≤ W'.heap.size := by
  obtain ⟨R, K, hO, hR, hv, hk, h1, h2, h3⟩ := h.ex
  refine (X.alloc p a R x W hO hx (fun g o e n c => by have := hxw g o e n; have := hR g c; omega)).mono fun E W' k => ?_
  obtain ⟨k1, k2, k3⟩ := k
  obtain ⟨t1, t2, t3, t4, t5, t6, t7⟩ := Ar.turn_ex hv hR h.below hk h1 h2 (fun k c => c) k3
  exact ⟨k1, ⟨t1, h.chk, _, K, k2, t2, t3, t4, t5, t6, h3⟩, t7, k3.size⟩
theorem Ar.St.free (X : Ar.Pa O) (h : Ar.St O w p a v all pend L W) (hst : a.st < 1000000000) (n : Nat) (hn : n ≤ 18446744073709551615) :
    Calls Try.prog 19 #[FL.ptr p, .int .u64 (n : Int)] W fun E W' => E = .returned (.int .i64 (a.gtE n)) ∧ Ar.St O w p (a.free n) v all pend L W' ∧ Ar.Kept L W W' ∧ W.heap.size ≤ W'.heap.size := by
  obtain ⟨R, K, hO, hR, hv, hk, h1, h2, h3⟩ := h.ex
  refine (X.free p a R n W hO hn hst).mono fun E W' k => ?_
  obtain ⟨k1, k2, k3⟩ := k
  obtain ⟨t1, t2, t3, t4, t5, t6, t7⟩ := Ar.turn_ex hv hR h.below hk h1 h2 (fun k c => c) k3
  exact ⟨k1, ⟨t1, h.chk, _, K, k2, t2, t3, t4, t5, t6, h3⟩, t7, k3.size⟩
end
end Go.Proofs.Ytlhgakdplabnlaa
