/- Texts joined: ArTw ArTw2 ArTw3 -/
import Derived.Test.YtniccjbcchdkoaaPackArPa
import Derived.Test.YtniccjbcchdkoaaPackArRef
import Derived.Test.YtniccjbcchdkoaaPackArAw
/- ArTw -/
namespace Go.Proofs.Ytniccjbcchdkoaa
open Go.RowKit

theorem N.own_row {W : World} {base : Nat} {v : Value} {x : List N.K} (h : W.ownsRow base 50 4 v x.length (N.cells x)) : ∃ ao cap, v = .slice ao x.length cap ∧ N.Row W ao x :=
  N.Made.form (w := { W with heap := #[] }) ⟨D.own_mono h (Nat.zero_le _), ⟨rfl, rfl, rfl, Nat.zero_le _, fun _ hk => absurd hk (Nat.not_lt_zero _)⟩⟩
theorem Ar.butm {R Q : Nat → Prop} {w w' : World} (h : FL.But R w w') (hq : ∀ k, R k → Q k) : FL.But Q w w' := ⟨h.os, h.tape, h.output, h.size, fun k hk hn => h.block k hk (fun c => hn (hq k c))⟩
/-- The program's arena in state a, the reference's in state b (in the blocks Q), and the law's own blocks E. -/
structure Ar.Tw (O : World → Nat → A13.A → (Nat → Prop) → Prop) (w : World) (p q : Nat) (a b : A13.A) (v : Value) (all pend : List Ar.I) (Q E : Nat → Prop) (W : World) : Prop where
  st : Ar.St O w p a v all pend (fun k => Q k ∨ E k) W
  own : RA.Own W q b Q
  dis : ∀ k, E k → ¬ Q k
/-- What a call may turn: what was made since w and is not the law's own. -/
def Ar.Ot (w : World) (E : Nat → Prop) (k : Nat) : Prop := w.heap.size ≤ k ∧ ¬ E k
section
variable {O : World → Nat → A13.A → (Nat → Prop) → Prop} {w W W' : World} {p q : Nat} {a a' b b' : A13.A} {v : Value} {all pend : List Ar.I} {Q Q' E E' : Nat → Prop}
theorem Ar.Tw.on (X : Ar.Pa O) (h : Ar.Tw O w p q a b v all pend Q E W) (hb : Below W.heap.size W W') : Ar.Tw O w p q a b v all pend Q E W' := ⟨h.st.on X hb, h.own.below hb, h.dis⟩
theorem Ar.Tw.more (X : Ar.Pa O) (h : Ar.Tw O w p q a b v all pend Q E W) (hb : Below W.heap.size W W') (hE : ∀ k, E' k → E k ∨ (W.heap.size ≤ k ∧ k < W'.heap.size)) : Ar.Tw O w p q a b v all pend Q E' W' :=
  ⟨h.st.more X hb (fun k c => c.elim (fun c => .inl (.inl c)) (fun c => (hE k c).elim (fun c => .inl (.inr c)) .inr)), h.own.below hb, fun k c y => (hE k c).elim (fun c => h.dis k c y) (fun c => by have := h.own.lt k y; omega)⟩
theorem Ar.Tw.less (h : Ar.Tw O w p q a b v all pend Q E W) (hE : ∀ k, E' k → E k) : Ar.Tw O w p q a b v all pend Q E' W := ⟨h.st.less (fun k c => c.imp id (hE k)), h.own, fun k c => h.dis k (hE k c)⟩
theorem Ar.Tw.drop (h : Ar.Tw O w p q a b v all pend Q E W) : Ar.Tw O w p q a b v all [] Q E W := ⟨h.st.drop, h.own, h.dis⟩
theorem Ar.Tw.e_lt (h : Ar.Tw O w p q a b v all pend Q E W) {k : Nat} (c : E k) : w.heap.size ≤ k ∧ k < W.heap.size := by
  obtain ⟨R, K, _, _, _, _, _, h2, h3⟩ := h.st.ex
  exact ⟨(h3 k (.inr c)).2, (h2 k (.inr (.inr c))).2.2⟩
theorem Ar.Ot.below {Z : World} (hb : Below Z.heap.size Z W) : FL.But (Ar.Ot w E) Z W := FL.But.below hb
/-- A call of the program's arena. -/
theorem Ar.Tw.prog {f : Nat} {args : Array Value} {F : Ending → World → Prop} (h : Ar.Tw O w p q a b v all pend Q E W)
    (c : ∀ R, O W p a R → (∀ k, R k → ¬ (Q k ∨ E k) ∧ w.heap.size ≤ k) → Calls Try.prog f args W fun e W' => F e W' ∧ ∃ R', O W' p a' R' ∧ (∀ k, R' k → Ar.ext R W.heap.size W'.heap.size k) ∧ FL.But R W W') :
    Calls Try.prog f args W fun e W' => F e W' ∧ Ar.Tw O w p q a' b v all pend Q E W' ∧ FL.But (Ar.Ot w E) W W' := by
  obtain ⟨R, K, hO, hR, hv, hk, h1, h2, h3⟩ := h.st.ex
  have hn : ∀ k, R k → ¬ (Q k ∨ E k) := fun k r c => (h2 k (.inr c)).1 r
  refine (c R hO (fun k r => ⟨hn k r, hR k r⟩)).mono fun e W' y => ?_
  obtain ⟨y1, R', y2, y3, y4⟩ := y
  obtain ⟨t1, t2, t3, t4, t5, t6, t7⟩ := Ar.turn_ex hv hR h.st.below hk h1 h2 y3 y4
  exact ⟨y1, ⟨⟨t1, h.st.chk, R', K, y2, t2, t3, t4, t5, t6, h3⟩, h.own.but y4 (fun k y r => hn k r (.inl y)), h.dis⟩, Ar.butm y4 (fun k r => ⟨hR k r, fun c => hn k r (.inr c)⟩)⟩
/-- A call of the reference's. -/
theorem Ar.Tw.refs (X : Ar.Pa O) (h : Ar.Tw O w p q a b v all pend Q E W) (hB : FL.But Q W W') (hQ : RA.Own W' q b' Q') (hq : ∀ k, Q' k → Ar.ext Q W.heap.size W'.heap.size k) : Ar.Tw O w p q a b' v all pend Q' E W' ∧ FL.But (Ar.Ot w E) W W' := by
  obtain ⟨R, K, hO, hR, hv, hk, h1, h2, h3⟩ := h.st.ex
  have hlt := X.lt hO
  have hs := h.st.below.size
  refine ⟨⟨⟨hB.toBelow h.st.below hs (fun k y => (h3 k (.inl y)).2), h.st.chk, R, K, X.but hO hB (fun k r y => (h2 k (.inr (.inl y))).1 r), hR, hB.row hv (fun k e y => (h2 k (.inr (.inl y))).2.1 e), hk.but hB (fun k c y => (h3 k (.inl y)).1 c), h1, fun k c => ?_, fun k c => ?_⟩, hQ, fun k c y => ?_⟩, Ar.butm hB (fun k y => ⟨(h3 k (.inl y)).2, fun c => h.dis k c y⟩)⟩
  · have old : (K k ∨ Q k ∨ E k) → ¬ R k ∧ v.ownBlock ≠ some k ∧ k < W'.heap.size := fun c => ⟨(h2 k c).1, (h2 k c).2.1, Nat.lt_of_lt_of_le (h2 k c).2.2 hB.size⟩
    rcases c with c | c | c
    · exact old (.inl c)
    · rcases hq k c with c | c
      · exact old (.inr (.inl c))
      · exact ⟨fun r => by have := hlt k r; omega, fun e => by have := (hv.lt k e).2; omega, c.2⟩
    · exact old (.inr (.inr c))
  · rcases c with c | c
    · rcases hq k c with c | c
      · exact h3 k (.inl c)
      · exact ⟨fun c' => by have := (h2 k (.inl c')).2.2; omega, by omega⟩
    · exact h3 k (.inr c)
  · rcases hq k y with y | y
    · exact h.dis k c y
    · have := (h2 k (.inr (.inr c))).2.2; omega
/-- A store into a block of the law's own. -/
theorem Ar.Tw.put (X : Ar.Pa O) (h : Ar.Tw O w p q a b v all pend Q E W) {g : Nat} (hg : E g) (i : Nat) (u : Value) : Ar.Tw O w p q a b v all pend Q E (W.setCell ⟨g, i, none⟩ u) :=
  ⟨h.st.put X (.inr hg) i u, h.own.but (FL.But.set (R := fun k => k = g) W u rfl) (fun k y e => h.dis g hg (by rw [← e]; exact y)), h.dis⟩
/-- A node that has just been made is at hand. -/
theorem Ar.Tw.hold (X : Ar.Pa O) (h : Ar.Tw O w p q a b v all [] Q E W) (hb : Below W.heap.size W W') (i : Ar.I) (hN : N.NOk W' i.x) (hx : ∀ g o, i.x.s.a = some ⟨g, o, none⟩ → i.x.s.x ≠ [] → W.heap.size ≤ g ∧ g < W'.heap.size) (hh : i.h ≤ 18446744073709551615) : Ar.Tw O w p q a b v all [i] Q E W' := by
  obtain ⟨R, K, hO, hR, hv, hk, h1, h2, h3⟩ := h.st.ex
  have hlt := X.lt hO
  have hs := h.st.below.size
  rw [List.append_nil] at hk
  have hB : FL.But (fun _ => False) W W' := FL.But.below hb
  refine ⟨⟨h.st.below.trans (hb.mono hs), h.st.chk, R, fun k => K k ∨ (W.heap.size ≤ k ∧ k < W'.heap.size), X.on hO hb, hR, D.own_below hv hb, ((hk.but hB (fun _ _ => id)).mono (fun _ c => .inl c) (fun _ c => c)).add hN (fun g o e n => .inr (hx g o e n)) hh, h1, fun k c => ?_, fun k c => ⟨fun c' => ?_, (h3 k c).2⟩⟩, h.own.below hb, h.dis⟩
  · have old : (K k ∨ Q k ∨ E k) → ¬ R k ∧ v.ownBlock ≠ some k ∧ k < W'.heap.size := fun c => ⟨(h2 k c).1, (h2 k c).2.1, Nat.lt_of_lt_of_le (h2 k c).2.2 hb.size⟩
    rcases c with (c | c) | c
    · exact old (.inl c)
    · exact ⟨fun r => by have := hlt k r; omega, fun e => by have := (hv.lt k e).2; omega, c.2⟩
    · exact old (.inr c)
  · rcases c' with c' | c'
    · exact (h3 k c).1 c'
    · have := (h2 k (.inr c)).2.2; omega
/-- The node at hand is known from now on. -/
theorem Ar.Tw.push {i : Ar.I} (X : Ar.Pa O) (h : Ar.Tw O w p q a b v all [i] Q E W) (hc : N.chk i.x.nd = 0) {v' : Value} (ho : W'.ownsRow w.heap.size 103 4 v' (all ++ [i]).length (Ar.cells (all ++ [i]))) (hg : W.grownBy W' v.ownBlock) (hv' : v'.ownBlock = v.ownBlock ∨ ∃ g, v'.ownBlock = some g ∧ W.heap.size ≤ g) : Ar.Tw O w p q a b v' (all ++ [i]) [] Q E W' ∧ FL.But (Ar.Ot w E) W W' := by
  obtain ⟨R, K, hO, hR, hv, hk, h1, h2, h3⟩ := h.st.ex
  have hb : FL.But (fun k => v.ownBlock = some k) W W' := FL.But.grown hg (fun _ c => c)
  exact ⟨⟨(h.st.push X hc ho hg hv').1, h.own.but hb (fun k y e => (h2 k (.inr (.inl y))).2.1 e), h.dis⟩, Ar.butm hb (fun k e => ⟨(hv.lt k e).1, fun c => (h2 k (.inr (.inr c))).2.1 e⟩)⟩
/-- Both arenas have just been made. -/
theorem Ar.Tw.make (X : Ar.Pa O) {W1 : World} {R : Nat → Prop} (hO : O W1 p a R) (hb1 : Below w.heap.size w W1) (hR : ∀ k, R k → w.heap.size ≤ k) (hb2 : Below W1.heap.size W1 W) (hQ : RA.Own W q b Q) (hq : ∀ k, Q k → W1.heap.size ≤ k) : Ar.Tw O w p q a b (.slice none 0 0) [] [] Q (fun _ => False) W :=
  ⟨(Ar.St.make hO hb1 hR).more X hb2 (fun k c => .inr (c.elim (fun c => ⟨hq k c, hQ.lt k c⟩) False.elim)), hQ, fun _ c => c.elim⟩
/-- The program's Alloc, Free, Get beside the reference. -/
theorem Ar.Tw.palloc (X : Ar.Pa O) (h : Ar.Tw O w p q a b v all pend Q E W) (x : N.NArg) (hx : N.NOk W x) (hxw : ∀ g o, x.s.a = some ⟨g, o, none⟩ → x.s.x ≠ [] → ¬ Ar.Ot w E g) :
    Calls Try.prog 12 #[FL.ptr p, .agg #[.int .i64 x.h, .string x.t, .slice x.s.a x.s.x.length x.s.c]] W fun e W' => e = .returned (.tuple #[.int .u64 (A13.alH Ar.ms a x.nd : Nat), .int .i64 (A13.alE Ar.ms a x.nd)]) ∧ Ar.Tw O w p q (A13.al Ar.ms a x.nd) b v all pend Q E W' ∧ FL.But (Ar.Ot w E) W W' :=
  h.prog fun R hO hR => (X.alloc p a R x W hO hx (fun g o e n r => hxw g o e n ⟨(hR g r).2, fun c => (hR g r).1 (.inr c)⟩)).mono fun _ _ y => ⟨y.1, _, y.2.1, fun _ c => c, y.2.2⟩
theorem Ar.Tw.pfree (X : Ar.Pa O) (h : Ar.Tw O w p q a b v all pend Q E W) (hst : a.st < 1000000000) (n : Nat) (hn : n ≤ 18446744073709551615) :
    Calls Try.prog 16 #[FL.ptr p, .int .u64 (n : Int)] W fun e W' => e = .returned (.int .i64 (a.gtE n)) ∧ Ar.Tw O w p q (a.free n) b v all pend Q E W' ∧ FL.But (Ar.Ot w E) W W' :=
  h.prog fun R hO _ => (X.free p a R n W hO hn hst).mono fun _ _ y => ⟨y.1, _, y.2.1, fun _ c => c, y.2.2⟩
theorem Ar.Tw.plive (X : Ar.Pa O) (h : Ar.Tw O w p q a b v all pend Q E W) (n : Nat) (hn : n ≤ 18446744073709551615) :
    Calls Try.prog 17 #[FL.ptr p, .int .u64 (n : Int)] W fun e W' => e = .returned (.bool (a.has n)) ∧ Below W.heap.size W W' := h.st.live X n hn
theorem Ar.Tw.ralloc (X : Ar.Pa O) (h : Ar.Tw O w p q a b v all pend Q E W) (x : N.NArg) (hx : N.NOk W x) (hxw : ∀ g o, x.s.a = some ⟨g, o, none⟩ → x.s.x ≠ [] → ¬ Ar.Ot w E g) :
    Calls Try.prog 55 #[FL.ptr q, .agg #[.int .i64 x.h, .string x.t, .slice x.s.a x.s.x.length x.s.c]] W fun e W' => e = .returned (.tuple #[.int .u64 (A13.alH Ar.ms b x.nd : Nat), .int .i64 (A13.alE Ar.ms b x.nd)]) ∧ (∃ Q', Ar.Tw O w p q a (A13.al Ar.ms b x.nd) v all pend Q' E W') ∧ FL.But (Ar.Ot w E) W W' := by
  obtain ⟨R, K, _, _, _, _, _, h2, h3⟩ := h.st.ex
  refine (refAlloc13_any q b Q x.h x.t x.s.a x.s.c x.s.x W h.own hx.cd hx.h0 hx.h1 hx.s.row (fun g o e n y => hxw g o e n ⟨(h3 g (.inl y)).2, fun c => h.dis g c y⟩)).mono fun _ _ y => ?_
  have z := h.refs X y.2.2 y.2.1 (fun _ c => c)
  exact ⟨y.1, ⟨_, z.1⟩, z.2⟩
theorem Ar.Tw.rfree (X : Ar.Pa O) (h : Ar.Tw O w p q a b v all pend Q E W) (hst : b.st < 1000000000) (n : Nat) (hn : n ≤ 18446744073709551615) :
    Calls Try.prog 56 #[FL.ptr q, .int .u64 (n : Int)] W fun e W' => e = .returned (.int .i64 (b.gtE n)) ∧ (∃ Q', Ar.Tw O w p q a (b.free n) v all pend Q' E W') ∧ FL.But (Ar.Ot w E) W W' :=
  (refFree13_any q b Q n hn W h.own hst).mono fun _ _ y => by
    have z := h.refs X y.2.2 y.2.1 (fun _ c => c)
    exact ⟨y.1, ⟨_, z.1⟩, z.2⟩
theorem Ar.Tw.rlive (h : Ar.Tw O w p q a b v all pend Q E W) (n : Nat) :
    Calls Try.prog 60 #[FL.ptr q, .int .u64 (n : Int)] W fun e W' => e = .returned (.bool (b.has n)) ∧ Below W.heap.size W W' :=
  (refLive13_any q b Q n W h.own).mono fun _ _ y => ⟨y.1, by rw [← y.2]; exact Below.refl _ _⟩
theorem Ar.Tw.pget (X : Ar.Pa O) (h : Ar.Tw O w p q a b v all pend Q E W) (hst : a.st < 1000000000) (n : Nat) (hn : n ≤ 18446744073709551615) :
    Calls Try.prog 13 #[FL.ptr p, .int .u64 (n : Int)] W fun e W' => ∃ t xo xc, t.data.toList = (Ar.got a n).t ∧ e = .returned (.tuple #[.agg #[.int .i64 (Ar.got a n).h, .string t, .slice xo (Ar.got a n).ks.length xc], .int .i64 (a.gtE n)]) ∧
      Ar.Tw O w p q (a.gt n) b v all pend Q (fun k => E k ∨ ∃ o, xo = some ⟨k, o, none⟩) W' ∧ FL.But (Ar.Ot w E) W W' ∧ N.NOk W' ⟨(Ar.got a n).h, t, ⟨xo, xc, (Ar.got a n).ks⟩⟩ ∧ W'.ownsRow W.heap.size 50 4 (.slice xo (Ar.got a n).ks.length xc) (Ar.got a n).ks.length (N.cells (Ar.got a n).ks) := by
  obtain ⟨R, K, hO, hR, hv, hk, h1, h2, h3⟩ := h.st.ex
  have hn' : ∀ k, R k → ¬ (Q k ∨ E k) := fun k r c => (h2 k (.inr c)).1 r
  refine (X.get p a R n W hO hn hst).mono fun e W' k => ?_
  obtain ⟨t, xo, xc, R', ht, he, hO', hR', hB, hw, hN, hx⟩ := k
  obtain ⟨t1, t2, t3, t4, t5, t6, t7⟩ := Ar.turn_ex hv hR h.st.below hk h1 h2 hR' hB
  refine ⟨t, xo, xc, ht, he, ⟨⟨t1, h.st.chk, R', K, hO', t2, t3, t4, t5, fun k c => ?_, fun k c => ?_⟩, h.own.but hB (fun k y r => hn' k r (.inl y)), fun k c y => ?_⟩, Ar.butm hB (fun k r => ⟨hR k r, fun c => hn' k r (.inr c)⟩), hN, hw⟩
  · have new : (∃ o, xo = some ⟨k, o, none⟩) → ¬ R' k ∧ v.ownBlock ≠ some k ∧ k < W'.heap.size := fun ⟨o, c⟩ => by
      obtain ⟨y1, y2, y3⟩ := hx k o c
      exact ⟨y3, fun e => by have := (hv.lt k e).2; omega, y2⟩
    rcases c with c | c | c | c
    · exact t6 k (.inl c)
    · exact t6 k (.inr (.inl c))
    · exact t6 k (.inr (.inr c))
    · exact new c
  · rcases c with c | c | ⟨o, c⟩
    · exact h3 k (.inl c)
    · exact h3 k (.inr c)
    · have y1 := (hx k o c).1
      exact ⟨fun c' => by have := (h2 k (.inl c')).2.2; omega, by have := h.st.below.size; omega⟩
  · rcases c with c | ⟨o, c⟩
    · exact h.dis k c y
    · have := (hx k o c).1; have := h.own.lt k y; omega
theorem Ar.Tw.rget (X : Ar.Pa O) (h : Ar.Tw O w p q a b v all pend Q E W) (hst : b.st < 1000000000) (n : Nat) :
    Calls Try.prog 57 #[FL.ptr q, .int .u64 (n : Int)] W fun e W' => ∃ yo yc, e = .returned (.tuple #[.agg #[.int .i64 (Ar.got b n).h, .string ⟨(Ar.got b n).t.toArray⟩, .slice yo (Ar.got b n).ks.length yc], .int .i64 (b.gtE n)]) ∧
      Ar.Tw O w p q a (b.gt n) v all pend Q E W' ∧ FL.But (Ar.Ot w E) W W' ∧ N.Row W' yo (Ar.got b n).ks :=
  (refGet13_any q b Q n W h.own hst).mono fun _ _ y => by
    obtain ⟨u, he, y1, y2, y3⟩ := y
    have z := h.refs X y2 y1 (fun _ c => .inl c)
    obtain ⟨yo, yc, rfl, hr⟩ := N.own_row y3
    exact ⟨yo, yc, he, z.1, z.2, hr⟩
end
end Go.Proofs.Ytniccjbcchdkoaa
/- ArTw2 -/
namespace Go.Proofs.Ytniccjbcchdkoaa
open Go.RowKit

theorem Ar.own_block {W : World} {base n c m : Nat} {e : TypeId} {ao : Option Addr} {xs : List Value} (h : W.ownsRow base e m (.slice ao n c) n xs) : ∀ g o, ao = some ⟨g, o, none⟩ → base ≤ g ∧ g < W.heap.size := fun g o e => by
  obtain ⟨_, ⟨e', _⟩ | ⟨g', cap, cur, e', hg, hh, _⟩⟩ := h
  · rw [e] at e'; cases e'
  · have := (Array.getElem?_eq_some_iff.1 hh).1
    injection e' with e'
    rw [e] at e'
    injection e' with e'
    injection e' with e'
    omega
/-- A copy of a node. -/
theorem Ar.copy_ok {W W' : World} {x : N.NArg} {v : Value} (h : N.NOk W x) (m : N.Made x.s.x W v W') : ∃ io ic, v = .slice io x.s.x.length ic ∧ N.NOk W' ⟨x.h, x.t, ⟨io, ic, x.s.x⟩⟩ ∧ (∀ g o, io = some ⟨g, o, none⟩ → W.heap.size ≤ g ∧ g < W'.heap.size) ∧ W'.ownsRow W.heap.size 50 4 (.slice io x.s.x.length ic) x.s.x.length (N.cells x.s.x) := by
  obtain ⟨io, ic, rfl, hr, hn, hc⟩ := m.cap
  exact ⟨io, ic, rfl, ⟨h.h0, h.h1, h.t, ⟨hr, hn, h.s.fits, h.s.fit, hc⟩⟩, Ar.own_block m.own, m.own⟩
/-- A row of children that may be written over. -/
def Ar.Zr (E : Nat → Prop) (ao : Option Addr) (n : Nat) (W : World) : Prop := n = 0 ∨ ∃ g cur, ao = some ⟨g, 0, none⟩ ∧ E g ∧ W.heap[g]? = some (.cells cur 50 (0, 0)) ∧ n * 4 ≤ cur.size
theorem Ar.Zr.of {W : World} {base n c : Nat} {E : Nat → Prop} {ao : Option Addr} {xs : List Value} (h : W.ownsRow base 50 4 (.slice ao n c) n xs) (hE : ∀ g o, ao = some ⟨g, o, none⟩ → E g) : Ar.Zr E ao n W := by
  obtain ⟨_, ⟨_, h0⟩ | ⟨g, cap, cur, e', _, hh, hnc, _, hcs, _⟩⟩ := h
  · exact .inl h0
  · injection e' with e'
    exact .inr ⟨g, cur, e', hE g 0 e', hh, by omega⟩
theorem Ar.Zr.but {E R : Nat → Prop} {ao : Option Addr} {n : Nat} {W W' : World} (h : Ar.Zr E ao n W) (hb : FL.But R W W') (hR : ∀ k, E k → ¬ R k) : Ar.Zr E ao n W' := by
  rcases h with h | ⟨g, cur, e, hE, hh, hn⟩
  · exact .inl h
  · exact .inr ⟨g, cur, e, hE, by rw [hb.block g (Array.getElem?_eq_some_iff.1 hh).1 (hR g hE)]; exact hh, hn⟩
theorem Ar.Zr.get {E : Nat → Prop} {ao : Option Addr} {n : Nat} {W : World} (h : Ar.Zr E ao n W) {k : Nat} (hk : k < n) : ∃ g, ao = some ⟨g, 0, none⟩ ∧ E g ∧ (∀ j, j < 4 → (∃ z, W.cell? ⟨g, k * 4 + j, none⟩ = some z) ∧ W.frozen? ⟨g, k * 4 + j, none⟩ = false) ∧ ∀ o z, Ar.Zr E ao n (W.setCell ⟨g, o, none⟩ z) := by
  rcases h with h | ⟨g, cur, e, hE, hh, hn⟩
  · omega
  · refine ⟨g, e, hE, fun j hj => ⟨⟨cur[k * 4 + j]'(by omega), ?_⟩, frozen_of_row _ _ _ _ _ hh⟩, fun o z => .inr ⟨g, _, e, hE, heap_setCell_same W g o _ _ z hh, by simpa using hn⟩⟩
    rw [cell_of_row W g (k * 4 + j) cur _ _ hh, Array.getElem?_eq_getElem (by omega)]
theorem Ar.nd4 {d : Ar.Dd} {all : List Ar.I} (h : d.kind % 8 = 4) : (d.nd all).ks = d.x.s.x := by
  unfold Ar.Dd.nd
  rw [if_neg (by omega), if_neg (by omega), if_pos h]; rfl
theorem Ar.alH_le {a : A13.A} (v : A13.Inv a) (x : N.Nd) : A13.alH Ar.ms a x ≤ 18446744073709551615 := by
  unfold A13.alH
  split
  · exact FL.tkH_le13 v.l
  · exact Nat.zero_le _
theorem Ar.al_st (a : A13.A) (x : N.Nd) : (A13.al Ar.ms a x).st = a.st := by
  unfold A13.al
  split
  · rfl
  · rfl
theorem Ar.free_st (a : A13.A) (h : Nat) : (a.free h).st ≤ a.st + 1 := by
  by_cases c : a.has h = true
  · unfold A13.A.free; rw [if_pos c]; exact Nat.le_succ _
  · rw [A13.free_no (by simpa using c)]; exact Nat.le_refl _
theorem Ar.gt_st (a : A13.A) (h : Nat) : (a.gt h).st ≤ a.st + 1 := by
  by_cases c : a.has h = true
  · rw [A13.gt_yes c]; exact Nat.le_succ _
  · rw [A13.gt_no (by simpa using c)]; exact Nat.le_refl _
section
variable {O : World → Nat → A13.A → (Nat → Prop) → Prop} {w W W' : World} {p q : Nat} {a a' b b' : A13.A} {v : Value} {all pend : List Ar.I} {Q Q' E E' : Nat → Prop}
theorem Ar.Tw.spoil (X : Ar.Pa O) (h : Ar.Tw O w p q a b v all pend Q E W) : Calls Try.prog 58 #[FL.ptr p] W fun e w' => e = .returned (.tuple #[]) ∧ Below W.heap.size W w' := by
  obtain ⟨R, K, hO, _⟩ := h.st.ex
  exact spoil13_any X p a R W hO
theorem Ar.Tw.same (X : Ar.Pa O) (h : Ar.Tw O w p q a a v all pend Q E W) : Calls Try.prog 59 #[FL.ptr p, FL.ptr q] W fun e w' => e = .returned (.bool true) ∧ Below W.heap.size W w' := by
  obtain ⟨R, K, hO, _⟩ := h.st.ex
  exact same13_any X p q a R Q W hO h.own
theorem Ar.Tw.inv (X : Ar.Pa O) (h : Ar.Tw O w p q a b v all pend Q E W) : A13.Inv a := h.st.inv X
theorem Ar.Tw.handle (h : Ar.Tw O w p q a b v all pend Q E W) (d : Ar.Dd) (hd : Ar.DOk W d) (hl : all.length ≤ 1000) :
    Calls Try.prog 52 #[d.v, v] W fun e w' => e = .returned (.int .u64 (d.hand all : Nat)) ∧ Below W.heap.size W w' := by
  obtain ⟨ao, ac, rfl, hr⟩ := h.st.row
  exact dHandle13_any d ao ac all W hd hl (fun i p hp => by obtain ⟨b, e, hb, h0, _⟩ := hr i p hp; exact ⟨b, e, hb, h0⟩)
theorem Ar.Tw.node (h : Ar.Tw O w p q a b v all pend Q E W) (d : Ar.Dd) (hd : Ar.DOk W d) (hl : all.length ≤ 1000) :
    Calls Try.prog 53 #[d.v, v] W (Ar.NdEnd d all W) := by
  have hh := h.st.hands
  obtain ⟨ao, ac, rfl, hr⟩ := h.st.row
  exact dNode13_any d ao ac all W hd hl hh hr
end
end Go.Proofs.Ytniccjbcchdkoaa
/- ArTw3 -/
namespace Go.Proofs.Ytniccjbcchdkoaa
open Go.RowKit

/-- The value of a node in a box. -/
def Ar.bxo (h : Int) (t : ByteArray) (ao : Option Addr) (n c : Nat) : Obj := .cells #[.int .i64 h, .string t, .slice ao n c] 30 (0, 0)
/-- The two arenas, and a boxed node of the law's own whose row may be written over. -/
structure Ar.Bz (O : World → Nat → A13.A → (Nat → Prop) → Prop) (w : World) (p q : Nat) (a b : A13.A) (v : Value) (all : List Ar.I) (Q E : Nat → Prop) (bi : Nat) (h : Int) (t : ByteArray) (io : Option Addr) (n ic : Nat) (W : World) : Prop where
  tw : Ar.Tw O w p q a b v all [] Q E W
  yi : W.heap[bi]? = some (Ar.bxo h t io n ic)
  zi : Ar.Zr E io n W
  ei : E bi
  ne : ∀ g o, io = some ⟨g, o, none⟩ → g ≠ bi
section
variable {O : World → Nat → A13.A → (Nat → Prop) → Prop} {w W W' : World} {p q : Nat} {a a' b b' : A13.A} {v v' : Value} {all all' : List Ar.I} {Q Q' E : Nat → Prop} {bi bx : Nat} {h : Int} {t : ByteArray} {io xo : Option Addr} {n ic xc : Nat} {ks : List N.K}
theorem Ar.Ot.not {k : Nat} (c : E k) : ¬ Ar.Ot w E k := fun o => o.2 c
theorem Ar.Bz.but (m : Ar.Bz O w p q a b v all Q E bi h t io n ic W) (hB : FL.But (Ar.Ot w E) W W') (T : Ar.Tw O w p q a' b' v' all' [] Q' E W') : Ar.Bz O w p q a' b' v' all' Q' E bi h t io n ic W' :=
  ⟨T, (hB.block bi (Array.getElem?_eq_some_iff.1 m.yi).1 (Ar.Ot.not m.ei)).trans m.yi, m.zi.but hB (fun _ c => Ar.Ot.not c), m.ei, m.ne⟩
theorem Ar.Bz.on (X : Ar.Pa O) (m : Ar.Bz O w p q a b v all Q E bi h t io n ic W) (hb : Below W.heap.size W W') : Ar.Bz O w p q a b v all Q E bi h t io n ic W' := m.but (FL.But.below hb) (m.tw.on X hb)
theorem Ar.Bz.put (X : Ar.Pa O) (m : Ar.Bz O w p q a b v all Q E bi h t io n ic W) {g : Nat} (hg : E g) (e : io = some ⟨g, 0, none⟩) (hz : ∀ o z, Ar.Zr E io n (W.setCell ⟨g, o, none⟩ z)) (o : Nat) (z : Value) : Ar.Bz O w p q a b v all Q E bi h t io n ic (W.setCell ⟨g, o, none⟩ z) :=
  ⟨m.tw.put X hg o z, by rw [Below.heap_setCell _ _ _ _ (Ne.symm (m.ne g 0 e))]; exact m.yi, hz o z, m.ei, m.ne⟩
/-- A child's four cells are written over. -/
theorem Ar.Bz.get (X : Ar.Pa O) (m : Ar.Bz O w p q a b v all Q E bi h t io n ic W) {k : Nat} (hk : k < n) : ∃ g, io = some ⟨g, 0, none⟩ ∧ E g ∧ (∀ j, j < 4 → (∃ z, W.cell? ⟨g, k * 4 + j, none⟩ = some z) ∧ W.frozen? ⟨g, k * 4 + j, none⟩ = false) ∧
    ∀ z0 z1 z2 z3, Ar.Bz O w p q a b v all Q E bi h t io n ic ((((W.setCell ⟨g, k * 4, none⟩ z0).setCell ⟨g, k * 4 + 1, none⟩ z1).setCell ⟨g, k * 4 + 2, none⟩ z2).setCell ⟨g, k * 4 + 3, none⟩ z3) := by
  obtain ⟨g, e, hg, hc, hz⟩ := m.zi.get hk
  have step : ∀ {W : World} (_ : Ar.Bz O w p q a b v all Q E bi h t io n ic W) (o : Nat) (z : Value), Ar.Bz O w p q a b v all Q E bi h t io n ic (W.setCell ⟨g, o, none⟩ z) := fun {W} m o z => by
    obtain ⟨g', e', hg', _, hz'⟩ := m.zi.get hk
    have : g' = g := by rw [e] at e'; injection e' with e'; injection e' with e'; exact e'.symm
    subst this
    exact m.put X hg' e' hz' o z
  exact ⟨g, e, hg, hc, fun z0 z1 z2 z3 => step (step (step (step m _ z0) _ z1) _ z2) _ z3⟩
/-- .. beside another boxed node that stays as it is. -/
structure Ar.Px (O : World → Nat → A13.A → (Nat → Prop) → Prop) (w : World) (p q : Nat) (a b : A13.A) (v : Value) (all : List Ar.I) (Q E : Nat → Prop) (bi bx : Nat) (h : Int) (t : ByteArray) (io : Option Addr) (ic : Nat) (xo : Option Addr) (xc : Nat) (ks : List N.K) (W : World) : Prop where
  bz : Ar.Bz O w p q a b v all Q E bi h t io ks.length ic W
  yx : W.heap[bx]? = some (Ar.bxo h t xo ks.length xc)
  nx : N.NOk W ⟨h, t, ⟨xo, xc, ks⟩⟩
  ex : E bx
  cx : ∀ g o, xo = some ⟨g, o, none⟩ → ks ≠ [] → ¬ Ar.Ot w E g
  nbx : ∀ g o, io = some ⟨g, o, none⟩ → g ≠ bx ∧ ∀ o', ks ≠ [] → xo ≠ some ⟨g, o', none⟩
theorem Ar.Px.but (m : Ar.Px O w p q a b v all Q E bi bx h t io ic xo xc ks W) (hB : FL.But (Ar.Ot w E) W W') (T : Ar.Tw O w p q a' b' v' all' [] Q' E W') : Ar.Px O w p q a' b' v' all' Q' E bi bx h t io ic xo xc ks W' :=
  ⟨m.bz.but hB T, (hB.block bx (Array.getElem?_eq_some_iff.1 m.yx).1 (Ar.Ot.not m.ex)).trans m.yx, m.nx.but hB m.cx, m.ex, m.cx, m.nbx⟩
theorem Ar.Px.on (X : Ar.Pa O) (m : Ar.Px O w p q a b v all Q E bi bx h t io ic xo xc ks W) (hb : Below W.heap.size W W') : Ar.Px O w p q a b v all Q E bi bx h t io ic xo xc ks W' := m.but (FL.But.below hb) (m.bz.tw.on X hb)
theorem Ar.Px.get (X : Ar.Pa O) (m : Ar.Px O w p q a b v all Q E bi bx h t io ic xo xc ks W) {k : Nat} (hk : k < ks.length) : ∃ g, io = some ⟨g, 0, none⟩ ∧ (∀ j, j < 4 → (∃ z, W.cell? ⟨g, k * 4 + j, none⟩ = some z) ∧ W.frozen? ⟨g, k * 4 + j, none⟩ = false) ∧
    ∀ z0 z1 z2 z3, Ar.Px O w p q a b v all Q E bi bx h t io ic xo xc ks ((((W.setCell ⟨g, k * 4, none⟩ z0).setCell ⟨g, k * 4 + 1, none⟩ z1).setCell ⟨g, k * 4 + 2, none⟩ z2).setCell ⟨g, k * 4 + 3, none⟩ z3) := by
  obtain ⟨g, e, hg, hc, hz⟩ := m.bz.get X hk
  refine ⟨g, e, hc, fun z0 z1 z2 z3 => ?_⟩
  obtain ⟨n1, n2⟩ := m.nbx g 0 e
  have hs : ∀ (W : World) (o : Nat) (z : Value), FL.But (fun k => k = g) W (W.setCell ⟨g, o, none⟩ z) := fun W o z => FL.But.set W z rfl
  have hB := (((hs W (k * 4) z0).trans (hs _ (k * 4 + 1) z1)).trans (hs _ (k * 4 + 2) z2)).trans (hs _ (k * 4 + 3) z3)
  exact ⟨hz z0 z1 z2 z3, (hB.block bx (Array.getElem?_eq_some_iff.1 m.yx).1 (Ne.symm n1)).trans m.yx, m.nx.but hB (fun g' o e' n' c => n2 o n' (by rw [← c]; exact e')), m.ex, m.cx, m.nbx⟩
end
end Go.Proofs.Ytniccjbcchdkoaa
