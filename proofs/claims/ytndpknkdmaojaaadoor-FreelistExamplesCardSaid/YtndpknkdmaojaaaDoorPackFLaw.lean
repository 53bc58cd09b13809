/- Texts joined: FreeTwo FreeDeed FreeRun -/
import Derived.Test.YtndpknkdmaojaaaDoorPackFKit
import Derived.Test.YtndpknkdmaojaaaDoorPackFRef
import Derived.Deep.DeepCutAuto
import Derived.Deep.CutBlock
/- FreeTwo -/
namespace Go.Proofs.YtndpknkdmaojaaaDoor
open Go.RowKit

theorem FL.But.mono {R Q : Nat → Prop} {w w' : World} (h : FL.But R w w') (hq : ∀ k, R k → Q k) : FL.But Q w w' := ⟨h.os, h.tape, h.output, h.size, fun k hk hn => h.block k hk (fun c => hn (hq k c))⟩
structure FL.Two (w : World) (p q : Nat) (R Q : Nat → Prop) (s u : FL.S) (B : Nat) (W : World) : Prop where
  below : Below w.heap.size w W
  x : FL.Own W p s R
  y : FL.ROwn W q u Q
  rx : ∀ k, R k → w.heap.size ≤ k ∧ k < B
  ry : ∀ k, Q k → w.heap.size ≤ k ∧ k < B
  apart : ∀ k, R k → ¬ Q k
  size : B ≤ W.heap.size
theorem FL.Two.on {w W W' : World} {p q : Nat} {R Q : Nat → Prop} {s u : FL.S} {B : Nat} (h : FL.Two w p q R Q s u B W) (hb : Below W.heap.size W W') : FL.Two w p q R Q s u B W' :=
  ⟨h.below.trans (hb.mono h.below.size), h.x.below hb, h.y.below hb, h.rx, h.ry, h.apart, Nat.le_trans h.size hb.size⟩
theorem FL.Two.grown {w W W' : World} {p q : Nat} {R Q : Nat → Prop} {s u : FL.S} {B : Nat} (h : FL.Two w p q R Q s u B W) {row : Option Nat} (hg : W.grownBy W' row) (hr : ∀ k, row = some k → B ≤ k) (hw : w.heap.size ≤ B) : FL.Two w p q R Q s u B W' :=
  have hb : FL.But (fun k => B ≤ k) W W' := FL.But.grown hg hr
  ⟨hb.toBelow h.below h.below.size (fun k hk => Nat.le_trans hw hk), h.x.but hb (fun k hk c => by have := (h.rx k hk).2; omega), h.y.but hb (fun k hk c => by have := (h.ry k hk).2; omega), h.rx, h.ry, h.apart, Nat.le_trans h.size hb.size⟩
theorem FL.Two.turnX {w W W' : World} {p q : Nat} {R Q : Nat → Prop} {s s' u : FL.S} {B : Nat} (h : FL.Two w p q R Q s u B W) (ho : FL.Own W' p s' R) (hb : FL.But R W W') : FL.Two w p q R Q s' u B W' ∧ FL.But (fun k => k < B) W W' :=
  ⟨⟨hb.toBelow h.below h.below.size (fun k hk => (h.rx k hk).1), ho, h.y.but hb (fun k hk c => h.apart k c hk), h.rx, h.ry, h.apart, Nat.le_trans h.size hb.size⟩, hb.mono (fun k hk => (h.rx k hk).2)⟩
theorem FL.Two.turnY {w W W' : World} {p q : Nat} {R Q : Nat → Prop} {s u u' : FL.S} {B : Nat} (h : FL.Two w p q R Q s u B W) (ho : FL.ROwn W' q u' Q) (hb : FL.But Q W W') : FL.Two w p q R Q s u' B W' ∧ FL.But (fun k => k < B) W W' :=
  ⟨⟨hb.toBelow h.below h.below.size (fun k hk => (h.ry k hk).1), h.x.but hb (fun k hk c => h.apart k hk c), ho, h.rx, h.ry, h.apart, Nat.le_trans h.size hb.size⟩, hb.mono (fun k hk => (h.ry k hk).2)⟩
theorem FL.Two.make {w w1 w2 : World} {p q : Nat} {R Q : Nat → Prop} {s u : FL.S} (hx : FL.Own w1 p s R) (hb : Below w.heap.size w w1) (hr : ∀ k, R k → w.heap.size ≤ k) (hy : FL.ROwn w2 q u Q) (hb2 : Below w1.heap.size w1 w2) (hq : ∀ k, Q k → w1.heap.size ≤ k) : FL.Two w p q R Q s u w2.heap.size w2 :=
  ⟨hb.trans (hb2.mono hb.size), hx.below hb2, hy, fun k hk => ⟨hr k hk, Nat.lt_of_lt_of_le (hx.lt k hk) hb2.size⟩, fun k hk => ⟨Nat.le_trans hb.size (hq k hk), hy.lt k hk⟩, fun k hk c => by have := hx.lt k hk; have := hq k c; omega, Nat.le_refl _⟩
section
variable {w W : World} {p q : Nat} {R Q : Nat → Prop} {s u : FL.S} {B : Nat}
theorem FL.Two.takeX (h : FL.Two w p q R Q s u B W) : Calls Tryd.prog 13 #[FL.ptr p] W fun e w' => e = .returned (.tuple #[.int .u64 (s.tkH : Nat), .int .i64 s.tkE]) ∧ FL.Two w p q R Q s.tk u B w' ∧ FL.But (fun k => k < B) W w' :=
  (take11_any p s R W h.x).mono fun _ _ k => ⟨k.1, h.turnX k.2.1 k.2.2⟩
theorem FL.Two.takeY (h : FL.Two w p q R Q s u B W) : Calls Tryd.prog 14 #[FL.ptr q] W fun e w' => e = .returned (.tuple #[.int .u64 (u.tkH : Nat), .int .i64 u.tkE]) ∧ FL.Two w p q R Q s u.tk B w' ∧ FL.But (fun k => k < B) W w' :=
  (refTake11_any q u Q W h.y).mono fun _ _ k => ⟨k.1, h.turnY k.2.1 k.2.2⟩
theorem FL.Two.giveX (h : FL.Two w p q R Q s u B W) (x : Nat) (hx : x ≤ 18446744073709551615) : Calls Tryd.prog 15 #[FL.ptr p, .int .u64 (x : Int)] W fun e w' => e = .returned (.tuple #[.bool (s.gvB x), .int .i64 (s.gvE x)]) ∧ FL.Two w p q R Q (s.gv x) u B w' ∧ FL.But (fun k => k < B) W w' :=
  (give11_any p s R x hx W h.x).mono fun _ _ k => ⟨k.1, h.turnX k.2.1 k.2.2⟩
theorem FL.Two.giveY (h : FL.Two w p q R Q s u B W) (x : Nat) (hx : x ≤ 18446744073709551615) : Calls Tryd.prog 16 #[FL.ptr q, .int .u64 (x : Int)] W fun e w' => e = .returned (.tuple #[.bool (u.gvB x), .int .i64 (u.gvE x)]) ∧ FL.Two w p q R Q s (u.gv x) B w' ∧ FL.But (fun k => k < B) W w' :=
  (refGive11_any q u Q x hx W h.y).mono fun _ _ k => ⟨k.1, h.turnY k.2.1 k.2.2⟩
theorem FL.Two.freeX (h : FL.Two w p q R Q s u B W) : Calls Tryd.prog 21 #[FL.ptr p] W fun e w' => ∃ ao c, e = .returned (.slice ao s.stk.length c) ∧ V.Row w' ao (FL.ints s.stk) ∧ Below W.heap.size W w' :=
  FL.On.free (w := w) ⟨h.below, h.x, fun k hk => (h.rx k hk).1⟩
theorem FL.Two.freeY (h : FL.Two w p q R Q s u B W) : Calls Tryd.prog 22 #[FL.ptr q] W fun e w' => ∃ ao c, e = .returned (.slice ao u.stk.length c) ∧ V.Row w' ao (FL.ints u.stk) ∧ Below W.heap.size W w' := by
  obtain ⟨b1, b2, b3, c1, c2, c3, hA, rfl⟩ := h.y
  refine (refFree11_any q b1 b2 b3 c1 c2 c3 u W hA).mono fun _ _ k => ?_
  obtain ⟨v, rfl, m⟩ := k
  obtain ⟨ao, c, rfl, hr⟩ := FL.MI.row m
  exact ⟨ao, c, rfl, hr, V.Made.below m⟩
end
/-- The handles that were taken: a row of the law's own, behind the lists' blocks. -/
structure FL.Al (B : Nat) (X : List Nat) (v : Value) (W : World) : Prop where
  own : W.ownsRow B 33 1 v (H.row X).length (H.row X)
  le : ∀ x ∈ X, x ≤ 18446744073709551615
theorem FL.Al.nil (B : Nat) (W : World) : FL.Al B [] (.slice none 0 0) W := ⟨World.ownsRow_nil _ _ _ _, fun x h => by cases h⟩
theorem FL.Al.on {B : Nat} {X : List Nat} {v : Value} {W W' : World} (h : FL.Al B X v W) (hb : Below W.heap.size W W') : FL.Al B X v W' := ⟨D.own_below h.own hb, h.le⟩
theorem FL.Al.but {B : Nat} {X : List Nat} {v : Value} {W W' : World} (h : FL.Al B X v W) (hb : FL.But (fun k => k < B) W W') : FL.Al B X v W' := ⟨hb.row h.own (fun k e c => by have := (h.own.lt k e).1; omega), h.le⟩
theorem FL.Al.slice {B : Nat} {X : List Nat} {v : Value} {W : World} (h : FL.Al B X v W) : ∃ ao c, v = .slice ao X.length c ∧ V.Row W ao (H.row X) := by
  obtain ⟨ao, c, e, r⟩ := V.row_of h.own
  rw [H.row_len] at e
  exact ⟨ao, c, e, r⟩
theorem FL.tkH_le {s : FL.S} (v : FL.Inv s) : s.tkH ≤ 18446744073709551615 := by
  cases e : s.stk with
  | nil => rw [(FL.tk_nil e).2.1]; omega
  | cons x r =>
    have t := FL.tk_cons v e
    have := H.ok_lt t.ok
    rw [t.hand]; omega
end Go.Proofs.YtndpknkdmaojaaaDoor
/- FreeDeed -/
namespace Go.Proofs.YtndpknkdmaojaaaDoor
open Go.RowKit

structure FL.Dd where
  kind : Int
  k : Int
  h : Int
structure FL.Fit (d : FL.Dd) : Prop where
  a0 : -9223372036854775808 ≤ d.kind
  a1 : d.kind ≤ 9223372036854775807
  b0 : -9223372036854775808 ≤ d.k
  b1 : d.k ≤ 9223372036854775807
  h0 : 0 ≤ d.h
  h1 : d.h ≤ 18446744073709551615
def FL.DRow (W : World) (ao : Option Addr) (l : List FL.Dd) : Prop := ∀ (i : Nat) (d : FL.Dd), l[i]? = some d → ∃ b o, ao = some ⟨b, o, none⟩ ∧ b < W.heap.size ∧ W.cell? ⟨b, o + i * 3, none⟩ = some (.int .i64 d.kind) ∧ W.cell? ⟨b, o + i * 3 + 1, none⟩ = some (.int .i64 d.k) ∧ W.cell? ⟨b, o + i * 3 + 2, none⟩ = some (.int .u64 d.h)
theorem FL.DRow.below {W W' : World} {ao : Option Addr} {l : List FL.Dd} (h : FL.DRow W ao l) (hb : Below W.heap.size W W') : FL.DRow W' ao l := fun i d hd => by
  obtain ⟨b, o, e, hl, h0, h1, h2⟩ := h i d hd
  have k := (D.bcell hb).1 b
  exact ⟨b, o, e, Nat.lt_of_lt_of_le hl hb.size, (k _ hl).trans h0, (k _ hl).trans h1, (k _ hl).trans h2⟩
/-- An argument that is a slice of deeds. -/
structure FL.Src where
  a : Option Addr
  c : Nat
  x : List FL.Dd
structure FL.ArgOk (W : World) (s : FL.Src) : Prop where
  row : FL.DRow W s.a s.x
  fits : ∀ d ∈ s.x, FL.Fit d
  len : s.x.length ≤ 1000000000000000
theorem FL.ArgOk.below {W W' : World} {s : FL.Src} (h : FL.ArgOk W s) (hb : Below W.heap.size W W') : FL.ArgOk W' s := ⟨h.row.below hb, h.fits, h.len⟩
/-- A box that holds a deed, at block b. -/
structure FL.Bx (W : World) (b : Nat) (d : FL.Dd) : Prop where
  lt : b < W.heap.size
  c0 : W.cell? ⟨b, 0, none⟩ = some (.int .i64 d.kind)
  c1 : W.cell? ⟨b, 1, none⟩ = some (.int .i64 d.k)
  c2 : W.cell? ⟨b, 2, none⟩ = some (.int .u64 d.h)
theorem FL.Bx.block {W W' : World} {b : Nat} {d : FL.Dd} (h : FL.Bx W b d) (hs : W.heap.size ≤ W'.heap.size) (hb : W'.heap[b]? = W.heap[b]?) : FL.Bx W' b d :=
  ⟨Nat.lt_of_lt_of_le h.lt hs, (World.cell?_of_block (a := ⟨b, 0, none⟩) hb).trans h.c0, (World.cell?_of_block (a := ⟨b, 1, none⟩) hb).trans h.c1, (World.cell?_of_block (a := ⟨b, 2, none⟩) hb).trans h.c2⟩
theorem FL.Bx.on {W W' : World} {b : Nat} {d : FL.Dd} (h : FL.Bx W b d) (hb : Below W.heap.size W W') : FL.Bx W' b d := h.block hb.size (hb.block b h.lt)
theorem FL.Bx.but {W W' : World} {b B : Nat} {d : FL.Dd} (h : FL.Bx W b d) (hB : B ≤ b) (hb : FL.But (fun k => k < B) W W') : FL.Bx W' b d := h.block hb.size (hb.block b h.lt (by omega))
theorem FL.Bx.grown {W W' : World} {b : Nat} {d : FL.Dd} (h : FL.Bx W b d) {row : Option Nat} (hg : W.grownBy W' row) (hr : ∀ k, row = some k → k < b) : FL.Bx W' b d := h.block hg.size (hg.block b h.lt (fun c => by have := hr b c.symm; omega))
/-! ### A new pair -/
def FL.nn (n : Int) : Nat := (1 + n % 8).toNat
def FL.gg (g : Int) : Nat := (1 + g % 4).toNat
theorem FL.nn_bd (n : Int) : 1 ≤ FL.nn n ∧ FL.nn n ≤ 8 ∧ 1 + n % 8 = (FL.nn n : Int) := by unfold FL.nn; omega
theorem FL.gg_bd (g : Int) : 1 ≤ FL.gg g ∧ FL.gg g ≤ 4 ∧ 1 + g % 4 = (FL.gg g : Int) := by unfold FL.gg; omega
end Go.Proofs.YtndpknkdmaojaaaDoor
/- FreeRun -/
namespace Go.Proofs.YtndpknkdmaojaaaDoor
open Go.RowKit

structure FL.One (w : World) (p : Nat) (R : Nat → Prop) (s : FL.S) (B : Nat) (W : World) : Prop where
  below : Below w.heap.size w W
  x : FL.Own W p s R
  rx : ∀ k, R k → w.heap.size ≤ k ∧ k < B
  size : B ≤ W.heap.size
theorem FL.One.on {w W W' : World} {p : Nat} {R : Nat → Prop} {s : FL.S} {B : Nat} (h : FL.One w p R s B W) (hb : Below W.heap.size W W') : FL.One w p R s B W' :=
  ⟨h.below.trans (hb.mono h.below.size), h.x.below hb, h.rx, Nat.le_trans h.size hb.size⟩
theorem FL.One.grown {w W W' : World} {p : Nat} {R : Nat → Prop} {s : FL.S} {B : Nat} (h : FL.One w p R s B W) {row : Option Nat} (hg : W.grownBy W' row) (hr : ∀ k, row = some k → B ≤ k) (hw : w.heap.size ≤ B) : FL.One w p R s B W' :=
  have hb : FL.But (fun k => B ≤ k) W W' := FL.But.grown hg hr
  ⟨hb.toBelow h.below h.below.size (fun k hk => Nat.le_trans hw hk), h.x.but hb (fun k hk c => by have := (h.rx k hk).2; omega), h.rx, Nat.le_trans h.size hb.size⟩
theorem FL.One.set {w W : World} {p : Nat} {R : Nat → Prop} {s : FL.S} {B : Nat} (h : FL.One w p R s B W) {g o : Nat} (v : Value) (hg : B ≤ g) (hw : w.heap.size ≤ B) : FL.One w p R s B (W.setCell ⟨g, o, none⟩ v) :=
  have hb : FL.But (fun k => k = g) W (W.setCell ⟨g, o, none⟩ v) := FL.But.set W v rfl
  ⟨hb.toBelow h.below h.below.size (fun k hk => by subst hk; omega), h.x.but hb (fun k hk c => by have := (h.rx k hk).2; omega), h.rx, Nat.le_trans h.size hb.size⟩
theorem FL.One.turn {w W W' : World} {p : Nat} {R : Nat → Prop} {s s' : FL.S} {B : Nat} (h : FL.One w p R s B W) (ho : FL.Own W' p s' R) (hb : FL.But R W W') : FL.One w p R s' B W' ∧ FL.But (fun k => k < B) W W' :=
  ⟨⟨hb.toBelow h.below h.below.size (fun k hk => (h.rx k hk).1), ho, h.rx, Nat.le_trans h.size hb.size⟩, hb.mono (fun k hk => (h.rx k hk).2)⟩
theorem FL.One.toOn {w W : World} {p : Nat} {R : Nat → Prop} {s : FL.S} {B : Nat} (h : FL.One w p R s B W) : FL.On w p s R W := ⟨h.below, h.x, fun k hk => (h.rx k hk).1⟩
theorem FL.One.make {w w1 : World} {p : Nat} {R : Nat → Prop} {s : FL.S} (hx : FL.Own w1 p s R) (hb : Below w.heap.size w w1) (hr : ∀ k, R k → w.heap.size ≤ k) : FL.One w p R s w1.heap.size w1 :=
  ⟨hb, hx, fun k hk => ⟨hr k hk, hx.lt k hk⟩, Nat.le_refl _⟩
theorem FL.One.take {w W : World} {p : Nat} {R : Nat → Prop} {s : FL.S} {B : Nat} (h : FL.One w p R s B W) : Calls Tryd.prog 13 #[FL.ptr p] W fun e w' => e = .returned (.tuple #[.int .u64 (s.tkH : Nat), .int .i64 s.tkE]) ∧ FL.One w p R s.tk B w' ∧ FL.But (fun k => k < B) W w' :=
  (take11_any p s R W h.x).mono fun _ _ k => ⟨k.1, h.turn k.2.1 k.2.2⟩
theorem FL.One.give {w W : World} {p : Nat} {R : Nat → Prop} {s : FL.S} {B : Nat} (h : FL.One w p R s B W) (x : Nat) (hx : x ≤ 18446744073709551615) : Calls Tryd.prog 15 #[FL.ptr p, .int .u64 (x : Int)] W fun e w' => e = .returned (.tuple #[.bool (s.gvB x), .int .i64 (s.gvE x)]) ∧ FL.One w p R (s.gv x) B w' ∧ FL.But (fun k => k < B) W w' :=
  (give11_any p s R x hx W h.x).mono fun _ _ k => ⟨k.1, h.turn k.2.1 k.2.2⟩
theorem FL.tkE_or (s : FL.S) : s.tkE = 0 ∨ s.tkE = 6 := by unfold FL.S.tkE; split <;> simp
/-- All handles that were taken, and what is known of them. -/
theorem FL.Al.push {B : Nat} {X : List Nat} {v v' : Value} {W W' : World} {z : Nat} (h : FL.Al B X v W) (hz : z ≤ 18446744073709551615) (hO : W'.ownsRow B 33 1 v' (H.row (X ++ [z])).length (H.row (X ++ [z]))) : FL.Al B (X ++ [z]) v' W' := ⟨hO, fun x hx => by
  rcases List.mem_append.1 hx with hx | hx
  · exact h.le x hx
  · rw [List.mem_singleton.1 hx]; exact hz⟩
theorem FL.hist_take {s : FL.S} (v : FL.Inv s) {X D : List Nat} (k : FL.Hist s X D) (e : s.tkE = 0) : s.tkH ∉ X ∧ s.tk.live s.tkH = true ∧ FL.Hist s.tk (X ++ [s.tkH]) D := by
  cases h : s.stk with
  | nil => rw [(FL.tk_nil h).2.2] at e; cases e
  | cons x r => exact FL.hist_tk v k h
theorem FL.tk_full {s : FL.S} (e : s.tkE ≠ 0) : s.tk = s := by
  cases h : s.stk with
  | nil => exact (FL.tk_nil h).1
  | cons x r => exfalso; apply e; unfold FL.S.tkE; rw [h, if_neg (by simp)]
theorem FL.hist_give {s : FL.S} (v : FL.Inv s) {X D : List Nat} (k : FL.Hist s X D) (h : Nat) : ∃ D', FL.Hist (s.gv h) X D' := by
  cases l : s.live h with
  | false => rw [FL.gv_no l]; exact ⟨D, k⟩
  | true => exact ⟨_, (FL.hist_gv v k l).2.2⟩
theorem results_tmp4 {fn : Func} {t u v x : Tmp} (h : fn.results = #[.tmp t, .tmp u, .tmp v, .tmp x]) (tmps : Array Value) (P : Program) (w : World) :
    (results fn tmps).run P w = .ok (.tuple #[tmps.getD t undef, tmps.getD u undef, tmps.getD v undef, tmps.getD x undef]) w := by
  simp [results, h]
theorem FL.st_tk {s : FL.S} (v : FL.Inv s) {n : Nat} (h : s.st.length = n) : s.tk.st.length = n := by
  cases e : s.stk with
  | nil => rw [(FL.tk_nil e).1]; exact h
  | cons x r => rw [(FL.tk_cons v e).len]; exact h
theorem FL.st_gv {s : FL.S} (v : FL.Inv s) (x : Nat) {n : Nat} (h : s.st.length = n) : (s.gv x).st.length = n := by
  cases l : s.live x with
  | false => rw [FL.gv_no l]; exact h
  | true => rw [(FL.gv_yes v l).len]; exact h
/-- What run returns. -/
def FL.RunEnd (n : Int) (w : World) (e : Ending) (w' : World) : Prop := ∃ p R s X D va vc B, e = .returned (.tuple #[FL.ptr p, .int .i64 (FL.nn n : Int), .slice va X.length vc, .bool true]) ∧ FL.One w p R s B w' ∧ FL.Al B X (.slice va X.length vc) w' ∧ FL.Hist s X D ∧ s.st.length = FL.nn n ∧ X.length ≤ 60 ∧ w.heap.size ≤ B
set_option maxRecDepth 100000 in
set_option maxHeartbeats 8000000 in
theorem run11_any (n g : Int) (sr : FL.Src) (w : World) (hs : FL.ArgOk w sr) :
    Calls Tryd.prog 27 #[.int .i64 n, .int .i64 g, .slice sr.a sr.x.length sr.c] w (FL.RunEnd n w) := by
  obtain ⟨n1, n2, n3⟩ := FL.nn_bd n
  obtain ⟨g1, g2, g3⟩ := FL.gg_bd g
  have M8 : Hid (∀ W, Calls Tryd.prog 11 #[.int .i64 n, .int .i64 8] W fun x w' => x = .returned (.int .i64 (n % 8)) ∧ W = w') := fun W => mod11_any n 8 (by omega) (by omega) W
  have M4 : Hid (∀ (m : Int) W, Calls Tryd.prog 11 #[.int .i64 m, .int .i64 4] W fun x w' => x = .returned (.int .i64 (m % 4)) ∧ W = w') := fun m W => mod11_any m 4 (by omega) (by omega) W
  have MX : Hid (∀ (m : Int) (l : Nat) W, 1 ≤ l → l ≤ 1000000000 → Calls Tryd.prog 11 #[.int .i64 m, .int .i64 (l : Int)] W fun x w' => x = .returned (.int .i64 (m % (l : Int))) ∧ W = w') := fun m l W h1 h2 => mod11_any m l (by omega) (by omega) W
  have H1 := Lib.hid (new11_ok (FL.nn n) (FL.gg g) (by omega) (by omega) (by omega) (by omega) w)
  have nb := Int.emod_nonneg n (show (8 : Int) ≠ 0 by omega)
  have nc := Int.emod_lt_of_pos n (show (0 : Int) < 8 by omega)
  have gb := Int.emod_nonneg g (show (4 : Int) ≠ 0 by omega)
  have gc := Int.emod_lt_of_pos g (show (0 : Int) < 4 by omega)
  have HI0 : Hid (FL.Hist (FL.new (FL.nn n) (FL.gg g)) [] []) := FL.hist_new
  have HS0 : Hid ((FL.new (FL.nn n) (FL.gg g)).st.length = FL.nn n) := List.length_replicate
  generalize FL.new (FL.nn n) (FL.gg g) = s0 at *
  have EE : Hid (∀ p R s X va vc B wr, FL.One w p R s B wr ∧ FL.Al B X (.slice va X.length vc) wr ∧ (∃ D, FL.Hist s X D) ∧ s.st.length = FL.nn n → X.length ≤ 60 → w.heap.size ≤ B → FL.RunEnd n w (.returned (.tuple #[FL.ptr p, .int .i64 (FL.nn n : Int), .slice va X.length vc, .bool true])) wr) := fun p R s X va vc B wr h h2 h3 => by
    obtain ⟨t, a, ⟨D, hh⟩, hl⟩ := h
    exact ⟨p, R, s, X, D, va, vc, B, rfl, t, a, hh, hl, h2, h3⟩
  obtain ⟨ni, hni⟩ : ∃ ni : Int, ((FL.nn n : Nat) : Int) = ni := ⟨_, rfl⟩
  obtain ⟨gi, hgi⟩ : ∃ gi : Int, ((FL.gg g : Nat) : Int) = gi := ⟨_, rfl⟩
  rw [hni] at H1 n3 EE
  rw [hgi] at H1 g3
  have M4g := Lib.hid (M4.out g)
  have cv : IntKind.u64.wrap gi = gi := by rw [← hgi]; exact H.u64_in _ (by omega)
  clear hni hgi n1 n2 g1 g2
  generalize FL.nn n = nn at *
  generalize n % 8 = nz at *
  generalize g % 4 = gz at *
  obtain ⟨sa, sc, sx⟩ := sr
  have HR : Hid (FL.DRow w sa sx) := hs.row
  have HF : Hid (∀ d ∈ sx, FL.Fit d) := hs.fits
  have hl : sx.length ≤ 1000000000000000 := hs.len
  dsimp only
  clear hs
  go_enter Tryd.func27, Tryd.ntmps27
  go_wp2_with fail
  refine (M8.out _).mono ?_
  rintro e w1 ⟨rfl, rfl⟩
  go_wp2_with fail
  refine (M4g.out _).mono ?_
  rintro e w1 ⟨rfl, rfl⟩
  go_wp2_with fail
  refine H1.out.mono ?_
  rintro e w2 ⟨p, R, rfl, ho, hb, hn⟩
  obtain ⟨B, hB⟩ : ∃ B, w2.heap.size = B := ⟨_, rfl⟩
  have T : Hid (FL.One w p R s0 B w2) := by rw [← hB]; exact FL.One.make ho hb hn
  have wB : w.heap.size ≤ B := by rw [← hB]; exact T.out.below.size
  clear ho hb hn hB M8 M4g cv nb nc gb gc n3 g3 H1
  go_wp2
  go_loopw [13, 14] (fun v j wr => ∃ (i : Nat) (s : FL.S) (X : List Nat), i ≤ sx.length ∧ i ≤ 60 ∧ X.length ≤ i ∧ j = .int .i64 i ∧ Hid (FL.One w p R s B wr ∧ FL.Al B X v wr ∧ (∃ D, FL.Hist s X D) ∧ s.st.length = nn)) (fun _ j _ => 60 - (intOf j).toNat)
  case atStart => exact ⟨0, _, _, Nat.zero_le _, Nat.zero_le _, Nat.zero_le _, rfl, T.out, FL.Al.nil _ _, ⟨_, HI0.out⟩, HS0.out⟩
  case round =>
    obtain ⟨i, s, X, hi, hi6, hX, rfl, hT⟩ := hrel
    clear T HI0 HS0
    obtain ⟨va, vc, hv, _⟩ := hT.out.2.1.slice
    subst hv
    by_cases hlt : i < sx.length ∧ i < 60
    · obtain ⟨h1, h2⟩ := hlt
      have q1 : decide ((i : Int) < (sx.length : Int)) = true := by simp; omega
      have q2 : decide ((i : Int) < 60) = true := by simp; omega
      obtain ⟨d, hd⟩ : ∃ d, sx[i]? = some d := ⟨_, List.getElem?_eq_getElem h1⟩
      obtain ⟨bb, oo, ea, lb, c0, c1, c2⟩ := HR.out i d hd
      have hB := hT.out.1.below
      have c0 := H.cell hB lb c0
      have c1 := H.cell hB lb c1
      subst ea
      clear hB lb hd c2
      have MK := Lib.hid (M4.out d.kind)
      have kb := Int.emod_nonneg d.kind (show (4 : Int) ≠ 0 by omega)
      have kc := Int.emod_lt_of_pos d.kind (show (0 : Int) < 4 by omega)
      have T0 := Lib.hid (show FL.One w p R s B wr ∧ FL.Al B X (.slice va X.length vc) wr ∧ True from ⟨hT.out.1, hT.out.2.1, trivial⟩)
      have HI := Lib.hid hT.out.2.2.1
      have HS := Lib.hid hT.out.2.2.2
      have HV := Lib.hid hT.out.1.x.inv
      have hzl : Hid (s.tkH ≤ 18446744073709551615) := FL.tkH_le HV.out
      clear hT
      go_wp2_with fail
      refine (MK.out _).mono ?_
      rintro e w3 ⟨rfl, rfl⟩
      obtain ⟨m, hm⟩ : ∃ m, d.kind % 4 = m := ⟨_, rfl⟩
      rw [hm] at kb kc ⊢
      clear hm MK
      by_cases hm2 : m < 2
      · have q3 : decide (m < 2) = true := decide_eq_true hm2
        clear kb kc
        go_wp2_with fail
        refine T0.out.1.take.mono ?_
        rintro e w4 ⟨rfl, t, hb⟩
        have T3 : Hid (FL.One w p R s.tk B w4 ∧ FL.Al B X (.slice va X.length vc) w4) := ⟨t, T0.out.2.1.but hb⟩
        clear t hb T0
        rcases FL.tkE_or s with hE | hE
        · have HH := Lib.hid (FL.hist_take HV.out HI.out.choose_spec hE).2.2
          obtain ⟨z, hz⟩ : ∃ z, s.tkH = z := ⟨_, rfl⟩
          rw [hz] at hzl HH ⊢
          obtain ⟨zi, hzi⟩ : ∃ zi : Int, Hid ((z : Int) = zi) := ⟨_, rfl⟩
          rw [hzi.out, hE]
          have hle : X.length ≤ 1000000000 := by omega
          have hbs := T3.out.1.size
          clear hE hz
          go_wp2_with (at_builtin; refine H.append_one rfl _ _ rfl B (.slice va X.length vc) X ?hs T3.out.2.own zi z hzi.out 1 ?a0 hle hbs ?_)
          case hs => rfl
          case a0 => rfl
          intro Z v' w6 hZ hO hg
          obtain rfl := hZ.out
          have T4 : Hid (FL.One w p R s.tk B w6 ∧ FL.Al B (X ++ [z]) v' w6) := ⟨T3.out.1.grown hg (fun k e => (T3.out.2.own.lt k e).1) wB, T3.out.2.push hzl.out hO⟩
          have hZl : Hid ((X ++ [z]).length ≤ i + 1) := by show _ ≤ _; rw [List.length_append]; simp; omega
          obtain ⟨Z, hZ⟩ : ∃ Z, X ++ [z] = Z := ⟨_, rfl⟩
          rw [hZ] at HH T4 hZl
          obtain ⟨vo', vc', hv', _⟩ := T4.out.2.slice
          subst hv'
          have hst := Lib.hid (FL.st_tk HV.out HS.out)
          clear hO hg hZ T3
          go_wp2
          go_roundw
          case rel => exact ⟨i + 1, s.tk, Z, by omega, by omega, hZl.out, by go_num, T4.out.1, T4.out.2, ⟨_, HH.out⟩, hst.out⟩
          case measure => simp [intOf]; omega
        · have hs := FL.tk_full (s := s) (by rw [hE]; decide)
          rw [hs] at T3
          rw [hE]
          obtain ⟨zi, hzi⟩ : ∃ zi : Int, Hid (((s.tkH : Nat) : Int) = zi) := ⟨_, rfl⟩
          rw [hzi.out]
          clear hE hs
          go_wp2
          go_roundw
          case rel => exact ⟨i + 1, s, X, by omega, by omega, by omega, by go_num, T3.out.1, T3.out.2, HI.out, HS.out⟩
          case measure => simp [intOf]; omega
      · have q3 : decide (m < 2) = false := decide_eq_false hm2
        clear kb kc hzl
        by_cases hX0 : 0 < X.length
        · have q7 : decide ((0 : Int) < (X.length : Int)) = true := by simp; omega
          have HMX := Lib.hid (MX.out d.k X.length wr hX0 (by omega))
          have j0 := Int.emod_nonneg d.k (show (X.length : Int) ≠ 0 by omega)
          have j1 := Int.emod_lt_of_pos d.k (show (0 : Int) < (X.length : Int) by omega)
          obtain ⟨j, hj⟩ := Int.eq_ofNat_of_zero_le j0
          rw [hj] at HMX j1
          have jl : j < X.length := by omega
          obtain ⟨y, hy⟩ : ∃ y, X[j]? = some y := ⟨_, List.getElem?_eq_getElem jl⟩
          have hyl := Lib.hid (T0.out.2.1.le y (List.mem_of_getElem? hy))
          obtain ⟨va', vc', hv', hr⟩ := T0.out.2.1.slice
          cases hv'
          obtain ⟨b1, o1, ea, l1, cy⟩ := H.row_at hr hy
          subst ea
          clear hj j0 hr hy l1
          go_wp2_with fail
          refine HMX.out.mono ?_
          rintro e w3 ⟨rfl, rfl⟩
          go_wp2_with fail
          refine (T0.out.1.give y hyl.out).mono ?_
          rintro e w4 ⟨rfl, t, hb⟩
          have T3 : Hid (FL.One w p R (s.gv y) B w4 ∧ FL.Al B X (.slice (some ⟨b1, o1, none⟩) X.length vc) w4) := ⟨t, T0.out.2.1.but hb⟩
          have HH := Lib.hid (FL.hist_give HV.out HI.out.choose_spec y)
          have hst := Lib.hid (FL.st_gv HV.out y HS.out)
          clear t hb T0 cy
          go_wp2
          go_roundw
          case rel => exact ⟨i + 1, s.gv y, X, by omega, by omega, by omega, by go_num, T3.out.1, T3.out.2, HH.out, hst.out⟩
          case measure => simp [intOf]; omega
        · have q7 : decide ((0 : Int) < (X.length : Int)) = false := decide_eq_false (by omega)
          go_wp2
          go_roundw
          case rel => exact ⟨i + 1, s, X, by omega, by omega, by omega, by go_num, T0.out.1, T0.out.2.1, HI.out, HS.out⟩
          case measure => simp [intOf]; omega
    · have qq : ¬ i < sx.length ∨ (i < sx.length ∧ ¬ (i : Int) < 60) := by
        by_cases c : i < sx.length
        · exact .inr ⟨c, by omega⟩
        · exact .inl c
      have R := Lib.hid (EE.out p R s X va vc B wr hT.out (by omega) wB)
      clear hT hlt
      rcases qq with q1 | ⟨q1, q2⟩
      all_goals
        go_wp2
        (try simp only [Exit.inBlock, Exit.then])
        refine bodyPost_ret (results_tmp4 rfl _ _ _) rfl ?_
        exact R.out
end Go.Proofs.YtndpknkdmaojaaaDoor
