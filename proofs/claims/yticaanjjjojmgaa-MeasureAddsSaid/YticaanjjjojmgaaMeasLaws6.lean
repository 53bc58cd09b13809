/- The walk of the statement of stage 2 on sums of concatenations. -/
import Derived.Test.YticaanjjjojmgaaMeasKnown
import Derived.Deep.RegionHeld3
import Derived.Deep.DeepCutAuto
import Derived.Deep.CutBlock
import Derived.Outline
namespace Go.Proofs.Yticaanjjjojmgaa
open Go.RowKit Go.Shelf

/-- Three measures: six or nine cells in a row. -/
def M.cells2 (p q : Int × Int × Int) : Array Value := #[.int .i64 p.1, .int .i64 p.2.1, .int .i64 p.2.2, .int .i64 q.1, .int .i64 q.2.1, .int .i64 q.2.2]
/-- A block holds these cells. -/
structure M.Holds (W : World) (b : Nat) (cs : List Value) : Prop where
  lt : b < W.heap.size
  at_ : ∀ j v, cs[j]? = some v → W.cell? ⟨b, j, none⟩ = some v
theorem M.Holds.new (W : World) (cs : List Value) (t : TypeId) : M.Holds (W.alloc (.cells cs.toArray t)) W.heap.size cs :=
  ⟨by simp, fun j v h => by rw [World.cell?_alloc_new]; simpa using h⟩
theorem M.Holds.new' (W : World) (b : Nat) (cs : List Value) (t : TypeId) (e : b = W.heap.size) : M.Holds (W.alloc (.cells cs.toArray t)) b cs := by subst e; exact M.Holds.new W cs t
theorem M.Holds.below {W V : World} {b : Nat} {cs : List Value} (h : M.Holds W b cs) (hb : Below W.heap.size W V) : M.Holds V b cs :=
  ⟨Nat.lt_of_lt_of_le h.lt hb.size, fun j v hj => ((M.bcell hb).1 _ _ h.lt).trans (h.at_ j v hj)⟩
theorem M.Holds.alloc {W : World} {b : Nat} {cs : List Value} (h : M.Holds W b cs) (o : Obj) : M.Holds (W.alloc o) b cs := h.below ((Below.refl _ _).alloc (Nat.le_refl _) o)
theorem M.Holds.drew {W : World} {b : Nat} {cs : List Value} (h : M.Holds W b cs) : M.Holds W.drew b cs := h.below (Below.refl _ _).drew
theorem M.Holds.mark {W V : World} {b : Nat} {cs : List Value} (h : M.Holds W b cs) (m : M.Mark W V) : M.Holds V b cs := h.below m
/-- Sums of two, and of three. -/
def M.s2 (p q : Int) : Int := wrap64 (wrap64 (0 + p) + q)
def M.s3 (p q r : Int) : Int := wrap64 (wrap64 (wrap64 (0 + p) + q) + r)
theorem M.s2_in {p q : Int} (h0 : 0 ≤ p) (h1 : p ≤ 4611686018427387904) (h2 : 0 ≤ q) (h3 : q ≤ 1000000000000000) : M.s2 p q = p + q := by
  unfold M.s2; rw [Int.zero_add, IntWalk.wrap64_in p ⟨by omega, by omega⟩, IntWalk.wrap64_in (p + q) ⟨by omega, by omega⟩]
theorem M.s2_in' {p q : Int} (h0 : 0 ≤ p) (h1 : p ≤ 1000000000000000) (h2 : 0 ≤ q) (h3 : q ≤ 4611686018427387904) : M.s2 p q = p + q := by
  unfold M.s2; rw [Int.zero_add, IntWalk.wrap64_in p ⟨by omega, by omega⟩, IntWalk.wrap64_in (p + q) ⟨by omega, by omega⟩]
theorem M.s3_in {p q r : Int} (h0 : 0 ≤ p) (h1 : p ≤ 1000000000000000) (h2 : 0 ≤ q) (h3 : q ≤ 1000000000000000) (h4 : 0 ≤ r) (h5 : r ≤ 1000000000000000) : M.s3 p q r = p + q + r := by
  unfold M.s3; rw [Int.zero_add, IntWalk.wrap64_in p ⟨by omega, by omega⟩, IntWalk.wrap64_in (p + q) ⟨by omega, by omega⟩, IntWalk.wrap64_in (p + q + r) ⟨by omega, by omega⟩]
def M.pick (l : List Int) (i j : Nat) : Int := l.getD (i * 3 + j) 0
theorem M.Holds.row {W : World} {b n : Nat} (l : List Int) (hl : l.length = n * 3) (h : M.Holds W b (l.map (Value.int .i64))) : M.Row W (some ⟨b, 0, none⟩) n (M.pick l) := fun i hi => by
  refine ⟨b, 0, rfl, h.lt, fun j hj => ?_⟩
  rw [Nat.zero_add]
  refine h.at_ _ _ ?_
  rw [List.getElem?_map, M.pick, List.getD_eq_getElem?_getD, List.getElem?_eq_getElem (by omega)]
  rfl
theorem add2_any (b c : Nat) (p0 p1 p2 q0 q1 q2 : Int) (W : World) (h : M.Holds W b [.int .i64 p0, .int .i64 p1, .int .i64 p2, .int .i64 q0, .int .i64 q1, .int .i64 q2]) :
    Calls Try.prog 14 #[.slice (some ⟨b, 0, none⟩) 2 c] W fun e w' => e = .returned (.agg #[.int .i64 (M.s2 p0 q0), .int .i64 (M.s2 p1 q1), .int .i64 (M.s2 p2 q2)]) ∧ Below W.heap.size W w' :=
  add_any (some ⟨b, 0, none⟩) 2 c _ W (by decide) (M.Holds.row [p0, p1, p2, q0, q1, q2] rfl h)
theorem add3_any (b c : Nat) (p0 p1 p2 q0 q1 q2 r0 r1 r2 : Int) (W : World) (h : M.Holds W b [.int .i64 p0, .int .i64 p1, .int .i64 p2, .int .i64 q0, .int .i64 q1, .int .i64 q2, .int .i64 r0, .int .i64 r1, .int .i64 r2]) :
    Calls Try.prog 14 #[.slice (some ⟨b, 0, none⟩) 3 c] W fun e w' => e = .returned (.agg #[.int .i64 (M.s3 p0 q0 r0), .int .i64 (M.s3 p1 q1 r1), .int .i64 (M.s3 p2 q2 r2)]) ∧ Below W.heap.size W w' :=
  add_any (some ⟨b, 0, none⟩) 3 c _ W (by decide) (M.Holds.row [p0, p1, p2, q0, q1, q2, r0, r1, r2] rfl h)
theorem add0_any (W : World) : Calls Try.prog 14 #[.slice none 0 0] W fun e w' => e = .returned (.agg #[.int .i64 0, .int .i64 0, .int .i64 0]) ∧ Below W.heap.size W w' :=
  add_any none 0 0 (fun _ _ => 0) W (by decide) (fun i hi => absurd hi (Nat.not_lt_zero _))
/-- The three measures lie in their boxes. -/
structure M.Three (w V : World) (B : Nat) (x0 x1 x2 y0 y1 y2 z0 z1 z2 : Int) : Prop where
  x : M.Own V B x0 x1 x2
  y : M.Own V (B + 1) y0 y1 y2
  z : M.Own V (B + 2) z0 z1 z2
  below : Below w.heap.size w V
theorem M.Three.on {w V V' : World} {B : Nat} {x0 x1 x2 y0 y1 y2 z0 z1 z2 : Int} (h : M.Three w V B x0 x1 x2 y0 y1 y2 z0 z1 z2) (hb : Below V.heap.size V V') : M.Three w V' B x0 x1 x2 y0 y1 y2 z0 z1 z2 :=
  ⟨h.x.below hb, h.y.below hb, h.z.below hb, h.below.trans (hb.mono h.below.size)⟩
theorem M.Three.cells {w W V : World} {B : Nat} {x0 x1 x2 y0 y1 y2 z0 z1 z2 : Int} (h : M.Three w W B x0 x1 x2 y0 y1 y2 z0 z1 z2) (hb : Below W.heap.size W V) :
    V.cell? ⟨B, 0, none⟩ = some (.int .i64 x0) ∧ V.cell? ⟨B, 1, none⟩ = some (.int .i64 x1) ∧ V.cell? ⟨B, 2, none⟩ = some (.int .i64 x2) ∧
    V.cell? ⟨B + 1, 0, none⟩ = some (.int .i64 y0) ∧ V.cell? ⟨B + 1, 1, none⟩ = some (.int .i64 y1) ∧ V.cell? ⟨B + 1, 2, none⟩ = some (.int .i64 y2) ∧
    V.cell? ⟨B + 1 + 1, 0, none⟩ = some (.int .i64 z0) ∧ V.cell? ⟨B + 1 + 1, 1, none⟩ = some (.int .i64 z1) ∧ V.cell? ⟨B + 1 + 1, 2, none⟩ = some (.int .i64 z2) ∧ Below W.heap.size W V :=
  ⟨(h.on hb).x.c0, (h.on hb).x.c1, (h.on hb).x.c2, (h.on hb).y.c0, (h.on hb).y.c1, (h.on hb).y.c2, (h.on hb).z.c0, (h.on hb).z.c1, (h.on hb).z.c2, hb⟩
/-- What Of answers. -/
def M.OfIs (s : ByteArray) (x0 x1 x2 : Int) : Prop := ∀ W, Calls Try.prog 11 #[.string s] W fun e w' => e = .returned (.agg #[.int .i64 x0, .int .i64 x1, .int .i64 x2]) ∧ Below W.heap.size W w'
set_option maxRecDepth 100000 in
set_option maxHeartbeats 8000000 in
theorem adds_core (a b c : ByteArray) (x0 x1 x2 y0 y1 y2 z0 z1 z2 : Int) (w : World) (la : a.size ≤ 140737488351232) (lb : b.size ≤ 140737488351232) (lc : c.size ≤ 140737488351232) (ha : M.OfIs a x0 x1 x2) (hb : M.OfIs b y0 y1 y2) (hc : M.OfIs c z0 z1 z2)
    (habc : M.OfIs (a ++ b ++ c) (x0 + y0 + z0) (x1 + y1 + z1) (x2 + y2 + z2))
    (hx : 0 ≤ x0 ∧ 0 ≤ x1 ∧ 0 ≤ x2 ∧ x0 ≤ 1000000000000000 ∧ x1 ≤ 1000000000000000 ∧ x2 ≤ 1000000000000000) (hy : 0 ≤ y0 ∧ 0 ≤ y1 ∧ 0 ≤ y2 ∧ y0 ≤ 1000000000000000 ∧ y1 ≤ 1000000000000000 ∧ y2 ≤ 1000000000000000)
    (hz : 0 ≤ z0 ∧ 0 ≤ z1 ∧ 0 ≤ z2 ∧ z0 ≤ 1000000000000000 ∧ z1 ≤ 1000000000000000 ∧ z2 ≤ 1000000000000000) :
    Calls Try.prog 7 #[.string a, .string b, .string c] w fun e w' => e = .returned (.bool true) ∧ Below w.heap.size w w' := by
  have Ha := Lib.hid ha
  have Hb := Lib.hid hb
  have Hc := Lib.hid hc
  have Habc := Lib.hid habc
  have Hx := Lib.hid hx
  have Hy := Lib.hid hy
  have Hz := Lib.hid hz
  clear ha hb hc habc hx hy hz
  unfold M.OfIs at Ha Hb Hc Habc
  have hB := Below.refl w.heap.size w
  go_enter Try.func7, Try.ntmps7
  go_wp2_with fail
  refine (Ha.out _).mono ?_
  rintro e w1 ⟨rfl, hb1⟩
  replace hB := hB.trans (hb1.mono hB.size)
  clear hb1
  go_wp2_with fail
  refine (Hb.out _).mono ?_
  rintro e w1 ⟨rfl, hb1⟩
  replace hB := hB.trans (hb1.mono hB.size)
  clear hb1
  go_wp2_with fail
  refine (Hc.out _).mono ?_
  rintro e w1 ⟨rfl, hb1⟩
  replace hB := hB.trans (hb1.mono hB.size)
  clear hb1
  have u0 : M.s3 x0 y0 z0 = x0 + y0 + z0 := by have := Hx.out; have := Hy.out; have := Hz.out; exact M.s3_in (by omega) (by omega) (by omega) (by omega) (by omega) (by omega)
  have v0 : M.s2 x0 y0 = x0 + y0 := by have := Hx.out; have := Hy.out; exact M.s2_in (by omega) (by omega) (by omega) (by omega)
  have q0 : M.s2 (x0 + y0) z0 = x0 + y0 + z0 := by have := Hx.out; have := Hy.out; have := Hz.out; exact M.s2_in (by omega) (by omega) (by omega) (by omega)
  have r0 : M.s2 y0 z0 = y0 + z0 := by have := Hy.out; have := Hz.out; exact M.s2_in (by omega) (by omega) (by omega) (by omega)
  have s0 : M.s2 x0 (y0 + z0) = x0 + y0 + z0 := by have := Hx.out; have := Hy.out; have := Hz.out; rw [M.s2_in' (by omega) (by omega) (by omega) (by omega)]; omega
  have u1 : M.s3 x1 y1 z1 = x1 + y1 + z1 := by have := Hx.out; have := Hy.out; have := Hz.out; exact M.s3_in (by omega) (by omega) (by omega) (by omega) (by omega) (by omega)
  have v1 : M.s2 x1 y1 = x1 + y1 := by have := Hx.out; have := Hy.out; exact M.s2_in (by omega) (by omega) (by omega) (by omega)
  have q1 : M.s2 (x1 + y1) z1 = x1 + y1 + z1 := by have := Hx.out; have := Hy.out; have := Hz.out; exact M.s2_in (by omega) (by omega) (by omega) (by omega)
  have r1 : M.s2 y1 z1 = y1 + z1 := by have := Hy.out; have := Hz.out; exact M.s2_in (by omega) (by omega) (by omega) (by omega)
  have s1 : M.s2 x1 (y1 + z1) = x1 + y1 + z1 := by have := Hx.out; have := Hy.out; have := Hz.out; rw [M.s2_in' (by omega) (by omega) (by omega) (by omega)]; omega
  have u2 : M.s3 x2 y2 z2 = x2 + y2 + z2 := by have := Hx.out; have := Hy.out; have := Hz.out; exact M.s3_in (by omega) (by omega) (by omega) (by omega) (by omega) (by omega)
  have v2 : M.s2 x2 y2 = x2 + y2 := by have := Hx.out; have := Hy.out; exact M.s2_in (by omega) (by omega) (by omega) (by omega)
  have q2 : M.s2 (x2 + y2) z2 = x2 + y2 + z2 := by have := Hx.out; have := Hy.out; have := Hz.out; exact M.s2_in (by omega) (by omega) (by omega) (by omega)
  have r2 : M.s2 y2 z2 = y2 + z2 := by have := Hy.out; have := Hz.out; exact M.s2_in (by omega) (by omega) (by omega) (by omega)
  have s2 : M.s2 x2 (y2 + z2) = x2 + y2 + z2 := by have := Hx.out; have := Hy.out; have := Hz.out; rw [M.s2_in' (by omega) (by omega) (by omega) (by omega)]; omega
  have Hnil : Hid (M.OfIs ⟨#[]⟩ 0 0 0) := fun W => (of_any ⟨#[]⟩ W (by decide)).mono fun _ _ h => ⟨h.1.trans (by rfl), h.2⟩
  unfold M.OfIs at Hnil
  have T : M.Three w (((w1.alloc (.cells #[.int .i64 x0, .int .i64 x1, .int .i64 x2] 23)).alloc (.cells #[.int .i64 y0, .int .i64 y1, .int .i64 y2] 23)).alloc (.cells #[.int .i64 z0, .int .i64 z1, .int .i64 z2] 23)) w1.heap.size x0 x1 x2 y0 y1 y2 z0 z1 z2 := by
    refine ⟨((M.Own.new w1 x0 x1 x2 23).alloc _).alloc _, ?_, ?_, ((hB.alloc hB.size _).alloc ?_ _).alloc ?_ _⟩
    · have := (M.Own.new (w1.alloc (.cells #[.int .i64 x0, .int .i64 x1, .int .i64 x2] 23)) y0 y1 y2 23).alloc (.cells #[.int .i64 z0, .int .i64 z1, .int .i64 z2] 23)
      rw [World.size_alloc] at this; exact this
    · have := M.Own.new ((w1.alloc (.cells #[.int .i64 x0, .int .i64 x1, .int .i64 x2] 23)).alloc (.cells #[.int .i64 y0, .int .i64 y1, .int .i64 y2] 23)) z0 z1 z2 23
      rw [World.size_alloc, World.size_alloc] at this; exact this
    · rw [World.size_alloc]; have := hB.size; omega
    · rw [World.size_alloc, World.size_alloc]; have := hB.size; omega
  have T := Lib.hid T
  have n1 : ¬ 9223372036854775807 < a.size + b.size := by omega
  have n2 : ¬ 9223372036854775807 < a.size + b.size + c.size := by omega
  have n3 : ¬ 9223372036854775807 < (a ++ b).size + c.size := by rw [ByteArray.size_append]; omega
  clear hB
  go_upto_region 2 with (fail)
  generalize ((w1.alloc (.cells #[.int .i64 x0, .int .i64 x1, .int .i64 x2] 23)).alloc (.cells #[.int .i64 y0, .int .i64 y1, .int .i64 y2] 23)).alloc (.cells #[.int .i64 z0, .int .i64 z1, .int .i64 z2] 23) = W at T ⊢
  go_cut [51] (fun t wx => t = .bool false ∧ Hid (Below W.heap.size W wx))
  case first =>
    go_region_held3 (fun V => V.cell? ⟨w1.heap.size, 0, none⟩ = some (.int .i64 x0) ∧ V.cell? ⟨w1.heap.size, 1, none⟩ = some (.int .i64 x1) ∧ V.cell? ⟨w1.heap.size, 2, none⟩ = some (.int .i64 x2) ∧ V.cell? ⟨w1.heap.size + 1, 0, none⟩ = some (.int .i64 y0) ∧ V.cell? ⟨w1.heap.size + 1, 1, none⟩ = some (.int .i64 y1) ∧ V.cell? ⟨w1.heap.size + 1, 2, none⟩ = some (.int .i64 y2) ∧ V.cell? ⟨w1.heap.size + 1 + 1, 0, none⟩ = some (.int .i64 z0) ∧ V.cell? ⟨w1.heap.size + 1 + 1, 1, none⟩ = some (.int .i64 z1) ∧ V.cell? ⟨w1.heap.size + 1 + 1, 2, none⟩ = some (.int .i64 z2) ∧ Below W.heap.size W V)
      ((refine M.Three.cells T.out ?_; repeat' first
        | (with_reducible exact Below.refl _ _)
        | (with_reducible refine Below.drew ?_)
        | (with_reducible assumption)
        | (go_split_ands; with_reducible assumption)
        | (with_reducible refine Below.alloc ?_ (by first | omega | (simp only [World.size_alloc]; omega)) _)))
      (first
        | (go_at_call 11; first
           | ((with_reducible refine (Habc.out _).mono ?_); rintro e w2 ⟨rfl, hb2⟩; have hQ := M.trans_held (W := W) (by go_split_ands; with_reducible assumption) hb2; have hqs := hQ.size; have hmark : M.Mark _ _ := hb2)
           | ((with_reducible refine (Hnil.out _).mono ?_); rintro e w2 ⟨rfl, hb2⟩; have hQ := M.trans_held (W := W) (by go_split_ands; with_reducible assumption) hb2; have hqs := hQ.size; have hmark : M.Mark _ _ := hb2))
        | (go_at_call 14; first
           | ((with_reducible refine (add0_any _).mono ?_); rintro e w2 ⟨rfl, hb2⟩; have hQ := M.trans_held (W := W) (by go_split_ands; with_reducible assumption) hb2; have hqs := hQ.size; have hmark : M.Mark _ _ := hb2)
           | (with_reducible refine (add3_any _ _ x0 x1 x2 y0 y1 y2 z0 z1 z2 _ ?_).mono ?_
              · repeat' first
                 | (with_reducible exact M.Holds.new _ _ _)
                 | ((with_reducible refine M.Holds.new' _ _ _ _ ?_); (simp only [World.size_alloc, World.size_drew]); done)
                 | (with_reducible refine M.Holds.alloc ?_ _)
                 | (with_reducible refine M.Holds.drew ?_)
                 | (with_reducible refine M.Holds.mark ?_ (by with_reducible assumption))
              rintro e w2 ⟨rfl, hb2⟩
              have hQ := M.trans_held (W := W) (by go_split_ands; with_reducible assumption) hb2; have hqs := hQ.size; have hmark : M.Mark _ _ := hb2)
           | (with_reducible refine (add2_any _ _ x0 x1 x2 y0 y1 y2 _ ?_).mono ?_
              · repeat' first
                 | (with_reducible exact M.Holds.new _ _ _)
                 | ((with_reducible refine M.Holds.new' _ _ _ _ ?_); (simp only [World.size_alloc]); done)
                 | (with_reducible refine M.Holds.alloc ?_ _)
                 | (with_reducible refine M.Holds.drew ?_)
                 | (with_reducible refine M.Holds.mark ?_ (by with_reducible assumption))
              rintro e w2 ⟨rfl, hb2⟩
              have hQ := M.trans_held (W := W) (by go_split_ands; with_reducible assumption) hb2; have hqs := hQ.size; have hmark : M.Mark _ _ := hb2)
           | (with_reducible refine (add2_any _ _ (x0 + y0) (x1 + y1) (x2 + y2) z0 z1 z2 _ ?_).mono ?_
              · repeat' first
                 | (with_reducible exact M.Holds.new _ _ _)
                 | ((with_reducible refine M.Holds.new' _ _ _ _ ?_); (simp only [World.size_alloc]); done)
                 | (with_reducible refine M.Holds.alloc ?_ _)
                 | (with_reducible refine M.Holds.drew ?_)
                 | (with_reducible refine M.Holds.mark ?_ (by with_reducible assumption))
              rintro e w2 ⟨rfl, hb2⟩
              have hQ := M.trans_held (W := W) (by go_split_ands; with_reducible assumption) hb2; have hqs := hQ.size; have hmark : M.Mark _ _ := hb2)
           | (with_reducible refine (add2_any _ _ y0 y1 y2 z0 z1 z2 _ ?_).mono ?_
              · repeat' first
                 | (with_reducible exact M.Holds.new _ _ _)
                 | ((with_reducible refine M.Holds.new' _ _ _ _ ?_); (simp only [World.size_alloc]); done)
                 | (with_reducible refine M.Holds.alloc ?_ _)
                 | (with_reducible refine M.Holds.drew ?_)
                 | (with_reducible refine M.Holds.mark ?_ (by with_reducible assumption))
              rintro e w2 ⟨rfl, hb2⟩
              have hQ := M.trans_held (W := W) (by go_split_ands; with_reducible assumption) hb2; have hqs := hQ.size; have hmark : M.Mark _ _ := hb2)
           | (with_reducible refine (add2_any _ _ x0 x1 x2 (y0 + z0) (y1 + z1) (y2 + z2) _ ?_).mono ?_
              · repeat' first
                 | (with_reducible exact M.Holds.new _ _ _)
                 | ((with_reducible refine M.Holds.new' _ _ _ _ ?_); (simp only [World.size_alloc, World.size_drew]); done)
                 | (with_reducible refine M.Holds.alloc ?_ _)
                 | (with_reducible refine M.Holds.drew ?_)
                 | (with_reducible refine M.Holds.mark ?_ (by with_reducible assumption))
              rintro e w2 ⟨rfl, hb2⟩
              have hQ := M.trans_held (W := W) (by go_split_ands; with_reducible assumption) hb2; have hqs := hQ.size; have hmark : M.Mark _ _ := hb2)))
    all_goals
      go_wp2_with fail
      go_meet
      case rel => exact ⟨rfl, by assumption⟩
  case rest =>
    obtain ⟨rfl, hbw⟩ := hcut
    have T1 := Lib.hid (T.out.on hbw.out)
    clear hbw T
    have HS : Hid (∀ V, Calls Try.prog 16 #[.agg #[.int .i64 (x0 + y0), .int .i64 (x1 + y1), .int .i64 (x2 + y2)], .agg #[.int .i64 y0, .int .i64 y1, .int .i64 y2]] V fun e w' => e = .returned (.tuple #[.agg #[.int .i64 x0, .int .i64 x1, .int .i64 x2], .int .i64 0]) ∧ Below V.heap.size V w') := fun V => by
      have h := sub_any (x0 + y0) (x1 + y1) (x2 + y2) y0 y1 y2 V
      have hx := Hx.out
      have e : M.subEnd (x0 + y0) (x1 + y1) (x2 + y2) y0 y1 y2 = .returned (.tuple #[.agg #[.int .i64 x0, .int .i64 x1, .int .i64 x2], .int .i64 0]) := by
        rw [M.subEnd, if_pos ⟨by omega, by omega, by omega⟩, Int.add_sub_cancel, Int.add_sub_cancel, Int.add_sub_cancel, IntWalk.wrap64_in x0 ⟨by omega, by omega⟩, IntWalk.wrap64_in x1 ⟨by omega, by omega⟩, IntWalk.wrap64_in x2 ⟨by omega, by omega⟩]
      rwa [e] at h
    clear u0 u1 u2 q0 q1 q2 r0 r1 r2 s0 s1 s2
    go_upto_region 4 with (fail)
    go_cut [10, 11] (fun p e wx => ∃ P, p = .pointer (some ⟨P, 0, none⟩) ∧ e = .int .i64 0 ∧ M.Own wx P x0 x1 x2 ∧ Below wc.heap.size wc wx)
    case first =>
      go_region_held3 (fun V => V.cell? ⟨w1.heap.size, 0, none⟩ = some (.int .i64 x0) ∧ V.cell? ⟨w1.heap.size, 1, none⟩ = some (.int .i64 x1) ∧ V.cell? ⟨w1.heap.size, 2, none⟩ = some (.int .i64 x2) ∧ V.cell? ⟨w1.heap.size + 1, 0, none⟩ = some (.int .i64 y0) ∧ V.cell? ⟨w1.heap.size + 1, 1, none⟩ = some (.int .i64 y1) ∧ V.cell? ⟨w1.heap.size + 1, 2, none⟩ = some (.int .i64 y2) ∧ V.cell? ⟨w1.heap.size + 1 + 1, 0, none⟩ = some (.int .i64 z0) ∧ V.cell? ⟨w1.heap.size + 1 + 1, 1, none⟩ = some (.int .i64 z1) ∧ V.cell? ⟨w1.heap.size + 1 + 1, 2, none⟩ = some (.int .i64 z2) ∧ Below wc.heap.size wc V)
        ((refine M.Three.cells T1.out ?_; repeat' first
          | (with_reducible exact Below.refl _ _)
          | (with_reducible refine Below.drew ?_)
          | (with_reducible assumption)
          | (with_reducible refine Below.alloc ?_ (by first | omega | (simp only [World.size_alloc]; omega) | (simp; omega) | simp) _)
          | (with_reducible refine M.put3_below ?_ (by first | omega | (simp only [World.size_alloc, World.size_setCell]; omega) | (simp; omega) | simp) _ _ _)
          | (go_split_ands; with_reducible assumption)))
        (first
          | (go_at_call 16; (with_reducible refine (HS.out _).mono ?_); rintro e w2 ⟨rfl, hb2⟩; have hQ := M.trans_held (W := wc) (by go_split_ands; with_reducible assumption) hb2; have hqs := hQ.size; have hmark : M.Mark _ _ := hb2; obtain ⟨hcc, hff⟩ := M.bcell hb2; have hb1s := hb2.size; (try simp only [World.size_alloc] at hb1s); (first | (have hb1t := Nat.lt_of_succ_le hb1s) | skip); (first | (have hq2 : wc.heap.size < w2.heap.size := by omega) | skip))
          | (go_at_call 14
             with_reducible refine (add2_any _ _ x0 x1 x2 y0 y1 y2 _ ?_).mono ?_
             · repeat' first
             | (with_reducible exact M.Holds.new _ _ _)
             | ((with_reducible refine M.Holds.new' _ _ _ _ ?_); (simp only [World.size_alloc]); done)
             | (with_reducible refine M.Holds.alloc ?_ _)
             | (with_reducible refine M.Holds.drew ?_)
             | (with_reducible refine M.Holds.mark ?_ (by with_reducible assumption))
             rintro e w2 ⟨rfl, hb2⟩
             have hQ := M.trans_held (W := wc) (by go_split_ands; with_reducible assumption) hb2; have hqs := hQ.size; have hmark : M.Mark _ _ := hb2; obtain ⟨hcc, hff⟩ := M.bcell hb2; have hb1s := hb2.size; (try simp only [World.size_drew, World.size_alloc] at hb1s); (first | (have hb1t := Nat.lt_of_succ_le hb1s) | skip); (first | (have hq2 : wc.heap.size < w2.heap.size := by omega) | skip)))
      all_goals
        go_wp2_with fail
        go_meet
        case rel =>
          refine ⟨_, rfl, rfl, ?_, ?_⟩
          · repeat' first
              | (with_reducible exact M.Own.new _ _ _ _ _)
              | ((with_reducible refine M.Own.new' _ _ _ _ _ _ ?_); (simp only [World.size_alloc]); done)
              | (with_reducible refine M.Own.put (x := 0) (y := 0) (z := 0) ?_ _ _ _)
              | (with_reducible refine M.Own.alloc ?_ _)
              | (with_reducible refine M.Own.drew ?_)
              | (with_reducible refine M.Own.mark ?_ (by with_reducible assumption))
          · repeat' first
              | (with_reducible exact Below.refl _ _)
              | (with_reducible refine Below.drew ?_)
              | (with_reducible assumption)
              | (with_reducible refine Below.alloc ?_ (by first | omega | (simp only [World.size_alloc, World.size_setCell]; omega) | (simp; omega) | simp) _)
              | (with_reducible refine M.put3_below ?_ (by first | omega | (simp only [World.size_alloc, World.size_setCell]; omega) | (simp; omega) | simp) _ _ _)
    case rest =>
      obtain ⟨P, rfl, rfl, hP, hbW⟩ := hcut
      have T2 := Lib.hid (T1.out.on hbW)
      have p0 := hP.c0
      have p1 := hP.c1
      have p2 := hP.c2
      have x0' := T2.out.x.c0
      have x1' := T2.out.x.c1
      have x2' := T2.out.x.c2
      clear hP hbW T1
      go_wp2_with fail
      refine (mknown_any _).mono ?_
      rintro e w3 ⟨rfl, hb3⟩
      go_wp2
      go_ret
      exact ⟨rfl, T2.out.below.trans (hb3.mono T2.out.below.size)⟩
theorem M.ofIs (s : ByteArray) (hs : s.size ≤ 1000000000000000) : M.OfIs s (s.size : Int) (U.cnt s.data.toList : Int) (M.lf s.data.toList : Int) := fun W => of_any s W (by omega)
theorem measureAdds_walk (a b c : ByteArray) (w : World) (la : a.size ≤ 140737488351232) (lb : b.size ≤ 140737488351232) (lc : c.size ≤ 140737488351232) :
    Calls Try.prog 7 #[.string a, .string b, .string c] w fun e w' => e = .returned (.bool true) ∧ Below w.heap.size w w' := by
  have habc := M.ofIs (a ++ b ++ c) (by rw [ByteArray.size_append, ByteArray.size_append]; omega)
  rw [show ((a ++ b ++ c).size : Int) = (a.size : Int) + b.size + c.size by rw [ByteArray.size_append, ByteArray.size_append]; omega,
    show (a ++ b ++ c).data.toList = a.data.toList ++ b.data.toList ++ c.data.toList by simp, M.cnt_app, M.cnt_app, M.lf_app, M.lf_app] at habc
  have bd : ∀ s : ByteArray, s.size ≤ 140737488351232 → 0 ≤ (s.size : Int) ∧ 0 ≤ (U.cnt s.data.toList : Int) ∧ 0 ≤ (M.lf s.data.toList : Int) ∧ (s.size : Int) ≤ 1000000000000000 ∧ (U.cnt s.data.toList : Int) ≤ 1000000000000000 ∧ (M.lf s.data.toList : Int) ≤ 1000000000000000 := fun s h => by
    have h1 := M.cnt_le s.data.toList
    have h2 := M.lf_le s.data.toList
    rw [U.len] at h1
    omega
  refine adds_core a b c _ _ _ _ _ _ _ _ _ w la lb lc (M.ofIs a (by omega)) (M.ofIs b (by omega)) (M.ofIs c (by omega)) ?_ (bd a la) (bd b lb) (bd c lc)
  intro W
  have := habc W
  simpa using this
end Go.Proofs.Yticaanjjjojmgaa
