/- The contracts of package compose's readers. -/
import Derived.Test.YtmbgcbgbdjiacaaPackNf
import Derived.Test.YtmbgcbgbdjiacaaPackEqv
import Derived.Test.YtmbgcbgbdjiacaaPackCRaw
import Derived.Deep.RegionHeld3
import Derived.Deep.AppendLies
import Derived.BigRegion
import Derived.Deep.RegionLaw
namespace Go.Proofs.Ytmbgcbgbdjiacaa
open Go.RowKit

def C.zero : D.P := ⟨0, 0, ⟨#[]⟩⟩
def C.hdP : List D.Q → D.P
  | [] => C.zero
  | q :: _ => D.raw q
def C.cells (p : D.P) (ao : Option Addr) (n c : Nat) : Array Value := #[.int .u8 p.k, .int .i64 p.n, .string p.t, .slice ao n c]
/-- What a reader at block b holds: a piece, and what lies behind it. -/
structure C.Rd (T : TypeId) (w0 : World) (b : Nat) (p : D.P) (r : List D.Q) (W : World) : Prop where
  box : ∃ ao c, W.heap[b]? = some (.cells (C.cells p ao r.length c) T (0, 0)) ∧ D.Row w0 ao (r.map D.raw) ∧ r.length ≤ c
  ge : w0.heap.size ≤ b
theorem C.Rd.lt {T w0 b p r W} (h : C.Rd T w0 b p r W) : b < W.heap.size := by
  obtain ⟨ao, c, h, _⟩ := h.box
  exact (Array.getElem?_eq_some_iff.1 h).1
theorem C.Rd.kept {T w0 b p r W W' x} (h : C.Rd T w0 b p r W) (hg : W.grownBy W' x) (hb : some b ≠ x) : C.Rd T w0 b p r W' := by
  have hl := h.lt
  obtain ⟨ao, c, hx, hy⟩ := h.box
  exact ⟨⟨ao, c, (hg.block b hl hb).trans hx, hy⟩, h.ge⟩
theorem C.Rd.below {T w0 b p r W W'} (h : C.Rd T w0 b p r W) (hb : Below W.heap.size W W') : C.Rd T w0 b p r W' := by
  have hl := h.lt
  obtain ⟨ao, c, hx, hy⟩ := h.box
  exact ⟨⟨ao, c, (hb.block b hl).trans hx, hy⟩, h.ge⟩
theorem C.cells_of {W : World} {b : Nat} {T : TypeId} {p : D.P} {ao : Option Addr} {n c : Nat} (h : W.heap[b]? = some (.cells (C.cells p ao n c) T (0, 0))) :
    W.cell? ⟨b, 0, none⟩ = some (.int .u8 p.k) ∧ W.cell? ⟨b, 1, none⟩ = some (.int .i64 p.n) ∧ W.cell? ⟨b, 2, none⟩ = some (.string p.t) ∧ W.cell? ⟨b, 3, none⟩ = some (.slice ao n c) ∧ ∀ i, W.frozen? ⟨b, i, none⟩ = false :=
  ⟨Lib.cell_of_heap h 0, Lib.cell_of_heap h 1, Lib.cell_of_heap h 2, Lib.cell_of_heap h 3, fun _ => frozen_of_row _ _ _ _ _ h⟩
theorem C.row_tail {w : World} {b o : Nat} {p : D.P} {l : List D.P} (h : D.Row w (some ⟨b, o, none⟩) (p :: l)) : D.Row w (some ⟨b, o + 3, none⟩) l := fun i q hq => by
  obtain ⟨b', o', e, hl, h0, h1, h2⟩ := h (i + 1) q (by simpa using hq)
  cases e
  refine ⟨b, o + 3, rfl, hl, ?_, ?_, ?_⟩
  · rw [show o + 3 + i * 3 = o + (i + 1) * 3 by omega]; exact h0
  · rw [show o + 3 + i * 3 = o + (i + 1) * 3 by omega]; exact h1
  · rw [show o + 3 + i * 3 = o + (i + 1) * 3 by omega]; exact h2
@[go_sem] theorem C.field0 (k n : Int) (t : ByteArray) (w : World) : (Instr.field 53 (.agg #[.int .u8 k, .int .i64 n, .string t]) 0).run Try.prog w = .ok (.int .u8 k) w := by kernel_rfl
/-- The number of bytes of the string in the middle. -/
theorem psize_any (q : D.Q) (w : World) (hq : D.out1 q ≤ 1000000000) :
    Calls Try.prog 86 #[.agg #[.int .u8 (D.raw q).k, .int .i64 (D.raw q).n, .string (D.raw q).t]] w fun e w' => e = .returned (.int .i64 (D.out1 q)) ∧ Below w.heap.size w w' := by
  have hB : Hid (Below w.heap.size w (w.alloc (.cells #[.int .u8 (D.raw q).k, .int .i64 (D.raw q).n, .string (D.raw q).t] 112))) := (Below.refl _ _).alloc (Nat.le_refl _) _
  cases q with
  | R n =>
    simp only [D.out1] at hq
    unfold D.raw at hB ⊢
    go_enter Try.func86, Try.ntmps86
    go_wp2
    go_ret
    exact ⟨by simp [D.out1], hB.out⟩
  | I t =>
    simp only [D.out1] at hq
    unfold D.raw at hB ⊢
    have hs : (⟨t.toArray⟩ : ByteArray).size ≤ 1000000000 := by rw [D.size_l]; exact hq
    go_enter Try.func86, Try.ntmps86
    go_wp2
    go_ret
    exact ⟨by simp [D.out1], hB.out⟩
  | D n =>
    unfold D.raw at hB ⊢
    go_enter Try.func86, Try.ntmps86
    go_wp2
    go_ret
    exact ⟨rfl, hB.out⟩
theorem csize_any (q : D.Q) (w : World) (_ : D.in1 q ≤ 1000000000) :
    Calls Try.prog 87 #[.agg #[.int .u8 (D.raw q).k, .int .i64 (D.raw q).n, .string (D.raw q).t]] w fun e w' => e = .returned (.int .i64 (D.in1 q)) ∧ Below w.heap.size w w' := by
  have hB : Hid (Below w.heap.size w (w.alloc (.cells #[.int .u8 (D.raw q).k, .int .i64 (D.raw q).n, .string (D.raw q).t] 115))) := (Below.refl _ _).alloc (Nat.le_refl _) _
  have hn := D.raw_n1 q
  rw [hn] at hB ⊢
  clear hn
  go_enter Try.func87, Try.ntmps87
  go_wp2
  go_ret
  exact ⟨rfl, hB.out⟩
theorem C.set_grown {W V : World} {b : Nat} (h : W.grownBy V (some b)) (i : Nat) (u : Value) : W.grownBy (V.setCell ⟨b, i, none⟩ u) (some b) :=
  ⟨h.os, h.tape, h.output, by simpa [World.setCell] using h.size, fun j hj hne => (Below.heap_setCell V ⟨b, i, none⟩ u j (by rintro rfl; exact hne rfl)).trans (h.block j hj hne)⟩
theorem C.alloc_grown {W V : World} {b : Nat} (h : W.grownBy V (some b)) (o : Obj) : W.grownBy (V.alloc o) (some b) :=
  ⟨h.os, h.tape, h.output, Nat.le_trans h.size (by simp), fun j hj hne => (Below.heap_alloc V o j (Nat.lt_of_lt_of_le hj h.size)).trans (h.block j hj hne)⟩
theorem C.drew_grown {W V : World} {b : Nat} (h : W.grownBy V (some b)) : W.grownBy V.drew (some b) := ⟨h.os, h.tape, h.output, h.size, h.block⟩
theorem C.put3 {W : World} {b : Nat} {x0 x1 x2 x3 : Value} {T : TypeId} (h : W.heap[b]? = some (.cells #[x0, x1, x2, x3] T (0, 0))) (x y z : Value) :
    (((W.setCell ⟨b, 0, none⟩ x).setCell ⟨b, 1, none⟩ y).setCell ⟨b, 2, none⟩ z).heap[b]? = some (.cells #[x, y, z, x3] T (0, 0)) ∧ W.grownBy (((W.setCell ⟨b, 0, none⟩ x).setCell ⟨b, 1, none⟩ y).setCell ⟨b, 2, none⟩ z) (some b) := by
  have h1 : (W.setCell ⟨b, 0, none⟩ x).heap[b]? = some (.cells #[x, x1, x2, x3] T (0, 0)) := by rw [heap_setCell_same W b 0 _ _ _ h]; rfl
  have h2 : ((W.setCell ⟨b, 0, none⟩ x).setCell ⟨b, 1, none⟩ y).heap[b]? = some (.cells #[x, y, x2, x3] T (0, 0)) := by rw [heap_setCell_same _ b 1 _ _ _ h1]; rfl
  refine ⟨by rw [heap_setCell_same _ b 2 _ _ _ h2]; rfl, C.set_grown (C.set_grown (C.set_grown ⟨rfl, rfl, rfl, Nat.le_refl _, fun _ _ _ => rfl⟩ _ _) _ _) _ _⟩
theorem C.put4 {W : World} {b : Nat} {x0 x1 x2 x3 : Value} {T : TypeId} (h : W.heap[b]? = some (.cells #[x0, x1, x2, x3] T (0, 0))) (x y z u : Value) :
    ((((W.setCell ⟨b, 0, none⟩ x).setCell ⟨b, 1, none⟩ y).setCell ⟨b, 2, none⟩ z).setCell ⟨b, 3, none⟩ u).heap[b]? = some (.cells #[x, y, z, u] T (0, 0)) ∧ W.grownBy ((((W.setCell ⟨b, 0, none⟩ x).setCell ⟨b, 1, none⟩ y).setCell ⟨b, 2, none⟩ z).setCell ⟨b, 3, none⟩ u) (some b) := by
  obtain ⟨h1, h2⟩ := C.put3 h x y z
  exact ⟨by rw [heap_setCell_same _ b 3 _ _ _ h1]; rfl, C.set_grown h2 _ _⟩
def C.NextEnd (T : TypeId) (w0 : World) (b : Nat) (p : D.P) (r : List D.Q) (W : World) (e : Ending) (w' : World) : Prop := e = .returned (.agg #[.int .u8 p.k, .int .i64 p.n, .string p.t]) ∧ C.Rd T w0 b (C.hdP r) r.tail w' ∧ W.grownBy w' (some b)
/-- What two boxes and a draw leave. -/
theorem C.end2 {T : TypeId} {w0 : World} {b : Nat} {p : D.P} {r : List D.Q} {W V : World} {ao : Option Addr} {c : Nat} (hx : V.heap[b]? = some (.cells (C.cells (C.hdP r) ao r.tail.length c) T (0, 0))) (hr : D.Row w0 ao (r.tail.map D.raw)) (hc : r.tail.length ≤ c) (hge : w0.heap.size ≤ b) (hg : W.grownBy V (some b)) (o1 o2 : Obj) :
    C.NextEnd T w0 b p r W (.returned (.agg #[.int .u8 p.k, .int .i64 p.n, .string p.t])) ((V.alloc o1).alloc o2) ∧ C.NextEnd T w0 b p r W (.returned (.agg #[.int .u8 p.k, .int .i64 p.n, .string p.t])) ((V.alloc o1).alloc o2).drew := by
  have hl := (Array.getElem?_eq_some_iff.1 hx).1
  have h1 : (V.alloc o1).heap[b]? = _ := (heap_alloc_old V o1 hl).trans hx
  have h2 : ((V.alloc o1).alloc o2).heap[b]? = _ := (heap_alloc_old (V.alloc o1) o2 (by simp; omega)).trans h1
  exact ⟨⟨rfl, ⟨⟨ao, c, h2, hr, hc⟩, hge⟩, C.alloc_grown (C.alloc_grown hg _) _⟩, rfl, ⟨⟨ao, c, h2, hr, hc⟩, hge⟩, C.drew_grown (C.alloc_grown (C.alloc_grown hg _) _)⟩
theorem C.row_nil (w : World) (ao : Option Addr) : D.Row w ao [] := fun i p hp => by simp at hp
theorem C.far_grown {W V : World} {b : Nat} (h : W.grownBy V (some b)) {j : Nat} (hj : W.heap.size ≤ j) (i : Nat) (u : Value) : W.grownBy (V.setCell ⟨j, i, none⟩ u) (some b) :=
  ⟨h.os, h.tape, h.output, by simpa [World.setCell] using h.size, fun k hk hne => (Below.heap_setCell V ⟨j, i, none⟩ u k (by simp only; omega)).trans (h.block k hk hne)⟩
theorem C.below_grown {W V : World} {b : Nat} (h : Below W.heap.size W V) : W.grownBy V (some b) := ⟨h.os, h.tape, h.output, h.size, fun k hk _ => h.block k hk⟩
theorem C.grown_trans {U V W : World} {b : Nat} (h : U.grownBy V (some b)) (k : V.grownBy W (some b)) : U.grownBy W (some b) :=
  ⟨k.os.trans h.os, k.tape.trans h.tape, k.output.trans h.output, Nat.le_trans h.size k.size, fun j hj hne => (k.block j (Nat.lt_of_lt_of_le hj h.size) hne).trans (h.block j hj hne)⟩
theorem C.far3 {T : TypeId} {w0 W V : World} {b j : Nat} {p : D.P} {r : List D.Q} (h : C.Rd T w0 b p r V) (hg : W.grownBy V (some b)) (hj : W.heap.size ≤ j) (hb : b < W.heap.size) (x y z : Value) :
    C.Rd T w0 b p r (((V.setCell ⟨j, 0, none⟩ x).setCell ⟨j, 1, none⟩ y).setCell ⟨j, 2, none⟩ z) ∧ W.grownBy (((V.setCell ⟨j, 0, none⟩ x).setCell ⟨j, 1, none⟩ y).setCell ⟨j, 2, none⟩ z) (some b) := by
  refine ⟨?_, C.far_grown (C.far_grown (C.far_grown hg hj _ _) hj _ _) hj _ _⟩
  obtain ⟨ao, c, hx, hy⟩ := h.box
  have key : ∀ (U : World) i u, (U.setCell ⟨j, i, none⟩ u).heap[b]? = U.heap[b]? := fun U i u => Below.heap_setCell U ⟨j, i, none⟩ u b (by simp only; omega)
  exact ⟨⟨ao, c, by rw [key, key, key]; exact hx, hy⟩, h.ge⟩
theorem C.put_rd {T : TypeId} {w0 W V : World} {b : Nat} {p0 p : D.P} {r : List D.Q} (h : C.Rd T w0 b p0 r V) (hg : W.grownBy V (some b)) :
    C.Rd T w0 b p r (((V.setCell ⟨b, 0, none⟩ (.int .u8 p.k)).setCell ⟨b, 1, none⟩ (.int .i64 p.n)).setCell ⟨b, 2, none⟩ (.string p.t)) ∧ W.grownBy (((V.setCell ⟨b, 0, none⟩ (.int .u8 p.k)).setCell ⟨b, 1, none⟩ (.int .i64 p.n)).setCell ⟨b, 2, none⟩ (.string p.t)) (some b) := by
  obtain ⟨ao, c, hx, hy⟩ := h.box
  obtain ⟨h1, h2⟩ := C.put3 hx (.int .u8 p.k) (.int .i64 p.n) (.string p.t)
  exact ⟨⟨⟨ao, c, h1, hy⟩, h.ge⟩, C.grown_trans hg h2⟩
def C.TakeEnd (T : TypeId) (w0 : World) (b : Nat) (o p : D.P) (r : List D.Q) (W : World) (e : Ending) (w' : World) : Prop := e = .returned (.agg #[.int .u8 o.k, .int .i64 o.n, .string o.t]) ∧ C.Rd T w0 b p r w' ∧ W.grownBy w' (some b)
theorem C.zero3 {V : World} {T : TypeId} {j : Nat} {x y z : Value} (h : V.heap[j]? = some (.cells #[x, y, z] T (0, 0))) : V.cell? ⟨j, 0, none⟩ = some x ∧ V.cell? ⟨j, 1, none⟩ = some y ∧ V.cell? ⟨j, 2, none⟩ = some z ∧ ∀ i, V.frozen? ⟨j, i, none⟩ = false :=
  ⟨Lib.cell_of_heap h 0, Lib.cell_of_heap h 1, Lib.cell_of_heap h 2, fun _ => frozen_of_row _ _ _ _ _ h⟩
set_option maxRecDepth 100000 in
theorem pended_any (w0 : World) (b : Nat) (p : D.P) (r : List D.Q) (W : World) (h : C.Rd 119 w0 b p r W) :
    Calls Try.prog 84 #[.pointer (some ⟨b, 0, none⟩)] W fun e W' => e = .returned (.bool (p.k == 0)) ∧ W = W' := by
  obtain ⟨ao, c, hx, _, _⟩ := h.box
  obtain ⟨c0, c1, c2, c3, _⟩ := C.cells_of hx
  clear h hx
  go_enter Try.func84, Try.ntmps84
  go_wp2
  go_ret
  exact ⟨rfl, rfl⟩
set_option maxRecDepth 100000 in
set_option maxHeartbeats 2000000 in
theorem pnext_nil (w0 : World) (b : Nat) (p : D.P) (W : World) (h : C.Rd 119 w0 b p [] W) :
    Calls Try.prog 81 #[.pointer (some ⟨b, 0, none⟩)] W (C.NextEnd 119 w0 b p [] W) := by
  obtain ⟨ao, c, hx, _, hc⟩ := h.box
  obtain ⟨c0, c1, c2, c3, fz⟩ := C.cells_of hx
  have hbl := h.lt
  have hbne : b ≠ W.heap.size := by omega
  have hbne1 : b ≠ W.heap.size + 1 := by omega
  obtain ⟨k, n, t⟩ := p
  obtain ⟨hx3, hg3⟩ := C.put3 hx (.int .u8 0) (.int .i64 0) (.string ⟨#[]⟩)
  have R := Lib.hid (C.end2 (p := ⟨k, n, t⟩) (r := []) hx3 (C.row_nil w0 ao) (Nat.zero_le _) h.ge hg3 (.cells #[.int .u8 k, .int .i64 n, .string t] 112) (.cells #[.int .u8 k, .int .i64 n, .string t] 112)).1
  simp only [List.length_nil] at c3
  clear h hx hx3 hg3
  dsimp only at *
  go_enter Try.func81, Try.ntmps81
  go_wp2
  refine bodyPost_ret (v := .agg #[.int .u8 k, .int .i64 n, .string t]) ?_ rfl ?_
  · simp [results, Try.results81, go_sem]
  · exact R.out
set_option maxRecDepth 100000 in
set_option maxHeartbeats 2000000 in
theorem pnext_cons (w0 : World) (b : Nat) (p : D.P) (q : D.Q) (r : List D.Q) (W : World) (h : C.Rd 119 w0 b p (q :: r) W) (hB : Below w0.heap.size w0 W) (hr : r.length ≤ 1000000) :
    Calls Try.prog 81 #[.pointer (some ⟨b, 0, none⟩)] W (C.NextEnd 119 w0 b p (q :: r) W) := by
  obtain ⟨ao, c, hx, hrow, hc⟩ := h.box
  obtain ⟨c0, c1, c2, c3, fz⟩ := C.cells_of hx
  have hbl := h.lt
  have hbge := h.ge
  have hbne : b ≠ W.heap.size := by omega
  have hbne1 : b ≠ W.heap.size + 1 := by omega
  obtain ⟨g, o, e, hgl, hcell⟩ := hrow 0 (D.raw q) rfl
  subst e
  obtain ⟨d0, d1, d2⟩ := D.cell3 hB hgl hcell
  rw [show o + 0 * 3 = o by omega] at d0 d1 d2
  have hgb : g ≠ b := by omega
  have hgw : g < W.heap.size := by have := hB.size; omega
  simp only [List.length_cons] at c3 hc
  have ht := C.row_tail hrow
  obtain ⟨k, n, t⟩ := p
  by_cases h1 : c = 1
  · subst h1
    obtain rfl : r = [] := by cases r with
      | nil => rfl
      | cons x y => simp only [List.length_cons] at hc; omega
    obtain ⟨hx4, hg4⟩ := C.put4 hx (.int .u8 (D.raw q).k) (.int .i64 (D.raw q).n) (.string (D.raw q).t) (.slice (some ⟨g, o, none⟩) 0 0)
    have R := Lib.hid (C.end2 (p := ⟨k, n, t⟩) (r := [q]) hx4 (C.row_nil _ _) (Nat.zero_le _) h.ge hg4 (.cells #[.int .u8 k, .int .i64 n, .string t] 112) (.cells #[.int .u8 k, .int .i64 n, .string t] 112)).2
    clear h hx hcell hrow hB hx4 hg4 ht
    generalize D.raw q = Q at d0 d1 d2 R
    obtain ⟨qk, qn, qt⟩ := Q
    simp only [List.length_nil] at c3 hc hr
    dsimp only at *
    go_enter Try.func81, Try.ntmps81
    go_wp2
    go_region
    all_goals
      go_wp2
      refine bodyPost_ret (v := .agg #[.int .u8 k, .int .i64 n, .string t]) ?_ rfl ?_
      · simp [results, Try.results81, go_sem]
      · exact R.out
  · obtain ⟨hx4, hg4⟩ := C.put4 hx (.int .u8 (D.raw q).k) (.int .i64 (D.raw q).n) (.string (D.raw q).t) (.slice (some ⟨g, o + 3, none⟩) r.length (c - 1))
    have R := Lib.hid (C.end2 (p := ⟨k, n, t⟩) (r := q :: r) hx4 ht (by simp only [List.tail_cons]; omega) h.ge hg4 (.cells #[.int .u8 k, .int .i64 n, .string t] 112) (.cells #[.int .u8 k, .int .i64 n, .string t] 112)).2
    clear h hx hcell hrow hB hx4 hg4 ht
    generalize D.raw q = Q at d0 d1 d2 R
    obtain ⟨qk, qn, qt⟩ := Q
    generalize r.length = m at c3 hc hr R
    dsimp only at *
    go_enter Try.func81, Try.ntmps81
    go_wp2
    go_region
    all_goals
      go_wp2
      refine bodyPost_ret (v := .agg #[.int .u8 k, .int .i64 n, .string t]) ?_ rfl ?_
      · simp [results, Try.results81, go_sem]
      · exact R.out
theorem pnext_any (w0 : World) (b : Nat) (p : D.P) (r : List D.Q) (W : World) (h : C.Rd 119 w0 b p r W) (hB : Below w0.heap.size w0 W) (hr : r.length ≤ 1000000) :
    Calls Try.prog 81 #[.pointer (some ⟨b, 0, none⟩)] W (C.NextEnd 119 w0 b p r W) := by
  cases r with
  | nil => exact pnext_nil w0 b p W h
  | cons q r => exact pnext_cons w0 b p q r W h hB (by simp only [List.length_cons] at hr; omega)
theorem C.pmethod (k n : Int) (t : ByteArray) (w : World) : (method 263 112 (.agg #[.int .u8 k, .int .i64 n, .string t]) "quarto/compose.size").run Try.prog w = .ok (86, .agg #[.int .u8 k, .int .i64 n, .string t]) w := by kernel_rfl
set_option maxRecDepth 100000 in
set_option maxHeartbeats 2000000 in
theorem ptake_all (w0 : World) (b : Nat) (q : D.Q) (r : List D.Q) (W : World) (h : C.Rd 119 w0 b (D.raw q) r W) (hB : Below w0.heap.size w0 W) (hr : r.length ≤ 1000000) (hq : D.out1 q ≤ 1000000000) :
    Calls Try.prog 89 #[.pointer (some ⟨b, 0, none⟩), .int .i64 (D.out1 q)] W (C.TakeEnd 119 w0 b (D.raw q) (C.hdP r) r.tail W) := by
  have HS : Hid (∀ V, Calls Try.prog 86 #[.agg #[.int .u8 (D.raw q).k, .int .i64 (D.raw q).n, .string (D.raw q).t]] V fun e w' => e = .returned (.int .i64 (D.out1 q)) ∧ Below V.heap.size V w') := fun V => psize_any q V hq
  have HN : Hid (∀ V, C.Rd 119 w0 b (D.raw q) r V → Below w0.heap.size w0 V → Calls Try.prog 81 #[.pointer (some ⟨b, 0, none⟩)] V (C.NextEnd 119 w0 b (D.raw q) r V)) := fun V h1 h2 => pnext_any w0 b (D.raw q) r V h1 h2 hr
  have hbl := h.lt
  have hge := h.ge
  have h1 : C.Rd 119 w0 b (D.raw q) r (W.alloc (.cells #[.int .u8 0, .int .i64 0, .string ⟨#[]⟩] 112)) := h.below ((Below.refl _ _).alloc (Nat.le_refl _) _)
  have hB1 := hB.trans (((Below.refl W.heap.size W).alloc (Nat.le_refl _) (.cells #[.int .u8 0, .int .i64 0, .string ⟨#[]⟩] 112)).mono hB.size)
  obtain ⟨ao, c, hx, hrow, hc⟩ := h1.box
  obtain ⟨c0, c1, c2, c3, fz⟩ := C.cells_of hx
  have H1 := Lib.hid (And.intro h1 hB1)
  have HM := fun W => C.pmethod (D.raw q).k (D.raw q).n (D.raw q).t W
  have hnew := heap_alloc_new W (.cells #[.int .u8 0, .int .i64 0, .string ⟨#[]⟩] 112)
  have Hnew := Lib.hid hnew
  clear h hx hrow h1 hB hB1 hnew hc
  go_enter Try.func89, Try.ntmps89
  go_wp2_with fail
  refine (HS.out _).mono ?_
  rintro e w1 ⟨rfl, hb⟩
  have HN := Lib.hid (HN.out w1 (H1.out.1.below hb) (H1.out.2.trans (hb.mono (Nat.le_trans H1.out.2.size (Nat.le_refl _)))))
  have Hnew1 := Lib.hid ((hb.block W.heap.size (by simp)).trans Hnew.out)
  have Hg1 := Lib.hid (C.below_grown (b := b) (((Below.refl W.heap.size W).alloc (Nat.le_refl _) _).trans (hb.mono (by simp))))
  have hs1 := hb.size
  simp only [World.size_alloc] at hs1
  clear hb c0 c1 c2 c3 fz
  go_wp2_with fail
  refine HN.out.mono ?_
  rintro e w2 ⟨rfl, hrd, hg⟩
  have hnew2 := (hg.block W.heap.size (by omega) (by simp; omega)).trans Hnew1.out
  obtain ⟨z0, z1, z2, zf⟩ := C.zero3 hnew2
  have R := Lib.hid (C.far3 hrd (C.grown_trans Hg1.out hg) (Nat.le_refl _) hbl (.int .u8 (D.raw q).k) (.int .i64 (D.raw q).n) (.string (D.raw q).t))
  have hs2 := hg.size
  clear hnew2 hrd hg
  go_wp2
  refine bodyPost_ret (v := .agg #[.int .u8 (D.raw q).k, .int .i64 (D.raw q).n, .string (D.raw q).t]) ?_ rfl ?_
  · simp [results, Try.results89, go_sem, z0, z1, z2]
  · exact ⟨rfl, R.out.1, R.out.2⟩
set_option maxRecDepth 100000 in
set_option maxHeartbeats 2000000 in
theorem ptake_cut (w0 : World) (b : Nat) (q : D.Q) (r : List D.Q) (n : Nat) (o p : D.P) (W : World) (h : C.Rd 119 w0 b (D.raw q) r W) (hq : D.out1 q ≤ 1000000000) (hn : n ≠ D.out1 q)
    (hcut : ∀ V, Calls Try.prog 102 #[.agg #[.int .u8 (D.raw q).k, .int .i64 (D.raw q).n, .string (D.raw q).t], .int .i64 n] V fun e w' => e = .returned (.tuple #[.agg #[.int .u8 o.k, .int .i64 o.n, .string o.t], .agg #[.int .u8 p.k, .int .i64 p.n, .string p.t]]) ∧ Below V.heap.size V w') :
    Calls Try.prog 89 #[.pointer (some ⟨b, 0, none⟩), .int .i64 n] W (C.TakeEnd 119 w0 b o p r W) := by
  have HS : Hid (∀ V, Calls Try.prog 86 #[.agg #[.int .u8 (D.raw q).k, .int .i64 (D.raw q).n, .string (D.raw q).t]] V fun e w' => e = .returned (.int .i64 (D.out1 q)) ∧ Below V.heap.size V w') := fun V => psize_any q V hq
  have HC := Lib.hid hcut
  have hne : (((n : Nat) : Int) == ((D.out1 q : Nat) : Int)) = false := by simp; omega
  have hbl := h.lt
  have hge := h.ge
  have h1 : C.Rd 119 w0 b (D.raw q) r (W.alloc (.cells #[.int .u8 0, .int .i64 0, .string ⟨#[]⟩] 112)) := h.below ((Below.refl _ _).alloc (Nat.le_refl _) _)
  obtain ⟨ao, c, hx, hrow, hc⟩ := h1.box
  obtain ⟨c0, c1, c2, c3, fz⟩ := C.cells_of hx
  have Hx := Lib.hid (And.intro hx (And.intro hrow hc))
  have HM := fun W => C.pmethod (D.raw q).k (D.raw q).n (D.raw q).t W
  have hnew := heap_alloc_new W (.cells #[.int .u8 0, .int .i64 0, .string ⟨#[]⟩] 112)
  have Hnew := Lib.hid hnew
  have hbne : b ≠ W.heap.size := by omega
  clear h hx hrow h1 hnew hc hcut hn
  go_enter Try.func89, Try.ntmps89
  go_wp2_with fail
  refine (HS.out _).mono ?_
  rintro e w1 ⟨rfl, hb⟩
  have hs1 := hb.size
  simp only [World.size_alloc] at hs1
  obtain ⟨w1z, hw1z⟩ : ∃ z, Hid (w1.heap.size = z) := ⟨_, rfl⟩
  have hx1 := (hb.block b (by simp; omega)).trans Hx.out.1
  have hx1' : (w1.alloc (.cells #[.int .u8 0, .int .i64 0, .string ⟨#[]⟩] 112)).heap[b]? = _ := (heap_alloc_old w1 _ (Array.getElem?_eq_some_iff.1 hx1).1).trans hx1
  obtain ⟨d0, d1, d2, d3, fz1⟩ := C.cells_of hx1'
  have Hnew1 := Lib.hid ((hb.block W.heap.size (by simp)).trans Hnew.out)
  have Hg1 := Lib.hid (C.below_grown (b := b) (((Below.refl W.heap.size W).alloc (Nat.le_refl _) _).trans (hb.mono (by simp))))
  have Hx1 := Lib.hid hx1'
  have hbne1 : b ≠ w1.heap.size := by omega
  have hnn1 : W.heap.size ≠ w1.heap.size := by omega
  clear hb c0 c1 c2 c3 fz hx1 hx1'
  go_wp2_with fail
  refine (HC.out _).mono ?_
  rintro e w2 ⟨rfl, hb⟩
  have hs2 := hb.size
  simp only [World.size_alloc] at hs2
  have hy := (hb.block b (by simp; omega)).trans Hx1.out
  obtain ⟨e0, e1, e2, e3, fz2⟩ := C.cells_of hy
  have hu := (hb.block w1.heap.size (by simp)).trans (heap_alloc_new w1 _)
  obtain ⟨u0, u1, u2, fu⟩ := C.zero3 hu
  have hz := (hb.block W.heap.size (by simp; omega)).trans ((heap_alloc_old w1 _ (by omega)).trans Hnew1.out)
  obtain ⟨z0, z1, z2, fzz⟩ := C.zero3 hz
  have hg2 : W.grownBy w2 (some b) := C.grown_trans Hg1.out (C.below_grown (((Below.refl w1.heap.size w1).alloc (Nat.le_refl _) _).trans (hb.mono (by simp))))
  have rd2 : C.Rd 119 w0 b (D.raw q) r w2 := ⟨⟨ao, c, hy, Hx.out.2⟩, hge⟩
  have A1 := C.far3 rd2 hg2 (j := w1.heap.size) (by omega) hbl (.int .u8 o.k) (.int .i64 o.n) (.string o.t)
  have A2 := C.put_rd (p := p) A1.1 A1.2
  have R := Lib.hid (C.far3 A2.1 A2.2 (Nat.le_refl _) hbl (.int .u8 o.k) (.int .i64 o.n) (.string o.t))
  clear hb d0 d1 d2 d3 fz1 rd2 A1 A2 hy hu hz hg2
  go_wp2
  refine bodyPost_ret (v := .agg #[.int .u8 o.k, .int .i64 o.n, .string o.t]) ?_ rfl ?_
  · simp [results, Try.results89, go_sem, z0, z1, z2]
  · exact ⟨rfl, R.out.1, R.out.2⟩
set_option maxRecDepth 100000 in
set_option maxHeartbeats 2000000 in
theorem papart_cons (w0 : World) (b : Nat) (q : D.Q) (r : List D.Q) (W : World) (h : C.Rd 119 w0 b (D.raw q) r W) (hq : D.out1 q ≤ 1000000000) :
    Calls Try.prog 80 #[.pointer (some ⟨b, 0, none⟩)] W fun e W' => e = .returned (.bool (((D.out1 q : Nat) : Int) == 0)) ∧ Below W.heap.size W W' := by
  have HE := Lib.hid (pended_any w0 b (D.raw q) r W h)
  have HS := Lib.hid (psize_any q W hq)
  have hk : ((D.raw q).k == 0) = false := by cases q <;> rfl
  rw [hk] at HE
  obtain ⟨ao, c, hx, hrow, hc⟩ := h.box
  obtain ⟨c0, c1, c2, c3, fz⟩ := C.cells_of hx
  clear h hx hrow
  have HM := fun W => C.pmethod (D.raw q).k (D.raw q).n (D.raw q).t W
  go_enter Try.func80, Try.ntmps80
  go_wp2_with fail
  refine HE.out.mono ?_
  rintro e w1 ⟨rfl, rfl⟩
  go_wp2_with fail
  refine HS.out.mono ?_
  rintro e w1 ⟨rfl, hb⟩
  have hb := Lib.hid hb
  go_wp2
  go_ret
  exact ⟨rfl, hb.out⟩

set_option maxRecDepth 100000 in
theorem papart_nil (w0 : World) (b : Nat) (r : List D.Q) (W : World) (h : C.Rd 119 w0 b C.zero r W) :
    Calls Try.prog 80 #[.pointer (some ⟨b, 0, none⟩)] W fun e W' => e = .returned (.bool false) ∧ Below W.heap.size W W' := by
  have HE := Lib.hid (pended_any w0 b C.zero r W h)
  rw [show (C.zero.k == 0) = true from rfl] at HE
  have hB : Hid (Below W.heap.size W W) := Below.refl _ _
  clear h
  go_enter Try.func80, Try.ntmps80
  go_wp2_with fail
  refine HE.out.mono ?_
  rintro e w1 ⟨rfl, rfl⟩
  go_wp2
  go_ret
  exact ⟨rfl, hB.out⟩
set_option maxRecDepth 100000 in
set_option maxHeartbeats 2000000 in
theorem pcut_n (k N : Int) (n : Nat) (t : ByteArray) (W : World) (hk : k ≠ 2) (h0 : (n : Int) ≤ N) (h1 : N ≤ 1000000000) :
    Calls Try.prog 102 #[.agg #[.int .u8 k, .int .i64 N, .string t], .int .i64 n] W fun e W' => e = .returned (.tuple #[.agg #[.int .u8 k, .int .i64 n, .string t], .agg #[.int .u8 k, .int .i64 (N - n), .string t]]) ∧ Below W.heap.size W W' := by
  have hk' : (k == 2) = false := by simpa using hk
  go_enter Try.func102, Try.ntmps102
  go_wp2
  go_region
  all_goals
    go_wp2
    go_region
  all_goals
    go_wp2
    go_region
  all_goals
    go_wp2
    refine bodyPost_ret (v := .tuple #[.agg #[.int .u8 k, .int .i64 n, .string t], .agg #[.int .u8 k, .int .i64 (N - n), .string t]]) ?_ rfl ⟨rfl, ?_⟩
    · simp [results, Try.results102, go_sem]
    · repeat (first | exact Below.refl _ _ | refine Below.drew ?_ | refine Below.alloc ?_ (by first | exact Nat.le_refl _ | (simp; done) | (simp; omega)) _)
def C.pReadEnd (w0 : World) (d : List D.Q) (V : World) (e : Ending) (w' : World) : Prop := ∃ b, e = .returned (.pointer (some ⟨b, 0, none⟩)) ∧ C.Rd 119 w0 b (C.hdP d) d.tail w' ∧ Below V.heap.size V w'
set_option maxRecDepth 100000 in
theorem pread_any (w0 : World) (ao : Option Addr) (c : Nat) (d : List D.Q) (V : World) (hr : D.Row w0 ao (d.map D.raw)) (hc : d.length ≤ c) (hl : d.length ≤ 1000000) (hB : Below w0.heap.size w0 V) :
    Calls Try.prog 78 #[.slice ao d.length c] V (C.pReadEnd w0 d V) := by
  have hnew := heap_alloc_new V (.cells (C.cells C.zero ao d.length c) 119)
  have rd : C.Rd 119 w0 V.heap.size C.zero d (V.alloc (.cells (C.cells C.zero ao d.length c) 119)) := ⟨⟨ao, c, hnew, hr, hc⟩, hB.size⟩
  have hal : Below V.heap.size V (V.alloc (.cells (C.cells C.zero ao d.length c) 119)) := (Below.refl _ _).alloc (Nat.le_refl _) _
  have HN := Lib.hid (pnext_any w0 V.heap.size C.zero d _ rd (hB.trans (hal.mono hB.size)) hl)
  have hal := Lib.hid hal
  unfold C.cells C.zero at HN hal
  clear hnew rd
  go_enter Try.func78, Try.ntmps78
  go_wp2_with fail
  refine HN.out.mono ?_
  rintro e w2 ⟨rfl, hrd, hg⟩
  have R : Hid (C.pReadEnd w0 d V (.returned (.pointer (some ⟨V.heap.size, 0, none⟩))) w2) := ⟨_, rfl, hrd, hal.out.grown hg hal.out.size (fun k e => by cases e; exact Nat.le_refl _)⟩
  clear hrd hg
  go_wp2
  go_ret
  exact R.out
set_option maxRecDepth 100000 in
theorem cended_any (w0 : World) (b : Nat) (p : D.P) (r : List D.Q) (W : World) (h : C.Rd 122 w0 b p r W) :
    Calls Try.prog 85 #[.pointer (some ⟨b, 0, none⟩)] W fun e W' => e = .returned (.bool (p.k == 0)) ∧ W = W' := by
  obtain ⟨ao, c, hx, _, _⟩ := h.box
  obtain ⟨c0, c1, c2, c3, _⟩ := C.cells_of hx
  clear h hx
  go_enter Try.func85, Try.ntmps85
  go_wp2
  go_ret
  exact ⟨rfl, rfl⟩
set_option maxRecDepth 100000 in
set_option maxHeartbeats 2000000 in
theorem cnext_nil (w0 : World) (b : Nat) (p : D.P) (W : World) (h : C.Rd 122 w0 b p [] W) :
    Calls Try.prog 83 #[.pointer (some ⟨b, 0, none⟩)] W (C.NextEnd 122 w0 b p [] W) := by
  obtain ⟨ao, c, hx, _, hc⟩ := h.box
  obtain ⟨c0, c1, c2, c3, fz⟩ := C.cells_of hx
  have hbl := h.lt
  have hbne : b ≠ W.heap.size := by omega
  have hbne1 : b ≠ W.heap.size + 1 := by omega
  obtain ⟨k, n, t⟩ := p
  obtain ⟨hx3, hg3⟩ := C.put3 hx (.int .u8 0) (.int .i64 0) (.string ⟨#[]⟩)
  have R := Lib.hid (C.end2 (p := ⟨k, n, t⟩) (r := []) hx3 (C.row_nil w0 ao) (Nat.zero_le _) h.ge hg3 (.cells #[.int .u8 k, .int .i64 n, .string t] 115) (.cells #[.int .u8 k, .int .i64 n, .string t] 115)).1
  simp only [List.length_nil] at c3
  clear h hx hx3 hg3
  dsimp only at *
  go_enter Try.func83, Try.ntmps83
  go_wp2
  refine bodyPost_ret (v := .agg #[.int .u8 k, .int .i64 n, .string t]) ?_ rfl ?_
  · simp [results, Try.results83, go_sem]
  · exact R.out
set_option maxRecDepth 100000 in
set_option maxHeartbeats 2000000 in
theorem cnext_cons (w0 : World) (b : Nat) (p : D.P) (q : D.Q) (r : List D.Q) (W : World) (h : C.Rd 122 w0 b p (q :: r) W) (hB : Below w0.heap.size w0 W) (hr : r.length ≤ 1000000) :
    Calls Try.prog 83 #[.pointer (some ⟨b, 0, none⟩)] W (C.NextEnd 122 w0 b p (q :: r) W) := by
  obtain ⟨ao, c, hx, hrow, hc⟩ := h.box
  obtain ⟨c0, c1, c2, c3, fz⟩ := C.cells_of hx
  have hbl := h.lt
  have hbge := h.ge
  have hbne : b ≠ W.heap.size := by omega
  have hbne1 : b ≠ W.heap.size + 1 := by omega
  obtain ⟨g, o, e, hgl, hcell⟩ := hrow 0 (D.raw q) rfl
  subst e
  obtain ⟨d0, d1, d2⟩ := D.cell3 hB hgl hcell
  rw [show o + 0 * 3 = o by omega] at d0 d1 d2
  have hgb : g ≠ b := by omega
  have hgw : g < W.heap.size := by have := hB.size; omega
  simp only [List.length_cons] at c3 hc
  have ht := C.row_tail hrow
  obtain ⟨k, n, t⟩ := p
  by_cases h1 : c = 1
  · subst h1
    obtain rfl : r = [] := by cases r with
      | nil => rfl
      | cons x y => simp only [List.length_cons] at hc; omega
    obtain ⟨hx4, hg4⟩ := C.put4 hx (.int .u8 (D.raw q).k) (.int .i64 (D.raw q).n) (.string (D.raw q).t) (.slice (some ⟨g, o, none⟩) 0 0)
    have R := Lib.hid (C.end2 (p := ⟨k, n, t⟩) (r := [q]) hx4 (C.row_nil _ _) (Nat.zero_le _) h.ge hg4 (.cells #[.int .u8 k, .int .i64 n, .string t] 115) (.cells #[.int .u8 k, .int .i64 n, .string t] 115)).2
    clear h hx hcell hrow hB hx4 hg4 ht
    generalize D.raw q = Q at d0 d1 d2 R
    obtain ⟨qk, qn, qt⟩ := Q
    simp only [List.length_nil] at c3 hc hr
    dsimp only at *
    go_enter Try.func83, Try.ntmps83
    go_wp2
    go_region
    all_goals
      go_wp2
      refine bodyPost_ret (v := .agg #[.int .u8 k, .int .i64 n, .string t]) ?_ rfl ?_
      · simp [results, Try.results83, go_sem]
      · exact R.out
  · obtain ⟨hx4, hg4⟩ := C.put4 hx (.int .u8 (D.raw q).k) (.int .i64 (D.raw q).n) (.string (D.raw q).t) (.slice (some ⟨g, o + 3, none⟩) r.length (c - 1))
    have R := Lib.hid (C.end2 (p := ⟨k, n, t⟩) (r := q :: r) hx4 ht (by simp only [List.tail_cons]; omega) h.ge hg4 (.cells #[.int .u8 k, .int .i64 n, .string t] 115) (.cells #[.int .u8 k, .int .i64 n, .string t] 115)).2
    clear h hx hcell hrow hB hx4 hg4 ht
    generalize D.raw q = Q at d0 d1 d2 R
    obtain ⟨qk, qn, qt⟩ := Q
    generalize r.length = m at c3 hc hr R
    dsimp only at *
    go_enter Try.func83, Try.ntmps83
    go_wp2
    go_region
    all_goals
      go_wp2
      refine bodyPost_ret (v := .agg #[.int .u8 k, .int .i64 n, .string t]) ?_ rfl ?_
      · simp [results, Try.results83, go_sem]
      · exact R.out
theorem cnext_any (w0 : World) (b : Nat) (p : D.P) (r : List D.Q) (W : World) (h : C.Rd 122 w0 b p r W) (hB : Below w0.heap.size w0 W) (hr : r.length ≤ 1000000) :
    Calls Try.prog 83 #[.pointer (some ⟨b, 0, none⟩)] W (C.NextEnd 122 w0 b p r W) := by
  cases r with
  | nil => exact cnext_nil w0 b p W h
  | cons q r => exact cnext_cons w0 b p q r W h hB (by simp only [List.length_cons] at hr; omega)
theorem C.cmethod (k n : Int) (t : ByteArray) (w : World) : (method 263 115 (.agg #[.int .u8 k, .int .i64 n, .string t]) "quarto/compose.size").run Try.prog w = .ok (87, .agg #[.int .u8 k, .int .i64 n, .string t]) w := by kernel_rfl
set_option maxRecDepth 100000 in
set_option maxHeartbeats 2000000 in
theorem ctake_all (w0 : World) (b : Nat) (q : D.Q) (r : List D.Q) (W : World) (h : C.Rd 122 w0 b (D.raw q) r W) (hB : Below w0.heap.size w0 W) (hr : r.length ≤ 1000000) (hq : D.in1 q ≤ 1000000000) :
    Calls Try.prog 90 #[.pointer (some ⟨b, 0, none⟩), .int .i64 (D.in1 q)] W (C.TakeEnd 122 w0 b (D.raw q) (C.hdP r) r.tail W) := by
  have HS : Hid (∀ V, Calls Try.prog 87 #[.agg #[.int .u8 (D.raw q).k, .int .i64 (D.raw q).n, .string (D.raw q).t]] V fun e w' => e = .returned (.int .i64 (D.in1 q)) ∧ Below V.heap.size V w') := fun V => csize_any q V hq
  have HN : Hid (∀ V, C.Rd 122 w0 b (D.raw q) r V → Below w0.heap.size w0 V → Calls Try.prog 83 #[.pointer (some ⟨b, 0, none⟩)] V (C.NextEnd 122 w0 b (D.raw q) r V)) := fun V h1 h2 => cnext_any w0 b (D.raw q) r V h1 h2 hr
  have hbl := h.lt
  have hge := h.ge
  have h1 : C.Rd 122 w0 b (D.raw q) r (W.alloc (.cells #[.int .u8 0, .int .i64 0, .string ⟨#[]⟩] 115)) := h.below ((Below.refl _ _).alloc (Nat.le_refl _) _)
  have hB1 := hB.trans (((Below.refl W.heap.size W).alloc (Nat.le_refl _) (.cells #[.int .u8 0, .int .i64 0, .string ⟨#[]⟩] 115)).mono hB.size)
  obtain ⟨ao, c, hx, hrow, hc⟩ := h1.box
  obtain ⟨c0, c1, c2, c3, fz⟩ := C.cells_of hx
  have H1 := Lib.hid (And.intro h1 hB1)
  have HM := fun W => C.cmethod (D.raw q).k (D.raw q).n (D.raw q).t W
  have hnew := heap_alloc_new W (.cells #[.int .u8 0, .int .i64 0, .string ⟨#[]⟩] 115)
  have Hnew := Lib.hid hnew
  clear h hx hrow h1 hB hB1 hnew hc
  go_enter Try.func90, Try.ntmps90
  go_wp2_with fail
  refine (HS.out _).mono ?_
  rintro e w1 ⟨rfl, hb⟩
  have HN := Lib.hid (HN.out w1 (H1.out.1.below hb) (H1.out.2.trans (hb.mono (Nat.le_trans H1.out.2.size (Nat.le_refl _)))))
  have Hnew1 := Lib.hid ((hb.block W.heap.size (by simp)).trans Hnew.out)
  have Hg1 := Lib.hid (C.below_grown (b := b) (((Below.refl W.heap.size W).alloc (Nat.le_refl _) _).trans (hb.mono (by simp))))
  have hs1 := hb.size
  simp only [World.size_alloc] at hs1
  clear hb c0 c1 c2 c3 fz
  go_wp2_with fail
  refine HN.out.mono ?_
  rintro e w2 ⟨rfl, hrd, hg⟩
  have hnew2 := (hg.block W.heap.size (by omega) (by simp; omega)).trans Hnew1.out
  obtain ⟨z0, z1, z2, zf⟩ := C.zero3 hnew2
  have R := Lib.hid (C.far3 hrd (C.grown_trans Hg1.out hg) (Nat.le_refl _) hbl (.int .u8 (D.raw q).k) (.int .i64 (D.raw q).n) (.string (D.raw q).t))
  have hs2 := hg.size
  clear hnew2 hrd hg
  go_wp2
  refine bodyPost_ret (v := .agg #[.int .u8 (D.raw q).k, .int .i64 (D.raw q).n, .string (D.raw q).t]) ?_ rfl ?_
  · simp [results, Try.results90, go_sem, z0, z1, z2]
  · exact ⟨rfl, R.out.1, R.out.2⟩
set_option maxRecDepth 100000 in
set_option maxHeartbeats 2000000 in
theorem ctake_cut (w0 : World) (b : Nat) (q : D.Q) (r : List D.Q) (n : Nat) (o p : D.P) (W : World) (h : C.Rd 122 w0 b (D.raw q) r W) (hq : D.in1 q ≤ 1000000000) (hn : n ≠ D.in1 q)
    (hcut : ∀ V, Calls Try.prog 103 #[.agg #[.int .u8 (D.raw q).k, .int .i64 (D.raw q).n, .string (D.raw q).t], .int .i64 n] V fun e w' => e = .returned (.tuple #[.agg #[.int .u8 o.k, .int .i64 o.n, .string o.t], .agg #[.int .u8 p.k, .int .i64 p.n, .string p.t]]) ∧ Below V.heap.size V w') :
    Calls Try.prog 90 #[.pointer (some ⟨b, 0, none⟩), .int .i64 n] W (C.TakeEnd 122 w0 b o p r W) := by
  have HS : Hid (∀ V, Calls Try.prog 87 #[.agg #[.int .u8 (D.raw q).k, .int .i64 (D.raw q).n, .string (D.raw q).t]] V fun e w' => e = .returned (.int .i64 (D.in1 q)) ∧ Below V.heap.size V w') := fun V => csize_any q V hq
  have HC := Lib.hid hcut
  have hne : (((n : Nat) : Int) == ((D.in1 q : Nat) : Int)) = false := by simp; omega
  have hbl := h.lt
  have hge := h.ge
  have h1 : C.Rd 122 w0 b (D.raw q) r (W.alloc (.cells #[.int .u8 0, .int .i64 0, .string ⟨#[]⟩] 115)) := h.below ((Below.refl _ _).alloc (Nat.le_refl _) _)
  obtain ⟨ao, c, hx, hrow, hc⟩ := h1.box
  obtain ⟨c0, c1, c2, c3, fz⟩ := C.cells_of hx
  have Hx := Lib.hid (And.intro hx (And.intro hrow hc))
  have HM := fun W => C.cmethod (D.raw q).k (D.raw q).n (D.raw q).t W
  have hnew := heap_alloc_new W (.cells #[.int .u8 0, .int .i64 0, .string ⟨#[]⟩] 115)
  have Hnew := Lib.hid hnew
  have hbne : b ≠ W.heap.size := by omega
  clear h hx hrow h1 hnew hc hcut hn
  go_enter Try.func90, Try.ntmps90
  go_wp2_with fail
  refine (HS.out _).mono ?_
  rintro e w1 ⟨rfl, hb⟩
  have hs1 := hb.size
  simp only [World.size_alloc] at hs1
  obtain ⟨w1z, hw1z⟩ : ∃ z, Hid (w1.heap.size = z) := ⟨_, rfl⟩
  have hx1 := (hb.block b (by simp; omega)).trans Hx.out.1
  have hx1' : (w1.alloc (.cells #[.int .u8 0, .int .i64 0, .string ⟨#[]⟩] 115)).heap[b]? = _ := (heap_alloc_old w1 _ (Array.getElem?_eq_some_iff.1 hx1).1).trans hx1
  obtain ⟨d0, d1, d2, d3, fz1⟩ := C.cells_of hx1'
  have Hnew1 := Lib.hid ((hb.block W.heap.size (by simp)).trans Hnew.out)
  have Hg1 := Lib.hid (C.below_grown (b := b) (((Below.refl W.heap.size W).alloc (Nat.le_refl _) _).trans (hb.mono (by simp))))
  have Hx1 := Lib.hid hx1'
  have hbne1 : b ≠ w1.heap.size := by omega
  have hnn1 : W.heap.size ≠ w1.heap.size := by omega
  clear hb c0 c1 c2 c3 fz hx1 hx1'
  go_wp2_with fail
  refine (HC.out _).mono ?_
  rintro e w2 ⟨rfl, hb⟩
  have hs2 := hb.size
  simp only [World.size_alloc] at hs2
  have hy := (hb.block b (by simp; omega)).trans Hx1.out
  obtain ⟨e0, e1, e2, e3, fz2⟩ := C.cells_of hy
  have hu := (hb.block w1.heap.size (by simp)).trans (heap_alloc_new w1 _)
  obtain ⟨u0, u1, u2, fu⟩ := C.zero3 hu
  have hz := (hb.block W.heap.size (by simp; omega)).trans ((heap_alloc_old w1 _ (by omega)).trans Hnew1.out)
  obtain ⟨z0, z1, z2, fzz⟩ := C.zero3 hz
  have hg2 : W.grownBy w2 (some b) := C.grown_trans Hg1.out (C.below_grown (((Below.refl w1.heap.size w1).alloc (Nat.le_refl _) _).trans (hb.mono (by simp))))
  have rd2 : C.Rd 122 w0 b (D.raw q) r w2 := ⟨⟨ao, c, hy, Hx.out.2⟩, hge⟩
  have A1 := C.far3 rd2 hg2 (j := w1.heap.size) (by omega) hbl (.int .u8 o.k) (.int .i64 o.n) (.string o.t)
  have A2 := C.put_rd (p := p) A1.1 A1.2
  have R := Lib.hid (C.far3 A2.1 A2.2 (Nat.le_refl _) hbl (.int .u8 o.k) (.int .i64 o.n) (.string o.t))
  clear hb d0 d1 d2 d3 fz1 rd2 A1 A2 hy hu hz hg2
  go_wp2
  refine bodyPost_ret (v := .agg #[.int .u8 o.k, .int .i64 o.n, .string o.t]) ?_ rfl ?_
  · simp [results, Try.results90, go_sem, z0, z1, z2]
  · exact ⟨rfl, R.out.1, R.out.2⟩
set_option maxRecDepth 100000 in
set_option maxHeartbeats 2000000 in
theorem capart_cons (w0 : World) (b : Nat) (q : D.Q) (r : List D.Q) (W : World) (h : C.Rd 122 w0 b (D.raw q) r W) (hq : D.in1 q ≤ 1000000000) :
    Calls Try.prog 82 #[.pointer (some ⟨b, 0, none⟩)] W fun e W' => e = .returned (.bool (((D.in1 q : Nat) : Int) == 0)) ∧ Below W.heap.size W W' := by
  have HE := Lib.hid (cended_any w0 b (D.raw q) r W h)
  have HS := Lib.hid (csize_any q W hq)
  have hk : ((D.raw q).k == 0) = false := by cases q <;> rfl
  rw [hk] at HE
  obtain ⟨ao, c, hx, hrow, hc⟩ := h.box
  obtain ⟨c0, c1, c2, c3, fz⟩ := C.cells_of hx
  clear h hx hrow
  have HM := fun W => C.cmethod (D.raw q).k (D.raw q).n (D.raw q).t W
  go_enter Try.func82, Try.ntmps82
  go_wp2_with fail
  refine HE.out.mono ?_
  rintro e w1 ⟨rfl, rfl⟩
  go_wp2_with fail
  refine HS.out.mono ?_
  rintro e w1 ⟨rfl, hb⟩
  have hb := Lib.hid hb
  go_wp2
  go_ret
  exact ⟨rfl, hb.out⟩

set_option maxRecDepth 100000 in
theorem capart_nil (w0 : World) (b : Nat) (r : List D.Q) (W : World) (h : C.Rd 122 w0 b C.zero r W) :
    Calls Try.prog 82 #[.pointer (some ⟨b, 0, none⟩)] W fun e W' => e = .returned (.bool false) ∧ Below W.heap.size W W' := by
  have HE := Lib.hid (cended_any w0 b C.zero r W h)
  rw [show (C.zero.k == 0) = true from rfl] at HE
  have hB : Hid (Below W.heap.size W W) := Below.refl _ _
  clear h
  go_enter Try.func82, Try.ntmps82
  go_wp2_with fail
  refine HE.out.mono ?_
  rintro e w1 ⟨rfl, rfl⟩
  go_wp2
  go_ret
  exact ⟨rfl, hB.out⟩
set_option maxRecDepth 100000 in
set_option maxHeartbeats 2000000 in
theorem ccut_n (k N : Int) (n : Nat) (t : ByteArray) (W : World) (hk : k ≠ 2) (h0 : (n : Int) ≤ N) (h1 : N ≤ 1000000000) :
    Calls Try.prog 103 #[.agg #[.int .u8 k, .int .i64 N, .string t], .int .i64 n] W fun e W' => e = .returned (.tuple #[.agg #[.int .u8 k, .int .i64 n, .string t], .agg #[.int .u8 k, .int .i64 (N - n), .string t]]) ∧ Below W.heap.size W W' := by
  have hk' : (k == 2) = false := by simpa using hk
  go_enter Try.func103, Try.ntmps103
  go_wp2
  go_region
  all_goals
    go_wp2
    go_region
  all_goals
    go_wp2
    go_region
  all_goals
    go_wp2
    refine bodyPost_ret (v := .tuple #[.agg #[.int .u8 k, .int .i64 n, .string t], .agg #[.int .u8 k, .int .i64 (N - n), .string t]]) ?_ rfl ⟨rfl, ?_⟩
    · simp [results, Try.results103, go_sem]
    · repeat (first | exact Below.refl _ _ | refine Below.drew ?_ | refine Below.alloc ?_ (by first | exact Nat.le_refl _ | (simp; done) | (simp; omega)) _)
def C.cReadEnd (w0 : World) (d : List D.Q) (V : World) (e : Ending) (w' : World) : Prop := ∃ b, e = .returned (.pointer (some ⟨b, 0, none⟩)) ∧ C.Rd 122 w0 b (C.hdP d) d.tail w' ∧ Below V.heap.size V w'
set_option maxRecDepth 100000 in
theorem cread_any (w0 : World) (ao : Option Addr) (c : Nat) (d : List D.Q) (V : World) (hr : D.Row w0 ao (d.map D.raw)) (hc : d.length ≤ c) (hl : d.length ≤ 1000000) (hB : Below w0.heap.size w0 V) :
    Calls Try.prog 79 #[.slice ao d.length c] V (C.cReadEnd w0 d V) := by
  have hnew := heap_alloc_new V (.cells (C.cells C.zero ao d.length c) 122)
  have rd : C.Rd 122 w0 V.heap.size C.zero d (V.alloc (.cells (C.cells C.zero ao d.length c) 122)) := ⟨⟨ao, c, hnew, hr, hc⟩, hB.size⟩
  have hal : Below V.heap.size V (V.alloc (.cells (C.cells C.zero ao d.length c) 122)) := (Below.refl _ _).alloc (Nat.le_refl _) _
  have HN := Lib.hid (cnext_any w0 V.heap.size C.zero d _ rd (hB.trans (hal.mono hB.size)) hl)
  have hal := Lib.hid hal
  unfold C.cells C.zero at HN hal
  clear hnew rd
  go_enter Try.func79, Try.ntmps79
  go_wp2_with fail
  refine HN.out.mono ?_
  rintro e w2 ⟨rfl, hrd, hg⟩
  have R : Hid (C.cReadEnd w0 d V (.returned (.pointer (some ⟨V.heap.size, 0, none⟩))) w2) := ⟨_, rfl, hrd, hal.out.grown hg hal.out.size (fun k e => by cases e; exact Nat.le_refl _)⟩
  clear hrd hg
  go_wp2
  go_ret
  exact R.out
set_option maxRecDepth 100000 in
set_option maxHeartbeats 2000000 in
theorem pcut_I (t : ByteArray) (n : Nat) (W : World) (h0 : n ≤ t.size) :
    Calls Try.prog 102 #[.agg #[.int .u8 2, .int .i64 0, .string t], .int .i64 n] W fun e W' => e = .returned (.tuple #[.agg #[.int .u8 2, .int .i64 0, .string (t.extract 0 n)], .agg #[.int .u8 2, .int .i64 0, .string (t.extract n t.size)]]) ∧ Below W.heap.size W W' := by
  have hs1 : ∀ w, (Instr.slice 9 (.string t) none (some (.int .i64 (n : Int))) none).run Try.prog w = .ok (.string (t.extract 0 n)) w := fun w => run_slice_string_h w 9 t Try.underlying9 .i64 (n : Int) (by omega) (by omega)
  have hs2 : ∀ w, (Instr.slice 9 (.string t) (some (.int .i64 (n : Int))) none none).run Try.prog w = .ok (.string (t.extract n t.size)) w := fun w => run_slice_string_l w 9 t Try.underlying9 .i64 (n : Int) (by omega) (by omega)
  generalize t.extract 0 n = x at hs1
  generalize t.extract n t.size = y at hs2
  go_enter Try.func102, Try.ntmps102
  go_wp2
  go_region
  all_goals
    go_wp2
    go_region
  all_goals
    go_wp2
    go_region
  all_goals
    go_wp2
    refine bodyPost_ret (v := .tuple #[.agg #[.int .u8 2, .int .i64 0, .string x], .agg #[.int .u8 2, .int .i64 0, .string y]]) ?_ rfl ⟨rfl, ?_⟩
    · simp [results, Try.results102, go_sem]
    · repeat (first | exact Below.refl _ _ | refine Below.drew ?_ | refine Below.alloc ?_ (by first | exact Nat.le_refl _ | (simp; done) | (simp; omega)) _)
end Go.Proofs.Ytmbgcbgbdjiacaa
