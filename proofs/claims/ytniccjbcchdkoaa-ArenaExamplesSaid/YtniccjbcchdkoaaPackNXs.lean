/- Texts joined: NodeOf NodeXs NodeXs2 -/
import Derived.Test.YtniccjbcchdkoaaNodeLaws0
import Derived.Test.YtniccjbcchdkoaaPackNDec
import Derived.Test.YtniccjbcchdkoaaPackDTab
import Derived.Test.YtniccjbcchdkoaaPeel
import Derived.Test.YtniccjbcchdkoaaNodeArgs
/- NodeOf -/
namespace Go.Proofs.Ytniccjbcchdkoaa
open Go.RowKit

/-- The first k of the children whose bytes are given. -/
def N.ofK (l : List Int) (k : Nat) : List N.K := (List.range k).map fun i => ⟨65536 + i, l.getD i 0, l.getD i 0, (i : Int)⟩
theorem N.ofK_len (l : List Int) (k : Nat) : (N.ofK l k).length = k := by simp [N.ofK]
theorem N.ofK_next (l : List Int) (k : Nat) (x : Int) (hx : l[k]? = some x) : N.ofK l (k + 1) = N.ofK l k ++ [⟨65536 + k, x, x, (k : Int)⟩] := by
  unfold N.ofK; rw [List.range_succ, List.map_append]; simp [hx]
theorem N.ofK_fit (l : List Int) (k : Nat) (hk : k ≤ 1000) (hb : ∀ x ∈ l, -9223372036854775808 ≤ x ∧ x < 9223372036854775808) : ∀ p ∈ N.ofK l k, N.Fit p := fun p hp => by
  obtain ⟨i, hi, rfl⟩ := List.mem_map.1 hp
  have := List.mem_range.1 hi
  have hg : -9223372036854775808 ≤ l.getD i 0 ∧ l.getD i 0 < 9223372036854775808 := by
    by_cases h : i < l.length
    · have e : l.getD i 0 = l[i] := by simp [h]
      rw [e]; exact hb _ (List.getElem_mem h)
    · have e : l.getD i 0 = 0 := by simp [Nat.le_of_not_lt h]
      rw [e]; omega
  exact ⟨by dsimp only; omega, hg.1, by dsimp only; omega, hg.1, by dsimp only; omega, by dsimp only; omega, by dsimp only; omega⟩
end Go.Proofs.Ytniccjbcchdkoaa
/- NodeXs -/
namespace Go.Proofs.Ytniccjbcchdkoaa
open Go.RowKit

theorem N.NOk.on {W W' : World} {x : N.NArg} (h : N.NOk W x) (hb : Below W.heap.size W W') : N.NOk W' x := ⟨h.h0, h.h1, h.t, ⟨h.s.row.below hb, h.s.nil, h.s.fits, h.s.fit, h.s.cap⟩⟩
theorem N.Made.cap {l : List N.K} {W W' : World} {v : Value} (m : N.Made l W v W') : ∃ ao c, v = .slice ao l.length c ∧ N.Row W' ao l ∧ (ao = none → c = 0) ∧ l.length ≤ c := by
  obtain ⟨ao, c, hv, hr, hn⟩ := m.src
  refine ⟨ao, c, hv, hr, hn, ?_⟩
  obtain ⟨_, ⟨_, h0⟩ | ⟨g, cap, cur, e', _, _, hnc, _⟩⟩ := m.own
  · rw [h0]; exact Nat.zero_le _
  · rw [hv] at e'; simp at e'; obtain ⟨_, rfl⟩ := e'; exact hnc
/-- Numbers of 64 bits. -/
def N.Bd (l : List Int) : Prop := ∀ x ∈ l, -9223372036854775808 ≤ x ∧ x < 9223372036854775808
theorem N.Bd.nil : N.Bd [] := fun x hx => by cases hx
theorem N.Bd.cons {a : Int} {l : List Int} (h : -9223372036854775808 ≤ a ∧ a < 9223372036854775808) (hl : N.Bd l) : N.Bd (a :: l) := fun x hx => by
  rcases List.mem_cons.1 hx with rfl | hx
  · exact h
  · exact hl x hx
theorem N.of_made {j : Int} (hj : -9223372036854775808 ≤ j ∧ j < 9223372036854775808) {l : List Int} {n : Nat} (hn : l.length = n) (h5 : n ≤ 5) (hb : N.Bd l) {W W' : World} {v : Value} (m : N.Made (N.ofK l l.length) W v W') :
    ∃ o c, v = .slice o n c ∧ N.NOk W' ⟨j, ⟨#[]⟩, ⟨o, c, N.ofK l n⟩⟩ := by
  subst hn
  obtain ⟨ao, c, hv, hr, hnil, hc⟩ := m.cap
  rw [N.ofK_len] at hv
  exact ⟨ao, c, hv, hj.1, hj.2, by show (0 : Nat) ≤ _; omega, hr, hnil, N.ofK_fit l _ (by omega) hb, by show (N.ofK l l.length).length * 32 ≤ _; rw [N.ofK_len]; omega, hc⟩
def N.iv (l : List Int) : List Value := l.map fun x => .int .i64 x
theorem N.vlit (w : World) (l : List Value) (t : TypeId) : V.Row (w.alloc (.cells l.toArray t)) (some ⟨w.heap.size, 0, none⟩) l := fun i x hx => by
  refine ⟨w.heap.size, 0, rfl, by simp, ?_⟩
  rw [Nat.zero_add, Lib.cell_of_heap (heap_alloc_new w _)]; simpa using hx
/-- Nodes that stand since w. -/
structure N.Xl (w W : World) (xs : List N.NArg) : Prop where
  below : Below w.heap.size w W
  ok : ∀ x ∈ xs, N.NOk W x
theorem N.Xl.on {w W W' : World} {xs : List N.NArg} (h : N.Xl w W xs) (hb : Below W.heap.size W W') : N.Xl w W' xs := ⟨h.below.trans (hb.mono h.below.size), fun x hx => (h.ok x hx).on hb⟩
theorem N.Xl.add {w W : World} {xs : List N.NArg} (h : N.Xl w W xs) {x : N.NArg} (hx : N.NOk W x) : N.Xl w W (xs ++ [x]) := ⟨h.below, fun y hy => by
  rcases List.mem_append.1 hy with hy | hy
  · exact h.ok y hy
  · rw [List.mem_singleton.1 hy]; exact hx⟩
/-! ### A row of nodes -/
def N.c3 (x : N.NArg) : List Value := [.int .i64 x.h, .string x.t, .slice x.s.a x.s.x.length x.s.c]
theorem N.c3_at (xs : List N.NArg) (i : Nat) (x : N.NArg) (h : xs[i]? = some x) :
    (xs.flatMap N.c3)[i * 3]? = some (.int .i64 x.h) ∧ (xs.flatMap N.c3)[i * 3 + 1]? = some (.string x.t) ∧ (xs.flatMap N.c3)[i * 3 + 2]? = some (.slice x.s.a x.s.x.length x.s.c) := by
  induction xs generalizing i with
  | nil => simp at h
  | cons q xs ih =>
    have hc : (q :: xs).flatMap N.c3 = .int .i64 q.h :: .string q.t :: .slice q.s.a q.s.x.length q.s.c :: xs.flatMap N.c3 := by simp [N.c3]
    rw [hc]
    cases i with
    | zero => simp at h; subst h; exact ⟨rfl, rfl, rfl⟩
    | succ i =>
      obtain ⟨h0, h1, h2⟩ := ih i (by simpa using h)
      have e0 : (i + 1) * 3 = i * 3 + 3 := by omega
      refine ⟨?_, ?_, ?_⟩
      · rw [e0]; exact h0
      · rw [show (i + 1) * 3 + 1 = i * 3 + 1 + 3 by omega]; exact h1
      · rw [show (i + 1) * 3 + 2 = i * 3 + 2 + 3 by omega]; exact h2
structure N.Lt (w : World) (b : Nat) (xs : List N.NArg) (W : World) : Prop where
  below : Below w.heap.size w W
  lt : b < W.heap.size
  ok : ∀ x ∈ xs, N.NOk W x
  cell : ∀ (i : Nat) (x : N.NArg), xs[i]? = some x → W.cell? ⟨b, i * 3, none⟩ = some (.int .i64 x.h) ∧ W.cell? ⟨b, i * 3 + 1, none⟩ = some (.string x.t) ∧ W.cell? ⟨b, i * 3 + 2, none⟩ = some (.slice x.s.a x.s.x.length x.s.c)
theorem N.Lt.on {w W W' : World} {b : Nat} {xs : List N.NArg} (h : N.Lt w b xs W) (hb : Below W.heap.size W W') : N.Lt w b xs W' :=
  ⟨h.below.trans (hb.mono h.below.size), Nat.lt_of_lt_of_le h.lt hb.size, fun x hx => (h.ok x hx).on hb, fun i x hx => by
    obtain ⟨h0, h1, h2⟩ := h.cell i x hx
    have hc := (D.bcell hb).1
    exact ⟨(hc _ _ h.lt).trans h0, (hc _ _ h.lt).trans h1, (hc _ _ h.lt).trans h2⟩⟩
theorem N.Lt.drew {w W : World} {b : Nat} {xs : List N.NArg} (h : N.Lt w b xs W) : N.Lt w b xs W.drew := h.on (Below.refl _ _).drew
theorem N.Lt.new {w W : World} {xs : List N.NArg} (Z : N.Xl w W xs) (T : TypeId) : N.Lt w W.heap.size xs (W.alloc (.cells (xs.flatMap N.c3).toArray T)) := by
  have hb : Below W.heap.size W (W.alloc (.cells (xs.flatMap N.c3).toArray T)) := (Below.refl _ _).alloc (Nat.le_refl _) _
  refine ⟨(Z.on hb).below, by simp, (Z.on hb).ok, fun i x hx => ?_⟩
  have key : ∀ (j : Nat) (u : Value), (xs.flatMap N.c3)[j]? = some u → (W.alloc (.cells (xs.flatMap N.c3).toArray T)).cell? ⟨W.heap.size, j, none⟩ = some u := fun j u hu => by
    rw [Lib.cell_of_heap (heap_alloc_new W _)]; simpa using hu
  obtain ⟨h0, h1, h2⟩ := N.c3_at xs i x hx
  exact ⟨key _ _ h0, key _ _ h1, key _ _ h2⟩
/-- Behind a literal row of nodes: the row is a letter. -/
theorem N.lt_all {w W : World} {xs : List N.NArg} (Z : N.Xl w W xs) (T : TypeId) (n : Nat) (hn : xs.length = n) (cs : Array Value) (hc : (xs.flatMap N.c3).toArray = cs) {R : World → Prop}
    (h : ∀ (ys : List N.NArg) (V : World), ys.length = n → Hid (N.Lt w W.heap.size ys V) → R V) : R (W.alloc (.cells cs T)) := by
  subst hc
  exact h xs _ hn (N.Lt.new Z T)
/-! ### A row of texts, and one of children -/
structure N.Tx (w : World) (b : Nat) (l : List ByteArray) (W : World) : Prop where
  below : Below w.heap.size w W
  lt : b < W.heap.size
  cell : ∀ (i : Nat) (t : ByteArray), l[i]? = some t → W.cell? ⟨b, i, none⟩ = some (.string t)
theorem N.Tx.on {w W W' : World} {b : Nat} {l : List ByteArray} (h : N.Tx w b l W) (hb : Below W.heap.size W W') : N.Tx w b l W' :=
  ⟨h.below.trans (hb.mono h.below.size), Nat.lt_of_lt_of_le h.lt hb.size, fun i x hx => ((D.bcell hb).1 _ _ h.lt).trans (h.cell i x hx)⟩
theorem N.Tx.drew {w W : World} {b : Nat} {l : List ByteArray} (h : N.Tx w b l W) : N.Tx w b l W.drew := h.on (Below.refl _ _).drew
theorem N.tx_all {w W : World} (B : Below w.heap.size w W) (l : List ByteArray) (T : TypeId) (cs : Array Value) (hc : (l.map fun t => Value.string t).toArray = cs) {R : World → Prop}
    (h : ∀ V : World, Hid (N.Tx w W.heap.size l V) → R V) : R (W.alloc (.cells cs T)) := by
  subst hc
  refine h _ ⟨B.alloc B.size _, by simp, fun i t ht => ?_⟩
  rw [Lib.cell_of_heap (heap_alloc_new W _)]
  simp [ht]
structure N.Ks (w : World) (b : Nat) (l : List N.K) (W : World) : Prop where
  below : Below w.heap.size w W
  lt : b < W.heap.size
  row : N.Row W (some ⟨b, 0, none⟩) l
theorem N.Ks.on {w W W' : World} {b : Nat} {l : List N.K} (h : N.Ks w b l W) (hb : Below W.heap.size W W') : N.Ks w b l W' :=
  ⟨h.below.trans (hb.mono h.below.size), Nat.lt_of_lt_of_le h.lt hb.size, h.row.below hb⟩
theorem N.Ks.cell {w W : World} {b : Nat} {l : List N.K} (h : N.Ks w b l W) {i : Nat} {p : N.K} (hp : l[i]? = some p) :
    W.cell? ⟨b, i * 4, none⟩ = some (.int .u64 (p.at_ : Int)) ∧ W.cell? ⟨b, i * 4 + 1, none⟩ = some (.int .i64 p.b) ∧ W.cell? ⟨b, i * 4 + 2, none⟩ = some (.int .i64 p.r) ∧ W.cell? ⟨b, i * 4 + 3, none⟩ = some (.int .i64 p.l) := by
  obtain ⟨b', o, e, _, h0⟩ := h.row i p hp
  cases e
  simpa using h0
theorem N.ks_all {w W : World} (B : Below w.heap.size w W) (l : List N.K) (cs : Array Value) (hc : (N.cells l).toArray = cs) {R : World → Prop}
    (h : ∀ V : World, Hid (N.Ks w W.heap.size l V) → R V) : R (W.alloc (.cells cs 50)) := by
  subst hc
  exact h _ ⟨B.alloc B.size _, by simp, N.row_lit W l⟩
end Go.Proofs.Ytniccjbcchdkoaa
/- NodeXs2 -/
namespace Go.Proofs.Ytniccjbcchdkoaa
open Go.RowKit

theorem N.own_set {W : World} {base m n g c : Nat} {e : TypeId} {xs : List Value} (h : W.ownsRow base e m (.slice (some ⟨g, 0, none⟩) n c) n xs) (i : Nat) (u : Value) : (W.setCell ⟨g, i, none⟩ u).ownsRow base e m (.slice (some ⟨g, 0, none⟩) n c) n (xs.set i u) := by
  obtain ⟨hl, ⟨e', _⟩ | ⟨g', cap, cur, e', hb, hg, hnc, hcm, hcs, ht⟩⟩ := h
  · cases e'
  · cases e'
    refine ⟨by rw [List.length_set]; exact hl, .inr ⟨g, c, cur.setIfInBounds i u, rfl, hb, by rw [heap_setCell_same W g i _ _ _ hg], hnc, hcm, by rw [Array.size_setIfInBounds]; exact hcs, ?_⟩⟩
    rw [Array.toList_setIfInBounds, List.take_set, ht]
theorem N.own_cell {W : World} {base m n g c : Nat} {e : TypeId} {xs : List Value} (h : W.ownsRow base e m (.slice (some ⟨g, 0, none⟩) n c) n xs) {i : Nat} {u : Value} (hu : xs[i]? = some u) : W.cell? ⟨g, i, none⟩ = some u ∧ W.frozen? ⟨g, i, none⟩ = false := by
  obtain ⟨hl, ⟨e', _⟩ | ⟨g', cap, cur, e', hb, hg, hnc, hcm, hcs, ht⟩⟩ := h
  · cases e'
  · cases e'
    have hi := (List.getElem?_eq_some_iff.1 hu).1
    rw [← ht, List.getElem?_take, if_pos (by rw [← hl]; exact hi)] at hu
    exact ⟨by rw [cell_of_row W g _ cur _ _ hg]; simpa using hu, frozen_of_row _ _ _ _ _ hg⟩
/-- A node that a call has made, as an argument of another. -/
theorem N.ok_made {j : Int} (hj : -9223372036854775808 ≤ j ∧ j < 9223372036854775808) {t : ByteArray} (ht : t.size ≤ 1000) {l : List N.K} (h5 : l.length ≤ 5) (hf : ∀ p ∈ l, N.Fit p) {W W' : World} {o : Option Addr} {n c : Nat} (m : N.Made l W (.slice o n c) W') :
    N.NOk W' ⟨j, t, ⟨o, c, l⟩⟩ := by
  obtain ⟨ao, c', hv, hr, hnil, hc⟩ := m.cap
  cases hv
  exact ⟨hj.1, hj.2, by show t.size ≤ _; omega, hr, hnil, hf, by show l.length * 32 ≤ _; omega, hc⟩
@[reducible] def N.put4 (W : World) (g : Nat) (p : N.K) : World := (((W.setCell ⟨g, 4, none⟩ (.int .u64 (p.at_ : Int))).setCell ⟨g, 5, none⟩ (.int .i64 p.b)).setCell ⟨g, 6, none⟩ (.int .i64 p.r)).setCell ⟨g, 7, none⟩ (.int .i64 p.l)
theorem N.put4_far (W : World) {g b : Nat} (h : b ≠ g) (p : N.K) (o : Nat) : (N.put4 W g p).cell? ⟨b, o, none⟩ = W.cell? ⟨b, o, none⟩ := by
  have q1 : ∀ i j : Nat, (⟨g, i, none⟩ : Addr) ≠ ⟨b, j, none⟩ := fun i j e => h (by injection e with e1; exact e1.symm)
  have q2 : ∀ i j : Nat, (⟨b, j, none⟩ : Addr) ≠ ⟨g, i, none⟩ := fun i j e => h (by injection e)
  unfold N.put4
  rw [World.cell?_setCell_other _ _ _ _ (by first | exact q1 _ _ | exact q2 _ _), World.cell?_setCell_other _ _ _ _ (by first | exact q1 _ _ | exact q2 _ _), World.cell?_setCell_other _ _ _ _ (by first | exact q1 _ _ | exact q2 _ _), World.cell?_setCell_other _ _ _ _ (by first | exact q1 _ _ | exact q2 _ _)]
theorem N.put4_size (W : World) (g : Nat) (p : N.K) : (N.put4 W g p).heap.size = W.heap.size := by simp
/-- The children that stand in the row of the second part. -/
def N.kl : List N.K := [⟨0, 0, 0, 0⟩, ⟨65536, 0, 0, 0⟩, ⟨65536, 8, -1, 0⟩, ⟨65536, 8, 9, 0⟩, ⟨65536, 8, 8, -1⟩, ⟨65536, 8, 4, 5⟩, ⟨1, 8, 0, 0⟩, ⟨65536, 9223372036854775807, 0, 0⟩, ⟨65536, -9223372036854775808, 0, 0⟩]
theorem N.kl_fit : ∀ p ∈ N.kl, N.Fit p := fun p hp => by
  unfold N.kl at hp
  simp only [List.mem_cons, List.not_mem_nil, or_false] at hp
  rcases hp with rfl | rfl | rfl | rfl | rfl | rfl | rfl | rfl | rfl <;> exact ⟨by decide, by decide, by decide, by decide, by decide, by decide, by decide⟩
structure N.Bx (w W1 : World) (q g c bx : Nat) (l : List N.K) (W : World) : Prop where
  made : N.Made l W1 (.slice (some ⟨g, 0, none⟩) 2 c) W
  len : l.length = 2
  box : N.Nb W bx 1 ⟨#[]⟩ (.slice (some ⟨g, 0, none⟩) 2 c)
  ks : N.Ks w q N.kl W
  ne : bx ≠ g
  lo : q < W1.heap.size ∧ w.heap.size ≤ W1.heap.size
theorem N.Bx.glo {w W1 : World} {q g c bx : Nat} {l : List N.K} {W : World} (x : N.Bx w W1 q g c bx l W) : W1.heap.size ≤ g ∧ g < W.heap.size := x.made.own.lt g rfl
theorem N.Bx.on {w W1 : World} {q g c bx : Nat} {l : List N.K} {W W' : World} (x : N.Bx w W1 q g c bx l W) (hb : Below W.heap.size W W') : N.Bx w W1 q g c bx l W' := ⟨x.made.kept hb, x.len, x.box.below hb, x.ks.on hb, x.ne, x.lo⟩
theorem N.Bx.new {w W1 v1 : World} {q : Nat} {v : Value} (ks : N.Ks w q N.kl W1) (m : N.Made (N.ofK [8, 8] ([8, 8] : List Int).length) W1 v v1) :
    ∃ g c, v = .slice (some ⟨g, 0, none⟩) 2 c ∧ Hid (N.Bx w W1 q g c v1.heap.size (N.ofK [8, 8] 2) (v1.alloc (.cells #[.int .i64 1, .string ⟨#[]⟩, .slice (some ⟨g, 0, none⟩) 2 c] 30))) := by
  obtain ⟨_, ⟨_, h0⟩ | ⟨g, c, cur, e, _⟩⟩ := m.own
  · exact absurd h0 (by decide)
  · have e2 : v = .slice (some ⟨g, 0, none⟩) 2 c := e
    subst e2
    have hlt := (m.own.lt g rfl).2
    have hb : Below v1.heap.size v1 (v1.alloc (.cells #[.int .i64 1, .string ⟨#[]⟩, .slice (some ⟨g, 0, none⟩) 2 c] 30)) := (Below.refl _ _).alloc (Nat.le_refl _) _
    exact ⟨g, c, rfl, m.kept hb, by decide, N.Nb.new v1 1 ⟨#[]⟩ _ _, (ks.on m.below).on hb, by omega, ks.lt, ks.below.size⟩
theorem N.Bx.far {w W1 : World} {q g c bx : Nat} {l : List N.K} {W : World} (x : N.Bx w W1 q g c bx l W) (j : Nat) (hj : j < 8) : (∃ u, W.cell? ⟨g, j, none⟩ = some u) ∧ W.frozen? ⟨g, j, none⟩ = false := by
  have hl : (N.cells l).length = 8 := by rw [N.cells_len, x.len]
  have ho := x.made.own
  rw [x.len] at ho
  obtain ⟨h1, h2⟩ := N.own_cell ho (i := j) (u := (N.cells l)[j]) (List.getElem?_eq_getElem (by omega))
  exact ⟨⟨_, h1⟩, h2⟩
theorem N.Bx.put {w W1 : World} {q g c bx : Nat} {l : List N.K} {W : World} (x : N.Bx w W1 q g c bx l W) (p : N.K) : N.Bx w W1 q g c bx (l.set 1 p) (N.put4 W g p) := by
  obtain ⟨g1, g2⟩ := x.glo
  have hq : q ≠ g := by have := x.lo.1; omega
  have hw := x.lo.2
  refine ⟨⟨?_, ?_⟩, by rw [List.length_set]; exact x.len, ?_, ?_, x.ne, x.lo⟩
  · have ho := x.made.own
    have hl := x.len
    match l, hl with
    | [a, b], _ =>
      have h4 := N.own_set (N.own_set (N.own_set (N.own_set ho 4 (.int .u64 (p.at_ : Int))) 5 (.int .i64 p.b)) 6 (.int .i64 p.r)) 7 (.int .i64 p.l)
      exact h4
  · exact N.setCell_below (N.setCell_below (N.setCell_below (N.setCell_below x.made.below g1 _) g1 _) g1 _) g1 _
  · exact ⟨by rw [N.put4_size]; exact x.box.lt, (N.put4_far W x.ne p 0).trans x.box.c0, (N.put4_far W x.ne p 1).trans x.box.c1, (N.put4_far W x.ne p 2).trans x.box.c2⟩
  · refine ⟨?_, by rw [N.put4_size]; exact x.ks.lt, fun i r hr => ?_⟩
    · have hg : w.heap.size ≤ g := by omega
      exact N.setCell_below (N.setCell_below (N.setCell_below (N.setCell_below x.ks.below hg _) hg _) hg _) hg _
    · obtain ⟨b, o, e, hb, h0, h1, h2, h3⟩ := x.ks.row i r hr
      cases e
      exact ⟨q, 0, rfl, by rw [N.put4_size]; exact hb, (N.put4_far W hq p _).trans h0, (N.put4_far W hq p _).trans h1, (N.put4_far W hq p _).trans h2, (N.put4_far W hq p _).trans h3⟩
theorem N.Bx.ok {w W1 : World} {q g c bx : Nat} {l : List N.K} {W : World} (x : N.Bx w W1 q g c bx l W) (hf : ∀ p ∈ l, N.Fit p) : N.NOk W ⟨1, ⟨#[]⟩, ⟨some ⟨g, 0, none⟩, c, l⟩⟩ := N.ok_made (by omega) (by decide) (by have := x.len; omega) hf x.made
/-- A leaf. -/
theorem N.ok_leaf (t : ByteArray) (ht : t.size ≤ 1000) (V : World) : N.NOk V ⟨0, t, ⟨none, 0, []⟩⟩ :=
  ⟨by show _ ≤ (0 : Int); omega, by show (0 : Int) < _; omega, by show t.size ≤ _; omega, N.row_nil _ _, (fun _ => rfl), (fun p hp => by cases hp), Nat.zero_le _, Nat.zero_le _⟩
end Go.Proofs.Ytniccjbcchdkoaa
