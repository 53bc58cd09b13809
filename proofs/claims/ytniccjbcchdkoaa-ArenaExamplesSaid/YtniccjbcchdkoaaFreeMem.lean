/- Lists of slots as they lie in memory: the program's (package freelist) and the reference's (layer 11). -/
import Derived.Test.YtniccjbcchdkoaaFreeMath
import Derived.Test.YtniccjbcchdkoaaHandRow
namespace Go.Proofs.Ytniccjbcchdkoaa
open Go.RowKit

/-- The blocks of R may be turned, all others that were there are as they were. -/
structure FL.But (R : Nat → Prop) (w w' : World) : Prop where
  os : w'.os = w.os
  tape : w'.tape = w.tape
  output : w'.output = w.output
  size : w.heap.size ≤ w'.heap.size
  block : ∀ k, k < w.heap.size → ¬ R k → w'.heap[k]? = w.heap[k]?
theorem FL.But.refl (R : Nat → Prop) (w : World) : FL.But R w w := ⟨rfl, rfl, rfl, Nat.le_refl _, fun _ _ _ => rfl⟩
theorem FL.But.trans {R : Nat → Prop} {a b c : World} (h : FL.But R a b) (k : FL.But R b c) : FL.But R a c :=
  ⟨k.os.trans h.os, k.tape.trans h.tape, k.output.trans h.output, Nat.le_trans h.size k.size, fun i hi hr => (k.block i (Nat.lt_of_lt_of_le hi h.size) hr).trans (h.block i hi hr)⟩
theorem FL.But.below {R : Nat → Prop} {w w' : World} (h : Below w.heap.size w w') : FL.But R w w' := ⟨h.os, h.tape, h.output, h.size, fun k hk _ => h.block k hk⟩
theorem FL.But.set {R : Nat → Prop} (w : World) {b o : Nat} (v : Value) (hb : R b) : FL.But R w (w.setCell ⟨b, o, none⟩ v) :=
  have e := (Below.refl b w).setCell (p := ⟨b, o, none⟩) (Nat.le_refl _) v
  ⟨e.os, e.tape, e.output, e.size, fun k _ hr => Below.heap_setCell w ⟨b, o, none⟩ v k (fun e => hr (by rw [e]; exact hb))⟩
theorem FL.But.grown {R : Nat → Prop} {w w' : World} {row : Option Nat} (h : w.grownBy w' row) (hr : ∀ k, row = some k → R k) : FL.But R w w' :=
  ⟨h.os, h.tape, h.output, h.size, fun k hk hn => h.block k hk (fun e => hn (hr k e.symm))⟩
/-- Whatever lies below the blocks of R is as it was. -/
theorem FL.But.toBelow {R : Nat → Prop} {n : Nat} {u w w' : World} (h : FL.But R w w') (hb : Below n u w) (hn : n ≤ w.heap.size) (hR : ∀ k, R k → n ≤ k) : Below n u w' :=
  ⟨h.os.trans hb.os, h.tape.trans hb.tape, h.output.trans hb.output, Nat.le_trans hb.size h.size, fun k hk => (h.block k (by omega) (fun c => by have := hR k c; omega)).trans (hb.block k hk)⟩
theorem FL.But.row {R : Nat → Prop} {w w' : World} (h : FL.But R w w') {base : Nat} {e : TypeId} {size n : Nat} {v : Value} {xs : List Value} (ho : w.ownsRow base e size v n xs) (hR : ∀ k, v.ownBlock = some k → ¬ R k) : w'.ownsRow base e size v n xs := by
  refine ⟨ho.1, ?_⟩
  rcases ho.2 with hn | ⟨g, cap, cur, rfl, hb, hg, rest⟩
  · exact .inl hn
  · refine .inr ⟨g, cap, cur, rfl, hb, ?_, rest⟩
    rw [h.block g (Array.getElem?_eq_some_iff.1 hg).1 (hR g rfl)]; exact hg

/-! ### Rows of numbers, of yes and no -/
def FL.ints (l : List Nat) : List Value := l.map fun (n : Nat) => .int .i64 (n : Int)
def FL.bools (l : List Bool) : List Value := l.map Value.bool
theorem FL.ints_at {l : List Nat} {i x : Nat} (h : l[i]? = some x) : (FL.ints l)[i]? = some (.int .i64 (x : Int)) := by unfold FL.ints; rw [List.getElem?_map, h]; rfl
theorem FL.u_at {l : List Nat} {i x : Nat} (h : l[i]? = some x) : (H.row l)[i]? = some (.int .u64 (x : Int)) := by unfold H.row; rw [List.getElem?_map, h]; rfl
theorem FL.b_at {l : List Bool} {i : Nat} {x : Bool} (h : l[i]? = some x) : (FL.bools l)[i]? = some (.bool x) := by unfold FL.bools; rw [List.getElem?_map, h]; rfl
theorem FL.ints_set (l : List Nat) (i x : Nat) : (FL.ints l).set i (.int .i64 (x : Int)) = FL.ints (l.set i x) := by unfold FL.ints; rw [List.map_set]
theorem FL.u_set (l : List Nat) (i x : Nat) : (H.row l).set i (.int .u64 (x : Int)) = H.row (l.set i x) := by unfold H.row; rw [List.map_set]; rfl
theorem FL.b_set (l : List Bool) (i : Nat) (x : Bool) : (FL.bools l).set i (.bool x) = FL.bools (l.set i x) := by unfold FL.bools; rw [List.map_set]
/-- A row of n of c places in the whole of a block. -/
def FL.Rw (W : World) (g n c : Nat) (e : TypeId) (xs : List Value) : Prop := W.ownsRow g e 1 (.slice (some ⟨g, 0, none⟩) n c) n xs
theorem FL.Rw.block {W : World} {g n c : Nat} {e : TypeId} {xs : List Value} (h : FL.Rw W g n c e xs) : ∃ cur, W.heap[g]? = some (.cells cur e (0, 0)) ∧ n ≤ c ∧ c ≤ maxLen ∧ cur.size = c ∧ cur.toList.take n = xs ∧ xs.length = n := by
  obtain ⟨hl, ⟨e', _⟩ | ⟨g', cap, cur, e', hb, hg, hnc, hcm, hcs, ht⟩⟩ := h
  · cases e'
  · cases e'
    rw [Nat.mul_one] at hl hcs ht
    exact ⟨cur, hg, hnc, hcm, hcs, ht, hl⟩
theorem FL.Rw.mk {W : World} {g n c : Nat} {e : TypeId} {xs : List Value} {cur : Array Value} (hg : W.heap[g]? = some (.cells cur e (0, 0))) (h1 : n ≤ c) (h2 : c ≤ maxLen) (h3 : cur.size = c) (h4 : cur.toList.take n = xs) (h5 : xs.length = n) : FL.Rw W g n c e xs :=
  ⟨by omega, .inr ⟨g, c, cur, rfl, Nat.le_refl _, hg, h1, h2, by omega, by rw [Nat.mul_one]; exact h4⟩⟩
theorem FL.Rw.lt {W : World} {g n c : Nat} {e : TypeId} {xs : List Value} (h : FL.Rw W g n c e xs) : g < W.heap.size := by
  obtain ⟨cur, hg, _⟩ := h.block
  exact (Array.getElem?_eq_some_iff.1 hg).1
theorem FL.Rw.but {W W' : World} {R : Nat → Prop} {g n c : Nat} {e : TypeId} {xs : List Value} (h : FL.Rw W g n c e xs) (hb : FL.But R W W') (hg : ¬ R g) : FL.Rw W' g n c e xs := hb.row h (fun k e => by cases e; exact hg)
theorem FL.Rw.cell {W : World} {g n c : Nat} {e : TypeId} {xs : List Value} (h : FL.Rw W g n c e xs) {i : Nat} {u : Value} (hu : xs[i]? = some u) : W.cell? ⟨g, i, none⟩ = some u ∧ W.frozen? ⟨g, i, none⟩ = false := by
  have := V.own_cell h hu
  exact ⟨this.1, this.2.1⟩
theorem FL.Rw.set {W : World} {g n c : Nat} {e : TypeId} {xs : List Value} (h : FL.Rw W g n c e xs) (i : Nat) (u : Value) : FL.Rw (W.setCell ⟨g, i, none⟩ u) g n c e (xs.set i u) := V.own_set h i u
/-- A row is cut at its end. -/
theorem FL.Rw.cut {W : World} {g n c : Nat} {e : TypeId} {xs : List Value} (h : FL.Rw W g n c e xs) {m : Nat} (hm : m ≤ n) : FL.Rw W g m c e (xs.take m) := by
  obtain ⟨cur, hg, h1, h2, h3, h4, h5⟩ := h.block
  exact FL.Rw.mk hg (by omega) h2 h3 (by rw [← h4, List.take_take]; congr 1; omega) (by rw [List.length_take]; omega)
/-- A block apart from the one that is written. -/
theorem FL.Rw.off {W : World} {g n c : Nat} {e : TypeId} {xs : List Value} (h : FL.Rw W g n c e xs) {b o : Nat} (v : Value) (hb : g ≠ b) : FL.Rw (W.setCell ⟨b, o, none⟩ v) g n c e xs :=
  h.but (R := fun k => k = b) (FL.But.set W v rfl) hb
theorem FL.heap_off (W : World) {b o k : Nat} (v : Value) (h : k ≠ b) : (W.setCell ⟨b, o, none⟩ v).heap[k]? = W.heap[k]? := Below.heap_setCell W ⟨b, o, none⟩ v k h

/-! ### The program's list -/
/-- The generations as the program keeps them: that of a withdrawn slot is beyond the limit. -/
def FL.S.gl (s : FL.S) : List Nat := (List.range s.st.length).map fun i => if s.at_ i = 2 then s.gens + 1 else s.gn i
def FL.S.tl (s : FL.S) : List Bool := (List.range s.st.length).map fun i => decide (s.at_ i = 1)
theorem FL.range_at {α : Type} (f : Nat → α) {n i : Nat} (h : i < n) : ((List.range n).map f)[i]? = some (f i) := by
  rw [List.getElem?_map, List.getElem?_range h]; rfl
theorem FL.range_set {α : Type} (f g : Nat → α) (n x : Nat) (v : α) (hx : x < n → g x = v) (h : ∀ i, i ≠ x → i < n → g i = f i) : ((List.range n).map f).set x v = (List.range n).map g := by
  apply List.ext_getElem?
  intro i
  rw [List.getElem?_set]
  by_cases hi : i < n
  · rw [FL.range_at g hi]
    by_cases e : x = i
    · subst e; rw [if_pos rfl, if_pos (by simpa using hi), hx hi]
    · rw [if_neg e, FL.range_at f hi, h i (fun c => e c.symm) hi]
  · rw [List.getElem?_eq_none (l := (List.range n).map g) (by simp; omega)]
    split
    · rw [if_neg (by simp; omega)]
    · rw [List.getElem?_eq_none (by simp; omega)]
theorem FL.range_same {α : Type} (f g : Nat → α) {n m : Nat} (e : m = n) (h : ∀ i, i < n → g i = f i) : (List.range m).map g = (List.range n).map f := by
  subst e; exact List.map_congr_left fun i hi => h i (List.mem_range.1 hi)
theorem FL.gl_len (s : FL.S) : s.gl.length = s.st.length := by simp [FL.S.gl]
theorem FL.tl_len (s : FL.S) : s.tl.length = s.st.length := by simp [FL.S.tl]
theorem FL.gl_at {s : FL.S} {i : Nat} (h : i < s.st.length) : s.gl[i]? = some (if s.at_ i = 2 then s.gens + 1 else s.gn i) := FL.range_at _ h
theorem FL.tl_at {s : FL.S} {i : Nat} (h : i < s.st.length) : s.tl[i]? = some (decide (s.at_ i = 1)) := FL.range_at _ h
theorem FL.gl_new (n g : Nat) : (FL.new n g).gl = List.replicate n 1 := by
  have l : (FL.new n g).st.length = n := List.length_replicate
  unfold FL.S.gl
  rw [l]
  apply List.ext_getElem?
  intro i
  by_cases hi : i < n
  · rw [FL.range_at _ hi, List.getElem?_replicate, if_pos hi]
    have a : (FL.new n g).at_ i = 0 := by unfold FL.S.at_ FL.new; rw [List.getD_eq_getElem?_getD, List.getElem?_replicate, if_pos hi]; rfl
    have b : (FL.new n g).gn i = 1 := by unfold FL.S.gn FL.new; rw [List.getD_eq_getElem?_getD, List.getElem?_replicate, if_pos hi]; rfl
    rw [a, b]; rfl
  · rw [List.getElem?_eq_none (by simp; omega), List.getElem?_eq_none (by simp; omega)]
theorem FL.tl_new (n g : Nat) : (FL.new n g).tl = List.replicate n false := by
  have l : (FL.new n g).st.length = n := List.length_replicate
  unfold FL.S.tl
  rw [l]
  apply List.ext_getElem?
  intro i
  by_cases hi : i < n
  · rw [FL.range_at _ hi, List.getElem?_replicate, if_pos hi]
    have a : (FL.new n g).at_ i = 0 := by unfold FL.S.at_ FL.new; rw [List.getD_eq_getElem?_getD, List.getElem?_replicate, if_pos hi]; rfl
    rw [a]; rfl
  · rw [List.getElem?_eq_none (by simp; omega), List.getElem?_eq_none (by simp; omega)]
theorem FL.gl_tk {s : FL.S} (v : FL.Inv s) {x : Nat} {r : List Nat} (h : s.stk = x :: r) : s.tk.gl = s.gl := by
  have t := FL.tk_cons v h
  unfold FL.S.gl
  refine FL.range_same _ _ t.len fun i _ => ?_
  rw [t.at_, t.gn, t.gens]
  by_cases c : i = x
  · subst c; rw [if_pos rfl, t.was]; rfl
  · rw [if_neg c]
theorem FL.tl_tk {s : FL.S} (v : FL.Inv s) {x : Nat} {r : List Nat} (h : s.stk = x :: r) : s.tl.set x true = s.tk.tl := by
  have t := FL.tk_cons v h
  unfold FL.S.tl
  rw [t.len]
  refine FL.range_set _ _ _ _ _ (fun _ => by rw [t.at_, if_pos rfl]; rfl) (fun i hi _ => by rw [t.at_, if_neg hi])
theorem FL.gl_gv {s : FL.S} (v : FL.Inv s) {h : Nat} (k : s.live h = true) : s.gl.set (H.slot h) (s.gn (H.slot h) + 1) = (s.gv h).gl := by
  have t := FL.gv_yes v k
  unfold FL.S.gl
  rw [t.len]
  refine FL.range_set _ _ _ _ _ (fun _ => ?_) (fun i hi _ => by
    have e : ¬ (i = H.slot h ∧ s.gn (H.slot h) ≠ s.gens) := fun x => hi x.1
    rw [t.at_, if_neg hi, t.gn, t.gens, if_neg e])
  rw [t.at_, if_pos rfl, t.gn, t.gens]
  by_cases d : s.gn (H.slot h) = s.gens
  · rw [if_pos d, if_pos rfl, d]
  · rw [if_neg d, if_neg (by decide), if_pos ⟨rfl, d⟩]
theorem FL.tl_gv {s : FL.S} (v : FL.Inv s) {h : Nat} (k : s.live h = true) : s.tl.set (H.slot h) false = (s.gv h).tl := by
  have t := FL.gv_yes v k
  unfold FL.S.tl
  rw [t.len]
  refine FL.range_set _ _ _ _ _ (fun _ => ?_) (fun i hi _ => by rw [t.at_, if_neg hi])
  rw [t.at_, if_pos rfl]
  split <;> rfl
theorem FL.stk_len {s : FL.S} (v : FL.Inv s) : s.stk.length ≤ s.st.length := by
  have p : s.stk.Perm (s.those 0) := by
    rw [List.perm_ext_iff_of_nodup v.nodup (FL.those_nodup s 0)]
    intro i; rw [v.stk, FL.mem_those]
  rw [p.length_eq]
  unfold FL.S.those
  have := List.length_filter_le (fun i => decide (s.at_ i = 0)) (List.range s.st.length)
  rwa [List.length_range] at this
/-- A list of package freelist at block p, its rows at blocks b1, b2, b3. -/
structure FL.At (W : World) (p b1 b2 b3 : Nat) (c1 c2 c3 : Nat) (s : FL.S) : Prop where
  inv : FL.Inv s
  wd : FL.Wd s
  obj : W.heap[p]? = some (.cells #[.int .u64 (s.gens : Int), .slice (some ⟨b1, 0, none⟩) s.stk.length c1, .slice (some ⟨b2, 0, none⟩) s.st.length c2, .slice (some ⟨b3, 0, none⟩) s.st.length c3] 125 (0, 0))
  r1 : FL.Rw W b1 s.stk.length c1 3 (FL.ints s.stk.reverse)
  r2 : FL.Rw W b2 s.st.length c2 23 (H.row s.gl)
  r3 : FL.Rw W b3 s.st.length c3 4 (FL.bools s.tl)
  room : s.st.length ≤ c1
  ne : (p ≠ b1 ∧ p ≠ b2 ∧ p ≠ b3) ∧ b1 ≠ b2 ∧ b1 ≠ b3 ∧ b2 ≠ b3
/-- The blocks of a list. -/
def FL.foot (p b1 b2 b3 : Nat) (k : Nat) : Prop := k = p ∨ k = b1 ∨ k = b2 ∨ k = b3
/-- A list of package freelist, in the blocks of R. -/
def FL.Own (W : World) (p : Nat) (s : FL.S) (R : Nat → Prop) : Prop := ∃ b1 b2 b3 c1 c2 c3, FL.At W p b1 b2 b3 c1 c2 c3 s ∧ R = FL.foot p b1 b2 b3
theorem FL.At.but {W W' : World} {p b1 b2 b3 c1 c2 c3 : Nat} {s : FL.S} (h : FL.At W p b1 b2 b3 c1 c2 c3 s) {R : Nat → Prop} (hb : FL.But R W W') (hR : ∀ k, FL.foot p b1 b2 b3 k → ¬ R k) : FL.At W' p b1 b2 b3 c1 c2 c3 s := by
  refine ⟨h.inv, h.wd, ?_, h.r1.but hb (hR _ (.inr (.inl rfl))), h.r2.but hb (hR _ (.inr (.inr (.inl rfl)))), h.r3.but hb (hR _ (.inr (.inr (.inr rfl)))), h.room, h.ne⟩
  rw [hb.block p (Array.getElem?_eq_some_iff.1 h.obj).1 (hR _ (.inl rfl))]; exact h.obj
theorem FL.Own.but {W W' : World} {p : Nat} {s : FL.S} {R : Nat → Prop} (h : FL.Own W p s R) {Q : Nat → Prop} (hb : FL.But Q W W') (hR : ∀ k, R k → ¬ Q k) : FL.Own W' p s R := by
  obtain ⟨b1, b2, b3, c1, c2, c3, ha, rfl⟩ := h
  exact ⟨b1, b2, b3, c1, c2, c3, ha.but hb hR, rfl⟩
theorem FL.Own.below {W W' : World} {p : Nat} {s : FL.S} {R : Nat → Prop} (h : FL.Own W p s R) (hb : Below W.heap.size W W') : FL.Own W' p s R := h.but (Q := fun _ => False) (FL.But.below hb) (fun _ _ => id)
theorem FL.Own.lt {W : World} {p : Nat} {s : FL.S} {R : Nat → Prop} (h : FL.Own W p s R) : ∀ k, R k → k < W.heap.size := by
  obtain ⟨b1, b2, b3, c1, c2, c3, ha, rfl⟩ := h
  rintro k (rfl | rfl | rfl | rfl)
  · exact (Array.getElem?_eq_some_iff.1 ha.obj).1
  · exact ha.r1.lt
  · exact ha.r2.lt
  · exact ha.r3.lt
theorem FL.Own.inv {W : World} {p : Nat} {s : FL.S} {R : Nat → Prop} (h : FL.Own W p s R) : FL.Inv s := by obtain ⟨_, _, _, _, _, _, ha, _⟩ := h; exact ha.inv
theorem FL.Own.wd {W : World} {p : Nat} {s : FL.S} {R : Nat → Prop} (h : FL.Own W p s R) : FL.Wd s := by obtain ⟨_, _, _, _, _, _, ha, _⟩ := h; exact ha.wd
/-- What a load of the object's fields finds. -/
theorem FL.At.cells {W : World} {p b1 b2 b3 c1 c2 c3 : Nat} {s : FL.S} (h : FL.At W p b1 b2 b3 c1 c2 c3 s) :
    W.cell? ⟨p, 0, none⟩ = some (.int .u64 (s.gens : Int)) ∧ W.cell? ⟨p, 1, none⟩ = some (.slice (some ⟨b1, 0, none⟩) s.stk.length c1) ∧ W.cell? ⟨p, 2, none⟩ = some (.slice (some ⟨b2, 0, none⟩) s.st.length c2) ∧ W.cell? ⟨p, 3, none⟩ = some (.slice (some ⟨b3, 0, none⟩) s.st.length c3) ∧
    W.frozen? ⟨p, 1, none⟩ = false := by
  refine ⟨?_, ?_, ?_, ?_, frozen_of_row _ _ _ _ _ h.obj⟩ <;> (rw [cell_of_row W p _ _ _ _ h.obj]; rfl)
/-! ### The reference's list -/
/-- A list of the reference at block q, its rows at blocks b1, b2, b3. -/
structure FL.RAt (W : World) (p b1 b2 b3 : Nat) (c1 c2 c3 : Nat) (s : FL.S) : Prop where
  inv : FL.Inv s
  wd : FL.Wd s
  obj : W.heap[p]? = some (.cells #[.int .u64 (s.gens : Int), .slice (some ⟨b1, 0, none⟩) s.st.length c1, .slice (some ⟨b2, 0, none⟩) s.st.length c2, .slice (some ⟨b3, 0, none⟩) s.stk.length c3] 152 (0, 0))
  r1 : FL.Rw W b1 s.st.length c1 3 (FL.ints s.st)
  r2 : FL.Rw W b2 s.st.length c2 23 (H.row s.now)
  r3 : FL.Rw W b3 s.stk.length c3 3 (FL.ints s.stk.reverse)
  room : s.st.length ≤ c3
  ne : (p ≠ b1 ∧ p ≠ b2 ∧ p ≠ b3) ∧ b1 ≠ b2 ∧ b1 ≠ b3 ∧ b2 ≠ b3
/-- A list of the reference, in the blocks of R. -/
def FL.ROwn (W : World) (p : Nat) (s : FL.S) (R : Nat → Prop) : Prop := ∃ b1 b2 b3 c1 c2 c3, FL.RAt W p b1 b2 b3 c1 c2 c3 s ∧ R = FL.foot p b1 b2 b3
theorem FL.RAt.but {W W' : World} {p b1 b2 b3 c1 c2 c3 : Nat} {s : FL.S} (h : FL.RAt W p b1 b2 b3 c1 c2 c3 s) {R : Nat → Prop} (hb : FL.But R W W') (hR : ∀ k, FL.foot p b1 b2 b3 k → ¬ R k) : FL.RAt W' p b1 b2 b3 c1 c2 c3 s := by
  refine ⟨h.inv, h.wd, ?_, h.r1.but hb (hR _ (.inr (.inl rfl))), h.r2.but hb (hR _ (.inr (.inr (.inl rfl)))), h.r3.but hb (hR _ (.inr (.inr (.inr rfl)))), h.room, h.ne⟩
  rw [hb.block p (Array.getElem?_eq_some_iff.1 h.obj).1 (hR _ (.inl rfl))]; exact h.obj
theorem FL.ROwn.but {W W' : World} {p : Nat} {s : FL.S} {R : Nat → Prop} (h : FL.ROwn W p s R) {Q : Nat → Prop} (hb : FL.But Q W W') (hR : ∀ k, R k → ¬ Q k) : FL.ROwn W' p s R := by
  obtain ⟨b1, b2, b3, c1, c2, c3, ha, rfl⟩ := h
  exact ⟨b1, b2, b3, c1, c2, c3, ha.but hb hR, rfl⟩
theorem FL.ROwn.below {W W' : World} {p : Nat} {s : FL.S} {R : Nat → Prop} (h : FL.ROwn W p s R) (hb : Below W.heap.size W W') : FL.ROwn W' p s R := h.but (Q := fun _ => False) (FL.But.below hb) (fun _ _ => id)
theorem FL.ROwn.lt {W : World} {p : Nat} {s : FL.S} {R : Nat → Prop} (h : FL.ROwn W p s R) : ∀ k, R k → k < W.heap.size := by
  obtain ⟨b1, b2, b3, c1, c2, c3, ha, rfl⟩ := h
  rintro k (rfl | rfl | rfl | rfl)
  · exact (Array.getElem?_eq_some_iff.1 ha.obj).1
  · exact ha.r1.lt
  · exact ha.r2.lt
  · exact ha.r3.lt
theorem FL.RAt.cells {W : World} {p b1 b2 b3 c1 c2 c3 : Nat} {s : FL.S} (h : FL.RAt W p b1 b2 b3 c1 c2 c3 s) :
    W.cell? ⟨p, 0, none⟩ = some (.int .u64 (s.gens : Int)) ∧ W.cell? ⟨p, 1, none⟩ = some (.slice (some ⟨b1, 0, none⟩) s.st.length c1) ∧ W.cell? ⟨p, 2, none⟩ = some (.slice (some ⟨b2, 0, none⟩) s.st.length c2) ∧ W.cell? ⟨p, 3, none⟩ = some (.slice (some ⟨b3, 0, none⟩) s.stk.length c3) ∧
    W.frozen? ⟨p, 3, none⟩ = false := by
  refine ⟨?_, ?_, ?_, ?_, frozen_of_row _ _ _ _ _ h.obj⟩ <;> (rw [cell_of_row W p _ _ _ _ h.obj]; rfl)
end Go.Proofs.Ytniccjbcchdkoaa
