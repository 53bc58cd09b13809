/- Rows of children of a node: what they read as, and how they grow. -/
import Derived.Test.YtdpaleldalplfaaHandRow
import Derived.Test.YtdpaleldalplfaaNodeMath
import Derived.Deep.AppendLies
import Derived.BigQuiet
namespace Go.Proofs.Ytdpaleldalplfaa
open Go.RowKit

def N.one (x : N.K) : List Value := [.int .u64 (x.at_ : Int), .int .i64 x.b, .int .i64 x.r, .int .i64 x.l]
def N.cells (l : List N.K) : List Value := l.flatMap N.one
theorem N.cells_append (x y : List N.K) : N.cells (x ++ y) = N.cells x ++ N.cells y := by simp [N.cells]
theorem N.cells_one (p : N.K) : N.cells [p] = [.int .u64 (p.at_ : Int), .int .i64 p.b, .int .i64 p.r, .int .i64 p.l] := by simp [N.cells, N.one]
theorem N.cells_cons (q : N.K) (x : List N.K) : N.cells (q :: x) = .int .u64 (q.at_ : Int) :: .int .i64 q.b :: .int .i64 q.r :: .int .i64 q.l :: N.cells x := by simp [N.cells, N.one]
theorem N.cells_len (x : List N.K) : (N.cells x).length = x.length * 4 := by
  induction x with
  | nil => rfl
  | cons p x ih => rw [N.cells_cons]; simp only [List.length_cons, ih]; omega
theorem N.cells_at (x : List N.K) (i : Nat) (p : N.K) (h : x[i]? = some p) :
    (N.cells x)[i * 4]? = some (.int .u64 (p.at_ : Int)) ∧ (N.cells x)[i * 4 + 1]? = some (.int .i64 p.b) ∧ (N.cells x)[i * 4 + 2]? = some (.int .i64 p.r) ∧ (N.cells x)[i * 4 + 3]? = some (.int .i64 p.l) := by
  induction x generalizing i with
  | nil => simp at h
  | cons q x ih =>
    rw [N.cells_cons]
    cases i with
    | zero => simp at h; subst h; exact ⟨rfl, rfl, rfl, rfl⟩
    | succ i =>
      obtain ⟨h0, h1, h2, h3⟩ := ih i (by simpa using h)
      refine ⟨?_, ?_, ?_, ?_⟩
      · rw [show (i + 1) * 4 = i * 4 + 4 by omega]; exact h0
      · rw [show (i + 1) * 4 + 1 = i * 4 + 1 + 4 by omega]; exact h1
      · rw [show (i + 1) * 4 + 2 = i * 4 + 2 + 4 by omega]; exact h2
      · rw [show (i + 1) * 4 + 3 = i * 4 + 3 + 4 by omega]; exact h3
/-- What the fields of a child can hold. -/
structure N.Fit (k : N.K) : Prop where
  at_ : k.at_ < 18446744073709551616
  b0 : -9223372036854775808 ≤ k.b
  b1 : k.b ≤ 9223372036854775807
  r0 : -9223372036854775808 ≤ k.r
  r1 : k.r ≤ 9223372036854775807
  l0 : -9223372036854775808 ≤ k.l
  l1 : k.l ≤ 9223372036854775807
/-- Children lie in a row. -/
def N.Row (W : World) (ao : Option Addr) (l : List N.K) : Prop :=
  ∀ (i : Nat) (p : N.K), l[i]? = some p → ∃ b o, ao = some ⟨b, o, none⟩ ∧ b < W.heap.size ∧
    W.cell? ⟨b, o + i * 4, none⟩ = some (.int .u64 (p.at_ : Int)) ∧ W.cell? ⟨b, o + i * 4 + 1, none⟩ = some (.int .i64 p.b) ∧ W.cell? ⟨b, o + i * 4 + 2, none⟩ = some (.int .i64 p.r) ∧ W.cell? ⟨b, o + i * 4 + 3, none⟩ = some (.int .i64 p.l)
theorem N.Row.below {W W' : World} {ao : Option Addr} {l : List N.K} (h : N.Row W ao l) (hb : Below W.heap.size W W') : N.Row W' ao l := fun i p hp => by
  obtain ⟨b, o, e, hlt, h0, h1, h2, h3⟩ := h i p hp
  have hc := (D.bcell hb).1
  exact ⟨b, o, e, Nat.lt_of_lt_of_le hlt hb.size, (hc _ _ hlt).trans h0, (hc _ _ hlt).trans h1, (hc _ _ hlt).trans h2, (hc _ _ hlt).trans h3⟩
theorem N.row_nil (W : World) (ao : Option Addr) : N.Row W ao [] := fun i p hp => by simp at hp
structure N.Made (l : List N.K) (w : World) (v : Value) (wr : World) : Prop where
  own : wr.ownsRow w.heap.size 52 4 v l.length (N.cells l)
  below : Below w.heap.size w wr
theorem N.Made.form {x : List N.K} {w : World} {v : Value} {W : World} (h : N.Made x w v W) : ∃ ao cap, v = .slice ao x.length cap ∧ N.Row W ao x := by
  obtain ⟨hl, ⟨rfl, h0⟩ | ⟨g, cap, cur, rfl, hb, hg, hnc, hcm, hcs, ht⟩⟩ := h.own
  · exact ⟨none, 0, by rw [h0], fun i p hp => by have := (List.getElem?_eq_some_iff.1 hp).1; omega⟩
  · have hlt := (Array.getElem?_eq_some_iff.1 hg).1
    refine ⟨some ⟨g, 0, none⟩, cap, rfl, fun i p hp => ⟨g, 0, rfl, hlt, ?_⟩⟩
    have hi := (List.getElem?_eq_some_iff.1 hp).1
    obtain ⟨h0, h1, h2, h3⟩ := N.cells_at x i p hp
    have key : ∀ (j : Nat) (u : Value), (N.cells x)[j]? = some u → W.cell? ⟨g, j, none⟩ = some u := fun j u hu => by
      rw [← ht, List.getElem?_take] at hu
      have hj : j < x.length * 4 := by
        by_cases hj : j < x.length * 4
        · exact hj
        · rw [if_neg hj] at hu; cases hu
      rw [if_pos hj] at hu
      rw [cell_of_row W g _ cur _ _ hg]
      simpa using hu
    rw [Nat.zero_add]
    exact ⟨key _ _ h0, key _ _ h1, key _ _ h2, key _ _ h3⟩
theorem Try.infoKid : (Try.prog.info? 52).map (fun i => (i.zero, i.size, i.bytes)) = some (some (.agg #[.int .u64 0, .int .i64 0, .int .i64 0, .int .i64 0]), 4, 32) := by kernel_rfl
/-- An append of a child that has just been laid. -/
theorem N.append_one {W : World} {ops : Array Oper} {rest : List Oper} {o : Oper} {a : Act} {Q : Exit → Act → World → Prop} (hgd : o.guard = none) (s x : Operand)
    (ho : o.op = .call { callee := .builtin .append, args := #[s, x], argTypes := #[22, 22] })
    (base : Nat) (v : Value) (X : List N.K) (hs : a.eval s = v) (hown : W.ownsRow base 52 4 v X.length (N.cells X)) (p : N.K) (cc : Nat) (hx : a.eval x = .slice (some ⟨W.heap.size, 0, none⟩) 1 cc) (hn : (X.length + 1) * 32 ≤ 140737488355328) (hbase : base ≤ W.heap.size)
    (h : ∀ Z v' w', Hid (Z = X ++ [p]) → w'.ownsRow base 52 4 v' Z.length (N.cells Z) → W.grownBy w' v.ownBlock → wpList Try.prog ops Q rest (a.put o.dst v') w') :
    wpList Try.prog ops Q (o :: rest) a (W.alloc (.cells #[.int .u64 (p.at_ : Int), .int .i64 p.b, .int .i64 p.r, .int .i64 p.l] 52)) := by
  obtain ⟨ip, hp, hp0, hp1, hp2⟩ := info_parts Try.infoKid
  refine wpList_append_own_at _ hgd s x _ ho base 52 ip (.agg #[.int .u64 0, .int .i64 0, .int .i64 0, .int .i64 0]) 4 32 Try.underlying22 hp hp0 hp1 hp2 rfl (by decide) v X.length (N.cells X) hs (hown.alloc _) ⟨W.heap.size, 0, none⟩ 1 cc (N.cells [p]) hx rfl ?_ (fun u hu => by rw [N.cells_one] at hu; simp only [List.mem_cons, List.not_mem_nil, or_false] at hu; rcases hu with rfl | rfl | rfl | rfl <;> rfl) (by unfold maxLen; omega) (by omega) (by simp only [World.size_alloc]; omega) ?_
  · rw [N.cells_one]
    exact D.news W [.int .u64 (p.at_ : Int), .int .i64 p.b, .int .i64 p.r, .int .i64 p.l] 52
  · intro v' w' h1 h2 _ h4
    refine h _ v' w' rfl ?_ ⟨h2.os, h2.tape, h2.output, Nat.le_trans (by simp only [World.size_alloc]; omega) h2.size, fun k hk hne => (h2.block k (by simp only [World.size_alloc]; omega) hne).trans (Lib.alloc_old W _ k hk)⟩
    rw [List.length_append, N.cells_append]; exact h1
theorem N.Made.nil (w : World) {wr : World} (h : Below w.heap.size w wr) : N.Made [] w (.slice none 0 0) wr := ⟨World.ownsRow_nil _ _ _ _, h⟩
theorem N.Made.on {X Z : List N.K} {w : World} {v v' : Value} {wr w' : World} (h : N.Made X w v wr) (h1 : w'.ownsRow w.heap.size 52 4 v' Z.length (N.cells Z)) (h2 : wr.grownBy w' v.ownBlock) : N.Made Z w v' w' := ⟨h1, h.below.grown h2 h.below.size (fun k e => (h.own.lt k e).1)⟩
theorem N.Made.weak {l : List N.K} {w W W' : World} {v : Value} (h : N.Made l W v W') (hb : Below w.heap.size w W) : N.Made l w v W' := ⟨D.own_mono h.own hb.size, hb.trans (h.below.mono hb.size)⟩
theorem N.Made.kept {l : List N.K} {w W W' : World} {v : Value} (h : N.Made l w v W) (hb : Below W.heap.size W W') : N.Made l w v W' := ⟨D.own_below h.own hb, h.below.trans (hb.mono h.below.size)⟩
theorem N.Made.drew {X : List N.K} {w : World} {v : Value} {wr : World} (h : N.Made X w v wr) : N.Made X w v wr.drew := ⟨h.own.drew, h.below.drew⟩
theorem N.Made.src {l : List N.K} {w : World} {v : Value} {w' : World} (h : N.Made l w v w') : ∃ ao c, v = .slice ao l.length c ∧ N.Row w' ao l ∧ (ao = none → c = 0) := by
  obtain ⟨ao, c, hv, hr⟩ := h.form
  refine ⟨ao, c, hv, hr, fun e => ?_⟩
  obtain ⟨_, ⟨e', _⟩ | ⟨g, cap, cur, e', _⟩⟩ := h.own
  · rw [hv] at e'; simp at e'; exact e'.2.2
  · rw [hv, e] at e'; simp at e'
theorem N.row_lit (w : World) (l : List N.K) : N.Row (w.alloc (.cells (N.cells l).toArray 52)) (some ⟨w.heap.size, 0, none⟩) l := fun i p hp => by
  obtain ⟨h0, h1, h2, h3⟩ := N.cells_at l i p hp
  have key : ∀ (j : Nat) (u : Value), (N.cells l)[j]? = some u → (w.alloc (.cells (N.cells l).toArray 52)).cell? ⟨w.heap.size, j, none⟩ = some u := fun j u hu => by
    rw [Lib.cell_of_heap (heap_alloc_new w _)]; simpa using hu
  refine ⟨w.heap.size, 0, rfl, by simp, ?_⟩
  rw [Nat.zero_add]
  exact ⟨key _ _ h0, key _ _ h1, key _ _ h2, key _ _ h3⟩
theorem N.drop_cons {l : List N.K} {k : Nat} (h : k < l.length) : ∃ p, l[k]? = some p ∧ l.drop k = p :: l.drop (k + 1) :=
  ⟨l[k], List.getElem?_eq_getElem h, (List.drop_eq_getElem_cons h)⟩
/-- A node as the program holds it. -/
def N.nv (h : Int) (t : ByteArray) (v : Value) : Value := .agg #[.int .i64 h, .string t, v]
end Go.Proofs.Ytdpaleldalplfaa
