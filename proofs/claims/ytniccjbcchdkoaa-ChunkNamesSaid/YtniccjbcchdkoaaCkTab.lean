/- The tables of layer 14's law Names, as they lie in memory. -/
import Derived.Test.YtniccjbcchdkoaaCkLaws1
import Derived.Deep.CutBlock
import Derived.Deep.RegionWith
import Derived.Deep.DeepCutAuto
namespace Go.Proofs.Ytniccjbcchdkoaa
open Go.RowKit

theorem Ck.chunks_nil : C14.chunks [] = [] := by decide
theorem Ck.chunks_abc : C14.chunks [97, 98, 99] = [[97, 98, 99]] := by decide
theorem Ck.rlit (w : World) (l : List Value) (t : TypeId) : V.Row (w.alloc (.cells l.toArray t)) (some ⟨w.heap.size, 0, none⟩) l := fun i x hx => by
  refine ⟨w.heap.size, 0, rfl, by simp, ?_⟩
  rw [Nat.zero_add, Lib.cell_of_heap (heap_alloc_new w _)]; simpa using hx
theorem Ck.Kn.lit {w W : World} {rs : List (Option Addr × List Value)} (h : Ck.Kn w W rs) (l : List Value) (t : TypeId) (cs : Array Value) (hc : l.toArray = cs) (g : Nat) (hg : W.heap.size = g) : Ck.Kn w (W.alloc (.cells cs t)) ((some ⟨g, 0, none⟩, l) :: rs) := by
  subst hc
  subst hg
  exact (h.on ((Below.refl _ _).alloc (Nat.le_refl _) _)).add (Ck.rlit W l t)
theorem Ck.size_alloc (W : World) (o : Obj) {g : Nat} (h : W.heap.size = g) : (W.alloc o).heap.size = g + 1 := by simp [h]
/-- A row of the first table. -/
structure Ck.Ev where
  n : Int
  m : Int
  a : Option Addr
  c : Nat
  L : List Nat
  e : Int
def Ck.Ev.cs (x : Ck.Ev) : List Value := [.int .i64 x.n, .int .i64 x.m, .slice x.a x.L.length x.c, .int .i64 x.e]
structure Ck.Jt where
  s : ByteArray
  t : ByteArray
  a : Option Addr
  c : Nat
  L : List (List UInt8)
  e : Int
def Ck.Jt.cs (x : Ck.Jt) : List Value := [.string x.s, .string x.t, .slice x.a x.L.length x.c, .int .i64 x.e]
structure Ck.Ct where
  s : ByteArray
  at_ : Int
  l : ByteArray
  r : ByteArray
  e : Int
def Ck.Ct.cs (x : Ck.Ct) : List Value := [.string x.s, .int .i64 x.at_, .string x.l, .string x.r, .int .i64 x.e]
theorem Ck.flat_at {α : Type} (f : α → List Value) (k : Nat) (hf : ∀ x, (f x).length = k) : ∀ (E : List α) (i : Nat) (x : α), E[i]? = some x → ∀ j v, (f x)[j]? = some v → (E.flatMap f)[i * k + j]? = some v
  | [], _, _, h, _, _, _ => by simp at h
  | y :: E, 0, x, h, j, v, hv => by
    simp at h
    subst h
    rw [List.flatMap_cons, Nat.zero_mul, Nat.zero_add, List.getElem?_append_left (List.getElem?_eq_some_iff.1 hv).1]
    exact hv
  | y :: E, i + 1, x, h, j, v, hv => by
    rw [List.flatMap_cons, List.getElem?_append_right (by rw [hf, Nat.add_mul]; omega), hf]
    rw [show (i + 1) * k + j - k = i * k + j by rw [Nat.add_mul]; omega]
    exact Ck.flat_at f k hf E i x (by simpa using h) j v hv
/-- A table in memory. -/
structure Ck.Tb {α : Type} (f : α → List Value) (k : Nat) (w : World) (g : Nat) (E : List α) (rs : List (Option Addr × List Value)) (W : World) : Prop where
  kn : Ck.Kn w W rs
  lt : g < W.heap.size
  cell : ∀ i x, E[i]? = some x → ∀ j v, (f x)[j]? = some v → W.cell? ⟨g, i * k + j, none⟩ = some v
theorem Ck.Tb.on {α : Type} {f : α → List Value} {k : Nat} {w : World} {g : Nat} {E : List α} {rs : List (Option Addr × List Value)} {W W' : World} (h : Ck.Tb f k w g E rs W) (hb : Below W.heap.size W W') : Ck.Tb f k w g E rs W' :=
  ⟨h.kn.on hb, Nat.lt_of_lt_of_le h.lt hb.size, fun i x hx j v hv => ((D.bcell hb).1 _ _ h.lt).trans (h.cell i x hx j v hv)⟩
theorem Ck.Tb.all {α : Type} (f : α → List Value) (k : Nat) (hf : ∀ x, (f x).length = k) {w W : World} {rs : List (Option Addr × List Value)} (K : Ck.Kn w W rs) (E : List α) (T : TypeId) (cs : Array Value) (hc : (E.flatMap f).toArray = cs) (g : Nat) (hg : W.heap.size = g) {R : World → Prop}
    (h : ∀ V : World, Hid (Ck.Tb f k w g E rs V) → R V) : R (W.alloc (.cells cs T)) := by
  subst hc
  subst hg
  refine h _ ⟨K.on ((Below.refl _ _).alloc (Nat.le_refl _) _), by simp, fun i x hx j v hv => ?_⟩
  rw [Lib.cell_of_heap (heap_alloc_new W _)]
  simpa using Ck.flat_at f k hf E i x hx j v hv
def Ck.evs (h : Nat) : List Ck.Ev := [⟨17, 16, some ⟨h, 0, none⟩, 2, [9, 8], 0⟩, ⟨33, 16, some ⟨h + 1, 0, none⟩, 3, [11, 11, 11], 0⟩, ⟨5, 4, some ⟨h + 1 + 1, 0, none⟩, 2, [3, 2], 0⟩, ⟨0, 4, none, 0, [], 0⟩, ⟨-1, 4, none, 0, [], 2⟩, ⟨1, 0, none, 0, [], 2⟩, ⟨65537, 1, none, 0, [], 5⟩, ⟨65536, 65536, some ⟨h + 1 + 1 + 1, 0, none⟩, 1, [65536], 0⟩, ⟨65537, 0, none, 0, [], 2⟩, ⟨1, 9223372036854775807, some ⟨h + 1 + 1 + 1 + 1, 0, none⟩, 1, [1], 0⟩, ⟨65537, 9223372036854775807, none, 0, [], 5⟩]
def Ck.jts (h : Nat) : List Ck.Jt := [⟨⟨#[97, 98, 99]⟩, ⟨#[100, 101, 102]⟩, some ⟨h, 0, none⟩, 1, [[97, 98, 99, 100, 101, 102]], 0⟩, ⟨⟨#[97, 98, 99, 100, 101, 102, 103, 104]⟩, ⟨#[105, 106, 107, 108, 109, 110, 111, 112, 113]⟩, some ⟨h + 1, 0, none⟩, 2, [[97, 98, 99, 100, 101, 102, 103, 104], [105, 106, 107, 108, 109, 110, 111, 112, 113]], 0⟩, ⟨⟨#[97, 98, 99]⟩, ⟨#[100, 101, 102, 103, 104, 105, 106, 107, 108, 109, 110, 111, 112, 113, 114, 115]⟩, some ⟨h + 1 + 1, 0, none⟩, 2, [[97, 98, 99, 100, 101, 102, 103, 104, 105, 106], [107, 108, 109, 110, 111, 112, 113, 114, 115]], 0⟩, ⟨⟨#[]⟩, ⟨#[97]⟩, none, 0, [], 2⟩, ⟨⟨#[97]⟩, ⟨#[]⟩, none, 0, [], 2⟩, ⟨⟨#[97, 98, 99, 100, 101, 102, 103, 104]⟩, ⟨#[105, 106, 107, 108, 109, 110, 111, 112]⟩, some ⟨h + 1 + 1 + 1, 0, none⟩, 1, [[97, 98, 99, 100, 101, 102, 103, 104, 105, 106, 107, 108, 109, 110, 111, 112]], 0⟩, ⟨⟨#[97]⟩, ⟨#[48, 49, 50, 51, 52, 53, 54, 55, 56, 57, 97, 98, 99, 100, 101, 102, 103]⟩, none, 0, [], 2⟩]
def Ck.cts : List Ck.Ct := [⟨⟨#[97, 98, 99]⟩, 1, ⟨#[97]⟩, ⟨#[98, 99]⟩, 0⟩, ⟨⟨#[97, 98, 99]⟩, 0, ⟨#[]⟩, ⟨#[97, 98, 99]⟩, 0⟩, ⟨⟨#[97, 98, 99]⟩, 3, ⟨#[97, 98, 99]⟩, ⟨#[]⟩, 0⟩, ⟨⟨#[97, 98, 99]⟩, 4, ⟨#[]⟩, ⟨#[]⟩, 3⟩, ⟨⟨#[97, 98, 99]⟩, -1, ⟨#[]⟩, ⟨#[]⟩, 3⟩, ⟨⟨#[]⟩, 0, ⟨#[]⟩, ⟨#[]⟩, 2⟩, ⟨⟨#[48, 49, 50, 51, 52, 53, 54, 55, 56, 57, 97, 98, 99, 100, 101, 102, 103]⟩, 99, ⟨#[]⟩, ⟨#[]⟩, 2⟩]
def Ck.evr (h : Nat) : List (Option Addr × List Value) := [(some ⟨h + 1 + 1 + 1 + 1, 0, none⟩, Ck.ints [1]), (some ⟨h + 1 + 1 + 1, 0, none⟩, Ck.ints [65536]), (some ⟨h + 1 + 1, 0, none⟩, Ck.ints [3, 2]), (some ⟨h + 1, 0, none⟩, Ck.ints [11, 11, 11]), (some ⟨h, 0, none⟩, Ck.ints [9, 8])]
def Ck.jtr (h : Nat) : List (Option Addr × List Value) := [(some ⟨h + 1 + 1 + 1, 0, none⟩, Ck.strs [[97, 98, 99, 100, 101, 102, 103, 104, 105, 106, 107, 108, 109, 110, 111, 112]]), (some ⟨h + 1 + 1, 0, none⟩, Ck.strs [[97, 98, 99, 100, 101, 102, 103, 104, 105, 106], [107, 108, 109, 110, 111, 112, 113, 114, 115]]), (some ⟨h + 1, 0, none⟩, Ck.strs [[97, 98, 99, 100, 101, 102, 103, 104], [105, 106, 107, 108, 109, 110, 111, 112, 113]]), (some ⟨h, 0, none⟩, Ck.strs [[97, 98, 99, 100, 101, 102]])]
theorem Ck.evs_ok (h : Nat) : ∀ x ∈ Ck.evs h, C14.evE x.n x.m = x.e ∧ C14.evL x.n x.m = x.L ∧ (x.L = [] ∨ (x.a, Ck.ints x.L) ∈ Ck.evr h) ∧ -9223372036854775808 ≤ x.n ∧ x.n ≤ 9223372036854775807 ∧ -9223372036854775808 ≤ x.m ∧ x.m ≤ 9223372036854775807 := by
  intro x hx
  unfold Ck.evs at hx
  simp only [List.mem_cons, List.not_mem_nil, or_false] at hx
  rcases hx with rfl | rfl | rfl | rfl | rfl | rfl | rfl | rfl | rfl | rfl | rfl
  all_goals
    dsimp only
    refine ⟨by decide, by decide, ?_, by decide, by decide, by decide, by decide⟩
    first
      | exact .inl rfl
      | exact .inr (by unfold Ck.evr; simp)
theorem Ck.jts_ok (h : Nat) : ∀ x ∈ Ck.jts h, C14.jnE x.s.data.toList x.t.data.toList = x.e ∧ C14.jnL x.s.data.toList x.t.data.toList = x.L ∧ (x.L = [] ∨ (x.a, Ck.strs x.L) ∈ Ck.jtr h) := by
  intro x hx
  unfold Ck.jts at hx
  simp only [List.mem_cons, List.not_mem_nil, or_false] at hx
  rcases hx with rfl | rfl | rfl | rfl | rfl | rfl | rfl
  all_goals
    dsimp only
    refine ⟨by decide, by decide, ?_⟩
    first
      | exact .inl rfl
      | exact .inr (by unfold Ck.jtr; simp)
theorem Ck.cts_ok : ∀ x ∈ Ck.cts, C14.ctE x.s.data.toList x.at_ = x.e ∧ C14.ctL x.s.data.toList x.at_ = x.l.data.toList ∧ C14.ctR x.s.data.toList x.at_ = x.r.data.toList ∧ -9223372036854775808 ≤ x.at_ ∧ x.at_ ≤ 9223372036854775807 := by
  intro x hx
  unfold Ck.cts at hx
  simp only [List.mem_cons, List.not_mem_nil, or_false] at hx
  rcases hx with rfl | rfl | rfl | rfl | rfl | rfl | rfl
  all_goals exact ⟨by decide, by decide, by decide, by decide, by decide⟩
theorem Ck.tb_row {α : Type} {f : α → List Value} {k : Nat} {w : World} {g : Nat} {E : List α} {rs : List (Option Addr × List Value)} {W : World} (h : Ck.Tb f k w g E rs W) {a : Option Addr} {l : List Value} (hl : l = [] ∨ (a, l) ∈ rs) : V.Row W a l := by
  rcases hl with rfl | hl
  · intro i x hx; simp at hx
  · exact h.kn.rows _ hl
end Go.Proofs.Ytniccjbcchdkoaa
