/- What FreelistExamples lays: a literal row of ints, and a row of deeds that grows by four. -/
import Derived.Test.YtndpknkdmaojaaaDoorFreeLaws1
import Derived.Test.YtndpknkdmaojaaaDoorFreeLaws2
namespace Go.Proofs.YtndpknkdmaojaaaDoor
open Go.RowKit

def FL.el : List Int := [-1, 0, 1, 2, 16383, 16384, 16385]
def FL.er : List Value := FL.el.map fun s => .int .i64 s
theorem FL.el_bd : ∀ s ∈ FL.el, -9223372036854775808 ≤ s ∧ s < 9223372036854775808 := by decide
theorem FL.lit (w : World) (l : List Value) (t : TypeId) : V.Row (w.alloc (.cells l.toArray t)) (some ⟨w.heap.size, 0, none⟩) l := fun i x hx => by
  refine ⟨w.heap.size, 0, rfl, by simp, ?_⟩
  rw [Nat.zero_add, Lib.cell_of_heap (heap_alloc_new w _)]; simpa using hx
structure FL.Er (w : World) (b : Nat) (W : World) : Prop where
  below : Below w.heap.size w W
  row : V.Row W (some ⟨b, 0, none⟩) FL.er
theorem FL.Er.on {w W W' : World} {b : Nat} (h : FL.Er w b W) (hb : Below W.heap.size W W') : FL.Er w b W' := ⟨h.below.trans (hb.mono h.below.size), h.row.below hb⟩
theorem FL.Er.cell {w W : World} {b j : Nat} (h : FL.Er w b W) {t : Int} (ht : FL.el[j]? = some t) : W.cell? ⟨b, j, none⟩ = some (.int .i64 t) := by
  obtain ⟨_, _, e, _, c⟩ := h.row j (.int .i64 t) (by unfold FL.er; rw [List.getElem?_map, ht]; rfl)
  cases e
  rw [Nat.zero_add] at c
  exact c
/-! ### Rows of deeds -/
def FL.cd (x : List FL.Dd) : List Value := x.flatMap fun d => [.int .i64 d.kind, .int .i64 d.k, .int .u64 d.h]
theorem FL.cd_append (x y : List FL.Dd) : FL.cd (x ++ y) = FL.cd x ++ FL.cd y := by simp [FL.cd]
theorem FL.cd_cons (d : FL.Dd) (x : List FL.Dd) : FL.cd (d :: x) = .int .i64 d.kind :: .int .i64 d.k :: .int .u64 d.h :: FL.cd x := by simp [FL.cd]
theorem FL.cd_len (x : List FL.Dd) : (FL.cd x).length = x.length * 3 := by
  induction x with
  | nil => rfl
  | cons d x ih => rw [FL.cd_cons]; simp [ih]; omega
theorem FL.cd_at (x : List FL.Dd) (i : Nat) (d : FL.Dd) (h : x[i]? = some d) :
    (FL.cd x)[i * 3]? = some (.int .i64 d.kind) ∧ (FL.cd x)[i * 3 + 1]? = some (.int .i64 d.k) ∧ (FL.cd x)[i * 3 + 2]? = some (.int .u64 d.h) := by
  induction x generalizing i with
  | nil => simp at h
  | cons q x ih =>
    rw [FL.cd_cons]
    cases i with
    | zero => simp at h; subst h; exact ⟨rfl, rfl, rfl⟩
    | succ i =>
      obtain ⟨h0, h1, h2⟩ := ih i (by simpa using h)
      have e0 : (i + 1) * 3 = i * 3 + 3 := by omega
      refine ⟨?_, ?_, ?_⟩
      · rw [e0]; exact h0
      · rw [show (i + 1) * 3 + 1 = i * 3 + 1 + 3 by omega]; exact h1
      · rw [show (i + 1) * 3 + 2 = i * 3 + 2 + 3 by omega]; exact h2
theorem FL.drow_of_own {W : World} {base : Nat} {v : Value} {x : List FL.Dd} (h : W.ownsRow base 35 3 v x.length (FL.cd x)) :
    ∃ ao cap, v = .slice ao x.length cap ∧ FL.DRow W ao x := by
  obtain ⟨hl, ⟨rfl, h0⟩ | ⟨g, cap, cur, rfl, hb, hg, hnc, hcm, hcs, ht⟩⟩ := h
  · exact ⟨none, 0, by rw [h0], fun i p hp => by have := (List.getElem?_eq_some_iff.1 hp).1; omega⟩
  · have hlt := (Array.getElem?_eq_some_iff.1 hg).1
    refine ⟨some ⟨g, 0, none⟩, cap, rfl, fun i p hp => ⟨g, 0, rfl, hlt, ?_⟩⟩
    have hi := (List.getElem?_eq_some_iff.1 hp).1
    obtain ⟨h0, h1, h2⟩ := FL.cd_at x i p hp
    have key : ∀ (j : Nat) (u : Value), (FL.cd x)[j]? = some u → W.cell? ⟨g, j, none⟩ = some u := fun j u hu => by
      rw [← ht, List.getElem?_take] at hu
      have hj : j < x.length * 3 := by
        by_cases hj : j < x.length * 3
        · exact hj
        · rw [if_neg hj] at hu; cases hu
      rw [if_pos hj] at hu
      rw [cell_of_row W g _ cur _ _ hg]
      simpa using hu
    rw [Nat.zero_add]
    exact ⟨key _ _ h0, key _ _ h1, key _ _ h2⟩
theorem Tryd.infoDeed : (Tryd.prog.info? 35).map (fun i => (i.zero, i.size, i.bytes)) = some (some (.agg #[.int .i64 0, .int .i64 0, .int .u64 0]), 3, 24) := by kernel_rfl
/-- The four deeds of the i-th round. -/
def FL.d4 (i : Nat) : List FL.Dd := [⟨0, 0, 0⟩, ⟨2, i, 0⟩, ⟨2, i, 0⟩, ⟨3, 0, i⟩]
def FL.dl (k : Nat) : List FL.Dd := (List.range k).flatMap FL.d4
theorem FL.dl_next (k : Nat) : FL.dl (k + 1) = FL.dl k ++ FL.d4 k := by unfold FL.dl; rw [List.range_succ, List.flatMap_append]; simp
theorem FL.dl_len (k : Nat) : (FL.dl k).length = 4 * k := by
  induction k with
  | zero => rfl
  | succ k ih => rw [FL.dl_next, List.length_append, ih]; show _ + 4 = _; omega
theorem FL.dl_fit {k : Nat} (hk : k ≤ 1000) : ∀ d ∈ FL.dl k, FL.Fit d := fun d hd => by
  obtain ⟨i, hi, hd⟩ := List.mem_flatMap.1 hd
  have := List.mem_range.1 hi
  unfold FL.d4 at hd
  simp only [List.mem_cons, List.not_mem_nil, or_false] at hd
  rcases hd with rfl | rfl | rfl | rfl <;> exact ⟨by dsimp only; omega, by dsimp only; omega, by dsimp only; omega, by dsimp only; omega, by dsimp only; omega, by dsimp only; omega⟩
theorem FL.append_deeds {W : World} {ops : Array Oper} {rest : List Oper} {o : Oper} {a : Act} {Q : Exit → Act → World → Prop} (hgd : o.guard = none) (s x : Operand)
    (ho : o.op = .call { callee := .builtin .append, args := #[s, x], argTypes := #[22, 22] })
    (base : Nat) (v : Value) (k : Nat) (hs : a.eval s = v) (hown : W.ownsRow base 35 3 v (FL.dl k).length (FL.cd (FL.dl k))) (z : Int) (hz : (k : Int) = z) (cc : Nat) (hx : a.eval x = .slice (some ⟨W.heap.size, 0, none⟩) 4 cc) (hn : k ≤ 1000) (hbase : base ≤ W.heap.size)
    (h : ∀ v' w', w'.ownsRow base 35 3 v' (FL.dl (k + 1)).length (FL.cd (FL.dl (k + 1))) → W.grownBy w' v.ownBlock → wpList Tryd.prog ops Q rest (a.put o.dst v') w') :
    wpList Tryd.prog ops Q (o :: rest) a (W.alloc (.cells #[.int .i64 0, .int .i64 0, .int .u64 0, .int .i64 2, .int .i64 z, .int .u64 0, .int .i64 2, .int .i64 z, .int .u64 0, .int .i64 3, .int .i64 0, .int .u64 z] 35)) := by
  subst hz
  obtain ⟨ip, hp, hp0, hp1, hp2⟩ := info_parts Tryd.infoDeed
  have e : (#[.int .i64 0, .int .i64 0, .int .u64 0, .int .i64 2, .int .i64 (k : Int), .int .u64 0, .int .i64 2, .int .i64 (k : Int), .int .u64 0, .int .i64 3, .int .i64 0, .int .u64 (k : Int)] : Array Value) = (FL.cd (FL.d4 k)).toArray := rfl
  rw [e]
  have hl := FL.dl_len k
  refine wpList_append_own _ hgd s x 22 ho base 35 ip _ 3 24 Tryd.underlying22 hp hp0 hp1 hp2 rfl (by decide) v (FL.dl k).length _ hs (hown.alloc _) ⟨W.heap.size, 0, none⟩ 4 cc (FL.cd (FL.d4 k)) hx rfl (D.news W (FL.cd (FL.d4 k)) 35) ?_ (by unfold maxLen; omega) (by omega) (by simp only [World.size_alloc]; omega) ?_
  · intro u hu
    unfold FL.cd FL.d4 at hu
    simp only [List.flatMap_cons, List.flatMap_nil, List.append_nil, List.mem_append, List.mem_cons, List.not_mem_nil, or_false] at hu
    rcases hu with (rfl | rfl | rfl) | (rfl | rfl | rfl) | (rfl | rfl | rfl) | (rfl | rfl | rfl) <;> rfl
  · intro v' w' h1 h2 _
    rw [← FL.cd_append, ← FL.dl_next] at h1
    refine h v' w' ?_ ⟨h2.os, h2.tape, h2.output, Nat.le_trans (by simp only [World.size_alloc]; omega) h2.size, fun j hj hne => (h2.block j (by simp only [World.size_alloc]; omega) hne).trans (Lib.alloc_old W _ j hj)⟩
    rw [show (FL.dl (k + 1)).length = (FL.dl k).length + 4 by rw [FL.dl_len, FL.dl_len]; omega]
    exact h1
end Go.Proofs.YtndpknkdmaojaaaDoor
