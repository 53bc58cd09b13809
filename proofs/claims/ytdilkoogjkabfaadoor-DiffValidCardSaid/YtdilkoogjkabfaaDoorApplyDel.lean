/- The contracts of apply's empty, and of slices.IndexFunc and slices.DeleteFunc at pieces with it, over a row that a literal has laid. -/
import Derived.Test.YtdilkoogjkabfaaDoorPackARef
import Derived.Lib.SliceRun
namespace Go.Proofs.YtdilkoogjkabfaaDoor
open Go.RowKit

theorem A.ret_bool {a b : Bool} (h : a = b) : Ending.returned (.bool a) = .returned (.bool b) := by rw [h]
def A.idx : List D.P → Nat → Int
  | [], _ => -1
  | p :: r, i => if D.emptyP p = true then (i : Int) else A.idx r (i + 1)
def A.keep (l : List D.P) : List D.P := l.filter fun p => !D.emptyP p
theorem A.keep_t {p : D.P} (h : D.emptyP p = true) (r : List D.P) : A.keep (p :: r) = A.keep r := by unfold A.keep; rw [List.filter_cons, h]; rfl
theorem A.keep_f {p : D.P} (h : D.emptyP p = false) (r : List D.P) : A.keep (p :: r) = p :: A.keep r := by unfold A.keep; rw [List.filter_cons, h]; rfl
theorem A.keep_app (a b : List D.P) : A.keep (a ++ b) = A.keep a ++ A.keep b := by unfold A.keep; rw [List.filter_append]
theorem A.idx_spec (l : List D.P) : ∀ i, (A.idx l i = -1 ∧ A.keep l = l) ∨ ∃ k, k < l.length ∧ A.idx l i = ((i + k : Nat) : Int) ∧ A.keep (l.take (k + 1)) = l.take k := by
  induction l with
  | nil => intro i; exact .inl ⟨rfl, rfl⟩
  | cons p r ih =>
    intro i
    cases h : D.emptyP p with
    | true => exact .inr ⟨0, by simp, by unfold A.idx; rw [if_pos h]; rfl, by rw [List.take_succ_cons, A.keep_t h]; rfl⟩
    | false =>
      have e : A.idx (p :: r) i = A.idx r (i + 1) := by rw [A.idx, h]; rfl
      rcases ih (i + 1) with ⟨e1, e2⟩ | ⟨k, hk, e1, e2⟩
      · exact .inl ⟨by rw [e, e1], by rw [A.keep_f h, e2]⟩
      · exact .inr ⟨k + 1, by simp; omega, by rw [e, e1]; congr 1; omega, by rw [List.take_succ_cons, A.keep_f h, e2]; rfl⟩
/-! ### A row that is rewritten in place -/
theorem A.cells_cons (p : D.P) (r : List D.P) : D.cellsL (p :: r) = .int .u8 p.k :: .int .i64 p.n :: .string p.t :: D.cellsL r := by simp [D.cellsL]
theorem A.cells_set (m : List D.P) : ∀ (i : Nat) (p : D.P), i < m.length → (((D.cellsL m).set (i * 3) (.int .u8 p.k)).set (i * 3 + 1) (.int .i64 p.n)).set (i * 3 + 2) (.string p.t) = D.cellsL (m.set i p) := by
  induction m with
  | nil => intro i p h; simp at h
  | cons q r ih =>
    intro i p h
    cases i with
    | zero => rw [List.set_cons_zero, A.cells_cons, A.cells_cons]; rfl
    | succ i =>
      rw [List.set_cons_succ, A.cells_cons, A.cells_cons, ← ih i p (by simpa using h), show (i + 1) * 3 = i * 3 + 3 by omega]
      rfl
/-- A block that holds pieces, and nothing else. -/
def A.Blk (b : Nat) (m : List D.P) (W : World) : Prop := W.heap[b]? = some (.cells (D.cellsL m).toArray 29 (0, 0))
theorem A.Blk.lt {b : Nat} {m : List D.P} {W : World} (h : A.Blk b m W) : b < W.heap.size := (Array.getElem?_eq_some_iff.1 h).1
theorem A.Blk.row {b : Nat} {m : List D.P} {W : World} (h : A.Blk b m W) : D.Row W (some ⟨b, 0, none⟩) m := fun i p hp => by
  obtain ⟨c0, c1, c2⟩ := D.cellsL_at m i p hp
  have key : ∀ j u, (D.cellsL m)[j]? = some u → W.cell? ⟨b, j, none⟩ = some u := fun j u hu => by rw [Lib.cell_of_heap h]; simpa using hu
  refine ⟨b, 0, rfl, h.lt, ?_⟩
  rw [Nat.zero_add]
  exact ⟨key _ _ c0, key _ _ c1, key _ _ c2⟩
theorem A.Blk.on {b : Nat} {m : List D.P} {W W' : World} (h : A.Blk b m W) (hb : Below W.heap.size W W') : A.Blk b m W' := (hb.block b h.lt).trans h
theorem A.set_one {b o : Nat} {cs : List Value} {T : TypeId} {v : Value} {W : World} (h : W.heap[b]? = some (.cells cs.toArray T (0, 0))) : (W.setCell ⟨b, o, none⟩ v).heap[b]? = some (.cells (cs.set o v).toArray T (0, 0)) := by
  simp [World.setCell, Array.getElem?_modify, h]
theorem A.Blk.set {b i : Nat} {m : List D.P} {W : World} (h : A.Blk b m W) (hi : i < m.length) (p : D.P) : A.Blk b (m.set i p) (((W.setCell ⟨b, i * 3, none⟩ (.int .u8 p.k)).setCell ⟨b, i * 3 + 1, none⟩ (.int .i64 p.n)).setCell ⟨b, i * 3 + 2, none⟩ (.string p.t)) := by
  unfold A.Blk
  rw [← A.cells_set m i p hi]
  exact A.set_one (A.set_one (A.set_one h))
/-- Behind j pieces: the kept ones stand in front, and the rest as it was. -/
structure A.DelAt (l : List D.P) (base b i j : Nat) (w wr : World) : Prop where
  row : ∃ m, A.Blk b m wr ∧ m.length = l.length ∧ m.take i = A.keep (l.take j) ∧ m.drop j = l.drop j
  below : Below base w wr
theorem A.DelAt.on {l : List D.P} {base b i j : Nat} {w wr w' : World} (h : A.DelAt l base b i j w wr) (hb : Below wr.heap.size wr w') (hz : base ≤ wr.heap.size) : A.DelAt l base b i j w w' := by
  obtain ⟨m, h1, h2⟩ := h.row
  exact ⟨⟨m, h1.on hb, h2⟩, h.below.trans (hb.mono hz)⟩
theorem A.DelAt.strike {l : List D.P} {base b i j : Nat} {w wr : World} {p : D.P} (h : A.DelAt l base b i j w wr) (hp : l[j]? = some p) (hv : D.emptyP p = true) : A.DelAt l base b i (j + 1) w wr := by
  obtain ⟨m, h1, h2, h3, h4⟩ := h.row
  refine ⟨⟨m, h1, h2, ?_, ?_⟩, h.below⟩
  · rw [h3, List.take_add_one, hp, A.keep_app]
    show _ = _ ++ A.keep [p]
    rw [A.keep_t hv]; simp [A.keep]
  · rw [← List.drop_drop, ← List.drop_drop, h4]
theorem A.DelAt.keep {l : List D.P} {base b i j : Nat} {w wr : World} {p : D.P} (h : A.DelAt l base b i j w wr) (hp : l[j]? = some p) (hv : D.emptyP p = false) (hij : i ≤ j) (hb : base ≤ b) :
    A.DelAt l base b (i + 1) (j + 1) w (((wr.setCell ⟨b, i * 3, none⟩ (.int .u8 p.k)).setCell ⟨b, i * 3 + 1, none⟩ (.int .i64 p.n)).setCell ⟨b, i * 3 + 2, none⟩ (.string p.t)) := by
  obtain ⟨m, h1, h2, h3, h4⟩ := h.row
  have hj := (List.getElem?_eq_some_iff.1 hp).1
  have hi : i < m.length := by omega
  refine ⟨⟨m.set i p, h1.set hi p, by rw [List.length_set]; exact h2, ?_, ?_⟩, ((h.below.setCell (p := ⟨b, _, none⟩) hb _).setCell (p := ⟨b, _, none⟩) hb _).setCell (p := ⟨b, _, none⟩) hb _⟩
  · have e1 : A.keep (l.take (j + 1)) = A.keep (l.take j) ++ [p] := by
      rw [List.take_add_one, hp, A.keep_app]
      show _ ++ A.keep [p] = _
      rw [A.keep_f hv]; simp [A.keep]
    rw [e1, ← h3, List.take_add_one, List.getElem?_set_self hi, List.take_set_of_le (Nat.le_refl _)]
    rfl
  · rw [List.drop_set_of_lt (by omega), ← List.drop_drop, ← List.drop_drop, h4]
theorem A.DelAt.cells {l : List D.P} {base b i j : Nat} {w wr : World} (h : A.DelAt l base b i j w wr) (k : Nat) (hk : k < l.length) :
    (∃ u, wr.cell? ⟨b, k * 3, none⟩ = some u) ∧ (∃ u, wr.cell? ⟨b, k * 3 + 1, none⟩ = some u) ∧ (∃ u, wr.cell? ⟨b, k * 3 + 2, none⟩ = some u) ∧ ∀ o, wr.frozen? ⟨b, o, none⟩ = false := by
  obtain ⟨m, h1, h2, _⟩ := h.row
  obtain ⟨b', o', e, _, c0, c1, c2⟩ := h1.row k (m[k]'(by omega)) (List.getElem?_eq_getElem _)
  cases e
  rw [Nat.zero_add] at c0 c1 c2
  exact ⟨⟨_, c0⟩, ⟨_, c1⟩, ⟨_, c2⟩, fun o => Lib.frozen_of_heap h1 o⟩
theorem A.DelAt.read {l : List D.P} {base b i j : Nat} {w wr : World} {p : D.P} (h : A.DelAt l base b i j w wr) (hp : l[j]? = some p) :
    wr.cell? ⟨b, j * 3, none⟩ = some (.int .u8 p.k) ∧ wr.cell? ⟨b, j * 3 + 1, none⟩ = some (.int .i64 p.n) ∧ wr.cell? ⟨b, j * 3 + 2, none⟩ = some (.string p.t) := by
  obtain ⟨m, h1, h2, _, h4⟩ := h.row
  have hm : m[j]? = some p := by
    have e1 : (m.drop j)[0]? = (l.drop j)[0]? := by rw [h4]
    rw [List.getElem?_drop, List.getElem?_drop, Nat.add_zero, hp] at e1
    exact e1
  obtain ⟨b', o', e, _, c0, c1, c2⟩ := h1.row j p hm
  cases e
  rw [Nat.zero_add] at c0 c1 c2
  exact ⟨c0, c1, c2⟩
/-- clear, at a tail of pieces. -/
theorem A.clear_tail {b i : Nat} {m : List D.P} {W : World} (ty : TypeId) (c : Nat) (h : A.Blk b m W) (hi : i < m.length) (hmx : m.length ≤ 1000000) :
    ∃ W', (Builtin.clear_ #[22] ty #[.slice (some ⟨b, i * 3, none⟩) (m.length - i) c]).run Tryd.prog W = .ok (.tuple #[]) W' ∧ D.Row W' (some ⟨b, 0, none⟩) (m.take i) ∧ ∀ base w, base ≤ b → Below base w W → Below base w W' := by
  have hz : ∀ w, (zeroValue 29).run Tryd.prog w = .ok (.agg #[.int .u8 0, .int .i64 0, .string ⟨#[]⟩]) w := Tryd.zeroValue29
  obtain ⟨zs, hzs⟩ : ∃ zs, zs = (Builtin.zeroCells (Value.agg #[.int .u8 0, .int .i64 0, .string ⟨#[]⟩]).cells (m.length - i)).toList := ⟨_, rfl⟩
  have hzl : zs.length = (m.length - i) * 3 := by
    rw [hzs, Array.length_toList, size_zeroCells]
    rfl
  have h1 : ∀ v ∈ zs, v.oneCell' = true := by
    intro v hv
    rw [hzs] at hv
    simp only [Builtin.zeroCells, Array.toList_map, List.mem_map] at hv
    obtain ⟨k, _, rfl⟩ := hv
    have hs : (Value.agg #[.int .u8 0, .int .i64 0, .string ⟨#[]⟩]).cells.size = 3 := rfl
    rw [hs]
    have hm : k % 3 = 0 ∨ k % 3 = 1 ∨ k % 3 = 2 := by omega
    rcases hm with e | e | e <;> rw [e] <;> rfl
  have hst := run_storeCells_at Tryd.prog b (i * 3) 29 zs 0 (D.cellsL m).toArray W h (by rw [hzl]; simp [D.cellsL_len]; omega) h1
  rw [Nat.add_zero] at hst
  obtain ⟨row, hrow⟩ : ∃ row, row = ((D.cellsL m).toArray.toList.take (i * 3) ++ zs ++ (D.cellsL m).toArray.toList.drop (i * 3 + zs.length)).toArray := ⟨_, rfl⟩
  rw [← hrow] at hst
  have hg := setRow_heap W b (D.cellsL m).toArray row 29 (0, 0) h
  have hml : (m.take i).length = i := by rw [List.length_take]; omega
  have e0 : D.cellsL m = D.cellsL (m.take i) ++ D.cellsL (m.drop i) := by rw [← D.cellsL_append, List.take_append_drop]
  have hl0 : (D.cellsL (m.take i)).length = i * 3 := by rw [D.cellsL_len, hml]
  have e1 : (D.cellsL m).take (i * 3) = D.cellsL (m.take i) := by rw [e0]; exact List.take_left' hl0
  have hrl : row.toList = D.cellsL (m.take i) ++ (zs ++ (D.cellsL m).drop (i * 3 + zs.length)) := by
    rw [hrow, ← e1]; simp
  have hrs : row.size = m.length * 3 := by
    have := congrArg List.length hrl
    rw [Array.length_toList, List.length_append, List.length_append, hl0, hzl, List.length_drop, D.cellsL_len] at this
    omega
  refine ⟨W.setRow b row, ?_, ?_, fun base w hb hbw => ?_⟩
  · obtain ⟨n, hn⟩ : ∃ n, m.length - i = n + 1 := ⟨m.length - i - 1, by omega⟩
    subst hzs
    rw [hn] at hst ⊢
    simp only [Builtin.clear_]
    simp [run_underlying Tryd.underlying22, hz, hst]
  · have hown : (W.setRow b row).ownsRow 0 29 3 (.slice (some ⟨b, 0, none⟩) (m.take i).length m.length) (m.take i).length (D.cellsL (m.take i)) := by
      refine ⟨D.cellsL_len _, .inr ⟨b, _, _, rfl, Nat.zero_le _, hg, by omega, by unfold maxLen; omega, hrs, ?_⟩⟩
      rw [hrl, hml]
      exact List.take_left' hl0
    obtain ⟨ao, cp, hv, hr⟩ := D.row_of_own hown
    injection hv with hv
    subst hv
    exact hr
  · exact hbw.grown (row := some b) ⟨rfl, rfl, rfl, by simp, fun k _ hk => setRow_other W b k _ (fun e => hk (by rw [e]))⟩ (by have := h.lt; omega) (fun k e => by injection e with e; omega)
def A.DfEnd (b : Nat) (l : List D.P) (base : Nat) (w : World) (e : Ending) (w' : World) : Prop := e = .returned (.slice (some ⟨b, 0, none⟩) (A.keep l).length l.length) ∧ D.Row w' (some ⟨b, 0, none⟩) (A.keep l) ∧ Below base w w'
end Go.Proofs.YtdilkoogjkabfaaDoor
