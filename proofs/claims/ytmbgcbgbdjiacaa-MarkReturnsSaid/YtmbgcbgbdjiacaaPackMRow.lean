/- Texts joined: MarkRow MarkRef1 MarkRef2 MarkCut MarkRef3 -/
import Derived.Test.YtmbgcbgbdjiacaaPackOwn
import Derived.Test.YtmbgcbgbdjiacaaPackEqv
import Derived.Test.YtmbgcbgbdjiacaaApplyRow
import Derived.Test.YtmbgcbgbdjiacaaPackMMath
import Derived.Deep.AppendLies
import Derived.Test.YtmbgcbgbdjiacaaProg
import Derived.Test.YtmbgcbgbdjiacaaDeltaRef2
/- MarkRow -/
namespace Go.Proofs.Ytmbgcbgbdjiacaa
open Go.RowKit

def K.cellsM (l : List K.M) : List Value := l.flatMap fun x => [.int .u32 x.id, .int .i64 x.at_, .int .u8 x.g]
theorem K.cellsM_append (x y : List K.M) : K.cellsM (x ++ y) = K.cellsM x ++ K.cellsM y := by simp [K.cellsM]
theorem K.cellsM_one (p : K.M) : K.cellsM [p] = [.int .u32 p.id, .int .i64 p.at_, .int .u8 p.g] := by simp [K.cellsM]
theorem K.cellsM_len (x : List K.M) : (K.cellsM x).length = x.length * 3 := by
  induction x with
  | nil => rfl
  | cons p x ih =>
    have : K.cellsM (p :: x) = [.int .u32 p.id, .int .i64 p.at_, .int .u8 p.g] ++ K.cellsM x := by simp [K.cellsM]
    rw [this, List.length_append, ih]; simp; omega
theorem K.cellsM_at (x : List K.M) (i : Nat) (p : K.M) (h : x[i]? = some p) :
    (K.cellsM x)[i * 3]? = some (.int .u32 p.id) ∧ (K.cellsM x)[i * 3 + 1]? = some (.int .i64 p.at_) ∧ (K.cellsM x)[i * 3 + 2]? = some (.int .u8 p.g) := by
  induction x generalizing i with
  | nil => simp at h
  | cons q x ih =>
    have e : K.cellsM (q :: x) = .int .u32 q.id :: .int .i64 q.at_ :: .int .u8 q.g :: K.cellsM x := by simp [K.cellsM]
    rw [e]
    cases i with
    | zero => simp at h; subst h; exact ⟨rfl, rfl, rfl⟩
    | succ i =>
      obtain ⟨h0, h1, h2⟩ := ih i (by simpa using h)
      refine ⟨?_, ?_, ?_⟩
      · rw [show (i + 1) * 3 = i * 3 + 3 by omega]; exact h0
      · rw [show (i + 1) * 3 + 1 = i * 3 + 1 + 3 by omega]; exact h1
      · rw [show (i + 1) * 3 + 2 = i * 3 + 2 + 3 by omega]; exact h2
/-- Marks lie in a row. -/
def K.Row (W : World) (ao : Option Addr) (l : List K.M) : Prop :=
  ∀ (i : Nat) (p : K.M), l[i]? = some p → ∃ b o, ao = some ⟨b, o, none⟩ ∧ b < W.heap.size ∧
    W.cell? ⟨b, o + i * 3, none⟩ = some (.int .u32 p.id) ∧ W.cell? ⟨b, o + i * 3 + 1, none⟩ = some (.int .i64 p.at_) ∧ W.cell? ⟨b, o + i * 3 + 2, none⟩ = some (.int .u8 p.g)
theorem K.Row.below {W W' : World} {ao : Option Addr} {l : List K.M} (h : K.Row W ao l) (hb : Below W.heap.size W W') : K.Row W' ao l := fun i p hp => by
  obtain ⟨b, o, e, hlt, h0, h1, h2⟩ := h i p hp
  have hc := (D.bcell hb).1
  exact ⟨b, o, e, Nat.lt_of_lt_of_le hlt hb.size, (hc _ _ hlt).trans h0, (hc _ _ hlt).trans h1, (hc _ _ hlt).trans h2⟩
structure K.Made (l : List K.M) (w : World) (v : Value) (wr : World) : Prop where
  own : wr.ownsRow w.heap.size 32 3 v l.length (K.cellsM l)
  below : Below w.heap.size w wr
theorem K.Made.form {x : List K.M} {w : World} {v : Value} {W : World} (h : K.Made x w v W) : ∃ ao cap, v = .slice ao x.length cap ∧ K.Row W ao x := by
  obtain ⟨hl, ⟨rfl, h0⟩ | ⟨g, cap, cur, rfl, hb, hg, hnc, hcm, hcs, ht⟩⟩ := h.own
  · exact ⟨none, 0, by rw [h0], fun i p hp => by have := (List.getElem?_eq_some_iff.1 hp).1; omega⟩
  · have hlt := (Array.getElem?_eq_some_iff.1 hg).1
    refine ⟨some ⟨g, 0, none⟩, cap, rfl, fun i p hp => ⟨g, 0, rfl, hlt, ?_⟩⟩
    have hi := (List.getElem?_eq_some_iff.1 hp).1
    obtain ⟨h0, h1, h2⟩ := K.cellsM_at x i p hp
    have key : ∀ (j : Nat) (u : Value), (K.cellsM x)[j]? = some u → W.cell? ⟨g, j, none⟩ = some u := fun j u hu => by
      rw [← ht, List.getElem?_take] at hu
      have hj : j < x.length * 3 := by
        by_cases hj : j < x.length * 3
        · exact hj
        · rw [if_neg hj] at hu; cases hu
      rw [if_pos hj] at hu
      rw [cell_of_row W g _ cur _ _ hg]
      simpa using hu
    rw [Nat.zero_add]
    exact ⟨key _ _ h0, key _ _ h1, key _ _ h2⟩
theorem Try.infoMark : (Try.prog.info? 32).map (fun i => (i.zero, i.size, i.bytes)) = some (some (.agg #[.int .u32 0, .int .i64 0, .int .u8 0]), 3, 24) := by kernel_rfl
/-- An append of a mark that has just been laid. -/
theorem K.append_mark {W : World} {ops : Array Oper} {rest : List Oper} {o : Oper} {a : Act} {Q : Exit → Act → World → Prop} (hgd : o.guard = none) (s x : Operand)
    (ho : o.op = .call { callee := .builtin .append, args := #[s, x], argTypes := #[22, 22] })
    (base : Nat) (v : Value) (X : List K.M) (hs : a.eval s = v) (hown : W.ownsRow base 32 3 v X.length (K.cellsM X)) (p : K.M) (cc : Nat) (hx : a.eval x = .slice (some ⟨W.heap.size, 0, none⟩) 1 cc) (hn : X.length ≤ 1000000) (hbase : base ≤ W.heap.size)
    (h : ∀ Z v' w', Hid (Z = X ++ [p]) → w'.ownsRow base 32 3 v' Z.length (K.cellsM Z) → W.grownBy w' v.ownBlock → wpList Try.prog ops Q rest (a.put o.dst v') w') :
    wpList Try.prog ops Q (o :: rest) a (W.alloc (.cells #[.int .u32 p.id, .int .i64 p.at_, .int .u8 p.g] 32)) := by
  obtain ⟨ip, hp, hp0, hp1, hp2⟩ := info_parts Try.infoMark
  refine wpList_append_own_at _ hgd s x _ ho base 32 ip (.agg #[.int .u32 0, .int .i64 0, .int .u8 0]) 3 24 Try.underlying22 hp hp0 hp1 hp2 rfl (by decide) v X.length (K.cellsM X) hs (hown.alloc _) ⟨W.heap.size, 0, none⟩ 1 cc (K.cellsM [p]) hx rfl ?_ (fun u hu => by rw [K.cellsM_one] at hu; simp only [List.mem_cons, List.not_mem_nil, or_false] at hu; rcases hu with rfl | rfl | rfl <;> rfl) (by unfold maxLen; omega) (by omega) (by simp only [World.size_alloc]; omega) ?_
  · rw [K.cellsM_one]
    exact D.news W [.int .u32 p.id, .int .i64 p.at_, .int .u8 p.g] 32
  · intro v' w' h1 h2 _ h4
    refine h _ v' w' rfl ?_ ⟨h2.os, h2.tape, h2.output, Nat.le_trans (by simp only [World.size_alloc]; omega) h2.size, fun k hk hne => (h2.block k (by simp only [World.size_alloc]; omega) hne).trans (Lib.alloc_old W _ k hk)⟩
    rw [List.length_append, K.cellsM_append]; exact h1
theorem K.cells_one (l : List K.M) : ∀ u ∈ K.cellsM l, u.oneCell' = true := fun u hu => by
  simp only [K.cellsM, List.mem_flatMap, List.mem_cons, List.not_mem_nil, or_false] at hu
  obtain ⟨p, _, h | h | h⟩ := hu <;> rw [h] <;> rfl
theorem K.cells_of_row {W : World} {b o : Nat} {x : List K.M} (h : K.Row W (some ⟨b, o, none⟩) x) : ∀ j u, (K.cellsM x)[j]? = some u → W.cell? ((⟨b, o, none⟩ : Addr).add j) = some u := by
  intro j u hu
  have hadd : (⟨b, o, none⟩ : Addr).add j = ⟨b, o + j, none⟩ := by unfold Addr.add; split <;> simp_all
  rw [hadd]
  have hj : j < x.length * 3 := by rw [← K.cellsM_len]; exact (List.getElem?_eq_some_iff.1 hu).1
  obtain ⟨p, hp⟩ : ∃ p, x[j / 3]? = some p := ⟨x[j / 3]'(by omega), List.getElem?_eq_getElem _⟩
  obtain ⟨b', o', e, _, h0, h1, h2⟩ := h _ p hp
  cases e
  obtain ⟨c0, c1, c2⟩ := K.cellsM_at x _ p hp
  have hm : j = j / 3 * 3 ∨ j = j / 3 * 3 + 1 ∨ j = j / 3 * 3 + 2 := by omega
  rcases hm with hm | hm | hm
  · rw [hm, c0] at hu; cases hu; rw [hm]; exact h0
  · rw [hm, c1] at hu; cases hu; rw [hm]; exact h1
  · rw [hm, c2] at hu; cases hu; rw [hm]; exact h2
theorem K.append_src' {w0 w : World} {ops : Array Oper} {rest : List Oper} {o : Oper} {a : Act} {Q : Exit → Act → World → Prop} (hgd : o.guard = none) (s x : Operand)
    (ho : o.op = .call { callee := .builtin .append, args := #[s, x], argTypes := #[22, 22] })
    (v : Value) (n : Nat) (xs : List Value) (hs : a.eval s = v) (hown : w.ownsRow w0.heap.size 32 3 v n xs) (hB : Below w0.heap.size w0 w)
    (ao : Option Addr) (c : Nat) (l : List K.M) (hx : a.eval x = .slice ao l.length c) (hc : ao = none → c = 0) (hr : K.Row w ao l)
    (hn : (n + l.length) * 24 ≤ 140737488355328)
    (h : ∀ v' w', w'.ownsRow w0.heap.size 32 3 v' (n + l.length) (xs ++ K.cellsM l) → Below w0.heap.size w0 w' → wpList Try.prog ops Q rest (a.put o.dst v') w') : wpList Try.prog ops Q (o :: rest) a w := by
  obtain ⟨ip, hp, hp0, hp1, hp2⟩ := info_parts Try.infoMark
  cases ao with
  | none =>
    have hl : l = [] := by
      cases l with
      | nil => rfl
      | cons p r => obtain ⟨_, _, e, _⟩ := hr 0 p rfl; cases e
    subst hl
    rw [hc rfl] at hx
    refine wpList_append_own_none hgd s x _ ho w0.heap.size 32 ip 3 Try.underlying22 hp v n xs hs hown hx ?_
    refine h v w ?_ hB
    simpa [K.cellsM] using hown
  | some ad =>
    have hnews : ∀ j u, (K.cellsM l)[j]? = some u → w.cell? (ad.add j) = some u := by
      cases l with
      | nil => intro j u hu; simp [K.cellsM] at hu
      | cons p r =>
        obtain ⟨b, q, e, _⟩ := hr 0 p rfl
        cases e
        exact K.cells_of_row hr
    refine wpList_append_own _ hgd s x _ ho w0.heap.size 32 ip (.agg #[.int .u32 0, .int .i64 0, .int .u8 0]) 3 24 Try.underlying22 hp hp0 hp1 hp2 rfl (by decide) v n xs hs hown ad l.length c (K.cellsM l) hx (K.cellsM_len l) hnews (K.cells_one l) (by unfold maxLen; omega) (by omega) hB.size ?_
    intro v' w' h1 h2 _
    exact h v' w' h1 (hB.grown h2 hB.size (fun k e => (hown.lt k e).1))
theorem K.Made.nil (w : World) {wr : World} (h : Below w.heap.size w wr) : K.Made [] w (.slice none 0 0) wr := ⟨World.ownsRow_nil _ _ _ _, h⟩
theorem K.Made.on {X Z : List K.M} {w : World} {v v' : Value} {wr w' : World} (h : K.Made X w v wr) (h1 : w'.ownsRow w.heap.size 32 3 v' Z.length (K.cellsM Z)) (h2 : wr.grownBy w' v.ownBlock) : K.Made Z w v' w' := ⟨h1, h.below.grown h2 h.below.size (fun k e => (h.own.lt k e).1)⟩
theorem K.Made.weak {l : List K.M} {w W W' : World} {v : Value} (h : K.Made l W v W') (hb : Below w.heap.size w W) : K.Made l w v W' := ⟨D.own_mono h.own hb.size, hb.trans (h.below.mono hb.size)⟩
theorem K.Made.kept {l : List K.M} {w W W' : World} {v : Value} (h : K.Made l w v W) (hb : Below W.heap.size W W') : K.Made l w v W' := ⟨D.own_below h.own hb, h.below.trans (hb.mono h.below.size)⟩
theorem K.Made.src {l : List K.M} {w : World} {v : Value} {w' : World} (h : K.Made l w v w') : ∃ ao c, v = .slice ao l.length c ∧ K.Row w' ao l ∧ (ao = none → c = 0) := by
  obtain ⟨ao, c, hv, hr⟩ := h.form
  refine ⟨ao, c, hv, hr, fun e => ?_⟩
  obtain ⟨_, ⟨e', _⟩ | ⟨g, cap, cur, e', _⟩⟩ := h.own
  · rw [hv] at e'; simp at e'; exact e'.2.2
  · rw [hv, e] at e'; simp at e'
theorem K.row_lit (w : World) (l : List K.M) : K.Row (w.alloc (.cells (K.cellsM l).toArray 32)) (some ⟨w.heap.size, 0, none⟩) l := fun i p hp => by
  obtain ⟨h0, h1, h2⟩ := K.cellsM_at l i p hp
  have key : ∀ (j : Nat) (u : Value), (K.cellsM l)[j]? = some u → (w.alloc (.cells (K.cellsM l).toArray 32)).cell? ⟨w.heap.size, j, none⟩ = some u := fun j u hu => by
    rw [Lib.cell_of_heap (heap_alloc_new w _)]; simpa using hu
  refine ⟨w.heap.size, 0, rfl, by simp, ?_⟩
  rw [Nat.zero_add]
  exact ⟨key _ _ h0, key _ _ h1, key _ _ h2⟩
/-- Rows of pieces and rows of marks that outlive calls. -/
structure K.Kn (w wr : World) (P : List (Option Addr × List D.P)) (L : List (Option Addr × List K.M)) : Prop where
  below : Below w.heap.size w wr
  prow : ∀ x ∈ P, D.Row wr x.1 x.2
  mrow : ∀ x ∈ L, K.Row wr x.1 x.2
theorem K.Kn.on {w wr w' : World} {P : List (Option Addr × List D.P)} {L : List (Option Addr × List K.M)} (h : K.Kn w wr P L) (hb : Below wr.heap.size wr w') : K.Kn w w' P L := ⟨h.below.trans (hb.mono h.below.size), fun x hx => (h.prow x hx).below hb, fun x hx => (h.mrow x hx).below hb⟩
theorem K.Kn.p0 {w wr : World} {P : List (Option Addr × List D.P)} {L : List (Option Addr × List K.M)} {ao : Option Addr} {l : List D.P} (h : K.Kn w wr ((ao, l) :: P) L) : D.Row wr ao l := h.prow (ao, l) (by simp)
theorem K.Kn.m0 {w wr : World} {P : List (Option Addr × List D.P)} {L : List (Option Addr × List K.M)} {ao : Option Addr} {l : List K.M} (h : K.Kn w wr P ((ao, l) :: L)) : K.Row wr ao l := h.mrow (ao, l) (by simp)
theorem K.Kn.pt {w wr : World} {P : List (Option Addr × List D.P)} {L : List (Option Addr × List K.M)} {x : Option Addr × List D.P} (h : K.Kn w wr (x :: P) L) : K.Kn w wr P L := ⟨h.below, fun y hy => h.prow y (List.mem_cons_of_mem _ hy), h.mrow⟩
theorem K.Kn.mt {w wr : World} {P : List (Option Addr × List D.P)} {L : List (Option Addr × List K.M)} {x : Option Addr × List K.M} (h : K.Kn w wr P (x :: L)) : K.Kn w wr P L := ⟨h.below, h.prow, fun y hy => h.mrow y (List.mem_cons_of_mem _ hy)⟩
theorem K.Kn.pmade {w wr w' : World} {P : List (Option Addr × List D.P)} {L : List (Option Addr × List K.M)} (h : K.Kn w wr P L) {l : List D.P} {v : Value} (hm : D.Made l wr v w') : ∃ ao c, v = .slice ao l.length c ∧ Hid (ao = none → c = 0) ∧ Hid (K.Kn w w' ((ao, l) :: P) L) := by
  obtain ⟨ao, c, hv, hr, hc⟩ := hm.src
  have h2 := h.on hm.below
  exact ⟨ao, c, hv, hc, h2.below, fun x hx => by
    rcases List.mem_cons.1 hx with rfl | hx
    · exact hr
    · exact h2.prow x hx, h2.mrow⟩
theorem K.Kn.mmade {w wr w' : World} {P : List (Option Addr × List D.P)} {L : List (Option Addr × List K.M)} (h : K.Kn w wr P L) {l : List K.M} {v : Value} (hm : K.Made l wr v w') : ∃ ao c, v = .slice ao l.length c ∧ Hid (ao = none → c = 0) ∧ Hid (K.Kn w w' P ((ao, l) :: L)) := by
  obtain ⟨ao, c, hv, hr, hc⟩ := hm.src
  have h2 := h.on hm.below
  exact ⟨ao, c, hv, hc, h2.below, h2.prow, fun x hx => by
    rcases List.mem_cons.1 hx with rfl | hx
    · exact hr
    · exact h2.mrow x hx⟩
end Go.Proofs.Ytmbgcbgbdjiacaa
/- MarkRef1 -/
namespace Go.Proofs.Ytmbgcbgbdjiacaa
open Go.RowKit

/-- What the fields of a mark can hold. -/
structure K.Fit (m : K.M) : Prop where
  id0 : 0 ≤ m.id
  id1 : m.id ≤ 4294967295
  at0 : -9223372036854775808 ≤ m.at_
  at1 : m.at_ ≤ 9223372036854775807
  g0 : 0 ≤ m.g
  g1 : m.g ≤ 255
theorem K.drop_cons {l : List K.M} {k : Nat} (h : k < l.length) : ∃ p, l[k]? = some p ∧ l.drop k = p :: l.drop (k + 1) :=
  ⟨l[k], List.getElem?_eq_getElem h, (List.drop_eq_getElem_cons h)⟩
theorem K.cell3 {W V : World} {b o : Nat} {p : K.M} (hb : Below W.heap.size W V) (hlt : b < W.heap.size)
    (h : W.cell? ⟨b, o, none⟩ = some (.int .u32 p.id) ∧ W.cell? ⟨b, o + 1, none⟩ = some (.int .i64 p.at_) ∧ W.cell? ⟨b, o + 2, none⟩ = some (.int .u8 p.g)) :
    V.cell? ⟨b, o, none⟩ = some (.int .u32 p.id) ∧ V.cell? ⟨b, o + 1, none⟩ = some (.int .i64 p.at_) ∧ V.cell? ⟨b, o + 2, none⟩ = some (.int .u8 p.g) :=
  ⟨((D.bcell hb).1 _ _ hlt).trans h.1, ((D.bcell hb).1 _ _ hlt).trans h.2.1, ((D.bcell hb).1 _ _ hlt).trans h.2.2⟩
theorem K.eqMark (a b c x y z : Int) (w : World) : (Op.equalIn 10000 32 (.agg #[.int .u32 a, .int .i64 b, .int .u8 c]) (.agg #[.int .u32 x, .int .i64 y, .int .u8 z])).run Try.prog w = .ok (a == x && b == y && c == z) w := by
  have u3 := Try.underlying3
  have u5 := Try.underlying5
  have u9 := Try.underlying30
  have a3 := Try.isAgg3
  have a5 := Try.isAgg5
  have a9 := Try.isAgg30
  have z3 := Try.sizeOf3
  have z5 := Try.sizeOf5
  have z9 := Try.sizeOf30
  have hS : Try.prog.underlying 32 = some (.struct (Try.prog.fieldsOf 32)) := by kernel_rfl
  rw [show (10000 : Nat) = 9999 + 1 from rfl, run_equalIn_agg w 9999 32 _ _ hS (by kernel_rfl)]
  simp only [Program.fieldsOf, Try.underlying32]
  go_simp
  by_cases h1 : a = x <;> by_cases h2 : b = y <;> by_cases h3 : c = z <;> simp [h1, h2, h3]
theorem K.eq_walk (p q : K.M) : (p.id == q.id && p.at_ == q.at_ && p.g == q.g) = decide (p = q) := by
  obtain ⟨a, b, c⟩ := p
  obtain ⟨x, y, z⟩ := q
  rw [Bool.eq_iff_iff]
  simp [and_assoc]
set_option maxHeartbeats 1000000 in
theorem refSame9_any (ao bo : Option Addr) (ca cb : Nat) (a b : List K.M) (w : World) (ha : K.Row w ao a) (hb : K.Row w bo b) (la : a.length ≤ maxLen) :
    Calls Try.prog 14 #[.slice ao a.length ca, .slice bo b.length cb] w fun e w' => e = .returned (.bool (decide (a = b))) ∧ Below w.heap.size w w' := by
  unfold maxLen at la
  by_cases hl : a.length = b.length
  · have Ha := Lib.hid ha
    have Hb := Lib.hid hb
    have Hl := Lib.hid hl
    have hq : ((a.length : Int) != (b.length : Int)) = false := by simp [hl]
    clear ha hb hl
    go_enter Try.func14, Try.ntmps14
    go_wp2
    go_loopw [5] (fun j wr => ∃ k : Nat, k ≤ a.length ∧ j = .int .i64 k ∧ Hid (a.drop k = b.drop k ↔ a = b) ∧ Hid (Below w.heap.size w wr)) (fun j _ => a.length - (intOf j).toNat)
    case atStart => exact ⟨0, Nat.zero_le _, rfl, Iff.rfl, Below.refl _ _⟩
    case round =>
      obtain ⟨k, hk, rfl, hs, hw⟩ := hrel
      by_cases hlt : k < a.length
      · obtain ⟨p, hp, hpd⟩ := K.drop_cons hlt
        obtain ⟨r, hr, hrd⟩ := K.drop_cons (l := b) (k := k) (by have := Hl.out; omega)
        obtain ⟨b1, o1, e1, l1, hc⟩ := Ha.out k p hp
        obtain ⟨b2, o2, e2, l2, hd⟩ := Hb.out k r hr
        obtain ⟨c0, c1, c2⟩ := K.cell3 hw.out l1 hc
        obtain ⟨d0, d1, d2⟩ := K.cell3 hw.out l2 hd
        clear hc hd
        subst e1
        subst e2
        have hkb : k < b.length := by have := Hl.out; omega
        have hst : Hid ((p = r ∧ a.drop (k + 1) = b.drop (k + 1)) ↔ a = b) := by show _ ↔ _; rw [← hs.out, hpd, hrd, List.cons.injEq]
        by_cases hpe : p = r
        · have hn : Hid (a.drop (k + 1) = b.drop (k + 1) ↔ a = b) := by show _ ↔ _; rw [← hst.out]; simp [hpe]
          have hrun : ∀ W : World, (Op.equalIn 10000 32 (.agg #[.int .u32 p.id, .int .i64 p.at_, .int .u8 p.g]) (.agg #[.int .u32 r.id, .int .i64 r.at_, .int .u8 r.g])).run Try.prog W = .ok true W := fun W => by rw [K.eqMark, K.eq_walk, decide_eq_true hpe]
          clear hpd hrd hp hr hpe hs hst
          go_wp2_with fail
          go_quiet (fail)
          go_wp2
          go_roundw
          case rel => exact ⟨k + 1, by omega, by go_num, hn, below_drewN hw.out _⟩
          case measure => simp [intOf]; omega
        · have hn : Hid (decide (a = b) = false) := by show _ = _; rw [decide_eq_false_iff_not, ← hst.out]; exact fun h => hpe h.1
          have hrun : ∀ W : World, (Op.equalIn 10000 32 (.agg #[.int .u32 p.id, .int .i64 p.at_, .int .u8 p.g]) (.agg #[.int .u32 r.id, .int .i64 r.at_, .int .u8 r.g])).run Try.prog W = .ok false W := fun W => by rw [K.eqMark, K.eq_walk, decide_eq_false hpe]
          clear hpd hrd hp hr hpe hs hst
          go_wp2_with fail
          go_quiet (fail)
          go_wp2
          go_ret
          exact ⟨by rw [hn.out]; rfl, below_drewN hw.out _⟩
      · obtain rfl : k = a.length := by omega
        have hn : Hid (decide (a = b) = true) := by show _ = _; rw [decide_eq_true_iff, ← hs.out, List.drop_length, Hl.out, List.drop_length]
        go_wp2
        go_ret
        exact ⟨by rw [hn.out]; rfl, hw.out⟩
  · have hn : Hid (decide (a = b) = false) := by show _ = _; rw [decide_eq_false_iff_not]; exact fun h => hl (by rw [h])
    have hq : ((a.length : Int) != (b.length : Int)) = true := by simp; omega
    clear ha hb hl
    go_enter Try.func14, Try.ntmps14
    go_wp2
    go_ret
    exact ⟨by rw [hn.out]; rfl, Below.refl _ _⟩
/-- Block b holds a mark, and may be written. -/
structure K.Box (W : World) (b : Nat) (m : K.M) : Prop where
  lt : b < W.heap.size
  c0 : W.cell? ⟨b, 0, none⟩ = some (.int .u32 m.id)
  c1 : W.cell? ⟨b, 1, none⟩ = some (.int .i64 m.at_)
  c2 : W.cell? ⟨b, 2, none⟩ = some (.int .u8 m.g)
  f0 : W.frozen? ⟨b, 0, none⟩ = false
  f1 : W.frozen? ⟨b, 1, none⟩ = false
  f2 : W.frozen? ⟨b, 2, none⟩ = false
theorem K.Box.new (W : World) (m : K.M) (t : TypeId) : K.Box (W.alloc (.cells #[.int .u32 m.id, .int .i64 m.at_, .int .u8 m.g] t)) W.heap.size m :=
  ⟨by simp, by simp [go_sem], by simp [go_sem], by simp [go_sem], by simp [go_sem], by simp [go_sem], by simp [go_sem]⟩
theorem K.Box.below {W W' : World} {b m} (h : K.Box W b m) (hb : Below W.heap.size W W') : K.Box W' b m := by
  obtain ⟨hc, hf⟩ := D.bcell hb
  exact ⟨Nat.lt_of_lt_of_le h.lt hb.size, (hc _ _ h.lt).trans h.c0, (hc _ _ h.lt).trans h.c1, (hc _ _ h.lt).trans h.c2, (hf _ _ h.lt).trans h.f0, (hf _ _ h.lt).trans h.f1, (hf _ _ h.lt).trans h.f2⟩
/-- What three stores into the block leave. -/
@[reducible] def K.put3 (W : World) (b : Nat) (m : K.M) : World := ((W.setCell ⟨b, 0, none⟩ (.int .u32 m.id)).setCell ⟨b, 1, none⟩ (.int .i64 m.at_)).setCell ⟨b, 2, none⟩ (.int .u8 m.g)
theorem K.Box.put {W : World} {b m} (h : K.Box W b m) (m' : K.M) : K.Box (K.put3 W b m') b m' := by
  unfold K.put3
  have k0 := h.c0
  have k1 := h.c1
  have k2 := h.c2
  refine ⟨by simpa using h.lt, ?_, ?_, ?_, by simp only [World.frozen?_setCell]; exact h.f0, by simp only [World.frozen?_setCell]; exact h.f1, by simp only [World.frozen?_setCell]; exact h.f2⟩
  · rw [World.cell?_setCell_other _ _ _ _ (by simp), World.cell?_setCell_other _ _ _ _ (by simp), World.cell?_setCell_same' _ _ _ (by rw [k0]; rfl)]
  · rw [World.cell?_setCell_other _ _ _ _ (by simp), World.cell?_setCell_same' _ _ _ (by rw [World.cell?_setCell_other _ _ _ _ (by simp), k1]; rfl)]
  · rw [World.cell?_setCell_same' _ _ _ (by rw [World.cell?_setCell_other _ _ _ _ (by simp), World.cell?_setCell_other _ _ _ _ (by simp), k2]; rfl)]
theorem K.put3_below {B : Nat} {w W : World} {b : Nat} (h : Below B w W) (hb : B ≤ b) (m : K.M) : Below B w (K.put3 W b m) :=
  ((h.setCell (p := ⟨b, 0, none⟩) hb _).setCell (p := ⟨b, 1, none⟩) hb _).setCell (p := ⟨b, 2, none⟩) hb _
def K.zero : K.M := ⟨0, 0, 0⟩
def K.fnd (l : List K.M) (i : Int) : K.M := (K.find l i).getD K.zero
/-- What find returns, piece by piece. -/
theorem K.find_cons (p : K.M) (l : List K.M) (i : Int) : K.find (p :: l) i = if p.id = i then some p else K.find l i := by
  unfold K.find
  rw [List.find?_cons]
  by_cases h : p.id = i
  · rw [if_pos h, show (p.id == i) = true by simpa using h]
  · rw [if_neg h, show (p.id == i) = false by simpa using h]
/-- Between two rounds of a search: the result's box, and what is left holds what the whole holds. -/
structure K.Look (l : List K.M) (i : Int) (k : Nat) (w wr : World) : Prop where
  same : K.find (l.drop k) i = K.find l i
  res : K.Box wr w.heap.size K.zero
  below : Below w.heap.size w wr
set_option maxHeartbeats 1000000 in
theorem refFind9_any (ao : Option Addr) (ca : Nat) (l : List K.M) (i : Int) (w : World) (hr : K.Row w ao l) (la : l.length ≤ maxLen) :
    Calls Try.prog 21 #[.slice ao l.length ca, .int .u32 i] w fun e w' => e = .returned (.tuple #[.agg #[.int .u32 (K.fnd l i).id, .int .i64 (K.fnd l i).at_, .int .u8 (K.fnd l i).g], .bool (K.find l i).isSome]) ∧ Below w.heap.size w w' := by
  have Hr := Lib.hid hr
  clear hr
  unfold maxLen at la
  go_enter Try.func21, Try.ntmps21
  go_wp2
  go_loopw [6] (fun j wr => ∃ k : Nat, k ≤ l.length ∧ j = .int .i64 k ∧ Hid (K.Look l i k w wr)) (fun j _ => l.length - (intOf j).toNat)
  case atStart => exact ⟨0, Nat.zero_le _, rfl, rfl, K.Box.new w K.zero _, (Below.refl _ _).alloc (Nat.le_refl _) _⟩
  case round =>
    obtain ⟨k, hk, rfl, hL⟩ := hrel
    have hb := Lib.hid hL.out.below
    have hs := hb.out.size
    obtain ⟨x0, x1, x2, g0, g1, g2⟩ := (⟨hL.out.res.c0, hL.out.res.c1, hL.out.res.c2, hL.out.res.f0, hL.out.res.f1, hL.out.res.f2⟩ : _ ∧ _ ∧ _ ∧ _ ∧ _ ∧ _)
    simp only [K.zero] at x0 x1 x2
    by_cases hlt : k < l.length
    · obtain ⟨p, hp, hpd⟩ := K.drop_cons hlt
      obtain ⟨b1, o1, e1, l1, hc⟩ := Hr.out k p hp
      obtain ⟨c0, c1, c2⟩ := K.cell3 hb.out l1 hc
      subst e1
      clear hc hp
      have hst : Hid (K.find (p :: l.drop (k + 1)) i = K.find l i) := by show _ = _; rw [← hpd]; exact hL.out.same
      by_cases he : p.id = i
      · have hF : Hid (K.find l i = some p) := by show _ = _; rw [← hst.out, K.find_cons, if_pos he]
        have hq : (p.id == i) = true := by simpa using he
        clear hpd hst he
        go_wp2
        have hP := hL.out.res.put p
        have p0 := hP.c0
        have p1 := hP.c1
        have p2 := hP.c2
        refine bodyPost_ret (v := .tuple #[.agg #[.int .u32 p.id, .int .i64 p.at_, .int .u8 p.g], .bool true]) ?_ rfl ⟨by rw [K.fnd, hF.out]; rfl, K.put3_below hb.out (Nat.le_refl _) _⟩
        unfold K.put3 at p0 p1 p2
        simp [results, Try.results21, go_sem, p0, p1, p2]
      · have hF : Hid (K.find (l.drop (k + 1)) i = K.find l i) := by show _ = _; rw [← hst.out, K.find_cons, if_neg he]
        have hq : (p.id == i) = false := by simpa using he
        clear hpd hst he
        go_wp2
        go_roundw
        case rel => exact ⟨k + 1, by omega, by go_num, hF.out, hL.out.res, hb.out⟩
        case measure => simp [intOf]; omega
    · obtain rfl : k = l.length := by omega
      have hF : Hid (K.find l i = none) := by show _ = _; rw [← hL.out.same, List.drop_length]; rfl
      go_wp2
      have hP := hL.out.res.put K.zero
      have p0 := hP.c0
      have p1 := hP.c1
      have p2 := hP.c2
      refine bodyPost_ret (v := .tuple #[.agg #[.int .u32 0, .int .i64 0, .int .u8 0], .bool false]) ?_ rfl ⟨by rw [K.fnd, hF.out]; rfl, K.put3_below hb.out (Nat.le_refl _) K.zero⟩
      unfold K.put3 at p0 p1 p2
      simp only [K.zero] at p0 p1 p2
      simp [results, Try.results21, go_sem, p0, p1, p2]
/-- The ID before place k. -/
def K.prev (l : List K.M) : Nat → Int
  | 0 => 0
  | k + 1 => (l[k]?.getD K.zero).id
/-- Between two rounds of a check: what is left has the error of the whole. -/
structure K.Chk (n : Int) (l : List K.M) (k : Nat) (w wr : World) : Prop where
  same : K.chkF n (K.prev l k) (l.drop k) = K.chkF n 0 l
  below : Below w.heap.size w wr
theorem K.chkF_cons (n p : Int) (m : K.M) (l : List K.M) : K.chkF n p (m :: l) = if m.id ≤ p ∨ 1 < m.g then 2 else if m.at_ < 0 ∨ n < m.at_ then 3 else K.chkF n m.id l := rfl
theorem K.box {W V : World} (p : K.M) (t : TypeId) (hb : Below (W.alloc (.cells #[.int .u32 p.id, .int .i64 p.at_, .int .u8 p.g] t)).heap.size (W.alloc (.cells #[.int .u32 p.id, .int .i64 p.at_, .int .u8 p.g] t)) V) :
    V.cell? ⟨W.heap.size, 0, none⟩ = some (.int .u32 p.id) ∧ V.cell? ⟨W.heap.size, 1, none⟩ = some (.int .i64 p.at_) ∧ V.cell? ⟨W.heap.size, 2, none⟩ = some (.int .u8 p.g) := by
  have hc := (D.bcell hb).1
  refine ⟨(hc _ _ (by simp)).trans ?_, (hc _ _ (by simp)).trans ?_, (hc _ _ (by simp)).trans ?_⟩ <;> simp [go_sem]
set_option maxHeartbeats 4000000 in
theorem refCheck9_any (n : Int) (ao : Option Addr) (ca : Nat) (l : List K.M) (w : World) (hr : K.Row w ao l) (la : l.length ≤ maxLen) (hf : ∀ m ∈ l, K.Fit m) :
    Calls Try.prog 13 #[.int .i64 n, .slice ao l.length ca] w fun e w' => e = .returned (.int .i64 (K.chk n l)) ∧ Below w.heap.size w w' := by
  have Hr := Lib.hid hr
  have Hf := Lib.hid hf
  clear hr hf
  unfold maxLen at la
  have hB := Below.refl w.heap.size w
  by_cases h0 : n < 0
  · have hd : Hid (K.chk n l = 2) := by show _ = _; rw [K.chk, if_pos h0]
    go_enter Try.func13, Try.ntmps13
    go_wp2
    go_ret
    exact ⟨by rw [hd.out]; rfl, hB⟩
  · by_cases h1 : 64 < l.length
    · have hd : Hid (K.chk n l = 20) := by show _ = _; rw [K.chk, if_neg h0, if_pos h1]
      go_enter Try.func13, Try.ntmps13
      go_wp2
      go_ret
      exact ⟨by rw [hd.out]; rfl, hB⟩
    · have hd : Hid (K.chk n l = K.chkF n 0 l) := by show _ = _; rw [K.chk, if_neg h0, if_neg h1]
      go_enter Try.func13, Try.ntmps13
      go_wp2
      go_loopw [5] (fun j wr => ∃ k : Nat, k ≤ l.length ∧ j = .int .i64 k ∧ Hid (K.Chk n l k w wr)) (fun j _ => l.length - (intOf j).toNat)
      case atStart => exact ⟨0, Nat.zero_le _, rfl, rfl, hB⟩
      case round =>
        obtain ⟨k, hk, rfl, hL⟩ := hrel
        have hb := Lib.hid hL.out.below
        clear hB
        by_cases hlt : k < l.length
        · obtain ⟨p, hp, hpd⟩ := K.drop_cons hlt
          obtain ⟨b1, o1, e1, l1, hc⟩ := Hr.out k p hp
          obtain ⟨c0, c1, c2⟩ := K.cell3 hb.out l1 hc
          subst e1
          have fp := Lib.hid (Hf.out p (List.mem_of_getElem? hp))
          have hst : Hid (K.chkF n (K.prev l k) (p :: l.drop (k + 1)) = K.chkF n 0 l) := by show _ = _; rw [← hpd]; exact hL.out.same
          have hnx : Hid (K.prev l (k + 1) = p.id) := by show _ = _; simp [K.prev, hp]
          cases k with
          | zero =>
            rw [Nat.zero_mul, Nat.add_zero] at c0 c1 c2
            by_cases i0 : p.id = 0
            · have q1 : (p.id == 0) = true := by simpa using i0
              have hF : Hid (K.chkF n 0 l = 2) := by show _ = _; rw [← hst.out, K.chkF_cons, if_pos (Or.inl (by rw [i0]; exact Int.le_refl _))]
              clear hst hnx hpd hp
              go_wp2
              go_quiet (fail)
              go_wp2
              go_ret
              exact ⟨by rw [hd.out, hF.out]; rfl, below_drewN (hb.out.alloc hb.out.size _) _⟩
            · have q1 : (p.id == 0) = false := by simpa using i0
              by_cases g1 : 1 < p.g
              · have q3 : decide (1 < p.g) = true := by simpa using g1
                have hF : Hid (K.chkF n 0 l = 2) := by show _ = _; rw [← hst.out, K.chkF_cons, if_pos (Or.inr g1)]
                clear hst hnx hpd hp
                go_wp2
                go_quiet (fail)
                go_wp2
                go_ret
                exact ⟨by rw [hd.out, hF.out]; rfl, below_drewN (hb.out.alloc hb.out.size _) _⟩
              · have q3 : decide (1 < p.g) = false := by simpa using g1
                by_cases a0 : p.at_ < 0
                · have hF : Hid (K.chkF n 0 l = 3) := by show _ = _; rw [← hst.out, K.chkF_cons, if_neg (by have := fp.out.id0; simp only [K.prev]; omega), if_pos (Or.inl a0)]
                  have q4 : decide (p.at_ < 0) = true := by simpa using a0
                  clear hst hnx hpd hp
                  go_wp2
                  go_quiet (fail)
                  go_wp2
                  go_ret
                  exact ⟨by rw [hd.out, hF.out]; rfl, below_drewN (hb.out.alloc hb.out.size _) _⟩
                · have q4 : decide (p.at_ < 0) = false := by simpa using a0
                  by_cases a1 : n < p.at_
                  · have hF : Hid (K.chkF n 0 l = 3) := by show _ = _; rw [← hst.out, K.chkF_cons, if_neg (by have := fp.out.id0; simp only [K.prev]; omega), if_pos (Or.inr a1)]
                    have q5 : decide (n < p.at_) = true := by simpa using a1
                    clear hst hnx hpd hp
                    go_wp2
                    go_quiet (fail)
                    go_wp2
                    go_ret
                    exact ⟨by rw [hd.out, hF.out]; rfl, below_drewN (hb.out.alloc hb.out.size _) _⟩
                  · have hF : Hid (K.chkF n p.id (l.drop (0 + 1)) = K.chkF n 0 l) := by show _ = _; rw [← hst.out, K.chkF_cons, if_neg (by have := fp.out.id0; simp only [K.prev]; omega), if_neg (by omega)]
                    have q5 : decide (n < p.at_) = false := by simpa using a1
                    clear hst hpd hp
                    go_wp2
                    go_quiet (fail)
                    go_wp2
                    go_roundw
                    case rel => exact ⟨0 + 1, by omega, by go_num, by rw [hnx.out]; exact hF.out, below_drewN (hb.out.alloc hb.out.size _) _⟩
                    case measure => simp [intOf]; omega
          | succ k =>
            obtain ⟨r, hrk⟩ : ∃ r, l[k]? = some r := ⟨l[k]'(by omega), List.getElem?_eq_getElem _⟩
            obtain ⟨b2, o2, e2, l2, hc2⟩ := Hr.out k r hrk
            cases e2
            have d0 := (K.cell3 hb.out l2 hc2).1
            have fr := Lib.hid (Hf.out r (List.mem_of_getElem? hrk))
            have hpv : Hid (K.prev l (k + 1) = r.id) := by show _ = _; simp [K.prev, hrk]
            rw [hpv.out] at hst
            clear hc2 hrk
            have hlk : k < l.length := by omega
            have lb := Nat.lt_of_lt_of_le l1 hb.out.size
            have d1 := ((Below.refl wr.heap.size wr).alloc (Nat.le_refl _) (.cells #[.int .u32 p.id, .int .i64 p.at_, .int .u8 p.g] 32)).cell (p := ⟨b1, o1 + k * 3, none⟩) lb
            rw [d0] at d1
            have wk : IntKind.i64.wrap (k : Int) = (k : Int) := IntWalk.i64_in _ (by omega)
            by_cases i0 : p.id = 0
            · have q1 : (p.id == 0) = true := by simpa using i0
              have hF : Hid (K.chkF n 0 l = 2) := by show _ = _; rw [← hst.out, K.chkF_cons, if_pos (Or.inl (by rw [i0]; exact fr.out.id0))]
              clear hst hnx hpd hp
              go_wp2
              go_quiet (fail)
              go_wp2
              go_ret
              exact ⟨by rw [hd.out, hF.out]; rfl, below_drewN (hb.out.alloc hb.out.size _) _⟩
            · have q1 : (p.id == 0) = false := by simpa using i0
              by_cases i1 : p.id ≤ r.id
              · have q2 : decide (p.id ≤ r.id) = true := by simpa using i1
                have hF : Hid (K.chkF n 0 l = 2) := by show _ = _; rw [← hst.out, K.chkF_cons, if_pos (Or.inl i1)]
                clear hst hnx hpd hp
                go_wp2
                go_quiet (fail)
                go_wp2
                go_ret
                exact ⟨by rw [hd.out, hF.out]; rfl, below_drewN (hb.out.alloc hb.out.size _) _⟩
              · have q2 : decide (p.id ≤ r.id) = false := by simpa using i1
                by_cases g1 : 1 < p.g
                · have q3 : decide (1 < p.g) = true := by simpa using g1
                  have hF : Hid (K.chkF n 0 l = 2) := by show _ = _; rw [← hst.out, K.chkF_cons, if_pos (Or.inr g1)]
                  clear hst hnx hpd hp
                  go_wp2
                  go_quiet (fail)
                  go_wp2
                  go_ret
                  exact ⟨by rw [hd.out, hF.out]; rfl, below_drewN (hb.out.alloc hb.out.size _) _⟩
                · have q3 : decide (1 < p.g) = false := by simpa using g1
                  by_cases a0 : p.at_ < 0
                  · have hF : Hid (K.chkF n 0 l = 3) := by show _ = _; rw [← hst.out, K.chkF_cons, if_neg (by omega), if_pos (Or.inl a0)]
                    have q4 : decide (p.at_ < 0) = true := by simpa using a0
                    clear hst hnx hpd hp
                    go_wp2
                    go_quiet (fail)
                    go_wp2
                    go_ret
                    exact ⟨by rw [hd.out, hF.out]; rfl, below_drewN (hb.out.alloc hb.out.size _) _⟩
                  · have q4 : decide (p.at_ < 0) = false := by simpa using a0
                    by_cases a1 : n < p.at_
                    · have hF : Hid (K.chkF n 0 l = 3) := by show _ = _; rw [← hst.out, K.chkF_cons, if_neg (by omega), if_pos (Or.inr a1)]
                      have q5 : decide (n < p.at_) = true := by simpa using a1
                      clear hst hnx hpd hp
                      go_wp2
                      go_quiet (fail)
                      go_wp2
                      go_ret
                      exact ⟨by rw [hd.out, hF.out]; rfl, below_drewN (hb.out.alloc hb.out.size _) _⟩
                    · have hF : Hid (K.chkF n p.id (l.drop ((k + 1) + 1)) = K.chkF n 0 l) := by show _ = _; rw [← hst.out, K.chkF_cons, if_neg (by omega), if_neg (by omega)]
                      have q5 : decide (n < p.at_) = false := by simpa using a1
                      clear hst hpd hp
                      go_wp2
                      go_quiet (fail)
                      go_wp2
                      go_roundw
                      case rel => exact ⟨(k + 1) + 1, by omega, by go_num, by rw [hnx.out]; exact hF.out, below_drewN (hb.out.alloc hb.out.size _) _⟩
                      case measure => simp [intOf]; omega
        · obtain rfl : k = l.length := by omega
          have hF : Hid (K.chkF n 0 l = 0) := by show _ = _; rw [← hL.out.same, List.drop_length]; rfl
          go_wp2
          go_ret
          exact ⟨by rw [hd.out, hF.out]; rfl, hb.out⟩
theorem refIs9_any (ao : Option Addr) (ca : Nat) (l : List K.M) (w : World) (hr : K.Row w ao l) (la : l.length ≤ maxLen) (hf : ∀ m ∈ l, K.Fit m) :
    Calls Try.prog 31 #[.slice ao l.length ca] w fun e w' => e = .returned (.bool (K.isB l)) ∧ Below w.heap.size w w' := by
  have hc := Lib.hid (refCheck9_any 9223372036854775807 ao ca l w hr la hf)
  have hd : Hid (K.isB l = (K.chk 9223372036854775807 l == 0)) := rfl
  clear hr hf
  go_enter Try.func31, Try.ntmps31
  go_wp2_with fail
  refine hc.out.mono ?_
  rintro e w1 ⟨rfl, hb⟩
  have hB := Lib.hid hb
  clear hb
  go_wp2
  go_ret
  exact ⟨by rw [hd.out]; rfl, hB.out⟩
end Go.Proofs.Ytmbgcbgbdjiacaa
/- MarkRef2 -/
namespace Go.Proofs.Ytmbgcbgbdjiacaa
open Go.RowKit

theorem K.without_snoc (l : List K.M) (i : Int) (k : Nat) (p : K.M) (h : l[k]? = some p) : K.without (l.take (k + 1)) i = K.without (l.take k) i ++ (if p.id = i then [] else [p]) := by
  rw [List.take_add_one, h]
  unfold K.without
  rw [List.filter_append]
  by_cases e : p.id = i
  · simp [e]
  · simp [e]
set_option maxHeartbeats 1000000 in
theorem refWithout9_any (ao : Option Addr) (ca : Nat) (l : List K.M) (i : Int) (w : World) (hr : K.Row w ao l) (la : l.length ≤ 100000) :
    Calls Try.prog 32 #[.slice ao l.length ca, .int .u32 i] w fun e w' => ∃ v, e = .returned v ∧ K.Made (K.without l i) w v w' := by
  have Hr := Lib.hid hr
  have hM := K.Made.nil w (Below.refl _ _)
  clear hr
  go_enter Try.func32, Try.ntmps32
  go_wp2
  go_loopw [5, 6] (fun v j wr => ∃ k : Nat, k ≤ l.length ∧ j = .int .i64 k ∧ Hid (K.Made (K.without (l.take k) i) w v wr)) (fun _ j _ => l.length - (intOf j).toNat)
  case atStart => exact ⟨0, Nat.zero_le _, rfl, hM⟩
  case round =>
    obtain ⟨k, hk, rfl, hL⟩ := hrel
    clear hM
    by_cases hlt : k < l.length
    · obtain ⟨p, hp, hpd⟩ := K.drop_cons hlt
      obtain ⟨b1, o1, e1, l1, hc⟩ := Hr.out k p hp
      have hb := Lib.hid hL.out.below
      have hbs := hb.out.size
      obtain ⟨c0, c1, c2⟩ := K.cell3 hb.out l1 hc
      subst e1
      clear hc hpd
      have hst := Lib.hid (K.without_snoc l i k p hp)
      have hle : (K.without (l.take k) i).length ≤ l.length := Nat.le_trans (K.without_le _ _) (by simp; omega)
      clear hp
      by_cases he : p.id = i
      · have hF : Hid (K.without (l.take (k + 1)) i = K.without (l.take k) i) := by show _ = _; rw [hst.out, if_pos he, List.append_nil]
        have hq : (p.id != i) = false := by simpa using he
        clear hst he
        go_wp2
        go_roundw
        case rel => exact ⟨k + 1, by omega, by go_num, by rw [hF.out]; exact hL.out⟩
        case measure => simp [intOf]; omega
      · have hF : Hid (K.without (l.take (k + 1)) i = K.without (l.take k) i ++ [p]) := by show _ = _; rw [hst.out, if_neg he]
        have hq : (p.id != i) = true := by simpa using he
        obtain ⟨X, hX⟩ : ∃ X, Hid (K.without (l.take k) i = X) := ⟨_, rfl⟩
        rw [hX.out] at hL hle hF
        clear hst he
        obtain ⟨ao', c', hv, _⟩ := hL.out.form
        subst hv
        obtain ⟨W0, rfl⟩ : ∃ W0 : World, W0 = wr := ⟨_, rfl⟩
        go_wp2_with (at_builtin; refine K.append_mark rfl _ _ rfl w.heap.size _ X rfl hL.out.own p 1 rfl ?a1 ?a2 ?_)
        case a1 => omega
        case a2 => exact hbs
        intro Z v' w3 hZ hO hg
        have hx1 : Hid (K.Made (K.without (l.take (k + 1)) i) w v' w3) := by
          show K.Made _ _ _ _
          rw [hF.out]
          have := hL.out.on hO hg
          rw [hZ.out] at this
          exact this
        clear hO hg
        go_wp2
        go_roundw
        case rel => exact ⟨k + 1, by omega, by go_num, hx1⟩
        case measure => simp [intOf]; omega
    · obtain rfl : k = l.length := by omega
      rw [List.take_length] at hL
      go_wp2
      go_ret
      exact ⟨_, rfl, hL.out⟩
def K.DrpEnd (l : List K.M) (i : Int) (w : World) (e : Ending) (w' : World) : Prop := ∃ v, e = .returned (.tuple #[v, .int .i64 (K.drpE l i)]) ∧ K.Made (K.drpL l i) w v w'
theorem K.isB_len {l : List K.M} (h : K.isB l = true) : l.length ≤ 64 := ((K.isB_iff l).1 h).len
theorem refDrop9_any (ao : Option Addr) (ca : Nat) (l : List K.M) (i : Int) (w : World) (hr : K.Row w ao l) (la : l.length ≤ maxLen) (hf : ∀ m ∈ l, K.Fit m) :
    Calls Try.prog 17 #[.slice ao l.length ca, .int .u32 i] w (K.DrpEnd l i w) := by
  have hI := Lib.hid (refIs9_any ao ca l w hr la hf)
  cases hs : K.isB l with
  | false =>
    have hd : Hid (K.drpE l i = 2 ∧ K.drpL l i = []) := by
      have h2 : K.drpE l i = 2 := by unfold K.drpE; rw [hs]; rfl
      exact ⟨h2, by unfold K.drpL; rw [if_neg (by rw [h2]; decide)]⟩
    rw [hs] at hI
    clear hr hf hs
    go_enter Try.func17, Try.ntmps17
    go_wp2_with fail
    refine hI.out.mono ?_
    rintro e w1 ⟨rfl, hb⟩
    have hB := Lib.hid hb
    clear hb
    go_wp2
    go_ret2
    exact ⟨_, by rw [hd.out.1]; rfl, by rw [hd.out.2]; exact K.Made.nil _ hB.out⟩
  | true =>
    have hl := K.isB_len hs
    have hF : Hid (∀ V, Below w.heap.size w V → Calls Try.prog 21 #[.slice ao l.length ca, .int .u32 i] V fun e w' => e = .returned (.tuple #[.agg #[.int .u32 (K.fnd l i).id, .int .i64 (K.fnd l i).at_, .int .u8 (K.fnd l i).g], .bool (K.find l i).isSome]) ∧ Below V.heap.size V w') := fun V hb => refFind9_any ao ca l i V (hr.below hb) la
    have hW : Hid (∀ V, Below w.heap.size w V → Calls Try.prog 32 #[.slice ao l.length ca, .int .u32 i] V fun e w' => ∃ v, e = .returned v ∧ K.Made (K.without l i) V v w') := fun V hb => refWithout9_any ao ca l i V (hr.below hb) (by omega)
    cases hn : K.find l i with
    | none =>
      have hd : Hid (K.drpE l i = 7 ∧ K.drpL l i = []) := by
        have h2 : K.drpE l i = 7 := by unfold K.drpE; rw [if_pos hs, if_pos hn]
        exact ⟨h2, by unfold K.drpL; rw [if_neg (by rw [h2]; decide)]⟩
      rw [hs] at hI
      have hx : Hid (K.fnd l i = K.zero) := by show _ = _; rw [K.fnd, hn]; rfl
      rw [hn, hx.out] at hF
      clear hr hf hs hn
      go_enter Try.func17, Try.ntmps17
      go_wp2_with fail
      refine hI.out.mono ?_
      rintro e w1 ⟨rfl, hb⟩
      have hB := Lib.hid hb
      clear hb
      go_wp2_with fail
      refine (hF.out _ hB.out).mono ?_
      rintro e w2 ⟨rfl, hb⟩
      have hB2 := Lib.hid (hB.out.trans (hb.mono hB.out.size))
      clear hb
      go_wp2
      go_ret2
      exact ⟨_, by rw [hd.out.1]; rfl, by rw [hd.out.2]; exact K.Made.nil _ (hB2.out.alloc hB2.out.size _)⟩
    | some p =>
      have hd : Hid (K.drpE l i = 0 ∧ K.drpL l i = K.without l i) := by
        have h2 : K.drpE l i = 0 := by unfold K.drpE; rw [if_pos hs, if_neg (by rw [hn]; exact fun h => nomatch h)]
        exact ⟨h2, by unfold K.drpL; rw [if_pos h2]⟩
      rw [hs] at hI
      have hx : Hid (K.fnd l i = p) := by show _ = _; rw [K.fnd, hn]; rfl
      rw [hn, hx.out] at hF
      clear hr hf hs hn
      go_enter Try.func17, Try.ntmps17
      go_wp2_with fail
      refine hI.out.mono ?_
      rintro e w1 ⟨rfl, hb⟩
      have hB := Lib.hid hb
      clear hb
      go_wp2_with fail
      refine (hF.out _ hB.out).mono ?_
      rintro e w2 ⟨rfl, hb⟩
      have hB2 := Lib.hid (hB.out.trans (hb.mono hB.out.size))
      clear hb
      go_wp2_with fail
      have hB3 := hB2.out.alloc hB2.out.size (.cells #[.int .u32 p.id, .int .i64 p.at_, .int .u8 p.g] 32)
      refine (hW.out _ hB3).mono ?_
      rintro e w3 ⟨v, rfl, hm⟩
      have hm := Lib.hid (hm.weak hB3)
      go_wp2
      go_ret2
      exact ⟨_, by rw [hd.out.1]; rfl, by rw [hd.out.2]; exact hm.out⟩
end Go.Proofs.Ytmbgcbgbdjiacaa
/- MarkCut -/
namespace Go.Proofs.Ytmbgcbgbdjiacaa
open Go.RowKit

theorem K.Row.take {W : World} {ao : Option Addr} {l : List K.M} (h : K.Row W ao l) (k : Nat) : K.Row W ao (l.take k) := fun i p hp => by
  rw [List.getElem?_take] at hp
  split at hp
  · exact h i p hp
  · cases hp
theorem K.Row.drop {W : World} {b o : Nat} {l : List K.M} (h : K.Row W (some ⟨b, o, none⟩) l) (k : Nat) : K.Row W (some ⟨b, o + k * 3, none⟩) (l.drop k) := fun i p hp => by
  rw [List.getElem?_drop] at hp
  obtain ⟨b', o', e, hl, h0, h1, h2⟩ := h (k + i) p hp
  cases e
  rw [show o + (k + i) * 3 = o + k * 3 + i * 3 by omega] at h0 h1 h2
  exact ⟨b, o + k * 3, rfl, hl, h0, h1, h2⟩
/-- What a row of a call's own is, when it is to be cut. -/
theorem K.Made.form2 {x : List K.M} {w : World} {v : Value} {W : World} (h : K.Made x w v W) : ∃ ao cap, v = .slice ao x.length cap ∧ x.length ≤ cap ∧ (ao = none → cap = 0) ∧ K.Row W ao x := by
  obtain ⟨ao, cap, hv, hr⟩ := h.form
  refine ⟨ao, cap, hv, ?_, ?_, hr⟩
  · obtain ⟨_, ⟨e, h0⟩ | ⟨g, c, cur, e, _, _, hnc, _⟩⟩ := h.own
    · omega
    · rw [hv] at e; simp at e; omega
  · intro e0
    obtain ⟨_, ⟨e, _⟩ | ⟨g, c, cur, e, _⟩⟩ := h.own
    · rw [hv] at e; simp at e; exact e.2.2
    · rw [hv, e0] at e; simp at e
set_option maxRecDepth 100000 in
theorem K.slice_to (lo : Option Addr) (n c k : Nat) (hk : k ≤ c) (W : World) : (Instr.slice 22 (.slice lo n c) none (some (.int .i64 (k : Int))) none).run Try.prog W = .ok (.slice lo k c) W := by
  have h := run_slice_h (P := Try.prog) (w := W) 22 lo n c Try.underlying22 .i64 (k : Int) (by omega) (by omega)
  rw [h]
  have hs : (sizeOf (Try.prog.elem 22)).run Try.prog W = .ok 3 W := by kernel_rfl
  rw [hs]
  simp only [Result.andThen, sliced, Int.toNat_natCast, Nat.sub_zero]
  cases lo <;> simp [Addr.add]
set_option maxRecDepth 100000 in
theorem K.slice_from (W0 : World) (lo : Option Addr) (L : List K.M) (c k : Nat) (hl : L.length ≤ c) (hk : k ≤ L.length) (hn : lo = none → c = 0) (hr : K.Row W0 lo L) : ∃ lo' c', (∀ W, (Instr.slice 22 (.slice lo L.length c) (some (.int .i64 (k : Int))) none none).run Try.prog W = .ok (.slice lo' (L.drop k).length c') W) ∧ K.Row W0 lo' (L.drop k) ∧ (lo' = none → c' = 0) := by
  have h := fun W => run_slice_l (P := Try.prog) (w := W) 22 lo L.length c Try.underlying22 .i64 (k : Int) (by omega) (by omega)
  have hs : ∀ W, (sizeOf (Try.prog.elem 22)).run Try.prog W = .ok 3 W := fun W => by kernel_rfl
  have e : ∀ W, (Instr.slice 22 (.slice lo L.length c) (some (.int .i64 (k : Int))) none none).run Try.prog W = .ok (sliced lo k L.length c 3) W := fun W => by
    rw [h, hs]; simp only [Result.andThen, Int.toNat_natCast]
  have hld : (L.drop k).length = L.length - k := List.length_drop
  by_cases hck : c = k
  · have hd : L.drop k = [] := List.drop_eq_nil_of_le (by omega)
    refine ⟨lo, c - k, fun W => ?_, by rw [hd]; exact fun i s hs => by simp at hs, fun _ => by omega⟩
    rw [e W, hld]
    simp [sliced, hck]
  · cases lo with
    | none => have := hn rfl; omega
    | some a =>
      by_cases hL : L = []
      · subst hL
        refine ⟨some (a.add (k * 3)), c - k, fun W => ?_, by simp; exact fun i s hs => by simp at hs, fun h => nomatch h⟩
        rw [e W]
        simp [sliced]; omega
      · obtain ⟨b, o, ea, _⟩ := hr 0 (L.head hL) (by cases L with
          | nil => exact absurd rfl hL
          | cons x r => rfl)
        cases ea
        refine ⟨some ⟨b, o + k * 3, none⟩, c - k, fun W => ?_, hr.drop k, fun h => nomatch h⟩
        rw [e W, hld]
        have hadd : (⟨b, o, none⟩ : Addr).add (k * 3) = ⟨b, o + k * 3, none⟩ := by unfold Addr.add; split <;> simp_all
        simp [sliced, hadd]; omega
end Go.Proofs.Ytmbgcbgbdjiacaa
/- MarkRef3 -/
namespace Go.Proofs.Ytmbgcbgbdjiacaa
open Go.RowKit

/-- Where a mark is put. -/
def K.pos (l : List K.M) (m : K.M) : Nat := (l.takeWhile (fun x => decide (x.id < m.id))).length
theorem K.pos_cons (x : K.M) (l : List K.M) (m : K.M) : K.pos (x :: l) m = if x.id < m.id then K.pos l m + 1 else 0 := by
  unfold K.pos
  rw [List.takeWhile_cons]
  by_cases h : x.id < m.id
  · rw [if_pos (by simpa using h), if_pos h, List.length_cons]
  · rw [if_neg (by simpa using h), if_neg h]; rfl
theorem K.pos_le : ∀ (l : List K.M) (m : K.M), K.pos l m ≤ l.length
  | [], _ => Nat.le_refl _
  | x :: l, m => by
    rw [K.pos_cons, List.length_cons]
    have := K.pos_le l m
    split <;> omega
theorem K.put_pos : ∀ (l : List K.M) (m : K.M), K.put l m = l.take (K.pos l m) ++ m :: l.drop (K.pos l m)
  | [], _ => rfl
  | x :: l, m => by
    rw [K.put_cons, K.pos_cons]
    split
    · rw [List.take_succ_cons, List.drop_succ_cons, K.put_pos l m]; rfl
    · rfl
theorem K.pos_step : ∀ (l : List K.M) (m p : K.M) (k : Nat), l[k]? = some p → k ≤ K.pos l m → p.id < m.id → k + 1 ≤ K.pos l m
  | [], _, _, _, h, _, _ => by simp at h
  | x :: l, m, p, k, h, hk, hp => by
    rw [K.pos_cons] at hk ⊢
    cases k with
    | zero => simp at h; subst h; rw [if_pos hp]; omega
    | succ k =>
      split at hk
      · rename_i hx
        rw [if_pos hx]
        have := K.pos_step l m p k (by simpa using h) (by omega) hp
        omega
      · omega
theorem K.pos_stop : ∀ (l : List K.M) (m p : K.M) (k : Nat), l[k]? = some p → k ≤ K.pos l m → ¬ p.id < m.id → K.pos l m = k
  | [], _, _, _, h, _, _ => by simp at h
  | x :: l, m, p, k, h, hk, hp => by
    rw [K.pos_cons] at hk ⊢
    cases k with
    | zero => simp at h; subst h; rw [if_neg hp]
    | succ k =>
      split at hk
      · rename_i hx
        rw [if_pos hx, K.pos_stop l m p k (by simpa using h) (by omega) hp]
      · omega
theorem K.Made.row {x : List K.M} {w W : World} {ao : Option Addr} {n c : Nat} (h : K.Made x w (.slice ao n c) W) : K.Row W ao x := by
  obtain ⟨ao', c', e, r⟩ := h.form
  cases e
  exact r
theorem K.Made.drewN {x : List K.M} {w W : World} {v : Value} (h : K.Made x w v W) (n : Nat) : K.Made x w v (W.drewN n) := h.kept (below_drewN (Below.refl _ _) _)
theorem K.Box.drewN {W : World} {b : Nat} {m : K.M} (h : K.Box W b m) (n : Nat) : K.Box (W.drewN n) b m := h.below (below_drewN (Below.refl _ _) _)
def K.SetEnd (l : List K.M) (m : K.M) (w : World) (e : Ending) (w' : World) : Prop := ∃ v, e = .returned (.tuple #[v, .int .i64 (K.setE l m)]) ∧ K.Made (K.setL l m) w v w'
end Go.Proofs.Ytmbgcbgbdjiacaa
