/- Texts joined: NodeMake NodeMake2 -/
import Derived.Test.YtniccjbcchdkoaaPackNPkg
import Derived.Lib.SliceRun
/- NodeMake -/
namespace Go.Proofs.Ytniccjbcchdkoaa
open Go.RowKit

theorem N.cells_one4 (l : List N.K) : ∀ u ∈ N.cells l, u.oneCell' = true := fun u hu => by
  simp only [N.cells, List.mem_flatMap] at hu
  obtain ⟨p, _, hu⟩ := hu
  simp only [N.one, List.mem_cons, List.not_mem_nil, or_false] at hu
  obtain h | h | h | h := hu <;> rw [h] <;> rfl
theorem N.cells_of_row {W : World} {b o : Nat} {x : List N.K} (h : N.Row W (some ⟨b, o, none⟩) x) : ∀ j u, (N.cells x)[j]? = some u → W.cell? ((⟨b, o, none⟩ : Addr).add j) = some u := by
  intro j u hu
  have hadd : (⟨b, o, none⟩ : Addr).add j = ⟨b, o + j, none⟩ := by unfold Addr.add; split <;> simp_all
  rw [hadd]
  have hj : j < x.length * 4 := by rw [← N.cells_len]; exact (List.getElem?_eq_some_iff.1 hu).1
  obtain ⟨p, hp⟩ : ∃ p, x[j / 4]? = some p := ⟨x[j / 4]'(by omega), List.getElem?_eq_getElem _⟩
  obtain ⟨b', o', e, _, h0, h1, h2, h3⟩ := h _ p hp
  cases e
  obtain ⟨c0, c1, c2, c3⟩ := N.cells_at x _ p hp
  have hm : j = j / 4 * 4 ∨ j = j / 4 * 4 + 1 ∨ j = j / 4 * 4 + 2 ∨ j = j / 4 * 4 + 3 := by omega
  rcases hm with hm | hm | hm | hm
  · rw [hm, c0] at hu; cases hu; rw [hm]; exact h0
  · rw [hm, c1] at hu; cases hu; rw [hm]; exact h1
  · rw [hm, c2] at hu; cases hu; rw [hm]; exact h2
  · rw [hm, c3] at hu; cases hu; rw [hm]; exact h3
theorem N.append_src' {w0 w : World} {ops : Array Oper} {rest : List Oper} {o : Oper} {a : Act} {Q : Exit → Act → World → Prop} (hgd : o.guard = none) (s x : Operand)
    (ho : o.op = .call { callee := .builtin .append, args := #[s, x], argTypes := #[28, 28] })
    (v : Value) (n : Nat) (xs : List Value) (hs : a.eval s = v) (hown : w.ownsRow w0.heap.size 50 4 v n xs) (hB : Below w0.heap.size w0 w)
    (ao : Option Addr) (c : Nat) (l : List N.K) (hx : a.eval x = .slice ao l.length c) (hc : ao = none → c = 0) (hr : N.Row w ao l)
    (hn : (n + l.length) * 32 ≤ 140737488355328)
    (h : ∀ v' w', w'.ownsRow w0.heap.size 50 4 v' (n + l.length) (xs ++ N.cells l) → Below w0.heap.size w0 w' → wpList Try.prog ops Q rest (a.put o.dst v') w') : wpList Try.prog ops Q (o :: rest) a w := by
  obtain ⟨ip, hp, hp0, hp1, hp2⟩ := info_parts Try.infoKid
  cases ao with
  | none =>
    have hl : l = [] := by
      cases l with
      | nil => rfl
      | cons p r => obtain ⟨_, _, e, _⟩ := hr 0 p rfl; cases e
    subst hl
    rw [hc rfl] at hx
    refine wpList_append_own_none hgd s x _ ho w0.heap.size 50 ip 4 Try.underlying28 hp v n xs hs hown hx ?_
    refine h v w ?_ hB
    simpa [N.cells] using hown
  | some ad =>
    have hnews : ∀ j u, (N.cells l)[j]? = some u → w.cell? (ad.add j) = some u := by
      cases l with
      | nil => intro j u hu; simp [N.cells] at hu
      | cons p r =>
        obtain ⟨b, q, e, _⟩ := hr 0 p rfl
        cases e
        exact N.cells_of_row hr
    refine wpList_append_own _ hgd s x _ ho w0.heap.size 50 ip (.agg #[.int .u64 0, .int .i64 0, .int .i64 0, .int .i64 0]) 4 32 Try.underlying28 hp hp0 hp1 hp2 rfl (by decide) v n xs hs hown ad l.length c (N.cells l) hx (N.cells_len l) hnews (N.cells_one4 l) (by unfold maxLen; omega) (by omega) hB.size ?_
    intro v' w' h1 h2 _
    exact h v' w' h1 (hB.grown h2 hB.size (fun k e => (hown.lt k e).1))
def N.OwnEnd (l : List N.K) (w : World) (e : Ending) (w' : World) : Prop := ∃ v, e = .returned v ∧ N.Made l w v w'
/-! ### A block of three cells of the call's own that holds a node -/
structure N.Own (W : World) (b : Nat) (x y z : Value) : Prop where
  lt : b < W.heap.size
  c0 : W.cell? ⟨b, 0, none⟩ = some x
  c1 : W.cell? ⟨b, 1, none⟩ = some y
  c2 : W.cell? ⟨b, 2, none⟩ = some z
  f0 : W.frozen? ⟨b, 0, none⟩ = false
  f1 : W.frozen? ⟨b, 1, none⟩ = false
  f2 : W.frozen? ⟨b, 2, none⟩ = false
theorem N.Own.new (W : World) (x y z : Value) (t : TypeId) : N.Own (W.alloc (.cells #[x, y, z] t)) W.heap.size x y z :=
  ⟨by simp, by simp [go_sem], by simp [go_sem], by simp [go_sem], by simp [go_sem], by simp [go_sem], by simp [go_sem]⟩
theorem N.Own.below {W W' : World} {b x y z} (h : N.Own W b x y z) (hb : Below W.heap.size W W') : N.Own W' b x y z := by
  obtain ⟨hc, hf⟩ := M.bcell hb
  exact ⟨Nat.lt_of_lt_of_le h.lt hb.size, (hc _ _ h.lt).trans h.c0, (hc _ _ h.lt).trans h.c1, (hc _ _ h.lt).trans h.c2, (hf _ _ h.lt).trans h.f0, (hf _ _ h.lt).trans h.f1, (hf _ _ h.lt).trans h.f2⟩
theorem N.Own.alloc {W : World} {b x y z} (h : N.Own W b x y z) (o : Obj) : N.Own (W.alloc o) b x y z := h.below ((Below.refl _ _).alloc (Nat.le_refl _) o)
theorem N.Own.drew {W : World} {b x y z} (h : N.Own W b x y z) : N.Own W.drew b x y z := h.below (Below.refl _ _).drew
/-- What three stores into the block leave. -/
@[reducible] def N.put3 (W : World) (b : Nat) (x y z : Value) : World := ((W.setCell ⟨b, 0, none⟩ x).setCell ⟨b, 1, none⟩ y).setCell ⟨b, 2, none⟩ z
theorem N.Own.put {W : World} {b x y z} (h : N.Own W b x y z) (x' y' z' : Value) : N.Own (N.put3 W b x' y' z') b x' y' z' := by
  unfold N.put3
  have k0 := h.c0
  have k1 := h.c1
  have k2 := h.c2
  refine ⟨by simpa using h.lt, ?_, ?_, ?_, by simp only [World.frozen?_setCell]; exact h.f0, by simp only [World.frozen?_setCell]; exact h.f1, by simp only [World.frozen?_setCell]; exact h.f2⟩
  · rw [World.cell?_setCell_other _ _ _ _ (by simp), World.cell?_setCell_other _ _ _ _ (by simp), World.cell?_setCell_same' _ _ _ (by rw [k0]; rfl)]
  · rw [World.cell?_setCell_other _ _ _ _ (by simp), World.cell?_setCell_same' _ _ _ (by rw [World.cell?_setCell_other _ _ _ _ (by simp), k1]; rfl)]
  · rw [World.cell?_setCell_same' _ _ _ (by rw [World.cell?_setCell_other _ _ _ _ (by simp), World.cell?_setCell_other _ _ _ _ (by simp), k2]; rfl)]
theorem N.put3_below {B : Nat} {w W : World} {b : Nat} (h : Below B w W) (hb : B ≤ b) (x y z : Value) : Below B w (N.put3 W b x y z) :=
  ((h.setCell (p := ⟨b, 0, none⟩) hb _).setCell (p := ⟨b, 1, none⟩) hb _).setCell (p := ⟨b, 2, none⟩) hb _
theorem N.Own.set2 {W : World} {b x y z} (h : N.Own W b x y z) (z' : Value) : N.Own (W.setCell ⟨b, 2, none⟩ z') b x y z' := by
  have k2 := h.c2
  refine ⟨by simpa using h.lt, ?_, ?_, ?_, by rw [World.frozen?_setCell]; exact h.f0, by rw [World.frozen?_setCell]; exact h.f1, by rw [World.frozen?_setCell]; exact h.f2⟩
  · rw [World.cell?_setCell_other _ _ _ _ (by simp)]; exact h.c0
  · rw [World.cell?_setCell_other _ _ _ _ (by simp)]; exact h.c1
  · rw [World.cell?_setCell_same' _ _ _ (by rw [k2]; rfl)]
theorem N.Own.set1 {W : World} {b x y z} (h : N.Own W b x y z) (y' : Value) : N.Own (W.setCell ⟨b, 1, none⟩ y') b x y' z := by
  have k1 := h.c1
  refine ⟨by simpa using h.lt, ?_, ?_, ?_, by rw [World.frozen?_setCell]; exact h.f0, by rw [World.frozen?_setCell]; exact h.f1, by rw [World.frozen?_setCell]; exact h.f2⟩
  · rw [World.cell?_setCell_other _ _ _ _ (by simp)]; exact h.c0
  · rw [World.cell?_setCell_same' _ _ _ (by rw [k1]; rfl)]
  · rw [World.cell?_setCell_other _ _ _ _ (by simp)]; exact h.c2
theorem N.Own.keep {W : World} {b c x y z} (h : N.Own W b x y z) (hne : b ≠ c) (x' y' z' : Value) : N.Own (N.put3 W c x' y' z') b x y z := by
  unfold N.put3
  have q : ∀ i j : Nat, (⟨c, i, none⟩ : Addr) ≠ ⟨b, j, none⟩ := fun i j e => hne (by injection e with e1; exact e1.symm)
  have q' : ∀ i j : Nat, (⟨b, j, none⟩ : Addr) ≠ ⟨c, i, none⟩ := fun i j e => hne (by injection e)
  refine ⟨by simpa using h.lt, ?_, ?_, ?_, by simp only [World.frozen?_setCell]; exact h.f0, by simp only [World.frozen?_setCell]; exact h.f1, by simp only [World.frozen?_setCell]; exact h.f2⟩
  all_goals
    rw [World.cell?_setCell_other _ _ _ _ (by first | exact q _ _ | exact q' _ _), World.cell?_setCell_other _ _ _ _ (by first | exact q _ _ | exact q' _ _), World.cell?_setCell_other _ _ _ _ (by first | exact q _ _ | exact q' _ _)]
  · exact h.c0
  · exact h.c1
  · exact h.c2
/-! ### checked -/
def N.zv : Value := .agg #[.int .i64 0, .string ⟨#[]⟩, .slice none 0 0]
end Go.Proofs.Ytniccjbcchdkoaa
/- NodeMake2 -/
namespace Go.Proofs.Ytniccjbcchdkoaa
open Go.RowKit

def N.rT (t : ByteArray) : ByteArray := if N.chk (N.nd 0 t []) = 0 then t else ⟨#[]⟩
def N.LfEnd (t : ByteArray) (w : World) (e : Ending) (w' : World) : Prop := e = .returned (.tuple #[N.nv 0 (N.rT t) (.slice none 0 0), .int .i64 (N.chk (N.nd 0 t []))]) ∧ Below w.heap.size w w'
def N.rH (h : Int) (l : List N.K) : Int := if N.chk (N.nd h ⟨#[]⟩ l) = 0 then h else 0
def N.rL (h : Int) (l : List N.K) : List N.K := if N.chk (N.nd h ⟨#[]⟩ l) = 0 then l else []
def N.InEnd (h : Int) (l : List N.K) (w : World) (e : Ending) (w' : World) : Prop := ∃ v, e = .returned (.tuple #[N.nv (N.rH h l) ⟨#[]⟩ v, .int .i64 (N.chk (N.nd h ⟨#[]⟩ l))]) ∧ N.Made (N.rL h l) w v w'
theorem N.in_small {h : Int} {l : List N.K} (hc : N.chk (N.nd h ⟨#[]⟩ l) = 0) : l.length ≤ 4 ∧ l ≠ [] ∧ h ≠ 0 := by
  rcases N.chk_cases hc with k | k
  · have h1 : 1 ≤ ([] : List UInt8).length := k.t1
    exact absurd h1 (by decide)
  · exact ⟨k.k4, fun e => by have := k.k2; rw [show (N.nd h ⟨#[]⟩ l).ks = l from rfl, e] at this; simp at this, fun e => by have := k.h1; rw [show (N.nd h ⟨#[]⟩ l).h = h from rfl] at this; omega⟩
theorem N.setCell_below {B : Nat} {w W : World} (h : Below B w W) {b o : Nat} (hb : B ≤ b) (z : Value) : Below B w (W.setCell ⟨b, o, none⟩ z) := h.setCell (p := ⟨b, o, none⟩) hb z
/-- A row made since a moment at which the heap had size lo: stores below leave it alone. -/
structure N.Ab (l : List N.K) (w : World) (lo : Nat) (v : Value) (W : World) : Prop where
  own : W.ownsRow lo 50 4 v l.length (N.cells l)
  below : Below w.heap.size w W
  lo : w.heap.size ≤ lo
theorem N.Ab.set {l : List N.K} {w : World} {lo : Nat} {v : Value} {W : World} (h : N.Ab l w lo v W) {b : Nat} (h1 : w.heap.size ≤ b) (h2 : b < lo) (o : Nat) (z : Value) : N.Ab l w lo v (W.setCell ⟨b, o, none⟩ z) := by
  refine ⟨h.own.kept (row := some b) ⟨rfl, rfl, rfl, by simp [World.setCell], fun j _ hj => Below.heap_setCell _ _ _ _ (fun e => hj (by simpa using e))⟩ ?_, h.below.setCell (p := ⟨b, o, none⟩) h1 z, h.lo⟩
  cases hv : v.ownBlock with
  | none => exact .inl rfl
  | some k => exact .inr fun e => by have := (h.own.lt k hv).1; cases e; omega
theorem N.Ab.made {l : List N.K} {w : World} {lo : Nat} {v : Value} {W : World} (h : N.Ab l w lo v W) : N.Made l w v W := ⟨D.own_mono h.own h.lo, h.below⟩
theorem N.Made.ab {l : List N.K} {w w0 : World} {v : Value} {W : World} (h : N.Made l w0 v W) (hb : Below w.heap.size w w0) : N.Ab l w w0.heap.size v W := ⟨h.own, hb.trans (h.below.mono hb.size), hb.size⟩
end Go.Proofs.Ytniccjbcchdkoaa
