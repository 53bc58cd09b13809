/- Rows of yes and no that a law fills from the front; what MarkReturns says, piece by piece. -/
import Derived.Test.YtmbgcbgbdjiacaaMarkKnown
namespace Go.Proofs.Ytmbgcbgbdjiacaa
open Go.RowKit

theorem J.infoBool : (Try.prog.info? 4).map (fun i => (i.zero, i.size, i.bytes)) = some (some (.bool false), 1, 1) := by kernel_rfl
theorem J.ownCell {W : World} {base g n c : Nat} {e : TypeId} {xs : List Value} (h : W.ownsRow base e 1 (.slice (some ⟨g, 0, none⟩) n c) n xs) {i : Nat} {u : Value} (hu : xs[i]? = some u) : W.cell? ⟨g, i, none⟩ = some u ∧ W.frozen? ⟨g, i, none⟩ = false ∧ base ≤ g := by
  obtain ⟨hl, ⟨e', _⟩ | ⟨g', cap, cur, e', hb, hg, hnc, hcm, hcs, ht⟩⟩ := h
  · cases e'
  · cases e'
    have hi := (List.getElem?_eq_some_iff.1 hu).1
    rw [← ht, List.getElem?_take, if_pos (by omega)] at hu
    exact ⟨by rw [cell_of_row W g _ cur _ _ hg]; simpa using hu, frozen_of_row _ _ _ _ _ hg, hb⟩
theorem J.ownSet {W : World} {base g n c : Nat} {e : TypeId} {xs : List Value} (h : W.ownsRow base e 1 (.slice (some ⟨g, 0, none⟩) n c) n xs) (i : Nat) (u : Value) : (W.setCell ⟨g, i, none⟩ u).ownsRow base e 1 (.slice (some ⟨g, 0, none⟩) n c) n (xs.set i u) := by
  obtain ⟨hl, ⟨e', _⟩ | ⟨g', cap, cur, e', hb, hg, hnc, hcm, hcs, ht⟩⟩ := h
  · cases e'
  · cases e'
    exact ⟨by simpa using hl, .inr ⟨g, c, cur.setIfInBounds i u, rfl, hb, heap_setCell_same W g i cur e u hg, hnc, hcm, by simpa using hcs, by rw [← ht]; simp only [Array.toList_setIfInBounds, List.take_set]⟩⟩
theorem J.ownMade (w : World) (base n : Nat) (z : Value) (e : TypeId) (hb : base ≤ w.heap.size) (hm : n ≤ maxLen) : (w.alloc (.cells (madeCells #[z] n) e)).ownsRow base e 1 (.slice (some ⟨w.heap.size, 0, none⟩) n n) n (List.replicate n z) :=
  ⟨by simp, .inr ⟨w.heap.size, n, _, rfl, hb, heap_alloc_new w _, Nat.le_refl _, hm, by rw [size_madeCells]; omega, by rw [toList_madeCells_one, List.take_of_length_le (by simp)]⟩⟩
/-- A row of n of which the first are filled. -/
def J.fl (l : List Bool) (n : Nat) : List Value := (l ++ List.replicate (n - l.length) false).map Value.bool
theorem J.fl_nil (n : Nat) : J.fl [] n = List.replicate n (.bool false) := by simp [J.fl]
theorem J.fl_at {l : List Bool} {n i : Nat} (hl : l.length ≤ n) (hi : i < n) : (J.fl l n)[i]? = some (.bool (l[i]?.getD false)) := by
  unfold J.fl
  rw [List.getElem?_map, List.getElem?_append]
  by_cases h : i < l.length
  · rw [if_pos h, List.getElem?_eq_getElem h]; rfl
  · rw [if_neg h, List.getElem?_replicate, if_pos (by omega), List.getElem?_eq_none (by omega)]; rfl
theorem J.fl_set {l : List Bool} {n : Nat} (h : l.length < n) (b : Bool) : (J.fl l n).set l.length (.bool b) = J.fl (l ++ [b]) n := by
  unfold J.fl
  rw [← List.map_set, List.set_append_right _ _ (Nat.le_refl _), Nat.sub_self]
  obtain ⟨k, hk⟩ : ∃ k, n - l.length = k + 1 := ⟨n - l.length - 1, by omega⟩
  have e : n - (l ++ [b]).length = k := by rw [List.length_append]; simp; omega
  rw [hk, e, List.replicate_succ, List.set_cons_zero, List.append_assoc]; rfl
structure J.KtAt (W : World) (g n : Nat) (l : List Bool) (wr : World) : Prop where
  own : wr.ownsRow W.heap.size 4 1 (.slice (some ⟨g, 0, none⟩) n n) n (J.fl l n)
  below : Below W.heap.size W wr
  room : l.length ≤ n
theorem J.KtAt.on {W wr wx : World} {g n : Nat} {l : List Bool} (h : J.KtAt W g n l wr) (hb : Below wr.heap.size wr wx) : J.KtAt W g n l wx := ⟨D.own_below h.own hb, h.below.trans (hb.mono h.below.size), h.room⟩
theorem J.KtAt.cell {W wr : World} {g n : Nat} {l : List Bool} (h : J.KtAt W g n l wr) {i : Nat} (hi : i < n) : wr.cell? ⟨g, i, none⟩ = some (.bool (l[i]?.getD false)) ∧ wr.frozen? ⟨g, i, none⟩ = false := by
  have := J.ownCell h.own (J.fl_at h.room hi)
  exact ⟨this.1, this.2.1⟩
theorem J.KtAt.push {W wr : World} {g n : Nat} {l : List Bool} (h : J.KtAt W g n l wr) (b : Bool) {i : Nat} (hi : l.length = i) (hl : i < n) : J.KtAt W g n (l ++ [b]) (wr.setCell ⟨g, i, none⟩ (.bool b)) := by
  subst hi
  have hg := (J.ownCell h.own (J.fl_at h.room hl)).2.2
  refine ⟨?_, h.below.setCell (p := ⟨g, _, none⟩) hg _, by rw [List.length_append]; simp; omega⟩
  rw [← J.fl_set hl]
  exact J.ownSet h.own _ _
theorem J.KtAt.new (W : World) (n : Nat) (hn : n ≤ maxLen) : J.KtAt W W.heap.size n [] (W.alloc (.cells (madeCells #[.bool false] n) 4)) :=
  ⟨by rw [J.fl_nil]; exact J.ownMade W _ n _ _ (Nat.le_refl _) hn, (Below.refl _ _).alloc (Nat.le_refl _) _, Nat.zero_le _⟩
theorem J.kb_raw (q : D.Q) : ((D.raw q).k == 1) = D.kb1 q := by cases q <;> rfl
theorem J.kp_le (a : List D.Q) (i : Nat) : (D.kp (a.take i)).length ≤ (D.kp a).length := by
  have e : D.kp a = D.kp (a.take i) ++ D.kp (a.drop i) := by unfold D.kp; rw [← List.flatMap_append, List.take_append_drop]
  rw [e, List.length_append]; omega
theorem J.raw_at {R : List D.P} {a : List D.Q} (h : a.map D.raw = R) {i : Nat} {p : D.P} (hp : R[i]? = some p) : ∃ q, a[i]? = some q ∧ p = D.raw q := by
  rw [← h, List.getElem?_map] at hp
  obtain ⟨q, hq, e⟩ := Option.map_eq_some_iff.1 hp
  exact ⟨q, hq, e.symm⟩
/-- What a mark says of where it returns. -/
structure J.RetAt (n : Nat) (l : List Bool) (U : List K.M) (i : Nat) (m : K.M) : Prop where
  lo : 0 ≤ m.at_
  hi : m.at_ ≤ n
  gr : m.g = 0 ∨ m.g = 1
  at_ : ∃ u, U[i]? = some u ∧ (m.g = 0 → u.at_ ≤ m.at_ ∧ (u.at_ = m.at_ ↔ m.at_ = 0 ∨ l[(m.at_ - 1).toNat]? = some true)) ∧ (m.g ≠ 0 → m.at_ ≤ u.at_ ∧ (u.at_ = m.at_ ↔ m.at_ = n ∨ l[m.at_.toNat]? = some true))
theorem J.ret_at {s : List UInt8} {l : List K.M} {d : List D.P} {n : Nat} (hn : s.length = n) (hf : D.fitE s d = 0) (h : K.shE l d = 0) (hfit : J.Fits l) {i : Nat} {m : K.M} (hm : l[i]? = some m) : J.RetAt n (D.kp (D.qs d)) (K.shL (K.shL l d) (D.invP s d)) i m := by
  subst hn
  obtain ⟨h1, h2, u, hu, h3, h4⟩ := (K.returns hf h).at_ i m hm
  have g1 := (((K.shE_iff l d).1 h).set.ok m (List.mem_of_getElem? hm)).2.1
  have g0 := (hfit m (List.mem_of_getElem? hm)).g0
  exact ⟨h1, h2, by omega, u, hu, h3, h4⟩
theorem J.inv_chk {s : List UInt8} {d : List D.P} (hf : D.fitE s d = 0) : D.chk (D.invP s d) = 0 := by rw [← D.normP_inv hf]; exact D.chk_normP (D.chk_inv hf)
end Go.Proofs.Ytmbgcbgbdjiacaa
