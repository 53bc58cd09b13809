/- The contract of apply: Invert (a result that closures append to). -/
import Derived.Test.YtmljagkndnobdaaApplyDo
import Derived.Test.YtmljagkndnobdaaPackEqv
namespace Go.Proofs.Ytmljagkndnobdaa
open Go.RowKit

/-- The named result in its box, and the pieces that have been appended. -/
def A.IS (w : World) (F : Nat → List D.P) (k : Nat) (W : World) : Prop := ∃ v, W.heap[w.heap.size]? = some (.cells #[v] 22 (0, 0)) ∧ W.ownsRow w.heap.size 31 3 v (F k).length (D.cellsL (F k)) ∧ Below w.heap.size w W
/-- What belongs to it: its box, and the row. -/
def A.IR (b : Nat) (W : World) (j : Nat) : Prop := j = b ∨ ∃ v T, W.heap[b]? = some (.cells #[v] T (0, 0)) ∧ v.ownBlock = some j
set_option maxRecDepth 100000 in
theorem A.ne_box {W : World} {base b n : Nat} {v x : Value} {xs : List Value} (h : W.ownsRow base 31 3 v n xs) (hb : W.heap[b]? = some (.cells #[x] 22 (0, 0))) : v.ownBlock ≠ some b := by
  rcases h.2 with ⟨rfl, _⟩ | ⟨g, cap, cur, rfl, _, hg, _⟩
  · simp [Value.ownBlock]
  · intro e
    simp only [Value.ownBlock, Option.some.injEq] at e
    subst e
    rw [hg] at hb
    simp only [Option.some.injEq, Obj.cells.injEq] at hb
    exact absurd hb.2.1 (by decide)
set_option maxRecDepth 100000 in
theorem A.IS.on (w : World) (F : Nat → List D.P) (k : Nat) (W W' : World) (h : A.IS w F k W) (hb : Below W.heap.size W W') : A.IS w F k W' ∧ ∀ j, j < W.heap.size → ¬ A.IR w.heap.size W j → ¬ A.IR w.heap.size W' j := by
  obtain ⟨v, hbx, hown, hbw⟩ := h
  have hlt := (Array.getElem?_eq_some_iff.1 hbx).1
  have hbx' := (hb.block _ hlt).trans hbx
  refine ⟨⟨v, hbx', D.own_below hown hb, hbw.trans (hb.mono hbw.size)⟩, fun j hj hn hr => hn ?_⟩
  rcases hr with hr | ⟨x, T, h1, h2⟩
  · exact .inl hr
  · exact .inr ⟨x, T, by rw [← h1]; exact (hb.block _ hlt).symm, h2⟩
set_option maxRecDepth 100000 in
theorem A.IS.new (w : World) (F : Nat → List D.P) (k : Nat) (W : World) (c : Array Value) (T : TypeId) (h : A.IS w F k W) (_ : T = 31 ∨ T = 86) : ¬ A.IR w.heap.size (W.alloc (.cells c T)) W.heap.size := by
  obtain ⟨v, hbx, hown, hbw⟩ := h
  have hlt := (Array.getElem?_eq_some_iff.1 hbx).1
  rintro (hr | ⟨x, T', h1, h2⟩)
  · omega
  · rw [Lib.alloc_old W _ _ hlt, hbx] at h1
    simp only [Option.some.injEq, Obj.cells.injEq, Array.mk.injEq, List.cons.injEq, and_true] at h1
    have := (hown.lt _ (h1.1 ▸ h2)).2
    omega
/-- What an append and a store into the box leave. -/
theorem A.IS.appended {w : World} {F : Nat → List D.P} {k : Nat} {W w3 : World} {v v' : Value} {X Z : List D.P} {p : D.P} (hbx : W.heap[w.heap.size]? = some (.cells #[v] 22 (0, 0))) (hown : W.ownsRow w.heap.size 31 3 v X.length (D.cellsL X)) (hbw : Below w.heap.size w W)
    (hZ : Z = X ++ [p]) (hF : F (k + 1) = X ++ [p]) (hO : w3.ownsRow w.heap.size 31 3 v' Z.length (D.cellsL Z)) (hg : W.grownBy w3 v.ownBlock) (ha : v'.ownBlock = v.ownBlock ∨ ∃ g, v'.ownBlock = some g ∧ W.heap.size ≤ g) :
    A.Step (A.IS w F) (A.IR w.heap.size) k W (.returned (.tuple #[])) (w3.setCell ⟨w.heap.size, 0, none⟩ v') := by
  have hlt := (Array.getElem?_eq_some_iff.1 hbx).1
  have hne := A.ne_box hown hbx
  have hb3 : w3.heap[w.heap.size]? = some (.cells #[v] 22 (0, 0)) := by rw [hg.block _ hlt (fun e => hne e.symm)]; exact hbx
  have hne' := A.ne_box hO hb3
  have hb4 : (w3.setCell ⟨w.heap.size, 0, none⟩ v').heap[w.heap.size]? = some (.cells #[v'] 22 (0, 0)) := by simp [World.setCell, Array.getElem?_modify, hb3]
  have hset : ∀ j, j ≠ w.heap.size → (w3.setCell ⟨w.heap.size, 0, none⟩ v').heap[j]? = w3.heap[j]? := fun j hj => Below.heap_setCell _ _ _ _ (fun e => hj (by simpa using e))
  refine ⟨rfl, ⟨v', hb4, ?_, ?_⟩, ?_, fun j hj hn => ⟨?_, ?_⟩⟩
  · rw [hF, ← hZ]
    exact hO.kept (row := some w.heap.size) ⟨rfl, rfl, rfl, by simp [World.setCell], fun j _ hj => hset j (fun e => hj (by rw [e]))⟩ (.inr hne')
  · exact (hbw.grown hg hbw.size (fun j hj => (hown.lt j hj).1)).setCell (p := ⟨w.heap.size, 0, none⟩) (Nat.le_refl _) _
  · have := hg.size; simp only [World.setCell, Array.size_modify]; omega
  · have h1 : j ≠ w.heap.size := fun e => hn (.inl e)
    rw [hset j h1]
    exact hg.block j hj (fun e => hn (.inr ⟨v, _, hbx, e.symm⟩))
  · rintro (hr | ⟨x, T, h1, h2⟩)
    · exact hn (.inl hr)
    · rw [hb4] at h1
      simp only [Option.some.injEq, Obj.cells.injEq, Array.mk.injEq, List.cons.injEq, and_true] at h1
      rw [← h1.1] at h2
      rcases ha with ha | ⟨g, ha, hgz⟩
      · exact hn (.inr ⟨v, _, hbx, by rw [← ha]; exact h2⟩)
      · rw [ha] at h2
        injection h2 with h2
        omega
set_option maxRecDepth 100000 in
theorem A.inv_len (S : List UInt8) (a : List D.Q) (k : Nat) (hl : a.length ≤ 4096) : ((D.inv S (a.take k)).map D.raw).length ≤ 4096 := by
  rw [List.length_map, D.inv_length, List.length_take]
  omega
set_option maxRecDepth 100000 in
theorem A.inv_snoc' (S : List UInt8) (a : List D.Q) (k : Nat) (q : D.Q) (h : a[k]? = some q) : (D.inv S (a.take (k + 1))).map D.raw = (D.inv S (a.take k)).map D.raw ++ [D.raw (D.inv1 S a k q)] := by
  rw [D.inv_snoc S a k q h, List.map_append]; rfl
set_option maxRecDepth 100000 in
theorem A.part_full (S : List UInt8) (a : List D.Q) (k : Nat) (q : D.Q) (hq : a[k]? = some q) (h : D.inL a = S.length) : (D.part S a k q).length = D.in1 q := by
  obtain ⟨_, h1⟩ := D.inL_take_le a k q hq
  unfold D.part
  rw [List.length_take, List.length_drop]
  omega
end Go.Proofs.Ytmljagkndnobdaa
