/- The counts of FreelistPartition: what is known of the rows while they are counted. -/
import Derived.Test.YtndpknkdmaojaaaDoorFreeLaws3
import Derived.Test.YtndpknkdmaojaaaDoorFreeLaws4
namespace Go.Proofs.YtndpknkdmaojaaaDoor
open Go.RowKit

theorem FL.Ri.mono {B B' : Nat} {X : List Nat} {v : Value} {W : World} (h : FL.Ri B X v W) (hb : B' ≤ B) : FL.Ri B' X v W := ⟨D.own_mono h.own hb⟩
theorem FL.Al.mono {B B' : Nat} {X : List Nat} {v : Value} {W : World} (h : FL.Al B X v W) (hb : B' ≤ B) : FL.Al B' X v W := ⟨D.own_mono h.own hb, h.le⟩
section
variable {w W : World} {p : Nat} {R : Nat → Prop} {s : FL.S} {B : Nat}
theorem FL.One.freeW (h : FL.One w p R s B W) : Calls Tryd.prog 21 #[FL.ptr p] W fun e w' => ∃ ao c, e = .returned (.slice ao s.stk.length c) ∧ FL.Ri W.heap.size s.stk (.slice ao s.stk.length c) w' ∧ Below W.heap.size W w' := by
  obtain ⟨b1, b2, b3, c1, c2, c3, hA, hR⟩ := h.x
  refine (free11_any p b1 b2 b3 c1 c2 c3 s W hA).mono fun _ _ k => ?_
  obtain ⟨v, rfl, m⟩ := k
  have hr : FL.Ri W.heap.size s.stk v _ := ⟨m.own⟩
  obtain ⟨ao, c, rfl, _⟩ := hr.slice
  exact ⟨ao, c, rfl, hr, m.below⟩
theorem FL.One.withdrawnW (h : FL.One w p R s B W) : Calls Tryd.prog 26 #[FL.ptr p] W fun e w' => ∃ ao c, e = .returned (.slice ao (s.those 2).length c) ∧ FL.Ri W.heap.size (s.those 2) (.slice ao (s.those 2).length c) w' ∧ Below W.heap.size W w' := by
  obtain ⟨b1, b2, b3, c1, c2, c3, hA, hR⟩ := h.x
  refine (withdrawn11_any p b1 b2 b3 c1 c2 c3 s W hA).mono fun _ _ k => ?_
  obtain ⟨v, rfl, m⟩ := k
  have hr : FL.Ri W.heap.size (s.those 2) v _ := ⟨V.Made.own m⟩
  obtain ⟨ao, c, rfl, _⟩ := hr.slice
  exact ⟨ao, c, rfl, hr, V.Made.below m⟩
theorem FL.One.handlesW (h : FL.One w p R s B W) : Calls Tryd.prog 25 #[FL.ptr p] W fun e w' => ∃ ao c, e = .returned (.slice ao s.hands.length c) ∧ FL.Al W.heap.size s.hands (.slice ao s.hands.length c) w' ∧ Below W.heap.size W w' := by
  obtain ⟨b1, b2, b3, c1, c2, c3, hA, hR⟩ := h.x
  refine (handles11_any p b1 b2 b3 c1 c2 c3 s W hA).mono fun _ _ k => ?_
  obtain ⟨v, rfl, m⟩ := k
  have hr : FL.Al W.heap.size s.hands v _ := ⟨V.Made.own m, fun x hx => by
    have := H.ok_lt (FL.live_iff.1 ((FL.mem_hands hA.inv).1 hx)).1
    omega⟩
  obtain ⟨ao, c, rfl, _⟩ := hr.slice
  exact ⟨ao, c, rfl, hr, V.Made.below m⟩
theorem FL.One.genW (h : FL.One w p R s B W) (i : Int) (i0 : -9223372036854775808 ≤ i) (i1 : i ≤ 9223372036854775807) {v e : Int} (h1 : ((s.gnV i : Nat) : Int) = v) (h2 : s.gnE i = e) : Calls Tryd.prog 23 #[FL.ptr p, .int .i64 i] W fun z w' => z = .returned (.tuple #[.int .u64 v, .int .i64 e]) ∧ Below W.heap.size W w' := by
  subst h1
  subst h2
  obtain ⟨b1, b2, b3, c1, c2, c3, hA, rfl⟩ := h.x
  exact gen11_any p b1 b2 b3 c1 c2 c3 s i i0 i1 W hA
end
/-- A row of counts. -/
def FL.cn (n : Nat) (f : Nat → Nat) : List Nat := (List.range n).map f
theorem FL.cn_at {n : Nat} {f : Nat → Nat} {x : Nat} (h : x < n) : (FL.cn n f)[x]? = some (f x) := FL.range_at f h
theorem FL.cn_bump {n : Nat} {f g : Nat → Nat} {x : Nat} (h : ∀ i, g i = f i + (if i = x then 1 else 0)) : (FL.cn n f).set x (f x + 1) = FL.cn n g := by
  unfold FL.cn
  exact FL.range_set _ _ _ _ _ (fun _ => by rw [h, if_pos rfl]) (fun i hi _ => by rw [h, if_neg hi]; rfl)
theorem FL.count_next {l : List Nat} {j x : Nat} (h : l[j]? = some x) (i : Nat) : (l.take (j + 1)).count i = (l.take j).count i + (if i = x then 1 else 0) := by
  rw [List.take_add_one, h, List.count_append]
  show _ + [x].count i = _
  rw [List.count_singleton]
  by_cases c : i = x
  · subst c; simp
  · rw [if_neg c, if_neg (by simpa using fun e => c e.symm)]
/-- The rows while they are counted: seen lies at block G. -/
structure FL.Pn (w : World) (p : Nat) (R : Nat → Prop) (s : FL.S) (B G n : Nat) (X : List Nat) (vf vg vl va : Value) (f : Nat → Nat) (W : World) : Prop where
  one : FL.One w p R s B W
  seen : FL.Rw W G n n 3 (FL.ints (FL.cn n f))
  fr : FL.Ri (G + 1) s.stk vf W
  go : FL.Ri (G + 1) (s.those 2) vg W
  li : FL.Al (G + 1) s.hands vl W
  al : FL.Al B X va W
theorem FL.Pn.on {w W W' : World} {p : Nat} {R : Nat → Prop} {s : FL.S} {B G n : Nat} {X : List Nat} {vf vg vl va : Value} {f : Nat → Nat} (h : FL.Pn w p R s B G n X vf vg vl va f W) (hb : Below W.heap.size W W') : FL.Pn w p R s B G n X vf vg vl va f W' :=
  ⟨h.one.on hb, h.seen.but (R := fun _ => False) (FL.But.below hb) id, h.fr.on hb, h.go.on hb, h.li.on hb, h.al.on hb⟩
theorem FL.Pn.bump {w W : World} {p : Nat} {R : Nat → Prop} {s : FL.S} {B G n : Nat} {X : List Nat} {vf vg vl va : Value} {f g : Nat → Nat} (h : FL.Pn w p R s B G n X vf vg vl va f W) (hBG : B ≤ G) (hwB : w.heap.size ≤ B) (hva : ∀ k, va.ownBlock = some k → k < G) {x : Nat} (hg : ∀ i, g i = f i + (if i = x then 1 else 0)) {ci : Int} (hci : ((f x : Nat) : Int) = ci) :
    FL.Pn w p R s B G n X vf vg vl va g (W.setCell ⟨G, x, none⟩ (.int .i64 (ci + 1))) := by
  subst hci
  refine ⟨h.one.set _ hBG hwB, ?_, ⟨FL.own_far h.fr.own (by omega)⟩, ⟨FL.own_far h.go.own (by omega)⟩, ⟨FL.own_far h.li.own (by omega), h.li.le⟩, ⟨?_, h.al.le⟩⟩
  · rw [← FL.cn_bump hg, ← FL.ints_set, Int.natCast_add]
    exact h.seen.set _ _
  · exact (FL.But.set (R := fun k => k = G) W _ rfl).row h.al.own (fun k e c => by have := hva k e; omega)
theorem FL.Pn.cell {w W : World} {p : Nat} {R : Nat → Prop} {s : FL.S} {B G n : Nat} {X : List Nat} {vf vg vl va : Value} {f : Nat → Nat} (h : FL.Pn w p R s B G n X vf vg vl va f W) {x : Nat} (hx : x < n) {ci : Int} (hci : ((f x : Nat) : Int) = ci) : W.cell? ⟨G, x, none⟩ = some (.int .i64 ci) ∧ W.frozen? ⟨G, x, none⟩ = false := by
  subst hci
  exact h.seen.cell (FL.ints_at (FL.cn_at hx))
/-- The slots of the live handles, in their order. -/
theorem FL.hands_at {s : FL.S} {j x : Nat} (h : (s.those 1)[j]? = some x) : s.hands[j]? = some (H.pack x (s.gn x)) := by
  unfold FL.S.hands; rw [List.getElem?_map, h]; rfl
theorem FL.hands_len (s : FL.S) : s.hands.length = (s.those 1).length := by unfold FL.S.hands; rw [List.length_map]
end Go.Proofs.YtndpknkdmaojaaaDoor
