/- Arguments that are slices of slices of pieces; rows of copies. -/
import Derived.Test.YtmljagkndnobdaaDeltaJoinKit
import Derived.Test.YtmljagkndnobdaaDeltaArgs
import Derived.Maps.AppendAt
namespace Go.Proofs.Ytmljagkndnobdaa
open Go Go.ChangeShapes Go.WideShapes Go.ChangeAt Go.WideMaps Go.WideElems Go.RowKit

instance : Inhabited D.Src := ⟨⟨none, 0, []⟩⟩
theorem D.cell1' {w : World} {a : Addr} {i : Nat} {v : Value} (h : w.cell? (a.add i) = some v) (hs : a.spot = none) : w.cell? ⟨a.block, a.off + i, none⟩ = some v := by
  unfold Addr.add at h
  obtain ⟨b, o, s⟩ := a
  simp only at hs
  subst hs
  by_cases h1 : i = 0
  · subst h1; simpa using h
  · simpa [h1] using h
/-- A list of lists, as an argument. -/
structure D.ListOk (W : World) (lo : Option Addr) (L : List D.Src) : Prop where
  rows : D.Rows W lo L
  ok : ∀ s ∈ L, D.ArgOk W s
  len : L.length ≤ maxLen
set_option maxRecDepth 100000 in
theorem D.open_list5 {H : Type} {enc : TypeId × Value → H} {w : World} {base : Nat} {spare : Nat → Bool} {held : Bool} {r : Reach} {b0 : Nat} {v : Value} {d : DataW H} {p : List MemPlace} (hv : Value.okWide Try.prog w r b0 36 v)
    (h : DataW.Trod enc Try.prog w base spare held 36 v d p) (hz : ∀ n ∈ d.weights Try.prog 36, n ≤ reachBytes) : ∃ (lo : Option Addr) (c : Nat) (L : List D.Src), v = .slice lo L.length c ∧ D.ListOk w lo L ∧ L.length ≤ c ∧ (lo = none → c = 0) := by
  obtain ⟨sa, sl, sc, rfl⟩ := okWide_slice Try.underlying36 hv
  obtain ⟨fu, hfu⟩ := h
  have hcs : (Value.cells (.slice sa sl sc)).toList = [Value.slice sa sl sc] := by simp [Value.cells]
  rw [hcs] at hfu
  rcases Go.Deep.open_slice1 Try.underlying36 (by kernel_rfl) hfu with ⟨e, _⟩ | ⟨a, len, cap, m, n, V, Dd, Pl, e, _, hl, hcm, hm, hx, hi⟩
  · simp only [List.cons.injEq, Value.slice.injEq, and_true] at e
    obtain ⟨rfl, rfl, rfl⟩ := e
    exact ⟨none, 0, [], rfl, ⟨fun i s hs => by simp at hs, fun s hs => (by cases hs), Nat.zero_le _⟩, Nat.zero_le _, fun _ => rfl⟩
  · simp only [List.cons.injEq, Value.slice.injEq, and_true] at e
    obtain ⟨rfl, rfl, rfl⟩ := e
    simp only [Prod.mk.injEq] at hx
    obtain ⟨rfl, _⟩ := hx
    have hlm : sl ≤ m := by rw [hm]; split <;> omega
    obtain ⟨F, hF⟩ := Go.Deep.choose_lt (α := D.Src) (n := sl) (p := fun i s => w.cell? (a.add i) = some (.slice s.a s.x.length s.c) ∧ D.ArgOk w s) (fun i hil => by
      obtain ⟨hc, ht⟩ := hi i (by omega)
      obtain ⟨s, hcs, hs⟩ := D.open_rows ht (fun k hk => hz k (by
        simp only [DataW.weights, Try.underlying36, List.mem_cons, List.mem_append]
        exact .inr (.inl (D.weights_all (List.mem_map.2 ⟨i, List.mem_range.2 hil, rfl⟩) hk))))
      simp only [List.cons.injEq, and_true] at hcs
      exact ⟨s, by rw [hc, hcs], hs⟩)
    have hlen : ((List.range sl).map F).length = sl := by simp
    refine ⟨some a, sc, (List.range sl).map F, by rw [hlen], ⟨fun i s hs => ?_, fun s hs => ?_, by rw [hlen]; omega⟩, by rw [hlen]; omega, fun e => by cases e⟩
    · have hil : i < sl := by have := (List.getElem?_eq_some_iff.1 hs).1; rwa [hlen] at this
      have hFi : F i = s := by
        rw [List.getElem?_map, List.getElem?_range hil] at hs
        simpa using hs
      subst hFi
      have hspot : a.spot = none := by
        have h0 := (hF 0 (by omega)).1
        rw [show a.add 0 = a from rfl] at h0
        exact cell_spot (b := a.block) (o := a.off) (sp := a.spot) h0
      have hc := D.cell1' (hF i hil).1 hspot
      refine ⟨a.block, a.off, by cases a; simp at hspot ⊢; exact hspot, ?_, hc, (hF i hil).2.src⟩
      exact World.block_lt_of_cell? w ⟨a.block, a.off + i, none⟩ hc
    · obtain ⟨i, hil, rfl⟩ := List.mem_map.1 hs
      exact (hF i (List.mem_range.1 hil)).2
theorem D.Rows.below {W W' : World} {lo : Option Addr} {L : List D.Src} (h : D.Rows W lo L) (hb : Below W.heap.size W W') : D.Rows W' lo L := fun i s hs => by
  obtain ⟨b, o, e, hl, hc, hk⟩ := h i s hs
  exact ⟨b, o, e, Nat.lt_of_lt_of_le hl hb.size, (hb.cell (p := ⟨b, o + i, none⟩) hl).trans hc, hk.below hb⟩
/-- The copies that have been made of the first k lists. -/
structure D.XsAt (w : World) (L : List D.Src) (k : Nat) (X : List D.Src) (v : Value) (wr : World) : Prop where
  own : wr.ownsRow w.heap.size 22 1 v k (X.map D.srcV)
  below : Below w.heap.size w wr
  xs : X.map D.Src.x = (L.take k).map D.Src.x
  ok : ∀ s ∈ X, D.SrcOk wr s
  ne : ∀ s ∈ X, ∀ ad, s.a = some ad → ad.block < wr.heap.size ∧ some ad.block ≠ v.ownBlock
theorem D.XsAt.on {w : World} {L : List D.Src} {k : Nat} {X : List D.Src} {v : Value} {wr w' : World} (h : D.XsAt w L k X v wr) (hb : Below wr.heap.size wr w') : D.XsAt w L k X v w' :=
  ⟨D.own_below h.own hb, h.below.trans (hb.mono h.below.size), h.xs, fun s hs => (h.ok s hs).below hb, fun s hs ad e => ⟨Nat.lt_of_lt_of_le (h.ne s hs ad e).1 hb.size, (h.ne s hs ad e).2⟩⟩
theorem D.row_grown {W W' : World} {r : Option Nat} {ao : Option Addr} {l : List D.P} (h : D.Row W ao l) (hg : W.grownBy W' r) (hr : ∀ ad, ao = some ad → ad.block < W.heap.size ∧ some ad.block ≠ r) : D.Row W' ao l := fun i p hp => by
  obtain ⟨b, o, e, hl, h0, h1, h2⟩ := h i p hp
  have hk := hr _ e
  have eb := hg.block b hl hk.2
  exact ⟨b, o, e, Nat.lt_of_lt_of_le hl hg.size, (World.cell?_of_block eb).trans h0, (World.cell?_of_block eb).trans h1, (World.cell?_of_block eb).trans h2⟩
/-- One more copy. -/
theorem D.XsAt.next {w : World} {L : List D.Src} {k : Nat} {X : List D.Src} {v : Value} {w2 w5 : World} {s t : D.Src} {g cp : Nat} {u : TypeId} (h : D.XsAt w L k X v w2) (hs : L[k]? = some s) (hx : t.x = s.x) (ht : D.SrcOk w2 t)
    (hn : ∀ ad, t.a = some ad → ad.block < w2.heap.size ∧ some ad.block ≠ v.ownBlock)
    (ho : w5.ownsRow w.heap.size 22 1 (.slice (some ⟨g, 0, none⟩) (k + 1) cp) (k + 1) (X.map D.srcV ++ [D.srcV t]))
    (hg : (w2.alloc (.cells #[D.srcV t] u)).grownBy w5 v.ownBlock) (hat : v.ownBlock = some g ∨ g = (w2.alloc (.cells #[D.srcV t] u)).heap.size) :
    D.XsAt w L (k + 1) (X ++ [t]) (.slice (some ⟨g, 0, none⟩) (k + 1) cp) w5 := by
  have hal : Below w2.heap.size w2 (w2.alloc (.cells #[D.srcV t] u)) := (Below.refl _ _).alloc (Nat.le_refl _) _
  have h1 := h.on hal
  have ht1 := ht.below hal
  have hsz : (w2.alloc (.cells #[D.srcV t] u)).heap.size = w2.heap.size + 1 := World.size_alloc _ _
  have hne : ∀ ad : Addr, ad.block < w2.heap.size → some ad.block ≠ v.ownBlock → ad.block < w5.heap.size ∧ some ad.block ≠ Value.ownBlock (.slice (some ⟨g, 0, none⟩) (k + 1) cp) := fun ad h2 h3 => by
    refine ⟨Nat.lt_of_lt_of_le h2 (Nat.le_trans (by omega) hg.size), fun e => ?_⟩
    simp only [Value.ownBlock, Option.some.injEq] at e
    rcases hat with h4 | h4
    · exact h3 (by rw [h4, e])
    · omega
  have hgr : ∀ q : D.Src, D.SrcOk (w2.alloc (.cells #[D.srcV t] u)) q → (∀ ad, q.a = some ad → ad.block < w2.heap.size ∧ some ad.block ≠ v.ownBlock) → D.SrcOk w5 q := fun q hq hqn =>
    ⟨D.row_grown hq.row hg (fun ad e => ⟨by have := (hqn ad e).1; omega, (hqn ad e).2⟩), hq.len, hq.txt, hq.nil⟩
  refine ⟨by rw [List.map_append]; exact ho, h1.below.grown hg (Nat.le_trans h1.below.size (Nat.le_refl _)) (fun b e => (h.own.lt b e).1), ?_, fun q hq => ?_, fun q hq ad e => ?_⟩
  · rw [List.map_append, h.xs, List.take_add_one, hs, List.map_append]
    simp [hx]
  · rcases List.mem_append.1 hq with hq | hq
    · exact hgr q (h1.ok q hq) (fun ad e => h.ne q hq ad e)
    · simp at hq; subst hq; exact hgr q ht1 hn
  · rcases List.mem_append.1 hq with hq | hq
    · exact hne ad (h.ne q hq ad e).1 (h.ne q hq ad e).2
    · simp at hq; subst hq; exact hne ad (hn ad e).1 (hn ad e).2
theorem D.XsAt.rows {w : World} {L : List D.Src} {k : Nat} {X : List D.Src} {v : Value} {wr : World} (h : D.XsAt w L k X v wr) (hk : X.length = k) : ∃ lo c, v = .slice lo X.length c ∧ D.Rows wr lo X := by
  obtain ⟨hl, ⟨e, h0⟩ | ⟨g, cap, cur, e, hb, hg, hnc, hcm, hcs, ht⟩⟩ := h.own
  · refine ⟨none, 0, by rw [e, hk, h0], fun i s hs => ?_⟩
    have := (List.getElem?_eq_some_iff.1 hs).1
    omega
  · have hlt := (Array.getElem?_eq_some_iff.1 hg).1
    refine ⟨some ⟨g, 0, none⟩, cap, by rw [e, hk], fun i s hs => ⟨g, 0, rfl, hlt, ?_, h.ok s (List.mem_of_getElem? hs)⟩⟩
    have hi := (List.getElem?_eq_some_iff.1 hs).1
    have hu : (X.map D.srcV)[i]? = some (D.srcV s) := by rw [List.getElem?_map, hs]; rfl
    rw [← ht, List.getElem?_take, if_pos (by omega)] at hu
    rw [cell_of_row wr g _ cur _ _ hg, Nat.zero_add]
    simpa [D.srcV] using hu
end Go.Proofs.Ytmljagkndnobdaa
