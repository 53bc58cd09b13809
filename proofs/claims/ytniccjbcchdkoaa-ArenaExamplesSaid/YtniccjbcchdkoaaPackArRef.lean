/- Texts joined: ArMem ArRef1 ArRef2 ArRef3 ArRef4 ArMem2 ArRef5 ArRef6 -/
import Derived.Test.YtniccjbcchdkoaaArenaMath
import Derived.Test.YtniccjbcchdkoaaPackFRef
import Derived.Test.YtniccjbcchdkoaaPackNXs
import Derived.LoopTactic
import Derived.BigQuiet
import Derived.Deep.RegionHeld3
import Derived.Deep.QuietTactic
import Derived.Test.YtniccjbcchdkoaaPackMeasR
import Derived.Test.YtniccjbcchdkoaaNodeRows
import Derived.Test.YtniccjbcchdkoaaPeel
import Derived.Deep.AppendLies
import Derived.Laws.AppendOwnNone
import Derived.Maps.AppendAt
/- ArMem -/
namespace Go.Proofs.Ytniccjbcchdkoaa
open Go.RowKit

/-- A handle and its node, with the place of the node's children. -/
structure Ar.I where
  h : Nat
  x : N.NArg
def Ar.one (i : Ar.I) : List Value := [.int .u64 (i.h : Int), .int .i64 i.x.h, .string i.x.t, .slice i.x.s.a i.x.s.x.length i.x.s.c]
def Ar.cells (l : List Ar.I) : List Value := l.flatMap Ar.one
def Ar.it (i : Ar.I) : Nat × N.Nd := (i.h, i.x.nd)
theorem Ar.cells_append (x y : List Ar.I) : Ar.cells (x ++ y) = Ar.cells x ++ Ar.cells y := by simp [Ar.cells]
theorem Ar.cells_one (p : Ar.I) : Ar.cells [p] = Ar.one p := by simp [Ar.cells]
theorem Ar.cells_cons (q : Ar.I) (x : List Ar.I) : Ar.cells (q :: x) = .int .u64 (q.h : Int) :: .int .i64 q.x.h :: .string q.x.t :: .slice q.x.s.a q.x.s.x.length q.x.s.c :: Ar.cells x := by simp [Ar.cells, Ar.one]
theorem Ar.cells_len (x : List Ar.I) : (Ar.cells x).length = x.length * 4 := by
  induction x with
  | nil => rfl
  | cons q x ih => rw [Ar.cells_cons]; simp [ih]; omega
theorem Ar.cells_at (x : List Ar.I) (i : Nat) (p : Ar.I) (h : x[i]? = some p) :
    (Ar.cells x)[i * 4]? = some (.int .u64 (p.h : Int)) ∧ (Ar.cells x)[i * 4 + 1]? = some (.int .i64 p.x.h) ∧ (Ar.cells x)[i * 4 + 2]? = some (.string p.x.t) ∧ (Ar.cells x)[i * 4 + 3]? = some (.slice p.x.s.a p.x.s.x.length p.x.s.c) := by
  induction x generalizing i with
  | nil => simp at h
  | cons q x ih =>
    rw [Ar.cells_cons]
    cases i with
    | zero => simp at h; subst h; exact ⟨rfl, rfl, rfl, rfl⟩
    | succ i =>
      obtain ⟨h0, h1, h2, h3⟩ := ih i (by simpa using h)
      have e0 : (i + 1) * 4 = i * 4 + 4 := by omega
      refine ⟨?_, ?_, ?_, ?_⟩
      · rw [e0]; exact h0
      · rw [show (i + 1) * 4 + 1 = i * 4 + 1 + 4 by omega]; exact h1
      · rw [show (i + 1) * 4 + 2 = i * 4 + 2 + 4 by omega]; exact h2
      · rw [show (i + 1) * 4 + 3 = i * 4 + 3 + 4 by omega]; exact h3
theorem Ar.cells_take (l : List Ar.I) (k : Nat) : (Ar.cells l).take (k * 4) = Ar.cells (l.take k) := by
  induction l generalizing k with
  | nil => simp [Ar.cells]
  | cons q l ih =>
    cases k with
    | zero => simp [Ar.cells]
    | succ k =>
      rw [List.take_succ_cons, Ar.cells_cons, Ar.cells_cons, ← ih k, show (k + 1) * 4 = k * 4 + 1 + 1 + 1 + 1 by omega]
      simp only [List.take_succ_cons]
theorem Ar.cells_drop (l : List Ar.I) (k : Nat) : (Ar.cells l).drop (k * 4) = Ar.cells (l.drop k) := by
  induction l generalizing k with
  | nil => simp [Ar.cells]
  | cons q l ih =>
    cases k with
    | zero => simp [Ar.cells]
    | succ k =>
      rw [List.drop_succ_cons, Ar.cells_cons, ← ih k, show (k + 1) * 4 = k * 4 + 1 + 1 + 1 + 1 by omega]
      simp only [List.drop_succ_cons]
/-- A row of nodes outlives what is written outside. -/
theorem N.Row.but {Q : Nat → Prop} {W W' : World} {ao : Option Addr} {l : List N.K} (h : N.Row W ao l) (hb : FL.But Q W W') (hq : ∀ g o, ao = some ⟨g, o, none⟩ → l ≠ [] → ¬ Q g) : N.Row W' ao l := fun i p hp => by
  have hne : l ≠ [] := fun e => by rw [e] at hp; simp at hp
  obtain ⟨b, o, e, hlt, h0, h1, h2, h3⟩ := h i p hp
  have k : ∀ j : Nat, W'.cell? ⟨b, j, none⟩ = W.cell? ⟨b, j, none⟩ := fun j => by unfold World.cell?; rw [hb.block b hlt (hq b o e hne)]
  exact ⟨b, o, e, Nat.lt_of_lt_of_le hlt hb.size, (k _).trans h0, (k _).trans h1, (k _).trans h2, (k _).trans h3⟩
theorem N.NOk.but {Q : Nat → Prop} {W W' : World} {x : N.NArg} (h : N.NOk W x) (hb : FL.But Q W W') (hq : ∀ g o, x.s.a = some ⟨g, o, none⟩ → x.s.x ≠ [] → ¬ Q g) : N.NOk W' x := ⟨h.h0, h.h1, h.t, ⟨h.s.row.but hb hq, h.s.nil, h.s.fits, h.s.fit, h.s.cap⟩⟩
/-- What is known of the items of a row: their nodes stand, their children lie in blocks of K. -/
structure Ar.Ok (W : World) (K : Nat → Prop) (l : List Ar.I) : Prop where
  node : ∀ i ∈ l, N.NOk W i.x
  at_ : ∀ i ∈ l, ∀ g o, i.x.s.a = some ⟨g, o, none⟩ → i.x.s.x ≠ [] → K g
  hand : ∀ i ∈ l, i.h ≤ 18446744073709551615
theorem Ar.Ok.nil (W : World) (K : Nat → Prop) : Ar.Ok W K [] := ⟨(fun i hi => by cases hi), (fun i hi => by cases hi), (fun i hi => by cases hi)⟩
theorem Ar.Ok.but {Q K : Nat → Prop} {W W' : World} {l : List Ar.I} (h : Ar.Ok W K l) (hb : FL.But Q W W') (hq : ∀ k, K k → ¬ Q k) : Ar.Ok W' K l := ⟨fun i hi => (h.node i hi).but hb (fun g o e n => hq g (h.at_ i hi g o e n)), h.at_, h.hand⟩
theorem Ar.Ok.mono {K K' : Nat → Prop} {W : World} {l l' : List Ar.I} (h : Ar.Ok W K l) (hk : ∀ k, K k → K' k) (hl : ∀ i ∈ l', i ∈ l) : Ar.Ok W K' l' := ⟨fun i hi => h.node i (hl i hi), fun i hi g o e n => hk g (h.at_ i (hl i hi) g o e n), fun i hi => h.hand i (hl i hi)⟩
theorem Ar.Ok.add {K : Nat → Prop} {W : World} {l : List Ar.I} (h : Ar.Ok W K l) {i : Ar.I} (h1 : N.NOk W i.x) (h2 : ∀ g o, i.x.s.a = some ⟨g, o, none⟩ → i.x.s.x ≠ [] → K g) (h3 : i.h ≤ 18446744073709551615) : Ar.Ok W K (l ++ [i]) := by
  refine ⟨fun j hj => ?_, fun j hj => ?_, fun j hj => ?_⟩ <;> rcases List.mem_append.1 hj with hj | hj
  · exact h.node j hj
  · rw [List.mem_singleton.1 hj]; exact h1
  · exact h.at_ j hj
  · rw [List.mem_singleton.1 hj]; exact h2
  · exact h.hand j hj
  · rw [List.mem_singleton.1 hj]; exact h3
/-- What lies in a row at a place. -/
theorem Ar.row_of {W : World} {base : Nat} {e : TypeId} {v : Value} {x : List Ar.I} (h : W.ownsRow base e 4 v x.length (Ar.cells x)) :
    ∃ ao cap, v = .slice ao x.length cap ∧ x.length ≤ cap ∧ ∀ (i : Nat) (p : Ar.I), x[i]? = some p → ∃ b, ao = some ⟨b, 0, none⟩ ∧ b < W.heap.size ∧ W.cell? ⟨b, i * 4, none⟩ = some (.int .u64 (p.h : Int)) ∧
      W.cell? ⟨b, i * 4 + 1, none⟩ = some (.int .i64 p.x.h) ∧ W.cell? ⟨b, i * 4 + 2, none⟩ = some (.string p.x.t) ∧ W.cell? ⟨b, i * 4 + 3, none⟩ = some (.slice p.x.s.a p.x.s.x.length p.x.s.c) := by
  obtain ⟨hl, ⟨rfl, h0⟩ | ⟨g, cap, cur, rfl, hb, hg, hnc, hcm, hcs, ht⟩⟩ := h
  · exact ⟨none, 0, by rw [h0], by omega, fun i p hp => by have := (List.getElem?_eq_some_iff.1 hp).1; omega⟩
  · have hlt := (Array.getElem?_eq_some_iff.1 hg).1
    refine ⟨some ⟨g, 0, none⟩, cap, rfl, hnc, fun i p hp => ⟨g, rfl, hlt, ?_⟩⟩
    have hi := (List.getElem?_eq_some_iff.1 hp).1
    obtain ⟨h0, h1, h2, h3⟩ := Ar.cells_at x i p hp
    have key : ∀ (j : Nat) (u : Value), (Ar.cells x)[j]? = some u → W.cell? ⟨g, j, none⟩ = some u := fun j u hu => by
      have hj : j < x.length * 4 := by have := (List.getElem?_eq_some_iff.1 hu).1; rwa [Ar.cells_len] at this
      rw [← ht, List.getElem?_take, if_pos hj] at hu
      rw [cell_of_row W g _ cur _ _ hg]
      simpa using hu
    exact ⟨key _ _ h0, key _ _ h1, key _ _ h2, key _ _ h3⟩

/-! ### The reference's arena -/
def Ar.cnt (n : Nat) : Value := .int .i64 (n : Int)
structure RA.At (W : World) (p pl : Nat) (R1 : Nat → Prop) (v : Value) (a : A13.A) (its : List Ar.I) (K : Nat → Prop) : Prop where
  inv : A13.Inv a
  cnt : A13.Cnt a
  obj : W.heap[p]? = some (.cells #[.pointer (some ⟨pl, 0, none⟩), v, .int .i64 0, .int .i64 0, .int .i64 0, .int .i64 0, .int .i64 (a.al : Int), .int .i64 (a.fr : Int), .int .i64 (a.st : Int)] 138 (0, 0))
  list : FL.ROwn W pl a.l R1
  row : W.ownsRow 0 140 4 v its.length (Ar.cells its)
  ok : Ar.Ok W K its
  items : a.items = its.map Ar.it
  np : ¬ R1 p
  nv : ∀ g, v.ownBlock = some g → g ≠ p ∧ ¬ R1 g
  nk : ∀ k, K k → k ≠ p ∧ ¬ R1 k ∧ v.ownBlock ≠ some k
/-- All that an arena's life hangs on. -/
def RA.foot (p : Nat) (R1 : Nat → Prop) (v : Value) (K : Nat → Prop) (k : Nat) : Prop := k = p ∨ R1 k ∨ v.ownBlock = some k ∨ K k
/-- An arena of the reference at block p, in the blocks of R. -/
def RA.Own (W : World) (p : Nat) (a : A13.A) (R : Nat → Prop) : Prop := ∃ pl R1 v its K, RA.At W p pl R1 v a its K ∧ (∀ k, RA.foot p R1 v K k → R k) ∧ ∀ k, R k → k < W.heap.size
theorem RA.At.but {W W' : World} {p pl : Nat} {R1 : Nat → Prop} {v : Value} {a : A13.A} {its : List Ar.I} {K : Nat → Prop} (h : RA.At W p pl R1 v a its K) {Q : Nat → Prop} (hb : FL.But Q W W') (hQ : ∀ k, RA.foot p R1 v K k → ¬ Q k) : RA.At W' p pl R1 v a its K :=
  ⟨h.inv, h.cnt, by rw [hb.block p (Array.getElem?_eq_some_iff.1 h.obj).1 (hQ p (.inl rfl))]; exact h.obj, h.list.but hb (fun k hk => hQ k (.inr (.inl hk))), hb.row h.row (fun k hk => hQ k (.inr (.inr (.inl hk)))), h.ok.but hb (fun k hk => hQ k (.inr (.inr (.inr hk)))), h.items, h.np, h.nv, h.nk⟩
theorem RA.Own.but {W W' : World} {p : Nat} {a : A13.A} {R Q : Nat → Prop} (h : RA.Own W p a R) (hb : FL.But Q W W') (hQ : ∀ k, R k → ¬ Q k) : RA.Own W' p a R := by
  obtain ⟨pl, R1, v, its, K, hA, hR, hs⟩ := h
  exact ⟨pl, R1, v, its, K, hA.but hb (fun k hk => hQ k (hR k hk)), hR, fun k hk => Nat.lt_of_lt_of_le (hs k hk) hb.size⟩
theorem RA.Own.below {W W' : World} {p : Nat} {a : A13.A} {R : Nat → Prop} (h : RA.Own W p a R) (hb : Below W.heap.size W W') : RA.Own W' p a R := h.but (Q := fun _ => False) (FL.But.below hb) (fun _ _ => id)
theorem RA.Own.inv {W : World} {p : Nat} {a : A13.A} {R : Nat → Prop} (h : RA.Own W p a R) : A13.Inv a := by obtain ⟨_, _, _, _, _, hA, _⟩ := h; exact hA.inv
theorem RA.Own.cnt {W : World} {p : Nat} {a : A13.A} {R : Nat → Prop} (h : RA.Own W p a R) : A13.Cnt a := by obtain ⟨_, _, _, _, _, hA, _⟩ := h; exact hA.cnt
theorem RA.Own.lt {W : World} {p : Nat} {a : A13.A} {R : Nat → Prop} (h : RA.Own W p a R) : ∀ k, R k → k < W.heap.size := by obtain ⟨_, _, _, _, _, _, _, hs⟩ := h; exact hs
/-- R and what is new since. -/
def Ar.ext (R : Nat → Prop) (n m : Nat) (k : Nat) : Prop := R k ∨ (n ≤ k ∧ k < m)
/-- The fields of the object. -/
theorem RA.At.fields {W : World} {p pl : Nat} {R1 : Nat → Prop} {v : Value} {a : A13.A} {its : List Ar.I} {K : Nat → Prop} (h : RA.At W p pl R1 v a its K) :
    W.cell? ⟨p, 0, none⟩ = some (.pointer (some ⟨pl, 0, none⟩)) ∧ W.cell? ⟨p, 1, none⟩ = some v ∧ W.cell? ⟨p, 2, none⟩ = some (.int .i64 0) ∧ W.cell? ⟨p, 3, none⟩ = some (.int .i64 0) ∧ W.cell? ⟨p, 4, none⟩ = some (.int .i64 0) ∧ W.cell? ⟨p, 5, none⟩ = some (.int .i64 0) ∧
    W.cell? ⟨p, 6, none⟩ = some (.int .i64 (a.al : Int)) ∧ W.cell? ⟨p, 7, none⟩ = some (.int .i64 (a.fr : Int)) ∧ W.cell? ⟨p, 8, none⟩ = some (.int .i64 (a.st : Int)) ∧ ∀ j : Nat, W.frozen? ⟨p, j, none⟩ = false :=
  ⟨Lib.cell_of_heap h.obj 0, Lib.cell_of_heap h.obj 1, Lib.cell_of_heap h.obj 2, Lib.cell_of_heap h.obj 3, Lib.cell_of_heap h.obj 4, Lib.cell_of_heap h.obj 5, Lib.cell_of_heap h.obj 6, Lib.cell_of_heap h.obj 7, Lib.cell_of_heap h.obj 8, fun _ => frozen_of_row _ _ _ _ _ h.obj⟩
/-- Where a handle stands among the items. -/
theorem Ar.find_at {l : List Ar.I} {h : Nat} (hn : (l.map Ar.I.h).Nodup) {x : N.Nd} (hl : (((l.map Ar.it).find? fun i => i.1 == h).map Prod.snd) = some x) : ∃ k i, l[k]? = some i ∧ i.h = h ∧ i.x.nd = x ∧ (∀ j i', j < k → l[j]? = some i' → i'.h ≠ h) ∧ (l.map Ar.it).filter (fun i => !(i.1 == h)) = (l.take k ++ l.drop (k + 1)).map Ar.it := by
  induction l with
  | nil => simp at hl
  | cons q l ih =>
    rw [List.map_cons] at hn hl
    obtain ⟨n1, n2⟩ := List.nodup_cons.1 hn
    by_cases e : q.h = h
    · have e' : ((Ar.it q).1 == h) = true := by simpa [Ar.it] using e
      rw [List.find?_cons, e'] at hl
      have hx : q.x.nd = x := by simpa [Ar.it] using hl
      refine ⟨0, q, rfl, e, hx, fun j i' hj => by omega, ?_⟩
      rw [List.map_cons, List.filter_cons, if_neg (by rw [e']; decide)]
      have hf : (l.map Ar.it).filter (fun i => !(i.1 == h)) = l.map Ar.it := by
        rw [List.filter_eq_self]
        intro i hi
        obtain ⟨i0, hi0, rfl⟩ := List.mem_map.1 hi
        have : i0.h ≠ h := fun c => n1 (by rw [e, ← c]; exact List.mem_map.2 ⟨i0, hi0, rfl⟩)
        simpa [Ar.it] using this
      rw [hf]; rfl
    · have e' : ((Ar.it q).1 == h) = false := by simpa [Ar.it] using e
      rw [List.find?_cons, e'] at hl
      obtain ⟨k, i, h1, h2, h3, h4, h5⟩ := ih n2 hl
      refine ⟨k + 1, i, by simpa using h1, h2, h3, fun j i' hj hi' => ?_, ?_⟩
      · cases j with
        | zero => simp at hi'; rw [← hi']; exact e
        | succ j => exact h4 j i' (by omega) (by simpa using hi')
      · rw [List.map_cons, List.filter_cons, if_pos (by rw [e']; decide), h5]
        simp
theorem Ar.find_none {l : List Ar.I} {h : Nat} (hl : (((l.map Ar.it).find? fun i => i.1 == h).map Prod.snd) = none) : ∀ i ∈ l, i.h ≠ h := fun i hi e => by
  rw [Option.map_eq_none_iff, List.find?_eq_none] at hl
  exact hl (Ar.it i) (List.mem_map.2 ⟨i, hi, rfl⟩) (by simpa [Ar.it] using e)
theorem RA.At.nodup {W : World} {p pl : Nat} {R1 : Nat → Prop} {v : Value} {a : A13.A} {its : List Ar.I} {K : Nat → Prop} (h : RA.At W p pl R1 v a its K) : (its.map Ar.I.h).Nodup := by
  have := h.inv.nodup
  rw [h.items, List.map_map] at this
  exact this
end Go.Proofs.Ytniccjbcchdkoaa
/- ArRef1 -/
namespace Go.Proofs.Ytniccjbcchdkoaa
open Go.RowKit

/-- The index of a handle among the items, or -1. -/
def Ar.pos (l : List Ar.I) (h : Nat) : Int := match l.findIdx? (fun i => i.h == h) with
  | some k => (k : Int)
  | none => -1
theorem Ar.pos_at {l : List Ar.I} {h k : Nat} {i : Ar.I} (h1 : l[k]? = some i) (h2 : i.h = h) (h3 : ∀ j q, j < k → l[j]? = some q → q.h ≠ h) : Ar.pos l h = (k : Int) := by
  have e : l.findIdx? (fun i => i.h == h) = some k := by
    obtain ⟨hk, hi⟩ := List.getElem?_eq_some_iff.1 h1
    rw [List.findIdx?_eq_some_iff_getElem]
    refine ⟨hk, by rw [hi]; simpa using h2, fun j hj => ?_⟩
    have := h3 j l[j] hj (List.getElem?_eq_getElem (by omega))
    simpa using this
  unfold Ar.pos; rw [e]
theorem Ar.pos_no {l : List Ar.I} {h : Nat} (hn : ∀ i ∈ l, i.h ≠ h) : Ar.pos l h = -1 := by
  have e : l.findIdx? (fun i => i.h == h) = none := by
    rw [List.findIdx?_eq_none_iff]
    intro i hi
    simpa using hn i hi
  unfold Ar.pos; rw [e]
theorem RA.At.len {W : World} {p pl : Nat} {R1 : Nat → Prop} {v : Value} {a : A13.A} {its : List Ar.I} {K : Nat → Prop} (h : RA.At W p pl R1 v a its K) : its.length ≤ 16384 := by
  have h1 := A13.items_len h.inv
  rw [h.items, List.length_map] at h1
  have h2 := A13.three h.inv.l
  have h3 := h.inv.l.n2
  omega
set_option maxRecDepth 100000 in
theorem refFind13_any (p pl : Nat) (R1 : Nat → Prop) (v : Value) (a : A13.A) (its : List Ar.I) (K : Nat → Prop) (h : Nat) (w : World) (hA : RA.At w p pl R1 v a its K) :
    Calls Try.prog 83 #[FL.ptr p, .int .u64 (h : Int)] w fun e w' => e = .returned (.int .i64 (Ar.pos its h)) ∧ w = w' := by
  unfold FL.ptr
  obtain ⟨ao, cap, hv, hcap, hrow⟩ := Ar.row_of hA.row
  subst hv
  have f1 := hA.fields.2.1
  have hlen := hA.len
  have hrow := Lib.hid hrow
  clear hA hcap
  go_enter Try.func83, Try.ntmps83
  go_wp2
  go_loopw [5] (fun u wr => ∃ i : Nat, u = .int .i64 i ∧ i ≤ its.length ∧ wr = w ∧ Hid (∀ j q, j < i → its[j]? = some q → q.h ≠ h)) (fun u _ => its.length - (intOf u).toNat)
  case atStart => exact ⟨0, rfl, Nat.zero_le _, rfl, fun j q hj => by omega⟩
  case round =>
    obtain ⟨i, rfl, hi, rfl, hj⟩ := hrel
    by_cases hlt : i < its.length
    · obtain ⟨q, hq⟩ : ∃ q, its[i]? = some q := ⟨_, List.getElem?_eq_getElem hlt⟩
      obtain ⟨b, rfl, hb, c0, _⟩ := hrow.out i q hq
      have hlt' : (i : Int) < (its.length : Int) := by omega
      clear hb hrow
      by_cases e : q.h = h
      · have E := Lib.hid (Ar.pos_at hq e hj.out)
        have e1 : (((q.h : Nat) : Int) == ((h : Nat) : Int)) = true := by rw [e]; simp
        clear hq hj e
        go_wp2
        go_ret
        exact ⟨by rw [E.out]; rfl, rfl⟩
      · have e1 : (((q.h : Nat) : Int) == ((h : Nat) : Int)) = false := by simp; omega
        have J : Hid (∀ j q, j < i + 1 → its[j]? = some q → q.h ≠ h) := fun j r hj' hr => by
          by_cases c : j = i
          · subst c; rw [hq] at hr; cases hr; exact e
          · exact hj.out j r (by omega) hr
        clear hq hj e
        go_wp2
        go_roundw
        case rel => exact ⟨i + 1, by go_num, hlt, trivial, J⟩
        case measure => simp [intOf]; omega
    · obtain rfl : i = its.length := by omega
      have E : Hid (Ar.pos its h = -1) := Ar.pos_no fun q hq => by
        obtain ⟨j, hj', hq⟩ := List.getElem_of_mem hq
        exact hj.out j q hj' (by rw [List.getElem?_eq_getElem hj', hq])
      clear hj hrow
      go_wp2
      go_ret
      exact ⟨by rw [E.out]; rfl, rfl⟩
/-- Is a handle live, by its place. -/
theorem RA.At.pos {W : World} {p pl : Nat} {R1 : Nat → Prop} {v : Value} {a : A13.A} {its : List Ar.I} {K : Nat → Prop} (hA : RA.At W p pl R1 v a its K) (h : Nat) : (a.has h = true ∧ 0 ≤ Ar.pos its h) ∨ (a.has h = false ∧ Ar.pos its h = -1) := by
  unfold A13.A.has
  cases e : a.look h with
  | none =>
    unfold A13.A.look at e
    rw [hA.items] at e
    exact .inr ⟨rfl, Ar.pos_no (Ar.find_none e)⟩
  | some x =>
    unfold A13.A.look at e
    rw [hA.items] at e
    obtain ⟨k, i, h1, h2, _, h4, _⟩ := Ar.find_at hA.nodup e
    exact .inl ⟨rfl, by rw [Ar.pos_at h1 h2 h4]; omega⟩
theorem refLive13_any (p : Nat) (a : A13.A) (R : Nat → Prop) (h : Nat) (w : World) (hO : RA.Own w p a R) :
    Calls Try.prog 60 #[FL.ptr p, .int .u64 (h : Int)] w fun e w' => e = .returned (.bool (a.has h)) ∧ w = w' := by
  obtain ⟨pl, R1, v, its, K, hA, _, _⟩ := hO
  have HF := Lib.hid (refFind13_any p pl R1 v a its K h w hA)
  have E : Hid (decide (0 ≤ Ar.pos its h) = a.has h) := by
    show _ = _
    rcases hA.pos h with ⟨h1, h2⟩ | ⟨h1, h2⟩
    · rw [h1]; exact decide_eq_true h2
    · rw [h1, h2]; rfl
  clear hA
  unfold FL.ptr at HF ⊢
  generalize Ar.pos its h = k at HF E
  rw [← E.out]
  go_enter Try.func60, Try.ntmps60
  go_wp2_with fail
  refine HF.out.mono ?_
  rintro e w1 ⟨rfl, rfl⟩
  go_wp2
  go_ret
  exact ⟨rfl, rfl⟩
theorem refHandles13_any (p : Nat) (a : A13.A) (R : Nat → Prop) (w : World) (hO : RA.Own w p a R) :
    Calls Try.prog 86 #[FL.ptr p] w fun e w' => ∃ v, e = .returned v ∧ H.Made a.l.hands w v w' := by
  obtain ⟨pl, R1, v, its, K, hA, _, _⟩ := hO
  obtain ⟨b1, b2, b3, c1, c2, c3, hL, _⟩ := hA.list
  have HF := Lib.hid (refHandles11_any pl b1 b2 b3 c1 c2 c3 a.l w hL)
  have f0 := hA.fields.1
  clear hA hL
  unfold FL.ptr at HF ⊢
  go_enter Try.func86, Try.ntmps86
  go_wp2_with fail
  refine HF.out.mono ?_
  rintro e w1 ⟨u, rfl, hm⟩
  have hm := Lib.hid hm
  clear HF
  go_wp2
  go_ret
  exact ⟨_, rfl, hm.out⟩
theorem Ar.bt {u V V' : World} (h : Below u.heap.size u V) (m : Below V.heap.size V V') : Below u.heap.size u V' := h.trans (m.mono h.size)
/-- Two rows of ints, as a call that returns both leaves them. -/
theorem refSlots13_any (p : Nat) (a : A13.A) (R : Nat → Prop) (w : World) (hO : RA.Own w p a R) :
    Calls Try.prog 85 #[FL.ptr p] w fun e w' => ∃ ao c bo d, e = .returned (.tuple #[.slice ao a.l.stk.length c, .slice bo (a.l.those 2).length d]) ∧ V.Row w' ao (FL.ints a.l.stk) ∧ V.Row w' bo (FL.ints (a.l.those 2)) ∧ Below w.heap.size w w' := by
  obtain ⟨pl, R1, v, its, K, hA, _, _⟩ := hO
  obtain ⟨b1, b2, b3, c1, c2, c3, hL, _⟩ := hA.list
  have HF : Hid (∀ V, FL.RAt V pl b1 b2 b3 c1 c2 c3 a.l → Calls Try.prog 104 #[.pointer (some ⟨pl, 0, none⟩)] V fun e w' => ∃ v, e = .returned v ∧ FL.MI a.l.stk V v w') := fun V h => refFree11_any pl b1 b2 b3 c1 c2 c3 a.l V h
  have HW : Hid (∀ V, FL.RAt V pl b1 b2 b3 c1 c2 c3 a.l → Calls Try.prog 105 #[.pointer (some ⟨pl, 0, none⟩)] V fun e w' => ∃ v, e = .returned v ∧ FL.MI (a.l.those 2) V v w') := fun V h => refWithdrawn11_any pl b1 b2 b3 c1 c2 c3 a.l V h
  have f0 := hA.fields.1
  have hp := (Array.getElem?_eq_some_iff.1 hA.obj).1
  have HS : Hid (∀ V, Below w.heap.size w V → V.cell? ⟨p, 0, none⟩ = some (.pointer (some ⟨pl, 0, none⟩)) ∧ FL.RAt V pl b1 b2 b3 c1 c2 c3 a.l ∧ Below w.heap.size w V) := fun V hb => ⟨((D.bcell hb).1 _ _ hp).trans f0, hL.but (R := fun _ => False) (FL.But.below hb) (fun _ _ => id), hb⟩
  have B0 : Hid (Below w.heap.size w w) := Below.refl _ _
  clear hA hL hp
  unfold FL.ptr
  go_enter Try.func85, Try.ntmps85
  go_wp2
  go_region_held3 (fun V => V.cell? ⟨p, 0, none⟩ = some (.pointer (some ⟨pl, 0, none⟩)) ∧ FL.RAt V pl b1 b2 b3 c1 c2 c3 a.l ∧ Below w.heap.size w V)
    ((refine HS.out _ ?_; first | exact B0.out.drew | (with_reducible assumption) | (go_split_ands; with_reducible assumption)))
    (first
      | (go_at_call 104; (with_reducible refine (HF.out _ (by go_split_ands; with_reducible assumption)).mono ?_); rintro e w1 ⟨u1, rfl, m1⟩; have L1 := Ar.bt (u := w) (by go_split_ands; with_reducible assumption) (V.Made.below m1))
      | (go_at_call 105; (with_reducible refine (HW.out _ (by go_split_ands; with_reducible assumption)).mono ?_); rintro e w2 ⟨u2, rfl, m2⟩; have L2 := Ar.bt (u := w) (by go_split_ands; with_reducible assumption) (V.Made.below m2)))
  all_goals
    obtain ⟨ao, c, e1, r1⟩ := m1.row
    obtain ⟨bo, d, e2, r2⟩ := m2.row
    subst e1 e2
    go_wp2
    go_ret2
    exact ⟨ao, c, bo, d, by simp, r1.below (V.Made.below m2), r2, L2⟩
end Go.Proofs.Ytniccjbcchdkoaa
/- ArRef2 -/
namespace Go.Proofs.Ytniccjbcchdkoaa
open Go.RowKit

/-- The counts of an arena. -/
def Ar.st7 (a : A13.A) : Value := .agg #[.int .i64 (a.l.st.length : Int), .int .i64 (a.l.stk.length : Int), .int .i64 (a.items.length : Int), .int .i64 (a.l.gone : Int), .int .i64 (a.al : Int), .int .i64 (a.fr : Int), .int .i64 (a.st : Int)]
theorem Ar.sums {a : A13.A} (v : A13.Inv a) : a.l.stk.length + a.items.length + a.l.gone = a.l.st.length ∧ a.l.st.length ≤ 16384 := by
  have h1 := A13.items_len v
  have h2 := A13.three v.l
  exact ⟨by omega, v.l.n2⟩
set_option maxRecDepth 100000 in
set_option maxHeartbeats 2000000 in
theorem refStats13_any (p : Nat) (a : A13.A) (R : Nat → Prop) (w : World) (hO : RA.Own w p a R) :
    Calls Try.prog 87 #[FL.ptr p] w fun e w' => e = .returned (Ar.st7 a) ∧ Below w.heap.size w w' := by
  obtain ⟨pl, R1, v, its, K, hA, _, _⟩ := hO
  obtain ⟨b1, b2, b3, c1, c2, c3, hL, _⟩ := hA.list
  obtain ⟨s1, s2⟩ := Ar.sums hA.inv
  obtain ⟨ao, cap, hv, _, _⟩ := Ar.row_of hA.row
  subst hv
  obtain ⟨f0, f1, f2, f3, f4, f5, f6, f7, f8, _⟩ := hA.fields
  obtain ⟨_, d1, _, d3, _⟩ := hL.cells
  have hi : a.items.length = its.length := by rw [hA.items, List.length_map]
  unfold Ar.st7
  rw [hi] at s1 ⊢
  have hp : p < w.heap.size := (Array.getElem?_eq_some_iff.1 hA.obj).1
  have hpl : pl < w.heap.size := (Array.getElem?_eq_some_iff.1 hL.obj).1
  have e1 : IntKind.i64.wrap ((a.l.st.length : Int) - (a.l.stk.length : Int)) = (a.l.st.length : Int) - (a.l.stk.length : Int) := IntWalk.i64_in _ (by omega)
  have e2 : IntKind.i64.wrap ((a.l.st.length : Int) - (a.l.stk.length : Int) - (its.length : Int)) = (a.l.gone : Int) := by
    rw [show (a.l.st.length : Int) - (a.l.stk.length : Int) - (its.length : Int) = (a.l.gone : Int) by omega]
    exact IntWalk.i64_in _ (by omega)
  have B1 : Hid (Below w.heap.size w ((w.alloc (.cells #[.int .i64 (a.l.st.length : Int), .int .i64 (a.l.stk.length : Int), .int .i64 (its.length : Int), .int .i64 (a.l.gone : Int), .int .i64 (a.al : Int), .int .i64 (a.fr : Int), .int .i64 (a.st : Int)] 42)).alloc (.cells #[.int .i64 (a.l.st.length : Int), .int .i64 (a.l.stk.length : Int), .int .i64 (its.length : Int), .int .i64 (a.l.gone : Int), .int .i64 (a.al : Int), .int .i64 (a.fr : Int), .int .i64 (a.st : Int)] 42))) := ((Below.refl _ _).alloc (Nat.le_refl _) _).alloc (by simp) _
  clear hA hL hi s1 s2
  generalize a.l.gone = gn at *
  generalize a.l.st.length = n at *
  generalize a.l.stk.length = m at *
  generalize its.length = k at *
  generalize a.al = x at *
  generalize a.fr = y at *
  generalize a.st = z at *
  unfold FL.ptr
  go_enter Try.func87, Try.ntmps87
  go_wp2
  refine bodyPost_ret (v := .agg #[.int .i64 (n : Int), .int .i64 (m : Int), .int .i64 (k : Int), .int .i64 (gn : Int), .int .i64 (x : Int), .int .i64 (y : Int), .int .i64 (z : Int)]) ?_ rfl ⟨rfl, B1.out⟩
  simp [results, Try.results87, go_sem]
theorem refNew13_bad (n g : Int) (h : n < 1 ∨ 16384 < n ∨ g < 1 ∨ 4294967295 < g) (w : World) :
    Calls Try.prog 50 #[.int .i64 n, .int .u64 g] w fun e w' => e = .returned (.tuple #[.pointer none, .int .i64 3]) ∧ w = w' := by
  have HN := Lib.hid (refNew11_bad n g h w)
  clear h
  go_enter Try.func50, Try.ntmps50
  go_wp2_with fail
  refine HN.out.mono ?_
  rintro e w1 ⟨rfl, rfl⟩
  go_wp2
  go_ret2
  exact ⟨rfl, rfl⟩
theorem refNew13_ok (n g : Nat) (h1 : 1 ≤ n) (h2 : n ≤ 16384) (h3 : 1 ≤ g) (h4 : g ≤ 4294967295) (w : World) :
    Calls Try.prog 50 #[.int .i64 (n : Int), .int .u64 (g : Int)] w fun e w' => ∃ p, e = .returned (.tuple #[FL.ptr p, .int .i64 0]) ∧ RA.Own w' p (A13.new n g) (Ar.ext (fun _ => False) w.heap.size w'.heap.size) ∧ Below w.heap.size w w' := by
  have HN := Lib.hid (refNew11_ok n g h1 h2 h3 h4 w)
  have I := Lib.hid (And.intro (A13.inv_new (n := n) (g := g) h1 h2 h3 h4) (A13.cnt_new n g))
  clear h1 h2 h3 h4
  unfold FL.ptr at HN ⊢
  go_enter Try.func50, Try.ntmps50
  go_wp2_with fail
  refine HN.out.mono ?_
  rintro e w1 ⟨pl, R1, rfl, hO, hb, hR⟩
  have ha : Below w1.heap.size w1 (w1.alloc (.cells #[.pointer (some ⟨pl, 0, none⟩), .slice none 0 0, .int .i64 0, .int .i64 0, .int .i64 0, .int .i64 0, .int .i64 0, .int .i64 0, .int .i64 0] 138)) := (Below.refl _ _).alloc (Nat.le_refl _) _
  have E : Hid (RA.Own (w1.alloc (.cells #[.pointer (some ⟨pl, 0, none⟩), .slice none 0 0, .int .i64 0, .int .i64 0, .int .i64 0, .int .i64 0, .int .i64 0, .int .i64 0, .int .i64 0] 138)) w1.heap.size (A13.new n g) (Ar.ext (fun _ => False) w.heap.size (w1.alloc (.cells #[.pointer (some ⟨pl, 0, none⟩), .slice none 0 0, .int .i64 0, .int .i64 0, .int .i64 0, .int .i64 0, .int .i64 0, .int .i64 0, .int .i64 0] 138)).heap.size)) := by
    refine ⟨pl, R1, .slice none 0 0, [], fun _ => False, ⟨I.out.1, I.out.2, heap_alloc_new w1 _, hO.below ha, World.ownsRow_nil _ _ _ _, Ar.Ok.nil _ _, rfl, fun c => ?_, (fun g e => by cases e), fun k hk => hk.elim⟩, fun k hk => ?_, fun k hk => ?_⟩
    · have := hO.lt _ c; omega
    · have hsz := hb.size
      rcases hk with rfl | hk | hk | hk
      · exact .inr ⟨hsz, by simp⟩
      · exact .inr ⟨hR k hk, by have := hO.lt k hk; simp; omega⟩
      · cases hk
      · exact hk.elim
    · rcases hk with hk | hk
      · exact hk.elim
      · exact hk.2
  have B : Hid (Below w.heap.size w (w1.alloc (.cells #[.pointer (some ⟨pl, 0, none⟩), .slice none 0 0, .int .i64 0, .int .i64 0, .int .i64 0, .int .i64 0, .int .i64 0, .int .i64 0, .int .i64 0] 138))) := hb.alloc hb.size _
  clear hO hb hR ha HN I
  go_wp2
  go_ret2
  exact ⟨w1.heap.size, rfl, E.out, B.out⟩
end Go.Proofs.Ytniccjbcchdkoaa
/- ArRef3 -/
namespace Go.Proofs.Ytniccjbcchdkoaa
open Go.RowKit

/-- The measure of a node, as the arena's mathematics takes it. -/
def Ar.ms (y : N.Nd) : Int × Int × Int := (N.mB y, N.mR y, N.mL y)
/-- What a handle's look-up finds. -/
theorem RA.At.look {W : World} {p pl : Nat} {R1 : Nat → Prop} {v : Value} {a : A13.A} {its : List Ar.I} {K : Nat → Prop} (hA : RA.At W p pl R1 v a its K) (h : Nat) :
    (a.look h = none ∧ Ar.pos its h = -1) ∨ ∃ (k : Nat) (i : Ar.I), its[k]? = some i ∧ a.look h = some i.x.nd ∧ Ar.pos its h = (k : Int) ∧ i.h = h ∧ (a.items.filter (fun i => !(i.1 == h))) = (its.take k ++ its.drop (k + 1)).map Ar.it := by
  cases e : a.look h with
  | none =>
    unfold A13.A.look at e
    rw [hA.items] at e
    exact .inl ⟨rfl, Ar.pos_no (Ar.find_none e)⟩
  | some x =>
    have e' := e
    unfold A13.A.look at e'
    rw [hA.items] at e'
    obtain ⟨k, i, h1, h2, h3, h4, h5⟩ := Ar.find_at hA.nodup e'
    exact .inr ⟨k, i, h1, by rw [h3], Ar.pos_at h1 h2 h4, h2, by rw [hA.items]; exact h5⟩
set_option maxRecDepth 100000 in
set_option maxHeartbeats 4000000 in
theorem refKids13_any (p pl : Nat) (R1 : Nat → Prop) (v : Value) (a : A13.A) (its : List Ar.I) (K : Nat → Prop) (h : Int) (t : ByteArray) (xo : Option Addr) (xc : Nat) (l : List N.K) (w : World) (hA : RA.At w p pl R1 v a its K)
    (h0 : 0 ≤ h) (h1 : h ≤ 16) (hl : l.length ≤ 16384) (hr : N.Row w xo l) (hf : ∀ q ∈ l, N.Fit q) :
    Calls Try.prog 81 #[FL.ptr p, .agg #[.int .i64 h, .string t, .slice xo l.length xc]] w fun e w' => e = .returned (.int .i64 (A13.kidsE Ar.ms a (N.nd h t l) l)) ∧ Below w.heap.size w w' := by
  unfold FL.ptr
  have X0 := Lib.hid (N.Nb.new w h t (.slice xo l.length xc) 30)
  have B0 : Hid (Below w.heap.size w (w.alloc (.cells #[.int .i64 h, .string t, .slice xo l.length xc] 30))) := (Below.refl _ _).alloc (Nat.le_refl _) _
  have HA : Hid (∀ V, Below w.heap.size w V → RA.At V p pl R1 v a its K) := fun V hb => hA.but (Q := fun _ => False) (FL.But.below hb) (fun _ _ => id)
  have HF : Hid (∀ (q : Nat) V, Below w.heap.size w V → Calls Try.prog 83 #[.pointer (some ⟨p, 0, none⟩), .int .u64 (q : Int)] V fun e w' => e = .returned (.int .i64 (Ar.pos its q)) ∧ V = w') := fun q V hb => refFind13_any p pl R1 v a its K q V (HA.out V hb)
  obtain ⟨ao, cap, hv, hcap, _⟩ := Ar.row_of hA.row
  have HR : Hid (∀ V, Below w.heap.size w V → ∀ (k : Nat) (i : Ar.I), its[k]? = some i → ∃ b, ao = some ⟨b, 0, none⟩ ∧ V.cell? ⟨b, k * 4 + 1, none⟩ = some (.int .i64 i.x.h) ∧ V.cell? ⟨b, k * 4 + 2, none⟩ = some (.string i.x.t) ∧ V.cell? ⟨b, k * 4 + 3, none⟩ = some (.slice i.x.s.a i.x.s.x.length i.x.s.c)) := fun V hb k i hk => by
    obtain ⟨ao', cap', hv', _, hrow⟩ := Ar.row_of (HA.out V hb).row
    rw [hv] at hv'
    cases hv'
    obtain ⟨b, e, _, _, c1, c2, c3⟩ := hrow k i hk
    exact ⟨b, e, c1, c2, c3⟩
  have HM : Hid (∀ V, Below w.heap.size w V → ∀ i ∈ its, Calls Try.prog 78 #[.agg #[.int .i64 i.x.h, .string i.x.t, .slice i.x.s.a i.x.s.x.length i.x.s.c]] V fun e w' => e = .returned (.tuple #[.agg #[.int .i64 (N.mB i.x.nd), .int .i64 (N.mR i.x.nd), .int .i64 (N.mL i.x.nd)], .int .i64 (N.chk i.x.nd)]) ∧ Below V.heap.size V w') := fun V hb i hi => by
    have ok := (HA.out V hb).ok.node i hi
    exact refMeasure12_any i.x.h i.x.t i.x.s.a i.x.s.c i.x.s.x V ok.cd.ts ok.cd.len ok.s.row ok.s.fits
  have HP : Hid (∀ V, Below w.heap.size w V → V.cell? ⟨p, 1, none⟩ = some (.slice ao its.length cap)) := fun V hb => by have := (HA.out V hb).fields.2.1; rw [hv] at this; exact this
  have HL := Lib.hid hA.len
  have HQ := Lib.hid hA.look
  have HX : Hid (N.Row w xo l ∧ ∀ q ∈ l, N.Fit q) := ⟨hr, hf⟩
  have hpos : Hid (p < w.heap.size ∧ cap = cap) := ⟨(Array.getElem?_eq_some_iff.1 hA.obj).1, rfl⟩
  have e1 : IntKind.i64.wrap (h - 1) = h - 1 := IntWalk.i64_in _ (by omega)
  clear hA hr hf hv hcap
  go_enter Try.func81, Try.ntmps81
  go_wp2
  go_loopw [5] (fun u wr => ∃ i : Nat, u = .int .i64 i ∧ i ≤ l.length ∧ Hid (A13.kidsE Ar.ms a (N.nd h t l) l = A13.kidsE Ar.ms a (N.nd h t l) (l.drop i)) ∧ Hid (N.Nb wr w.heap.size h t (.slice xo l.length xc)) ∧ Hid (Below w.heap.size w wr)) (fun u _ => l.length - (intOf u).toNat)
  case atStart => exact ⟨0, rfl, Nat.zero_le _, rfl, X0.out, B0.out⟩
  case round =>
    clear X0 B0
    obtain ⟨i, rfl, hi, hE, hX, hB⟩ := hrel
    have x0 := hX.out.c0
    have x2 := hX.out.c2
    by_cases hlt : i < l.length
    · have hlt' : (i : Int) < (l.length : Int) := by omega
      obtain ⟨q, hq, hqd⟩ := N.drop_cons hlt
      obtain ⟨b, o, e, hb, c0, c1, c2, c3⟩ := (HX.out.1.below hB.out) i q hq
      subst e
      have E1 : Hid (A13.kidsE Ar.ms a (N.nd h t l) l = if A13.kidE Ar.ms a (N.nd h t l) q = 0 then A13.kidsE Ar.ms a (N.nd h t l) (l.drop (i + 1)) else A13.kidE Ar.ms a (N.nd h t l) q) := by
        show _ = _
        rw [hE.out, hqd]; rfl
      have HK : Hid (∀ V, Below w.heap.size w V → V.cell? ⟨b, o + i * 4, none⟩ = some (.int .u64 (q.at_ : Int)) ∧ V.cell? ⟨b, o + i * 4 + 1, none⟩ = some (.int .i64 q.b) ∧ V.cell? ⟨b, o + i * 4 + 2, none⟩ = some (.int .i64 q.r) ∧ V.cell? ⟨b, o + i * 4 + 3, none⟩ = some (.int .i64 q.l)) := fun V hb => by
        obtain ⟨b', o', e, _, h⟩ := (HX.out.1.below hb) i q hq
        cases e; exact h
      have hqk := HQ.out q.at_
      have HFq := Lib.hid (HF.out q.at_ _ hB.out)
      clear hE hqd hq hb
      rcases hqk with ⟨k1, k2⟩ | ⟨k, it, k1, k2, k3, _, _⟩
      · have E2 : Hid (A13.kidsE Ar.ms a (N.nd h t l) l = 10) := by
          show _ = _
          rw [E1.out]
          have : A13.kidE Ar.ms a (N.nd h t l) q = 10 := by unfold A13.kidE; rw [k1]
          rw [this]; rfl
        rw [k2] at HFq
        clear k1 k2 E1
        go_wp2_with fail
        refine HFq.out.mono ?_
        rintro e w1 ⟨rfl, rfl⟩
        clear HFq
        go_wp2
        go_ret
        exact ⟨by rw [E2.out]; rfl, hB.out⟩
      · have E2 : Hid (A13.kidE Ar.ms a (N.nd h t l) q = if it.x.h = h - 1 ∧ N.mB it.x.nd = q.b ∧ N.mR it.x.nd = q.r ∧ N.mL it.x.nd = q.l then 0 else 23) := by
          show _ = _
          unfold A13.kidE
          rw [k2]
          have e : (it.x.nd.h = (N.nd h t l).h - 1 ∧ Ar.ms it.x.nd = (q.b, q.r, q.l)) ↔ (it.x.h = h - 1 ∧ N.mB it.x.nd = q.b ∧ N.mR it.x.nd = q.r ∧ N.mL it.x.nd = q.l) := by
            unfold Ar.ms
            rw [Prod.mk.injEq, Prod.mk.injEq]
            exact Iff.rfl
          simp only [e]
        rw [k3] at HFq
        have hk : (k : Int) < (its.length : Int) := by have := (List.getElem?_eq_some_iff.1 k1).1; omega
        obtain ⟨b', e', y1, y2, y3⟩ := HR.out _ hB.out k it k1
        subst e'
        have HMi : Hid (∀ V, Below w.heap.size w V → Calls Try.prog 78 #[.agg #[.int .i64 it.x.h, .string it.x.t, .slice it.x.s.a it.x.s.x.length it.x.s.c]] V fun e w' => e = .returned (.tuple #[.agg #[.int .i64 (N.mB it.x.nd), .int .i64 (N.mR it.x.nd), .int .i64 (N.mL it.x.nd)], .int .i64 (N.chk it.x.nd)]) ∧ Below V.heap.size V w') := fun V hb => HM.out V hb it (List.mem_of_getElem? k1)
        clear k1 k2 k3
        generalize N.mB it.x.nd = mb at *
        generalize N.mR it.x.nd = mr at *
        generalize N.mL it.x.nd = ml at *
        generalize N.chk it.x.nd = ck at *
        generalize it.x.h = yh at *
        generalize it.x.t = yt at *
        generalize it.x.s.a = ya at *
        generalize it.x.s.x.length = yn at *
        generalize it.x.s.c = yc at *
        have f1 := HP.out _ hB.out
        go_wp2_with fail
        refine HFq.out.mono ?_
        rintro e w1 ⟨rfl, rfl⟩
        clear HFq
        have ha : Below wr.heap.size wr (wr.alloc (.cells #[.int .i64 yh, .string yt, .slice ya yn yc] 30)) := (Below.refl _ _).alloc (Nat.le_refl _) _
        have Y1 := Lib.hid (N.Nb.new wr yh yt (.slice ya yn yc) 30)
        have B1 := Lib.hid (Ar.bt hB.out ha)
        have ha := Lib.hid ha
        go_wp2_with fail
        refine (HMi.out _ B1.out).mono ?_
        rintro e w2 ⟨rfl, hb⟩
        have hb2 : Below wr.heap.size wr w2 := Ar.bt ha.out hb
        have B2 := Lib.hid (Ar.bt hB.out hb2)
        have Y2 := Lib.hid (Y1.out.below hb)
        have X2 := Lib.hid (hX.out.below hb2)
        have hm : Below w2.heap.size w2 (w2.alloc (.cells #[.int .i64 mb, .int .i64 mr, .int .i64 ml] 48)) := (Below.refl _ _).alloc (Nat.le_refl _) _
        have B3 := Lib.hid (Ar.bt B2.out hm)
        have Y3 := Y2.out.below hm
        have X3 := X2.out.below hm
        clear HMi hb hb2 hX hB B1 B2 Y1 ha Y2 X2 y1 y2 y3 x0 x2 c0 c1 c2 c3 f1 hm
        obtain ⟨_, g1, g2, g3⟩ := HK.out _ B3.out
        have y0 := Y3.c0
        have x0 := X3.c0
        have x2 := X3.c2
        have X3 := Lib.hid X3
        clear Y3 HK
        have F : Hid (¬ (yh = h - 1 ∧ mb = q.b ∧ mr = q.r ∧ ml = q.l) → A13.kidsE Ar.ms a (N.nd h t l) l = 23) := fun c => by
          have k0 : A13.kidE Ar.ms a (N.nd h t l) q = 23 := by rw [E2.out]; exact if_neg c
          rw [E1.out, k0]; rfl
        have T : Hid ((yh = h - 1 ∧ mb = q.b ∧ mr = q.r ∧ ml = q.l) → A13.kidsE Ar.ms a (N.nd h t l) l = A13.kidsE Ar.ms a (N.nd h t l) (l.drop (i + 1))) := fun c => by
          have k0 : A13.kidE Ar.ms a (N.nd h t l) q = 0 := by rw [E2.out]; exact if_pos c
          rw [E1.out, if_pos k0]
        clear E1 E2 HF HA HR HP HQ HM
        generalize q.b = zb at *
        generalize q.r = zr at *
        generalize q.l = zl at *
        by_cases hh : yh = h - 1
        · have t1 : (yh != h - 1) = false := by simpa using hh
          have hc : (mb = zb ∧ mr = zr ∧ ml = zl) ∨ mb ≠ zb ∨ (mb = zb ∧ mr ≠ zr) ∨ (mb = zb ∧ mr = zr ∧ ml ≠ zl) := by omega
          rcases hc with ⟨rfl, rfl, rfl⟩ | hc | ⟨rfl, hc⟩ | ⟨rfl, rfl, hc⟩
          · have E3 := Lib.hid (T.out ⟨hh, rfl, rfl, rfl⟩)
            clear hh F T
            go_wp2
            go_quiet (fail)
            go_wp2
            go_roundw
            case rel => exact ⟨i + 1, by go_num, by omega, E3, X3.out.below (H.drewN (Below.refl _ _) _), H.drewN B3.out _⟩
            case measure => simp [intOf]; omega
          · have E4 := Lib.hid (F.out (fun c => hc c.2.1))
            clear hh F T
            go_wp2
            go_quiet (fail)
            go_wp2
            go_ret
            exact ⟨by rw [E4.out]; rfl, H.drewN B3.out _⟩
          · have E4 := Lib.hid (F.out (fun c => hc c.2.2.1))
            clear hh F T
            go_wp2
            go_quiet (fail)
            go_wp2
            go_ret
            exact ⟨by rw [E4.out]; rfl, H.drewN B3.out _⟩
          · have E4 := Lib.hid (F.out (fun c => hc c.2.2.2))
            clear hh F T
            go_wp2
            go_quiet (fail)
            go_wp2
            go_ret
            exact ⟨by rw [E4.out]; rfl, H.drewN B3.out _⟩
        · have t1 : (yh != h - 1) = true := by simpa using hh
          have E4 := Lib.hid (F.out (fun c => hh c.1))
          clear hh F T
          go_wp2
          go_quiet (fail)
          go_wp2
          go_ret
          exact ⟨by rw [E4.out]; rfl, H.drewN B3.out _⟩
    · obtain rfl : i = l.length := by omega
      have E2 : Hid (A13.kidsE Ar.ms a (N.nd h t l) l = 0) := by show _ = _; rw [hE.out, List.drop_eq_nil_of_le (Nat.le_refl _)]; rfl
      clear hE
      go_wp2
      go_ret
      exact ⟨by rw [E2.out]; rfl, hB.out⟩
end Go.Proofs.Ytniccjbcchdkoaa
/- ArRef4 -/
namespace Go.Proofs.Ytniccjbcchdkoaa
open Go.RowKit

/-- The counts of a call: one cell of the object is written. -/
theorem RA.At.field {W : World} {p pl : Nat} {R1 : Nat → Prop} {v : Value} {a a' : A13.A} {its : List Ar.I} {K : Nat → Prop} (h : RA.At W p pl R1 v a its K) (j : Nat) (u : Value) (hi : A13.Inv a') (hc : A13.Cnt a') (hl : a'.l = a.l) (hit : a'.items = a.items)
    (ho : (#[.pointer (some ⟨pl, 0, none⟩), v, .int .i64 0, .int .i64 0, .int .i64 0, .int .i64 0, .int .i64 (a.al : Int), .int .i64 (a.fr : Int), .int .i64 (a.st : Int)] : Array Value).setIfInBounds j u = #[.pointer (some ⟨pl, 0, none⟩), v, .int .i64 0, .int .i64 0, .int .i64 0, .int .i64 0, .int .i64 (a'.al : Int), .int .i64 (a'.fr : Int), .int .i64 (a'.st : Int)]) :
    RA.At (W.setCell ⟨p, j, none⟩ u) p pl R1 v a' its K ∧ FL.But (fun k => k = p) W (W.setCell ⟨p, j, none⟩ u) := by
  have hb : FL.But (fun k => k = p) W (W.setCell ⟨p, j, none⟩ u) := FL.But.set W u rfl
  refine ⟨⟨hi, hc, ?_, by rw [hl]; exact h.list.but hb (fun k hk c => h.np (by rw [← c]; exact hk)), hb.row h.row (fun g hg c => (h.nv g hg).1 c), h.ok.but hb (fun k hk c => (h.nk k hk).1 c), by rw [hit]; exact h.items, h.np, h.nv, h.nk⟩, hb⟩
  rw [FL.set_obj h.obj j u, ho]
theorem A13.gt_no {a : A13.A} {h : Nat} (k : a.has h = false) : a.gt h = { a with st := a.st + 1 } := by unfold A13.A.gt; rw [if_neg (by rw [k]; simp)]
theorem A13.gt_yes {a : A13.A} {h : Nat} (k : a.has h = true) : a.gt h = a := by unfold A13.A.gt; rw [if_pos k]
theorem N.put3_but (W : World) (b : Nat) (x y z : Value) : FL.But (fun k => k = b) W (N.put3 W b x y z) :=
  ((FL.But.set (R := fun k => k = b) W (b := b) (o := 0) x rfl).trans (FL.But.set (R := fun k => k = b) _ (b := b) (o := 1) y rfl)).trans (FL.But.set (R := fun k => k = b) _ (b := b) (o := 2) z rfl)
/-- What Get returns: the node, its children in new memory, or the zero node. -/
def Ar.got (a : A13.A) (h : Nat) : N.Nd := (a.look h).getD ⟨0, [], []⟩
set_option maxRecDepth 100000 in
set_option maxHeartbeats 2000000 in
theorem refGet13_any (p : Nat) (a : A13.A) (R : Nat → Prop) (h : Nat) (w : World) (hO : RA.Own w p a R) (hst : a.st < 1000000000) :
    Calls Try.prog 57 #[FL.ptr p, .int .u64 (h : Int)] w fun e w' => ∃ v, e = .returned (.tuple #[.agg #[.int .i64 (Ar.got a h).h, .string ⟨(Ar.got a h).t.toArray⟩, v], .int .i64 (a.gtE h)]) ∧
      RA.Own w' p (a.gt h) R ∧ FL.But R w w' ∧ w'.ownsRow w.heap.size 50 4 v (Ar.got a h).ks.length (N.cells (Ar.got a h).ks) := by
  obtain ⟨pl, R1, v, its, K, hA, hR, hs⟩ := hO
  have hp : p < w.heap.size := (Array.getElem?_eq_some_iff.1 hA.obj).1
  obtain ⟨ao, cap, hv, _, hrow⟩ := Ar.row_of hA.row
  have HB : Hid (∀ V, Below w.heap.size w V → RA.At V p pl R1 v a its K) := fun V hb => hA.but (Q := fun _ => False) (FL.But.below hb) (fun _ _ => id)
  have B0 : Hid (Below w.heap.size w (w.alloc (.cells #[.int .i64 0, .string ⟨#[]⟩, .slice none 0 0] 30))) := (Below.refl _ _).alloc (Nat.le_refl _) _
  have HF := Lib.hid (refFind13_any p pl R1 v a its K h _ (HB.out _ B0.out))
  unfold FL.ptr at HF ⊢
  rcases hA.look h with ⟨k1, k2⟩ | ⟨k, i, k1, k2, k3, _, _⟩
  · have hn : a.has h = false := by unfold A13.A.has; rw [k1]; rfl
    have e1 : a.gtE h = 10 := by unfold A13.A.gtE; rw [if_neg (by rw [hn]; simp)]
    have e2 : Ar.got a h = ⟨0, [], []⟩ := by unfold Ar.got; rw [k1]; rfl
    rw [k2] at HF
    rw [e1, e2]
    have f8 := (HB.out _ B0.out).fields.2.2.2.2.2.2.2.2.1
    have fz := (HB.out _ B0.out).fields.2.2.2.2.2.2.2.2.2 8
    have w1 : IntKind.i64.wrap ((a.st : Int) + 1) = (a.st : Int) + 1 := IntWalk.i64_in _ (by omega)
    obtain ⟨E1, E2⟩ := hA.field (a' := a.gt h) 8 (.int .i64 ((a.st : Int) + 1)) (A13.inv_gt hA.inv h) (A13.cnt_gt hA.cnt h) (by rw [A13.gt_no hn]) (by rw [A13.gt_no hn]) (by rw [A13.gt_no hn]; rfl)
    have hb : Below (w.setCell ⟨p, 8, none⟩ (.int .i64 ((a.st : Int) + 1))).heap.size (w.setCell ⟨p, 8, none⟩ (.int .i64 ((a.st : Int) + 1))) ((w.setCell ⟨p, 8, none⟩ (.int .i64 ((a.st : Int) + 1))).alloc (.cells #[.int .i64 0, .string ⟨#[]⟩, .slice none 0 0] 30)) := (Below.refl _ _).alloc (Nat.le_refl _) _
    have O : Hid (RA.Own ((w.setCell ⟨p, 8, none⟩ (.int .i64 ((a.st : Int) + 1))).alloc (.cells #[.int .i64 0, .string ⟨#[]⟩, .slice none 0 0] 30)) p (a.gt h) R ∧ FL.But R w ((w.setCell ⟨p, 8, none⟩ (.int .i64 ((a.st : Int) + 1))).alloc (.cells #[.int .i64 0, .string ⟨#[]⟩, .slice none 0 0] 30))) :=
      ⟨⟨pl, R1, v, its, K, E1.but (Q := fun _ => False) (FL.But.below hb) (fun _ _ => id), hR, fun k hk => by have := hs k hk; simp; omega⟩, ⟨E2.os.trans rfl, E2.tape, E2.output, by simp, fun k hk hr => (Lib.alloc_old _ _ k (by simpa using hk)).trans (E2.block k hk (fun c => hr (by rw [c]; exact hR p (.inl rfl))))⟩⟩
    have hne : w.heap.size ≠ p := by omega
    clear hA HB hrow hv k1 k2 e1 e2 hn hR hs E1 E2 hb
    go_enter Try.func57, Try.ntmps57
    go_wp2_with fail
    refine HF.out.mono ?_
    rintro e w2 ⟨rfl, rfl⟩
    clear HF
    go_wp2
    refine bodyPost_ret (v := .tuple #[.agg #[.int .i64 0, .string ⟨#[]⟩, .slice none 0 0], .int .i64 10]) ?_ rfl ⟨_, rfl, O.out.1, O.out.2, World.ownsRow_nil _ _ _ _⟩
    simp [results, Try.results57, go_sem]
  · have hy : a.has h = true := by unfold A13.A.has; rw [k2]; rfl
    have e1 : a.gtE h = 0 := by unfold A13.A.gtE; rw [if_pos hy]
    have e2 : Ar.got a h = i.x.nd := by unfold Ar.got; rw [k2]; rfl
    rw [k3] at HF
    rw [e1, e2, A13.gt_yes hy]
    have hA1 := HB.out _ B0.out
    obtain ⟨ao', cap', hv', _, hrow'⟩ := Ar.row_of hA1.row
    rw [hv] at hv'
    cases hv'
    obtain ⟨b, e', _, _, y1, y2, y3⟩ := hrow' k i k1
    subst e'
    have f1 := hA1.fields.2.1
    rw [hv] at f1
    have ok := hA1.ok.node i (List.mem_of_getElem? k1)
    have HC := Lib.hid (copyNode12_any i.x.h i.x.t i.x.s.a i.x.s.c i.x.s.x _ (by have := ok.s.fit; omega) ok.s.row)
    have hk : (k : Int) < (its.length : Int) := by have := (List.getElem?_eq_some_iff.1 k1).1; omega
    have HO : Hid (∀ V, Below w.heap.size w V → RA.Own V p a R ∧ FL.But R w V) := fun V hb => ⟨⟨pl, R1, v, its, K, HB.out V hb, hR, fun k hk => Nat.lt_of_lt_of_le (hs k hk) hb.size⟩, FL.But.below hb⟩
    have ht : Hid ((⟨i.x.nd.t.toArray⟩ : ByteArray) = i.x.t) := D.bytes_eq _
    clear hA HB hrow hrow' hA1 k1 k2 k3 e1 e2 hy hR hs ok hv
    go_enter Try.func57, Try.ntmps57
    go_wp2_with fail
    refine HF.out.mono ?_
    rintro e w2 ⟨rfl, rfl⟩
    clear HF
    go_wp2_with fail
    refine HC.out.mono ?_
    rintro e w3 ⟨u, rfl, hm⟩
    obtain ⟨uo, uc, hu, _⟩ := hm.src
    subst hu
    have O := (N.Own.new w (.int .i64 0) (.string ⟨#[]⟩) (.slice none 0 0) 30).below hm.below
    have r0 := O.c0
    have r1 := O.c1
    have r2 := O.c2
    have s0 := O.f0
    have s1 := O.f1
    have s2 := O.f2
    have hP := O.put (.int .i64 i.x.h) (.string i.x.t) (.slice uo i.x.s.x.length uc)
    have hb3 : Below w.heap.size w w3 := B0.out.trans (hm.below.mono B0.out.size)
    have E := Lib.hid (HO.out _ (N.put3_below hb3 (Nat.le_refl _) (.int .i64 i.x.h) (.string i.x.t) (.slice uo i.x.s.x.length uc)))
    have hq : FL.But (fun k => k = w.heap.size) w3 (N.put3 w3 w.heap.size (.int .i64 i.x.h) (.string i.x.t) (.slice uo i.x.s.x.length uc)) := N.put3_but w3 _ _ _ _
    have G : Hid ((N.put3 w3 w.heap.size (.int .i64 i.x.h) (.string i.x.t) (.slice uo i.x.s.x.length uc)).ownsRow w.heap.size 50 4 (.slice uo i.x.s.x.length uc) i.x.s.x.length (N.cells i.x.s.x)) := hq.row (D.own_mono hm.own (by simp)) (fun k hk c => by have := (hm.own.lt k hk).1; simp at this; omega)
    clear hm O hb3 HO HC hq y1 y2 y3 f1
    go_wp2
    have p0 := hP.c0
    have p1 := hP.c1
    have p2 := hP.c2
    refine bodyPost_ret (v := .tuple #[.agg #[.int .i64 i.x.h, .string i.x.t, .slice uo i.x.s.x.length uc], .int .i64 0]) ?r1 rfl ?r2
    case r2 => exact ⟨_, by rw [ht.out]; rfl, E.out.1, E.out.2, G.out⟩
    unfold N.put3 at p0 p1 p2
    simp [results, Try.results57, go_sem, p0, p1, p2]
end Go.Proofs.Ytniccjbcchdkoaa
/- ArMem2 -/
namespace Go.Proofs.Ytniccjbcchdkoaa
open Go.RowKit

structure RA.Mem (W : World) (p pl : Nat) (R1 : Nat → Prop) (v : Value) (s : FL.S) (its : List Ar.I) (x y z : Nat) (K : Nat → Prop) : Prop where
  obj : W.heap[p]? = some (.cells #[.pointer (some ⟨pl, 0, none⟩), v, .int .i64 0, .int .i64 0, .int .i64 0, .int .i64 0, .int .i64 (x : Int), .int .i64 (y : Int), .int .i64 (z : Int)] 138 (0, 0))
  list : FL.ROwn W pl s R1
  row : W.ownsRow 0 140 4 v its.length (Ar.cells its)
  ok : Ar.Ok W K its
  np : ¬ R1 p
  nv : ∀ g, v.ownBlock = some g → g ≠ p ∧ ¬ R1 g
  nk : ∀ k, K k → k ≠ p ∧ ¬ R1 k ∧ v.ownBlock ≠ some k
  kl : ∀ k, K k → k < W.heap.size
section
variable {W W' : World} {p pl : Nat} {R1 : Nat → Prop} {v : Value} {s : FL.S} {its : List Ar.I} {x y z : Nat} {K : Nat → Prop}
theorem RA.Mem.but (h : RA.Mem W p pl R1 v s its x y z K) {Q : Nat → Prop} (hb : FL.But Q W W') (hQ : ∀ k, RA.foot p R1 v K k → ¬ Q k) : RA.Mem W' p pl R1 v s its x y z K :=
  ⟨by rw [hb.block p (Array.getElem?_eq_some_iff.1 h.obj).1 (hQ p (.inl rfl))]; exact h.obj, h.list.but hb (fun k hk => hQ k (.inr (.inl hk))), hb.row h.row (fun k hk => hQ k (.inr (.inr (.inl hk)))), h.ok.but hb (fun k hk => hQ k (.inr (.inr (.inr hk)))), h.np, h.nv, h.nk, fun k hk => Nat.lt_of_lt_of_le (h.kl k hk) hb.size⟩
theorem RA.Mem.on (h : RA.Mem W p pl R1 v s its x y z K) (hb : Below W.heap.size W W') : RA.Mem W' p pl R1 v s its x y z K := h.but (Q := fun _ => False) (FL.But.below hb) (fun _ _ => id)
theorem RA.At.mem {a : A13.A} (h : RA.At W p pl R1 v a its K) (kl : ∀ k, K k → k < W.heap.size) : RA.Mem W p pl R1 v a.l its a.al a.fr a.st K := ⟨h.obj, h.list, h.row, h.ok, h.np, h.nv, h.nk, kl⟩
theorem RA.Mem.at_ {a : A13.A} (h : RA.Mem W p pl R1 v a.l its a.al a.fr a.st K) (hi : A13.Inv a) (hc : A13.Cnt a) (he : a.items = its.map Ar.it) : RA.At W p pl R1 v a its K := ⟨hi, hc, h.obj, h.list, h.row, h.ok, he, h.np, h.nv, h.nk⟩
/-- The list of slots turns. -/
theorem RA.Mem.turn (h : RA.Mem W p pl R1 v s its x y z K) {s' : FL.S} (hl : FL.ROwn W' pl s' R1) (hb : FL.But R1 W W') : RA.Mem W' p pl R1 v s' its x y z K :=
  ⟨by rw [hb.block p (Array.getElem?_eq_some_iff.1 h.obj).1 h.np]; exact h.obj, hl, hb.row h.row (fun k hk => (h.nv k hk).2), h.ok.but hb (fun k hk => (h.nk k hk).2.1), h.np, h.nv, h.nk, fun k hk => Nat.lt_of_lt_of_le (h.kl k hk) hb.size⟩
/-- A count is written. -/
theorem RA.Mem.field (h : RA.Mem W p pl R1 v s its x y z K) (j : Nat) (u : Value) {x' y' z' : Nat}
    (ho : (#[.pointer (some ⟨pl, 0, none⟩), v, .int .i64 0, .int .i64 0, .int .i64 0, .int .i64 0, .int .i64 (x : Int), .int .i64 (y : Int), .int .i64 (z : Int)] : Array Value).setIfInBounds j u = #[.pointer (some ⟨pl, 0, none⟩), v, .int .i64 0, .int .i64 0, .int .i64 0, .int .i64 0, .int .i64 (x' : Int), .int .i64 (y' : Int), .int .i64 (z' : Int)]) :
    RA.Mem (W.setCell ⟨p, j, none⟩ u) p pl R1 v s its x' y' z' K ∧ FL.But (fun k => k = p) W (W.setCell ⟨p, j, none⟩ u) := by
  have hb : FL.But (fun k => k = p) W (W.setCell ⟨p, j, none⟩ u) := FL.But.set W u rfl
  refine ⟨⟨?_, h.list.but hb (fun k hk c => h.np (by rw [← c]; exact hk)), hb.row h.row (fun g hg c => (h.nv g hg).1 c), h.ok.but hb (fun k hk c => (h.nk k hk).1 c), h.np, h.nv, h.nk, fun k hk => Nat.lt_of_lt_of_le (h.kl k hk) hb.size⟩, hb⟩
  rw [FL.set_obj h.obj j u, ho]
/-- Another row of items is put into the object: it lies in a block of its own. -/
theorem RA.Mem.items (h : RA.Mem W p pl R1 v s its x y z K) {v' : Value} {its' : List Ar.I} {K' : Nat → Prop} (hr : W'.ownsRow 0 140 4 v' its'.length (Ar.cells its')) (hb : FL.But (fun k => v.ownBlock = some k) W W') (hok : Ar.Ok W' K' its')
    (hv : ∀ g, v'.ownBlock = some g → g ≠ p ∧ ¬ R1 g) (hk : ∀ k, K' k → k ≠ p ∧ ¬ R1 k ∧ v'.ownBlock ≠ some k) (hl : ∀ k, K' k → k < W'.heap.size) : RA.Mem (W'.setCell ⟨p, 1, none⟩ v') p pl R1 v' s its' x y z K' := by
  have ho : W'.heap[p]? = some (.cells #[.pointer (some ⟨pl, 0, none⟩), v, .int .i64 0, .int .i64 0, .int .i64 0, .int .i64 0, .int .i64 (x : Int), .int .i64 (y : Int), .int .i64 (z : Int)] 138 (0, 0)) := (hb.block p (Array.getElem?_eq_some_iff.1 h.obj).1 (fun c => (h.nv p c).1 rfl)).trans h.obj
  have hL := h.list.but hb (fun k hk c => (h.nv k c).2 hk)
  have hs : FL.But (fun k => k = p) W' (W'.setCell ⟨p, 1, none⟩ v') := FL.But.set W' v' rfl
  refine ⟨?_, hL.but hs (fun k hk c => h.np (by rw [← c]; exact hk)), hs.row hr (fun g hg c => (hv g hg).1 c), hok.but hs (fun k hk' c => (hk k hk').1 c), h.np, hv, hk, fun k hk' => Nat.lt_of_lt_of_le (hl k hk') hs.size⟩
  rw [FL.set_obj ho 1 v']; rfl
theorem RA.Mem.fields (h : RA.Mem W p pl R1 v s its x y z K) : W.cell? ⟨p, 0, none⟩ = some (.pointer (some ⟨pl, 0, none⟩)) ∧ W.cell? ⟨p, 1, none⟩ = some v ∧ W.cell? ⟨p, 6, none⟩ = some (.int .i64 (x : Int)) ∧ W.cell? ⟨p, 7, none⟩ = some (.int .i64 (y : Int)) ∧ W.cell? ⟨p, 8, none⟩ = some (.int .i64 (z : Int)) ∧ ∀ j : Nat, W.frozen? ⟨p, j, none⟩ = false :=
  ⟨Lib.cell_of_heap h.obj 0, Lib.cell_of_heap h.obj 1, Lib.cell_of_heap h.obj 6, Lib.cell_of_heap h.obj 7, Lib.cell_of_heap h.obj 8, fun _ => frozen_of_row _ _ _ _ _ h.obj⟩
end
theorem Try.infoItem : (Try.prog.info? 140).map (fun i => (i.zero, i.size, i.bytes)) = some (some (.agg #[.int .u64 0, .int .i64 0, .string ⟨#[]⟩, .slice none 0 0]), 4, 56) := by kernel_rfl
/-- Is every kid block of an arena in the heap? -/
theorem RA.Own.kl {W : World} {p : Nat} {a : A13.A} {R : Nat → Prop} (h : RA.Own W p a R) : ∃ pl R1 v its K, RA.At W p pl R1 v a its K ∧ RA.Mem W p pl R1 v a.l its a.al a.fr a.st K ∧ (∀ k, RA.foot p R1 v K k → R k) ∧ ∀ k, R k → k < W.heap.size := by
  obtain ⟨pl, R1, v, its, K, hA, hR, hs⟩ := h
  exact ⟨pl, R1, v, its, K, hA, hA.mem (fun k hk => hs k (hR k (.inr (.inr (.inr hk))))), hR, hs⟩
end Go.Proofs.Ytniccjbcchdkoaa
/- ArRef5 -/
namespace Go.Proofs.Ytniccjbcchdkoaa
open Go.RowKit

theorem FL.tkH_le13 {s : FL.S} (v : FL.Inv s) : s.tkH ≤ 18446744073709551615 := by
  cases e : s.stk with
  | nil => rw [(FL.tk_nil e).2.1]; omega
  | cons x r =>
    have t := FL.tk_cons v e
    have := H.ok_lt t.ok
    rw [t.hand]; omega
theorem RA.Own.ext {W : World} {p : Nat} {a : A13.A} {R : Nat → Prop} (h : RA.Own W p a R) (n : Nat) : RA.Own W p a (Ar.ext R n W.heap.size) := by
  obtain ⟨pl, R1, v, its, K, hA, hR, hs⟩ := h
  exact ⟨pl, R1, v, its, K, hA, fun k hk => .inl (hR k hk), fun k hk => hk.elim (hs k) (fun c => c.2)⟩
theorem N.Nb.but {Q : Nat → Prop} {W W' : World} {b : Nat} {h : Int} {t : ByteArray} {v : Value} (x : N.Nb W b h t v) (hb : FL.But Q W W') (hq : ¬ Q b) : N.Nb W' b h t v := by
  have k : ∀ j : Nat, W'.cell? ⟨b, j, none⟩ = W.cell? ⟨b, j, none⟩ := fun j => by unfold World.cell?; rw [hb.block b x.lt hq]
  exact ⟨Nat.lt_of_lt_of_le x.lt hb.size, (k 0).trans x.c0, (k 1).trans x.c1, (k 2).trans x.c2⟩
/-- An item has been appended, and its row is put into the object. -/
theorem RA.Mem.push {W0 W W' : World} {p pl : Nat} {R1 : Nat → Prop} {v : Value} {s : FL.S} {its : List Ar.I} {x y z : Nat} {K : Nat → Prop} (m0 : RA.Mem W0 p pl R1 v s its x y z K) (m : RA.Mem W p pl R1 v s its x y z K) {hd : Nat} {h : Int} {t : ByteArray} {uo : Option Addr} {uc : Nat} {l : List N.K}
    (hob : W.ownsRow W0.heap.size 50 4 (.slice uo l.length uc) l.length (N.cells l)) (ok : N.NOk W ⟨h, t, ⟨uo, uc, l⟩⟩) (hh : hd ≤ 18446744073709551615) {g cp : Nat}
    (hO : W'.ownsRow 0 140 4 (.slice (some ⟨g, 0, none⟩) (its.length + 1) cp) (its.length + 1) (Ar.cells its ++ [.int .u64 (hd : Int), .int .i64 h, .string t, .slice uo l.length uc])) (hb : FL.But (fun k => v.ownBlock = some k) W W') (hat : v.ownBlock = some g ∨ g = W.heap.size) :
    ∃ K', RA.Mem (W'.setCell ⟨p, 1, none⟩ (.slice (some ⟨g, 0, none⟩) (its.length + 1) cp)) p pl R1 (.slice (some ⟨g, 0, none⟩) (its.length + 1) cp) s (its ++ [⟨hd, ⟨h, t, ⟨uo, uc, l⟩⟩⟩]) x y z K' ∧ (∀ k, K' k → K k ∨ W0.heap.size ≤ k) := by
  have hl0 : ∀ k, (Value.slice uo l.length uc).ownBlock = some k → W0.heap.size ≤ k ∧ k < W.heap.size := fun k hk => hob.lt k hk
  have hp0 : p < W0.heap.size := (Array.getElem?_eq_some_iff.1 m0.obj).1
  have hp1 : p < W.heap.size := (Array.getElem?_eq_some_iff.1 m.obj).1
  have hv0 : ∀ k, v.ownBlock = some k → k < W0.heap.size := fun k hk => (m0.row.lt k hk).2
  refine ⟨fun k => K k ∨ (Value.slice uo l.length uc).ownBlock = some k, m.items (by rw [List.length_append, Ar.cells_append, Ar.cells_one]; exact hO) hb ?_ ?_ ?_ ?_, fun k hk => hk.imp id (fun c => (hl0 k c).1)⟩
  · refine ((m.ok.but hb (fun k hk c => (m.nk k hk).2.2 c)).mono (fun k hk => .inl hk) (fun i hi => hi)).add (ok.but hb (fun g' o e _ c => ?_)) (fun g' o e _ => .inr ?_) hh
    · have e : uo = some ⟨g', o, none⟩ := e
      have h1 := (hl0 g' (by rw [e]; rfl)).1
      have h2 := hv0 g' c
      omega
    · have e : uo = some ⟨g', o, none⟩ := e
      rw [e]; rfl
  · intro g' hg'
    have e : g = g' := by injection hg'
    subst e
    rcases hat with c | c
    · exact m.nv g c
    · exact ⟨by omega, fun hr => by have := m.list.lt g hr; omega⟩
  · intro k hk
    have eg : (Value.slice (some ⟨g, 0, none⟩) (its.length + 1) cp).ownBlock = some k → g = k := fun e => by injection e
    rcases hk with hk | hk
    · obtain ⟨n1, n2, n3⟩ := m.nk k hk
      refine ⟨n1, n2, fun e => ?_⟩
      have e := eg e
      subst e
      rcases hat with c | c
      · exact n3 c
      · have := m.kl _ hk; omega
    · obtain ⟨h1, h2⟩ := hl0 k hk
      refine ⟨by omega, fun hr => by have := m0.list.lt k hr; omega, fun e => ?_⟩
      have e := eg e
      subst e
      rcases hat with c | c
      · have := hv0 _ c; omega
      · omega
  · intro k hk
    rcases hk with hk | hk
    · exact Nat.lt_of_lt_of_le (m.kl k hk) hb.size
    · exact Nat.lt_of_lt_of_le (hl0 k hk).2 hb.size
set_option maxRecDepth 100000 in
set_option maxHeartbeats 4000000 in
theorem refAlloc13_any (p : Nat) (a : A13.A) (R : Nat → Prop) (h : Int) (t : ByteArray) (xo : Option Addr) (xc : Nat) (l : List N.K) (w : World) (hO : RA.Own w p a R) (cd : N.Cd h t l) (hh0 : -9223372036854775808 ≤ h) (hh1 : h < 9223372036854775808) (hr : N.Row w xo l) (hxR : ∀ g o, xo = some ⟨g, o, none⟩ → l ≠ [] → ¬ R g) :
    Calls Try.prog 55 #[FL.ptr p, .agg #[.int .i64 h, .string t, .slice xo l.length xc]] w fun e w' => e = .returned (.tuple #[.int .u64 (A13.alH Ar.ms a (N.nd h t l) : Nat), .int .i64 (A13.alE Ar.ms a (N.nd h t l))]) ∧ RA.Own w' p (A13.al Ar.ms a (N.nd h t l)) (Ar.ext R w.heap.size w'.heap.size) ∧ FL.But R w w' := by
  have hO' := hO
  obtain ⟨pl, R1, v, its, K, hA, M0, hR, hs⟩ := hO.kl
  have X0 := Lib.hid (N.Nb.new w h t (.slice xo l.length xc) 30)
  have ha : Below w.heap.size w (w.alloc (.cells #[.int .i64 h, .string t, .slice xo l.length xc] 30)) := (Below.refl _ _).alloc (Nat.le_refl _) _
  have HC := N.hCk' cd
  have HU : Hid (∀ V, Below w.heap.size w V → RA.Own V p a (Ar.ext R w.heap.size V.heap.size) ∧ FL.But R w V) := fun V hb => ⟨(hO'.below hb).ext _, FL.But.below hb⟩
  have HCx := Lib.hid (HC.out xo xc _ (hr.below ha))
  have B0 := Lib.hid ha
  clear ha HC
  unfold FL.ptr
  by_cases hc : N.chk (N.nd h t l) = 0
  · have hsm : 0 ≤ h ∧ h ≤ 16 ∧ l.length ≤ 4 ∧ t.size ≤ 16 := by
      rcases N.chk_cases hc with k | k
      · have e1 : h = 0 := k.h
        have e2 : l = [] := k.ks
        subst e1; subst e2
        have e3 : t.data.toList.length ≤ 16 := k.t2
        rw [N.len_data] at e3
        exact ⟨by omega, by omega, by decide, e3⟩
      · have e1 : 0 < h := k.h1
        have e2 : h ≤ 16 := k.h2
        have e3 : l.length ≤ 4 := k.k4
        have e4 : t.data.toList = [] := k.t
        have e5 : t.data.toList.length = t.size := N.len_data t
        rw [e4] at e5
        exact ⟨by omega, e2, e3, by rw [← e5]; exact Nat.zero_le _⟩
    obtain ⟨h0, h16, hl4, ht16⟩ := hsm
    have HKd : Hid (∀ V, Below w.heap.size w V → Calls Try.prog 81 #[.pointer (some ⟨p, 0, none⟩), .agg #[.int .i64 h, .string t, .slice xo l.length xc]] V fun e w' => e = .returned (.int .i64 (A13.kidsE Ar.ms a (N.nd h t l) l)) ∧ Below V.heap.size V w') := fun V hb =>
      refKids13_any p pl R1 v a its K h t xo xc l V (hA.but (Q := fun _ => False) (FL.But.below hb) (fun _ _ => id)) h0 h16 (by omega) (hr.below hb) cd.ft
    rw [hc] at HCx
    by_cases hk : A13.kidsE Ar.ms a (N.nd h t l) l = 0
    · have e0 : A13.alE Ar.ms a (N.nd h t l) = a.l.tkE := by unfold A13.alE; rw [if_pos hc]; exact if_pos hk
      rw [hk] at HKd
      have HT : Hid (∀ V, FL.ROwn V pl a.l R1 → Calls Try.prog 82 #[.pointer (some ⟨pl, 0, none⟩)] V fun e w' => e = .returned (.tuple #[.int .u64 (a.l.tkH : Nat), .int .i64 a.l.tkE]) ∧ FL.ROwn w' pl a.l.tk R1 ∧ FL.But R1 V w') := fun V hv => refTake11_any pl a.l R1 V hv
      have hf0 := Lib.hid hA.fields.1
      have hpl : Hid (p < w.heap.size) := (Array.getElem?_eq_some_iff.1 hA.obj).1
      cases hst : a.l.stk with
      | nil =>
        obtain ⟨t1, t2, t3⟩ := FL.tk_nil hst
        rw [t3] at e0
        have hne : A13.alE Ar.ms a (N.nd h t l) ≠ 0 := by rw [e0]; decide
        obtain ⟨e2, e3⟩ := A13.al_no hne
        rw [e0, e2, e3]
        rw [t1, t2, t3] at HT
        have HL : Hid (∀ V, Below w.heap.size w V → FL.ROwn V pl a.l R1 ∧ V.cell? ⟨p, 0, none⟩ = some (.pointer (some ⟨pl, 0, none⟩))) := fun V hb => ⟨hA.list.but (Q := fun _ => False) (FL.But.below hb) (fun _ _ => id), ((D.bcell hb).1 _ _ hpl.out).trans hf0.out⟩
        have HV : Hid (∀ V V', Below w.heap.size w V → FL.ROwn V' pl a.l R1 → FL.But R1 V V' → RA.Own V' p a (Ar.ext R w.heap.size V'.heap.size) ∧ FL.But R w V') := fun V V' hb ho hbt => by
          have m := (M0.but (Q := fun _ => False) (FL.But.below hb) (fun _ _ => id)).turn ho hbt
          have hR1 : ∀ k, R1 k → R k := fun k hk => hR k (.inr (.inl hk))
          exact ⟨RA.Own.ext ⟨pl, R1, v, its, K, m.at_ hA.inv hA.cnt hA.items, hR, fun k hk => Nat.lt_of_lt_of_le (hs k hk) (Nat.le_trans hb.size hbt.size)⟩ _, (FL.But.below hb).trans ⟨hbt.os, hbt.tape, hbt.output, hbt.size, fun k hk hn => hbt.block k hk (fun c => hn (hR1 k c))⟩⟩
        clear e0 e2 e3 hne t1 t2 t3 hk hc hA M0 hR hs hO hO' hr HU hst cd
        go_enter Try.func55, Try.ntmps55
        go_wp2_with fail
        refine HCx.out.mono ?_
        rintro e w1 ⟨rfl, hb⟩
        have B1 := Lib.hid (Ar.bt B0.out hb)
        have X1 := X0.out.below hb
        have x0 := X1.c0
        have x1 := X1.c1
        have x2 := X1.c2
        have X1 := Lib.hid X1
        clear hb HCx B0 X0
        go_wp2_with fail
        refine (HKd.out _ B1.out).mono ?_
        rintro e w2 ⟨rfl, hb⟩
        have B2 := Lib.hid (Ar.bt B1.out hb)
        clear hb HKd B1 X1 x0 x1 x2
        obtain ⟨hL2, f0⟩ := HL.out _ B2.out
        have hL2 := Lib.hid hL2
        go_wp2_with fail
        refine (HT.out _ hL2.out).mono ?_
        rintro e w3 ⟨rfl, ho, hbt⟩
        have E := Lib.hid (HV.out _ _ B2.out ho hbt)
        clear HT HL HV ho hbt hL2 f0 B2
        go_wp2
        go_ret2
        exact ⟨rfl, E.out⟩
      | cons s0 r0 =>
        have tk := FL.tk_cons hA.inv.l hst
        have t3 : a.l.tkE = 0 := by unfold FL.S.tkE; rw [if_neg (by rw [hst]; simp)]
        rw [t3] at e0
        have al := A13.al_yes e0
        have ina := A13.inv_al (ms := Ar.ms) hA.inv (N.nd h t l)
        have cna := A13.cnt_al (ms := Ar.ms) hA.inv hA.cnt (N.nd h t l)
        have hhl : Hid (a.l.tkH ≤ 18446744073709551615) := FL.tkH_le13 hA.inv.l
        rw [e0, al.hand]
        rw [al.next] at ina cna ⊢
        rw [t3] at HT
        have FIN : Hid (∀ V g cp uo uc K', RA.Mem V p pl R1 (.slice (some ⟨g, 0, none⟩) (its.length + 1) cp) a.l.tk (its ++ [⟨a.l.tkH, ⟨h, t, ⟨uo, uc, l⟩⟩⟩]) (a.al + 1) a.fr a.st K' → RA.At V p pl R1 (.slice (some ⟨g, 0, none⟩) (its.length + 1) cp) { a with l := a.l.tk, items := a.items ++ [(a.l.tkH, N.nd h t l)], al := a.al + 1 } (its ++ [⟨a.l.tkH, ⟨h, t, ⟨uo, uc, l⟩⟩⟩]) K') := fun V g cp uo uc K' m =>
          RA.Mem.at_ (a := { a with l := a.l.tk, items := a.items ++ [(a.l.tkH, N.nd h t l)], al := a.al + 1 }) m ina cna (by show a.items ++ _ = _; rw [hA.items, List.map_append]; rfl)
        have hal : Hid (a.al < 1000000000000000000) := by
          have k1 : a.al + 1 = A13.tookAll a.l.tk := cna.took
          have k2 := A13.tookAll_le ina.l
          have k3 : a.l.tk.st.length * a.l.tk.gens ≤ 16384 * 4294967295 := Nat.mul_le_mul ina.l.n2 ina.l.g2
          show _ < _
          have k4 : A13.tookAll a.l.tk ≤ 16384 * 4294967295 := Nat.le_trans k2 k3
          omega
        have hb16 : Hid (0 ≤ h ∧ h ≤ 16 ∧ l.length ≤ 4 ∧ t.size ≤ 16) := ⟨h0, h16, hl4, ht16⟩
        have hfit := Lib.hid cd.ft
        have hl32 : Hid (l.length * 32 ≤ 140737488351232) := by show _ ≤ _; omega
        have hil := Lib.hid hA.len
        have hvR : Hid (∀ k, v.ownBlock = some k → k < w.heap.size) := fun k hk => (M0.row.lt k hk).2
        have hRs : Hid ((∀ k, RA.foot p R1 v K k → R k) ∧ ∀ k, R k → k < w.heap.size) := ⟨hR, hs⟩
        have hM : Hid (∀ V, Below w.heap.size w V → RA.Mem V p pl R1 v a.l its a.al a.fr a.st K ∧ N.Row V xo l) := fun V hb => ⟨M0.but (Q := fun _ => False) (FL.But.below hb) (fun _ _ => id), hr.below hb⟩
        have hX : Hid (∀ g o, xo = some ⟨g, o, none⟩ → l ≠ [] → ¬ R1 g) := fun g o e n c => hxR g o e n (hR g (.inr (.inl c)))
        have hnz : Hid (¬ R1 w.heap.size) := fun c => by have := hs _ (hR _ (.inr (.inl c))); omega
        clear hk hc hA M0 hR hs hO hO' hr HU hst cd e0 al ina cna t3 tk h0 h16 hl4 ht16 hh0 hh1 hxR hf0
        obtain ⟨ik, i0, i1, i2, i3⟩ := info_parts Try.infoItem
        have Hi := Lib.hid (And.intro i0 (And.intro i1 (And.intro i2 i3)))
        clear i0 i1 i2 i3
        obtain ⟨hd, hhd⟩ : ∃ hd, a.l.tkH = hd := ⟨_, rfl⟩
        rw [hhd] at HT FIN hhl ⊢
        clear hhd
        go_enter Try.func55, Try.ntmps55
        go_wp2_with fail
        refine HCx.out.mono ?_
        rintro e w1 ⟨rfl, hb⟩
        have B1 := Lib.hid (Ar.bt B0.out hb)
        have X1 := X0.out.below hb
        have x0 := X1.c0
        have x1 := X1.c1
        have x2 := X1.c2
        have X1 := Lib.hid X1
        clear hb HCx B0 X0
        go_wp2_with fail
        refine (HKd.out _ B1.out).mono ?_
        rintro e w2 ⟨rfl, hb⟩
        have B2 := Lib.hid (Ar.bt B1.out hb)
        have X2 := Lib.hid (X1.out.below hb)
        clear hb HKd B1 X1 x0 x1 x2
        have M2 := Lib.hid (hM.out _ B2.out)
        have f0 := M2.out.1.fields.1
        go_wp2_with fail
        refine (HT.out _ M2.out.1.list).mono ?_
        rintro e w3 ⟨rfl, ho, hbt⟩
        have M3 := Lib.hid (M2.out.1.turn ho hbt)
        have X3 := Lib.hid (X2.out.but hbt hnz.out)
        have R3 := Lib.hid (M2.out.2.but hbt hX.out)
        have B3 : Hid (FL.But R w w3) := (FL.But.below B2.out).trans ⟨hbt.os, hbt.tape, hbt.output, hbt.size, fun k hk hn => hbt.block k hk (fun c => hn (hRs.out.1 k (.inr (.inl c))))⟩
        clear ho hbt M2 f0 B2 HT X2 hM hX hnz
        go_wp2
        obtain ⟨W2, hW2⟩ : ∃ W2, W2 = w3.drew := ⟨_, rfl⟩
        have hd : Below w3.heap.size w3 W2 := by rw [hW2]; exact (Below.refl _ _).drew
        have M4 := Lib.hid (M3.out.on hd)
        have X4 := Lib.hid (X3.out.below hd)
        have R4 := Lib.hid (R3.out.below hd)
        have B4 : Hid (FL.But R w W2) := B3.out.trans (FL.But.below hd)
        have hz4 : Hid (w.heap.size < W2.heap.size) := X4.out.lt
        have f1 := M4.out.fields.2.1
        have x0 := X4.out.c0
        have x1 := X4.out.c1
        have x2 := X4.out.c2
        refine Pe.start (z := 13) (S := fun V => V.cell? ⟨p, 1, none⟩ = some v ∧ V.cell? ⟨w.heap.size, 0, none⟩ = some (.int .i64 h) ∧ V.cell? ⟨w.heap.size, 1, none⟩ = some (.string t) ∧ V.cell? ⟨w.heap.size, 2, none⟩ = some (.slice xo l.length xc)) (by kernel_rfl) (by kernel_rfl) W2 hW2 ⟨f1, x0, x1, x2⟩ (fun hHeld => ?_)
        clear hd hW2 M3 X3 R3 B3
        refine Pe.Left.take (i := 0) (o := ?o0) (v := ?v0) ?hi0 (by kernel_rfl) (by decide) (by kernel_rfl) (by kernel_rfl) ?hQ0 (Or.inl ⟨?wa0, ?hy0⟩) hHeld ?rest0
        case hi0 => simp only [List.getElem?_toArray, List.getElem?_cons_zero]; rfl
        case hQ0 => exact fun _ _ _ h => h
        case wa0 => rfl
        case hy0 => (intro w hSw; (try dsimp only at hSw); go_simp; (try with_reducible rfl))
        (try simp only [Act.put, List.setIfInBounds_toArray, List.set_cons_zero, List.set_cons_succ])
        refine Pe.Left.take (i := 1) (o := ?o1) (v := ?v1) ?hi1 (by kernel_rfl) (by decide) (by kernel_rfl) (by kernel_rfl) ?hQ1 (Or.inl ⟨?wa1, ?hy1⟩) hHeld ?rest1
        case hi1 => simp only [List.getElem?_toArray, List.getElem?_cons_succ, List.getElem?_cons_zero]; rfl
        case hQ1 => exact fun _ _ _ h => h
        case wa1 => rfl
        case hy1 => (intro w hSw; (try dsimp only at hSw); go_simp; (try with_reducible rfl))
        (try simp only [Act.put, List.setIfInBounds_toArray, List.set_cons_zero, List.set_cons_succ])
        refine Pe.Left.take (i := 2) (o := ?o2) (v := ?v2) ?hi2 (by kernel_rfl) (by decide) (by kernel_rfl) (by kernel_rfl) ?hQ2 (Or.inl ⟨?wa2, ?hy2⟩) hHeld ?rest2
        case hi2 => simp only [List.getElem?_toArray, List.getElem?_cons_succ, List.getElem?_cons_zero]; rfl
        case hQ2 => exact fun _ _ _ h => h
        case wa2 => rfl
        case hy2 => (intro w hSw; (try dsimp only at hSw); go_simp; (try with_reducible rfl))
        (try simp only [Act.put, List.setIfInBounds_toArray, List.set_cons_zero, List.set_cons_succ])
        refine Pe.Left.take (i := 3) (o := ?o3) (v := ?v3) ?hi3 (by kernel_rfl) (by decide) (by kernel_rfl) (by kernel_rfl) ?hQ3 (Or.inl ⟨?wa3, ?hy3⟩) hHeld ?rest3
        case hi3 => simp only [List.getElem?_toArray, List.getElem?_cons_succ, List.getElem?_cons_zero]; rfl
        case hQ3 => exact fun _ _ _ h => h
        case wa3 => rfl
        case hy3 => (intro w hSw; (try dsimp only at hSw); go_simp; (try with_reducible rfl))
        (try simp only [Act.put, List.setIfInBounds_toArray, List.set_cons_zero, List.set_cons_succ])
        refine Pe.Left.take (i := 4) (o := ?o4) (v := ?v4) ?hi4 (by kernel_rfl) (by decide) (by kernel_rfl) (by kernel_rfl) ?hQ4 (Or.inl ⟨?wa4, ?hy4⟩) hHeld ?rest4
        case hi4 => simp only [List.getElem?_toArray, List.getElem?_cons_succ, List.getElem?_cons_zero]; rfl
        case hQ4 => exact fun _ _ _ h => h
        case wa4 => rfl
        case hy4 => (intro w hSw; (try dsimp only at hSw); go_simp; (try with_reducible rfl))
        (try simp only [Act.put, List.setIfInBounds_toArray, List.set_cons_zero, List.set_cons_succ])
        refine Pe.Left.take (i := 5) (o := ?o5) (v := ?v5) ?hi5 (by kernel_rfl) (by decide) (by kernel_rfl) (by kernel_rfl) ?hQ5 (Or.inl ⟨?wa5, ?hy5⟩) hHeld ?rest5
        case hi5 => simp only [List.getElem?_toArray, List.getElem?_cons_succ, List.getElem?_cons_zero]; rfl
        case hQ5 => exact fun _ _ _ h => h
        case wa5 => rfl
        case hy5 => (intro w hSw; (try dsimp only at hSw); go_simp; (try with_reducible rfl))
        (try simp only [Act.put, List.setIfInBounds_toArray, List.set_cons_zero, List.set_cons_succ])
        refine Pe.Left.take (i := 6) (o := ?o6) (v := ?v6) ?hi6 (by kernel_rfl) (by decide) (by kernel_rfl) (by kernel_rfl) ?hQ6 (Or.inl ⟨?wa6, ?hy6⟩) hHeld ?rest6
        case hi6 => simp only [List.getElem?_toArray, List.getElem?_cons_succ, List.getElem?_cons_zero]; rfl
        case hQ6 => exact fun _ _ _ h => h
        case wa6 => rfl
        case hy6 => (intro w hSw; (try dsimp only at hSw); go_simp; (try with_reducible rfl))
        (try simp only [Act.put, List.setIfInBounds_toArray, List.set_cons_zero, List.set_cons_succ])
        refine Pe.Left.one (i := 7) (o := ?o7) ?hi7 (by kernel_rfl) (by decide) (fun KK hK => ?rest7)
        case hi7 => simp only [List.getElem?_toArray, List.getElem?_cons_succ, List.getElem?_cons_zero]; rfl
        go_simp
        go_at_call 54
        refine (copyNode12_any h t xo xc l _ hl32.out R4.out).mono ?_
        rintro e w5 ⟨u, rfl, hm⟩
        obtain ⟨uo, uc, hu, hur, hun, huc⟩ := hm.cap
        subst hu
        have hb5 := hm.below
        have M5 := Lib.hid (M4.out.on hb5)
        have X5 := X4.out.below hb5
        have f1 := M5.out.fields.2.1
        have x0 := X5.c0
        have x1 := X5.c1
        have x2 := X5.c2
        have B5 : Hid (FL.But R w w5) := B4.out.trans (FL.But.below hb5)
        have hm := Lib.hid hm
        have X5 := Lib.hid X5
        (try go_wp2_with fail)
        refine hK.out _ _ ?_ (fun hHeld => ?_)
        · exact ⟨f1, x0, x1, x2⟩
        clear hK KK
        (try simp only [Act.put, List.setIfInBounds_toArray, List.set_cons_zero, List.set_cons_succ])
        refine Pe.Left.take (i := 8) (o := ?o8) (v := ?v8) ?hi8 (by kernel_rfl) (by decide) (by kernel_rfl) (by kernel_rfl) ?hQ8 (Or.inl ⟨?wa8, ?hy8⟩) hHeld ?rest8
        case hi8 => simp only [List.getElem?_toArray, List.getElem?_cons_succ, List.getElem?_cons_zero]; rfl
        case hQ8 => exact fun _ _ _ h => h
        case wa8 => rfl
        case hy8 => (intro w hSw; (try dsimp only at hSw); go_simp; (try with_reducible rfl))
        (try simp only [Act.put, List.setIfInBounds_toArray, List.set_cons_zero, List.set_cons_succ])
        have hba : Below w5.heap.size w5 (w5.alloc (.cells #[.int .u64 (hd : Int), .int .i64 h, .string t, .slice uo l.length uc] 140)) := (Below.refl _ _).alloc (Nat.le_refl _) _
        have M6 := Lib.hid (M5.out.on hba)
        have X6 := X5.out.below hba
        have f1 := M6.out.fields.2.1
        have x0 := X6.c0
        have x1 := X6.c1
        have x2 := X6.c2
        refine Pe.Left.one (i := 9) (o := ?o9) ?hi9 (by kernel_rfl) (by decide) (fun KK hK => ?rest9)
        case hi9 => simp only [List.getElem?_toArray, List.getElem?_cons_succ, List.getElem?_cons_zero]; rfl
        go_simp
        refine hK.out _ _ ?_ (fun hHeld => ?_)
        · exact ⟨f1, x0, x1, x2⟩
        clear hK KK
        (try simp only [Act.put, List.setIfInBounds_toArray, List.set_cons_zero, List.set_cons_succ])
        refine Pe.Left.one (i := 10) (o := ?o10) ?hi10 (by kernel_rfl) (by decide) (fun KK hK => ?rest10)
        case hi10 => simp only [List.getElem?_toArray, List.getElem?_cons_succ, List.getElem?_cons_zero]; rfl
        refine step_append_lies _ rfl (.tmp 38) (.tmp 43) 136 rfl 0 140 ik (.agg #[.int .u64 0, .int .i64 0, .string ⟨#[]⟩, .slice none 0 0]) 4 56 Try.underlying136 Hi.out.1 Hi.out.2.1 Hi.out.2.2.1 Hi.out.2.2.2 rfl (by decide) v its.length (Ar.cells its) rfl M6.out.row _ 1 1 [.int .u64 (hd : Int), .int .i64 h, .string t, .slice uo l.length uc] rfl rfl (D.news _ _ _) (fun u hu => by simp at hu; rcases hu with rfl | rfl | rfl | rfl <;> rfl) (by decide) (by have := hil.out; unfold maxLen; omega) (by have := hil.out; omega) (Nat.zero_le _) _ rfl ?_
        intro g cp w7 hO7 hg7 hat7 hlt7
        have hb7 : FL.But (fun k => v.ownBlock = some k) (w5.alloc (.cells #[.int .u64 (hd : Int), .int .i64 h, .string t, .slice uo l.length uc] 140)) w7 := ⟨hg7.os, hg7.tape, hg7.output, hg7.size, fun k hk hne => hg7.block k hk (fun e => hne e.symm)⟩
        have hpn : v.ownBlock ≠ some p := fun c => (M6.out.nv p c).1 rfl
        have hxn : v.ownBlock ≠ some w.heap.size := fun c => by have := hvR.out _ c; omega
        have k1 : ∀ j : Nat, w7.cell? ⟨p, j, none⟩ = (w5.alloc (.cells #[.int .u64 (hd : Int), .int .i64 h, .string t, .slice uo l.length uc] 140)).cell? ⟨p, j, none⟩ := fun j => by unfold World.cell?; rw [hb7.block p (Array.getElem?_eq_some_iff.1 M6.out.obj).1 hpn]
        have k2 : ∀ j : Nat, w7.cell? ⟨w.heap.size, j, none⟩ = (w5.alloc (.cells #[.int .u64 (hd : Int), .int .i64 h, .string t, .slice uo l.length uc] 140)).cell? ⟨w.heap.size, j, none⟩ := fun j => by unfold World.cell?; rw [hb7.block _ X6.lt hxn]
        have f1' := (k1 1).trans f1
        have x0' := (k2 0).trans x0
        have x1' := (k2 1).trans x1
        have x2' := (k2 2).trans x2
        have fz : w7.frozen? ⟨p, 1, none⟩ = false := frozen_of_row _ _ _ _ _ ((hb7.block p (Array.getElem?_eq_some_iff.1 M6.out.obj).1 hpn).trans M6.out.obj)
        have hab : Below w5.heap.size w5 (w5.alloc (.cells #[.int .u64 (hd : Int), .int .i64 h, .string t, .slice uo l.length uc] 140)) := (Below.refl _ _).alloc (Nat.le_refl _) _
        have okN : N.NOk (w5.alloc (.cells #[.int .u64 (hd : Int), .int .i64 h, .string t, .slice uo l.length uc] 140)) ⟨h, t, ⟨uo, uc, l⟩⟩ := N.NOk.on ⟨by show _ ≤ h; have := hb16.out; omega, by show h < _; have := hb16.out; omega, by show t.size ≤ _; have := hb16.out; omega, hur, hun, hfit.out, by show l.length * 32 ≤ _; have := hb16.out; omega, huc⟩ hab
        obtain ⟨K', M7, hK'⟩ := RA.Mem.push M4.out M6.out (hm.out.own.alloc _) okN hhl.out hO7 hb7 hat7
        have hR7 : ∀ k, v.ownBlock = some k → R k := fun k hk => hRs.out.1 k (.inr (.inr (.inl hk)))
        have B7 : Hid (FL.But R w (w7.setCell ⟨p, 1, none⟩ (.slice (some ⟨g, 0, none⟩) (its.length + 1) cp))) := ((B5.out.trans (FL.But.below hab)).trans ⟨hb7.os, hb7.tape, hb7.output, hb7.size, fun k hk hn => hb7.block k hk (fun c => hn (hR7 k c))⟩).trans (FL.But.set _ _ (hRs.out.1 p (.inl rfl)))
        have Z7 : Hid ((v.ownBlock = some g ∨ w.heap.size ≤ g) ∧ (∀ k, K' k → K k ∨ w.heap.size ≤ k)) := ⟨hat7.imp id (fun e => by rw [e]; have := hz4.out; have := hb5.size; simp; omega), fun k hk => (hK' k hk).imp id (fun c => by have := hz4.out; omega)⟩
        have M7 := Lib.hid M7
        clear f1 x0 x1 x2 k1 k2 hO7 hg7 hb7 hat7 hlt7 hab okN hK' hR7 hpn hxn hba hb5 hur hun huc M5 X5 M6 X6 hm B5 M4 X4 R4 B4 hz4
        refine hK.out _ _ ?_ (fun hHeld => ?_)
        · exact ⟨f1', x0', x1', x2'⟩
        clear hK KK
        (try simp only [Act.put, List.setIfInBounds_toArray, List.set_cons_zero, List.set_cons_succ])
        refine Pe.Left.take (i := 11) (o := ?o11) (v := ?v11) ?hi11 (by kernel_rfl) (by decide) (by kernel_rfl) (by kernel_rfl) ?hQ11 (Or.inl ⟨?wa11, ?hy11⟩) hHeld ?rest11
        case hi11 => simp only [List.getElem?_toArray, List.getElem?_cons_succ, List.getElem?_cons_zero]; rfl
        case hQ11 => exact fun _ _ _ h => h
        case wa11 => rfl
        case hy11 => (intro w hSw; (try dsimp only at hSw); go_simp; (try with_reducible rfl))
        (try simp only [Act.put, List.setIfInBounds_toArray, List.set_cons_zero, List.set_cons_succ])
        refine Pe.Left.take (i := 12) (o := ?o12) (v := ?v12) ?hi12 (by kernel_rfl) (by decide) (by kernel_rfl) (by kernel_rfl) ?hQ12 (Or.inl ⟨?wa12, ?hy12⟩) hHeld ?rest12
        case hi12 => simp only [List.getElem?_toArray, List.getElem?_cons_succ, List.getElem?_cons_zero]; rfl
        case hQ12 => exact fun _ _ _ h => h
        case wa12 => rfl
        case hy12 => (intro w hSw; (try dsimp only at hSw); go_simp; (try with_reducible rfl))
        (try simp only [Act.put, List.setIfInBounds_toArray, List.set_cons_zero, List.set_cons_succ])
        refine Pe.Left.last (o := ?oZ) ?hiZ (by kernel_rfl) (by kernel_rfl) (fun KK hK => ?restZ)
        case hiZ => simp only [List.getElem?_toArray, List.getElem?_cons_succ, List.getElem?_cons_zero]; rfl
        go_simp
        refine hK.out _ _ ?_
        clear hK KK hHeld
        have f6 := M7.out.fields.2.2.1
        have fz6 := M7.out.fields.2.2.2.2.2 6
        have w1 : IntKind.i64.wrap ((a.al : Int) + 1) = (a.al : Int) + 1 := IntWalk.i64_in _ (by have := hal.out; omega)
        obtain ⟨M8, b8⟩ := M7.out.field (x' := a.al + 1) (y' := a.fr) (z' := a.st) 6 (.int .i64 ((a.al : Int) + 1)) rfl
        have E : Hid (RA.Own ((w7.setCell ⟨p, 1, none⟩ (.slice (some ⟨g, 0, none⟩) (its.length + 1) cp)).setCell ⟨p, 6, none⟩ (.int .i64 ((a.al : Int) + 1))) p { a with l := a.l.tk, items := a.items ++ [(hd, N.nd h t l)], al := a.al + 1 } (Ar.ext R w.heap.size ((w7.setCell ⟨p, 1, none⟩ (.slice (some ⟨g, 0, none⟩) (its.length + 1) cp)).setCell ⟨p, 6, none⟩ (.int .i64 ((a.al : Int) + 1))).heap.size) ∧ FL.But R w ((w7.setCell ⟨p, 1, none⟩ (.slice (some ⟨g, 0, none⟩) (its.length + 1) cp)).setCell ⟨p, 6, none⟩ (.int .i64 ((a.al : Int) + 1)))) := by
          refine ⟨⟨pl, R1, _, _, K', FIN.out _ _ _ _ _ _ M8, fun k hk => ?_, fun k hk => ?_⟩, B7.out.trans (FL.But.set _ _ (hRs.out.1 p (.inl rfl)))⟩
          · rcases hk with rfl | hk | hk | hk
            · exact .inl (hRs.out.1 _ (.inl rfl))
            · exact .inl (hRs.out.1 _ (.inr (.inl hk)))
            · have e : g = k := by injection hk
              subst e
              rcases Z7.out.1 with c | c
              · exact .inl (hRs.out.1 _ (.inr (.inr (.inl c))))
              · exact .inr ⟨c, (M8.row.lt g rfl).2⟩
            · rcases Z7.out.2 k hk with c | c
              · exact .inl (hRs.out.1 _ (.inr (.inr (.inr c))))
              · exact .inr ⟨c, M8.kl k hk⟩
          · rcases hk with hk | hk
            · exact Nat.lt_of_lt_of_le (hRs.out.2 k hk) (B7.out.trans (FL.But.set (R := R) _ _ (hRs.out.1 p (.inl rfl)))).size
            · exact hk.2
        clear M8 b8 M7 B7 Z7 FIN hRs
        go_wp2
        go_ret2
        exact ⟨rfl, E.out⟩
    · have e1 : A13.alE Ar.ms a (N.nd h t l) = A13.kidsE Ar.ms a (N.nd h t l) l := by unfold A13.alE; rw [if_pos hc]; exact if_neg hk
      have hne : A13.alE Ar.ms a (N.nd h t l) ≠ 0 := by rw [e1]; exact hk
      obtain ⟨e2, e3⟩ := A13.al_no hne
      rw [e1, e2, e3]
      have hk' : (A13.kidsE Ar.ms a (N.nd h t l) l != 0) = true := by simpa using hk
      generalize A13.kidsE Ar.ms a (N.nd h t l) l = ck at *
      clear e1 e2 e3 hne hk hc hA M0 hR hs hO hO' hr cd
      go_enter Try.func55, Try.ntmps55
      go_wp2_with fail
      refine HCx.out.mono ?_
      rintro e w1 ⟨rfl, hb⟩
      have B1 := Lib.hid (Ar.bt B0.out hb)
      have X1 := X0.out.below hb
      have x0 := X1.c0
      have x1 := X1.c1
      have x2 := X1.c2
      clear hb HCx B0 X0 X1
      go_wp2_with fail
      refine (HKd.out _ B1.out).mono ?_
      rintro e w2 ⟨rfl, hb⟩
      have E := Lib.hid (HU.out _ (Ar.bt B1.out hb))
      clear hb HKd B1 x0 x1 x2 HU
      go_wp2
      go_ret2
      exact ⟨rfl, E.out⟩
  · have e1 : A13.alE Ar.ms a (N.nd h t l) = N.chk (N.nd h t l) := by unfold A13.alE; rw [if_neg hc]
    have hne : A13.alE Ar.ms a (N.nd h t l) ≠ 0 := by rw [e1]; exact hc
    obtain ⟨e2, e3⟩ := A13.al_no hne
    rw [e1, e2, e3]
    have hc' : (N.chk (N.nd h t l) != 0) = true := by simpa using hc
    generalize N.chk (N.nd h t l) = ck at *
    clear e1 e2 e3 hne hc hA M0 hR hs hO hO' hr X0
    go_enter Try.func55, Try.ntmps55
    go_wp2_with fail
    refine HCx.out.mono ?_
    rintro e w1 ⟨rfl, hb⟩
    have E := Lib.hid (HU.out _ (Ar.bt B0.out hb))
    clear hb HCx B0 HU
    go_wp2
    go_ret2
    exact ⟨rfl, E.out⟩
end Go.Proofs.Ytniccjbcchdkoaa
/- ArRef6 -/
namespace Go.Proofs.Ytniccjbcchdkoaa
open Go.RowKit

set_option maxRecDepth 100000 in
theorem Ar.slice_to (b n c k : Nat) (hk : k ≤ c) (W : World) : (Instr.slice 136 (.slice (some ⟨b, 0, none⟩) n c) none (some (.int .i64 (k : Int))) none).run Try.prog W = .ok (.slice (some ⟨b, 0, none⟩) k c) W := by
  have h := run_slice_h (P := Try.prog) (w := W) 136 (some ⟨b, 0, none⟩) n c Try.underlying136 .i64 (k : Int) (by omega) (by omega)
  rw [h]
  have hs : (sizeOf (Try.prog.elem 136)).run Try.prog W = .ok 4 W := by kernel_rfl
  rw [hs]
  simp only [Result.andThen, sliced, Int.toNat_natCast, Nat.sub_zero]
  simp [Addr.add]
set_option maxRecDepth 100000 in
theorem Ar.slice_from (b n c k : Nat) (hn : n ≤ c) (hk : k ≤ n) : ∃ ad c', (∀ W, (Instr.slice 136 (.slice (some ⟨b, 0, none⟩) n c) (some (.int .i64 (k : Int))) none none).run Try.prog W = .ok (.slice (some ad) (n - k) c') W) ∧ (n - k ≠ 0 → ad = ⟨b, k * 4, none⟩) := by
  have h := fun W => run_slice_l (P := Try.prog) (w := W) 136 (some ⟨b, 0, none⟩) n c Try.underlying136 .i64 (k : Int) (by omega) (by omega)
  have hs : ∀ W, (sizeOf (Try.prog.elem 136)).run Try.prog W = .ok 4 W := fun W => by kernel_rfl
  have e : ∀ W, (Instr.slice 136 (.slice (some ⟨b, 0, none⟩) n c) (some (.int .i64 (k : Int))) none none).run Try.prog W = .ok (sliced (some ⟨b, 0, none⟩) k n c 4) W := fun W => by
    rw [h, hs]; simp only [Result.andThen, Int.toNat_natCast]
  by_cases hck : c = k
  · refine ⟨⟨b, 0, none⟩, c - k, fun W => ?_, fun hne => by omega⟩
    rw [e W]
    simp [sliced, hck]
  · refine ⟨⟨b, k * 4, none⟩, c - k, fun W => ?_, fun _ => rfl⟩
    rw [e W]
    have hne : c - k ≠ 0 := by omega
    simp only [sliced]
    rw [if_neg (by omega)]
    by_cases hk0 : k = 0
    · subst hk0; rfl
    · have h4 : ¬ k * 4 = 0 := by omega
      simp [Addr.add, h4]
theorem Ar.one_cells {l : List Ar.I} : ∀ u ∈ Ar.cells l, u.oneCell' = true := fun u hu => by
  obtain ⟨i, _, hi⟩ := List.mem_flatMap.1 hu
  unfold Ar.one at hi
  simp only [List.mem_cons, List.not_mem_nil, or_false] at hi
  rcases hi with rfl | rfl | rfl | rfl <;> rfl
/-- The cells of a part of a row, where it lies. -/
theorem Ar.part {W : World} {b n c : Nat} {l : List Ar.I} (h : W.ownsRow 0 140 4 (.slice (some ⟨b, 0, none⟩) n c) n (Ar.cells l)) (k : Nat) : (∀ j u, (Ar.cells (l.take k))[j]? = some u → W.cell? ((⟨b, 0, none⟩ : Addr).add j) = some u) ∧ ∀ j u, (Ar.cells (l.drop k))[j]? = some u → W.cell? ((⟨b, k * 4, none⟩ : Addr).add j) = some u := by
  have key : ∀ (j : Nat) (u : Value), (Ar.cells l)[j]? = some u → W.cell? ⟨b, j, none⟩ = some u := fun j u hu => (N.own_cell h hu).1
  have ad : ∀ (o j : Nat), ((⟨b, o, none⟩ : Addr).add j) = ⟨b, o + j, none⟩ := fun o j => by unfold Addr.add; split <;> rename_i e <;> simp_all
  refine ⟨fun j u hu => ?_, fun j u hu => ?_⟩
  · rw [← Ar.cells_take, List.getElem?_take] at hu
    split at hu
    · rw [ad, Nat.zero_add]; exact key j u hu
    · cases hu
  · rw [← Ar.cells_drop, List.getElem?_drop] at hu
    rw [ad]; exact key _ u hu
/-- An append of a part of a row of items. -/
theorem Ar.append_part {W : World} {ops : Array Oper} {rest : List Oper} {o : Oper} {a : Act} {Q : Exit → Act → World → Prop} (hgd : o.guard = none) (s x : Operand)
    (ho : o.op = .call { callee := .builtin .append, args := #[s, x], argTypes := #[136, 136] })
    (base : Nat) (v : Value) (n : Nat) (X : List Ar.I) (hs : a.eval s = v) (hown : W.ownsRow base 140 4 v n (Ar.cells X)) (ad : Addr) (m c : Nat) (Y : List Ar.I) (hY : Y.length = m) (hx : a.eval x = .slice (some ad) m c) (hnews : ∀ j u, (Ar.cells Y)[j]? = some u → W.cell? (ad.add j) = some u)
    (hn : n + m ≤ 1000000) (hbase : base ≤ W.heap.size)
    (h : ∀ v' w', w'.ownsRow base 140 4 v' (n + m) (Ar.cells (X ++ Y)) → W.grownBy w' v.ownBlock → (v'.ownBlock = v.ownBlock ∨ v'.ownBlock = some W.heap.size) → wpList Try.prog ops Q rest (a.put o.dst v') w') : wpList Try.prog ops Q (o :: rest) a W := by
  obtain ⟨ip, hp, hp0, hp1, hp2⟩ := info_parts Try.infoItem
  refine wpList_append_own_at _ hgd s x _ ho base 140 ip (.agg #[.int .u64 0, .int .i64 0, .string ⟨#[]⟩, .slice none 0 0]) 4 56 Try.underlying136 hp hp0 hp1 hp2 rfl (by decide) v n (Ar.cells X) hs hown ad m c (Ar.cells Y) hx (by rw [Ar.cells_len, hY]) hnews Ar.one_cells (by unfold maxLen; omega) (by omega) hbase ?_
  intro v' w' h1 h2 _ h4
  exact h v' w' (by rw [Ar.cells_append]; exact h1) h2 h4
theorem A13.free_yes {a : A13.A} {h : Nat} (k : a.has h = true) : a.free h = { a with l := a.l.gv h, items := a.items.filter (fun i => !(i.1 == h)), fr := a.fr + 1 } := by unfold A13.A.free; rw [if_pos k]
theorem A13.free_no {a : A13.A} {h : Nat} (k : a.has h = false) : a.free h = { a with st := a.st + 1 } := by unfold A13.A.free; rw [if_neg (by rw [k]; simp)]
set_option maxRecDepth 100000 in
set_option maxHeartbeats 4000000 in
theorem refFree13_any (p : Nat) (a : A13.A) (R : Nat → Prop) (h : Nat) (hh : h ≤ 18446744073709551615) (w : World) (hO : RA.Own w p a R) (hst : a.st < 1000000000) :
    Calls Try.prog 56 #[FL.ptr p, .int .u64 (h : Int)] w fun e w' => e = .returned (.int .i64 (a.gtE h)) ∧ RA.Own w' p (a.free h) (Ar.ext R w.heap.size w'.heap.size) ∧ FL.But R w w' := by
  obtain ⟨pl, R1, v, its, K, hA, M0, hR, hs⟩ := hO.kl
  obtain ⟨ao, cap, hv, hcap, hrow⟩ := Ar.row_of hA.row
  have HF := Lib.hid (refFind13_any p pl R1 v a its K h w hA)
  unfold FL.ptr at HF ⊢
  rcases hA.look h with ⟨k1, k2⟩ | ⟨k, i, k1, k2, k3, k4, k5⟩
  · have hn : a.has h = false := by unfold A13.A.has; rw [k1]; rfl
    have e1 : a.gtE h = 10 := by unfold A13.A.gtE; rw [if_neg (by rw [hn]; simp)]
    rw [k2] at HF
    rw [e1]
    obtain ⟨_, _, _, _, _, _, _, _, f8, fzA⟩ := hA.fields
    have fz := fzA 8
    have w1 : IntKind.i64.wrap ((a.st : Int) + 1) = (a.st : Int) + 1 := IntWalk.i64_in _ (by omega)
    obtain ⟨E1, E2⟩ := hA.field (a' := a.free h) 8 (.int .i64 ((a.st : Int) + 1)) (A13.inv_free hA.inv h) (A13.cnt_free hA.inv hA.cnt h) (by rw [A13.free_no hn]) (by rw [A13.free_no hn]) (by rw [A13.free_no hn]; rfl)
    have O : Hid (RA.Own (w.setCell ⟨p, 8, none⟩ (.int .i64 ((a.st : Int) + 1))) p (a.free h) (Ar.ext R w.heap.size (w.setCell ⟨p, 8, none⟩ (.int .i64 ((a.st : Int) + 1))).heap.size) ∧ FL.But R w (w.setCell ⟨p, 8, none⟩ (.int .i64 ((a.st : Int) + 1)))) :=
      ⟨RA.Own.ext ⟨pl, R1, v, its, K, E1, hR, fun k hk => by have := hs k hk; simpa using this⟩ _, FL.But.set _ _ (hR p (.inl rfl))⟩
    clear hA M0 hrow hv k1 k2 e1 hn hR hs E1 E2 hO hcap fzA hst
    go_enter Try.func56, Try.ntmps56
    go_wp2_with fail
    refine HF.out.mono ?_
    rintro e w2 ⟨rfl, rfl⟩
    clear HF
    go_wp2
    go_ret
    exact ⟨rfl, O.out⟩
  · have hy : a.has h = true := by unfold A13.A.has; rw [k2]; rfl
    have hl : a.l.live h = true := (A13.has_iff hA.inv).1 hy
    have e1 : a.gtE h = 0 := by unfold A13.A.gtE; rw [if_pos hy]
    have e2 : a.l.gvE h = 0 := by unfold FL.S.gvE; rw [if_pos hl]
    have hk : k < its.length := (List.getElem?_eq_some_iff.1 k1).1
    obtain ⟨b, e', hbl, _⟩ := hrow k i k1
    subst e'
    subst hv
    have f0 := hA.fields.1
    have f1 := hA.fields.2.1
    have F1 := Ar.slice_to b its.length cap k (by omega)
    obtain ⟨ad, c', F2, had⟩ := Ar.slice_from b its.length cap (k + 1) hcap hk
    have P0 := Ar.part hA.row
    rw [k3] at HF
    rw [e1, A13.free_yes hy]
    have hlen := hA.len
    have w1 : IntKind.i64.wrap ((k : Int) + 1) = (k : Int) + 1 := IntWalk.i64_in _ (by omega)
    rw [show ((k + 1 : Nat) : Int) = (k : Int) + 1 by omega] at F2
    go_enter Try.func56, Try.ntmps56
    go_wp2_with fail
    refine HF.out.mono ?_
    rintro e w2 ⟨rfl, rfl⟩
    clear HF
    go_wp2_with (at_builtin; refine Ar.append_part rfl _ _ rfl w.heap.size (.slice none 0 0) 0 [] ?s1 (World.ownsRow_nil _ _ _ _) ⟨b, 0, none⟩ k cap (its.take k) ?s2 ?s3 (P0 k).1 ?s4 (Nat.le_refl _) ?_)
    case s1 => rfl
    case s2 => simp; omega
    case s3 => rfl
    case s4 => omega
    intro v1 w3 hO3 hg3 hat3
    have hO3 : w3.ownsRow w.heap.size 140 4 v1 k (Ar.cells (its.take k)) := by first | exact hO3 | simpa using hO3
    have hb3 : Below w.heap.size w w3 := ⟨hg3.os, hg3.tape, hg3.output, hg3.size, fun k hk => hg3.block k hk (by simp [Value.ownBlock])⟩
    have hA3 := hA.but (Q := fun _ => False) (FL.But.below hb3) (fun _ _ => id)
    have f1 := hA3.fields.2.1
    have P3 : ∀ j u, (Ar.cells (its.drop (k + 1)))[j]? = some u → w3.cell? (ad.add j) = some u := fun j u hu => by
      have hne : its.length - (k + 1) ≠ 0 := fun e0 => by
        rw [List.drop_eq_nil_of_le (by omega)] at hu
        simp [Ar.cells] at hu
      rw [had hne]
      exact (Ar.part hA3.row (k + 1)).2 j u hu
    clear hA3 F1 f0 P0 had
    go_wp2_with (at_builtin; refine Ar.append_part rfl _ _ rfl w.heap.size v1 k (its.take k) ?t1 hO3 ad (its.length - (k + 1)) c' (its.drop (k + 1)) ?t2 ?t3 P3 ?t4 hb3.size ?_)
    case t1 => rfl
    case t2 => simp
    case t3 => rfl
    case t4 => omega
    intro v2 w4 hO4 hg4 hat4
    have hb4 : Below w.heap.size w w4 := hb3.grown hg4 hb3.size (fun g e => (hO3.lt g e).1)
    have hlen2 : k + (its.length - (k + 1)) = (its.take k ++ its.drop (k + 1)).length := by simp; omega
    have hO5 : w4.ownsRow w.heap.size 140 4 v2 (its.take k ++ its.drop (k + 1)).length (Ar.cells (its.take k ++ its.drop (k + 1))) := by rw [← hlen2]; exact hO4
    have hp : p < w.heap.size := (Array.getElem?_eq_some_iff.1 hA.obj).1
    have hmem : ∀ i ∈ its.take k ++ its.drop (k + 1), i ∈ its := fun i hi => (List.mem_append.1 hi).elim List.mem_of_mem_take List.mem_of_mem_drop
    have M4 := M0.items (W' := w4) (v' := v2) (its' := its.take k ++ its.drop (k + 1)) (K' := K) (D.own_mono hO5 (Nat.zero_le _)) (FL.But.below hb4) ((M0.ok.but (Q := fun _ => False) (FL.But.below hb4) (fun _ _ => id)).mono (fun _ h => h) hmem)
      (fun g hg => by have := (hO5.lt g hg).1; exact ⟨by omega, fun c => by have := M0.list.lt g c; omega⟩)
      (fun q hq => ⟨(M0.nk q hq).1, (M0.nk q hq).2.1, fun c => by have := (hO5.lt q c).1; have := M0.kl q hq; omega⟩)
      (fun q hq => Nat.lt_of_lt_of_le (M0.kl q hq) hb4.size)
    have f1 : w4.cell? ⟨p, 1, none⟩ = some (.slice (some ⟨b, 0, none⟩) its.length cap) := ((D.bcell hb4).1 _ _ hp).trans hA.fields.2.1
    have fz : w4.frozen? ⟨p, 1, none⟩ = false := by
      have := (hA.but (Q := fun _ => False) (FL.But.below hb4) (fun _ _ => id)).fields.2.2.2.2.2.2.2.2.2 1
      exact this
    obtain ⟨ao2, cap2, hv2, _⟩ := Ar.row_of hO5
    subst hv2
    have B4 : FL.But R w (w4.setCell ⟨p, 1, none⟩ (.slice ao2 (its.take k ++ its.drop (k + 1)).length cap2)) := (FL.But.below hb4).trans (FL.But.set _ _ (hR p (.inl rfl)))
    have HG := Lib.hid (refGive11_any pl a.l R1 h hh _ M4.list)
    have g0 := M4.fields.1
    have hvn : ∀ g, (Value.slice ao2 (its.take k ++ its.drop (k + 1)).length cap2).ownBlock = some g → w.heap.size ≤ g := fun g hg => (hO5.lt g hg).1
    generalize its.take k ++ its.drop (k + 1) = L at *
    rw [hlen2] at *
    have ina := A13.inv_free hA.inv h
    have cna := A13.cnt_free hA.inv hA.cnt h
    rw [A13.free_yes hy] at ina cna
    have hfr : a.fr < 1000000000000000000 := by
      have k1 : a.al = A13.tookAll a.l := hA.cnt.took
      have k2 := A13.tookAll_le hA.inv.l
      have k3 : a.l.st.length * a.l.gens ≤ 16384 * 4294967295 := Nat.mul_le_mul hA.inv.l.n2 hA.inv.l.g2
      have k4 := hA.cnt.live
      have k6 : A13.tookAll a.l ≤ 16384 * 4294967295 := Nat.le_trans k2 k3
      omega
    have wf : IntKind.i64.wrap ((a.fr : Int) + 1) = (a.fr : Int) + 1 := IntWalk.i64_in _ (by omega)
    rw [e2] at HG
    have FIN : Hid (∀ V, RA.Mem V p pl R1 (.slice ao2 L.length cap2) (a.l.gv h) L a.al (a.fr + 1) a.st K → RA.At V p pl R1 (.slice ao2 L.length cap2) { a with l := a.l.gv h, items := a.items.filter (fun i => !(i.1 == h)), fr := a.fr + 1 } L K) := fun V m =>
      RA.Mem.at_ (a := { a with l := a.l.gv h, items := a.items.filter (fun i => !(i.1 == h)), fr := a.fr + 1 }) m ina cna k5
    have HZ : Hid ((∀ k, RA.foot p R1 (.slice (some ⟨b, 0, none⟩) its.length cap) K k → R k) ∧ (∀ k, R k → k < w.heap.size) ∧ ∀ g, (Value.slice ao2 L.length cap2).ownBlock = some g → w.heap.size ≤ g) := ⟨hR, hs, hvn⟩
    have B4 := Lib.hid B4
    have M4 := Lib.hid M4
    clear ina cna hO hA M0 hR hs hvn hO5 hO4 hO3 hg3 hat3 hg4 hat4 hb3 hb4 hmem P3 F2 k1 k2 k3 k4 k5 hy hl e1 e2 hrow hcap hlen2 hst hbl hk hlen w1 hp
    go_wp2_with fail
    refine HG.out.mono ?_
    rintro e w5 ⟨rfl, hgo, hgb⟩
    have M5 := Lib.hid (M4.out.turn hgo hgb)
    have B5 : Hid (FL.But R w w5) := B4.out.trans ⟨hgb.os, hgb.tape, hgb.output, hgb.size, fun k hk hn => hgb.block k hk (fun c => hn (HZ.out.1 k (.inr (.inl c))))⟩
    have f7 := M5.out.fields.2.2.2.1
    have fz7 := M5.out.fields.2.2.2.2.2 7
    obtain ⟨M6, b6⟩ := M5.out.field (x' := a.al) (y' := a.fr + 1) (z' := a.st) 7 (.int .i64 ((a.fr : Int) + 1)) rfl
    have B6 : FL.But R w (w5.setCell ⟨p, 7, none⟩ (.int .i64 ((a.fr : Int) + 1))) := B5.out.trans (FL.But.set _ _ (HZ.out.1 p (.inl rfl)))
    have E : Hid (RA.Own (w5.setCell ⟨p, 7, none⟩ (.int .i64 ((a.fr : Int) + 1))) p { a with l := a.l.gv h, items := a.items.filter (fun i => !(i.1 == h)), fr := a.fr + 1 } (Ar.ext R w.heap.size (w5.setCell ⟨p, 7, none⟩ (.int .i64 ((a.fr : Int) + 1))).heap.size) ∧ FL.But R w (w5.setCell ⟨p, 7, none⟩ (.int .i64 ((a.fr : Int) + 1)))) := by
      refine ⟨⟨pl, R1, _, _, K, FIN.out _ M6, fun q hq => ?_, fun q hq => ?_⟩, B6⟩
      · rcases hq with rfl | hq | hq | hq
        · exact .inl (HZ.out.1 _ (.inl rfl))
        · exact .inl (HZ.out.1 _ (.inr (.inl hq)))
        · exact .inr ⟨HZ.out.2.2 q hq, (M6.row.lt q hq).2⟩
        · exact .inl (HZ.out.1 _ (.inr (.inr (.inr hq))))
      · rcases hq with hq | hq
        · exact Nat.lt_of_lt_of_le (HZ.out.2.1 q hq) B6.size
        · exact hq.2
    clear M6 b6 B6 M5 B5 M4 B4 FIN HZ HG hgo hgb
    go_wp2
    go_ret
    exact ⟨rfl, E.out⟩
end Go.Proofs.Ytniccjbcchdkoaa
