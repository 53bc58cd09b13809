/- Arguments that are slices of children, or nodes, as a row's statement reads them. -/
import Derived.Test.YtniccjbcchdkoaaDeltaArgs
import Derived.Test.YtniccjbcchdkoaaNodeAwake
import Derived.Test.YtniccjbcchdkoaaApplyRowKit
namespace Go.Proofs.Ytniccjbcchdkoaa
open Go Go.ChangeShapes Go.WideShapes Go.ChangeAt Go.WideMaps Go.WideElems Go.RowKit

instance : Inhabited N.K := ⟨⟨0, 0, 0, 0⟩⟩
/-- An argument that is a slice of children. -/
structure N.Src where
  a : Option Addr
  c : Nat
  x : List N.K
structure N.ArgOk (W : World) (s : N.Src) : Prop where
  row : N.Row W s.a s.x
  nil : s.a = none → s.c = 0
  fits : ∀ m ∈ s.x, N.Fit m
  fit : s.x.length * 32 ≤ 140737488351232
  cap : s.x.length ≤ s.c
/-- An argument that is a node. -/
structure N.NArg where
  h : Int
  t : ByteArray
  s : N.Src
def N.NArg.v (x : N.NArg) : Value := N.nv x.h x.t (.slice x.s.a x.s.x.length x.s.c)
def N.NArg.nd (x : N.NArg) : N.Nd := N.nd x.h x.t x.s.x
structure N.NOk (W : World) (x : N.NArg) : Prop where
  h0 : -9223372036854775808 ≤ x.h
  h1 : x.h < 9223372036854775808
  t : x.t.size ≤ 140737488351232
  s : N.ArgOk W x.s
def N.cell (p : N.K) : Nat → Value
  | 0 => .int .u64 (p.at_ : Int)
  | 1 => .int .i64 p.b
  | 2 => .int .i64 p.r
  | _ => .int .i64 p.l
theorem N.u64_bd {a : Int} (h : (Lit.int .u64 a).wf = true) : 0 ≤ a ∧ a ≤ 18446744073709551615 := by
  simp only [Lit.wf, Bool.and_eq_true, decide_eq_true_eq] at h
  exact h
set_option maxRecDepth 100000 in
/-- Four cells that read as a child. -/
theorem N.open4 {H : Type} {enc : TypeId × Value → H} {w : World} {base : Nat} {spare : Nat → Bool} {held : Bool} {fuel : Nat} {cs : List Value} {x : DataW H × List MemPlace} (hl : cs.length = 4)
    (h : DataW.trod enc Try.prog w base spare held fuel 50 cs = some x) :
    ∃ p : N.K, (∀ j, j < 4 → cs[j]? = some (N.cell p j)) ∧ N.Fit p := by
  obtain ⟨y0, y1, n, hx, _, h0, h1⟩ := Go.ChangeShapes.trod_struct2 Try.underlying50 h
  have k0 : Try.prog.cellsOf 24 = 1 := by kernel_rfl
  have k1 : Try.prog.cellsOf 48 = 3 := by kernel_rfl
  have k2 : Try.prog.cellsOf 3 = 1 := by kernel_rfl
  match cs, hl with
  | [c0, c1, c2, c3], _ =>
    simp only [k0, k1] at h0 h1
    obtain ⟨z0, z1, z2, n', hx', _, g0, g1, g2⟩ := Go.Deep.trod_struct3 Try.underlying48 h1
    simp only [k2] at g0 g1 g2
    obtain ⟨n0, e0, _, w0⟩ := DataW.trod_int Try.underlying24 h0
    obtain ⟨n1, e1, _, w1⟩ := DataW.trod_int Try.underlying3 g0
    obtain ⟨n2, e2, _, w2⟩ := DataW.trod_int Try.underlying3 g1
    obtain ⟨n3, e3, _, w3⟩ := DataW.trod_int Try.underlying3 g2
    simp at e0 e1 e2 e3
    have b0 := N.u64_bd w0
    have b1 := D.int_bd w1
    have b2 := D.int_bd w2
    have b3 := D.int_bd w3
    have hn0 : ((n0.toNat : Nat) : Int) = n0 := by omega
    refine ⟨⟨n0.toNat, n1, n2, n3⟩, fun j hj => ?_, ⟨by dsimp only; omega, b1.1, by dsimp only; omega, b2.1, by dsimp only; omega, b3.1, by dsimp only; omega⟩⟩
    rcases (show j = 0 ∨ j = 1 ∨ j = 2 ∨ j = 3 by omega) with rfl | rfl | rfl | rfl
    · rw [e0]; show some (Value.int .u64 n0) = some (Value.int .u64 ((n0.toNat : Nat) : Int)); rw [hn0]
    · rw [e1]; rfl
    · rw [e2]; rfl
    · rw [e3]; rfl
theorem N.cell4' {w : World} {a : Addr} {i k : Nat} {v : Value} (h : w.cell? ((a.add (i * 4)).add k) = some v) : ∃ b o, a.block = b ∧ a.off = o ∧ (0 < i * 4 + k → w.cell? ⟨b, o + i * 4 + k, none⟩ = some v) ∧ (i * 4 + k = 0 → w.cell? a = some v) := by
  refine ⟨_, _, rfl, rfl, fun hp => ?_, fun hz => ?_⟩
  · unfold Addr.add at h
    by_cases h1 : i * 4 = 0 <;> by_cases h2 : k = 0
    · omega
    · simpa [h1, h2] using h
    · simpa [h1, h2] using h
    · simpa [h1, h2] using h
  · unfold Addr.add at h
    rw [if_pos (show k = 0 by omega), if_pos (show i * 4 = 0 by omega)] at h
    exact h
set_option maxRecDepth 100000 in
theorem N.open_rows {H : Type} {enc : TypeId × Value → H} {w : World} {base : Nat} {spare : Nat → Bool} {held : Bool} {fuel : Nat} {cs : List Value} {x : DataW H × List MemPlace}
    (h : DataW.trod enc Try.prog w base spare held fuel 28 cs = some x) (hz : ∀ n ∈ x.1.weights Try.prog 28, n ≤ reachBytes) :
    ∃ s : N.Src, cs = [.slice s.a s.x.length s.c] ∧ N.ArgOk w s := by
  rcases Go.Deep.open_slice Try.underlying28 h with ⟨rfl, rfl⟩ | ⟨a, len, cap, m, n, Dd, Pl, rfl, _, hl, hcm, hm, rfl, hi⟩
  · exact ⟨⟨none, 0, []⟩, rfl, ⟨fun i p hp => by simp at hp, fun _ => rfl, fun p hp => (by cases hp), Nat.zero_le _, Nat.zero_le _⟩⟩
  · have hlm : len ≤ m := by rw [hm]; split <;> omega
    have hC : Try.prog.cellsOf 50 = 4 := by kernel_rfl
    have hBy : Try.prog.bytesOf 50 = 32 := by kernel_rfl
    rw [hC] at hi
    obtain ⟨F, hF⟩ := Go.Deep.choose_lt (α := N.K) (n := len) (p := fun i p => (∀ j, j < 4 → w.cell? ((a.add (i * 4)).add j) = some (N.cell p j)) ∧ N.Fit p) (fun i hil => by
      obtain ⟨cs', hc, ht⟩ := hi i (by omega)
      obtain ⟨_, hcl, hat⟩ := World.cells?_some hc
      obtain ⟨p, hp, hn⟩ := N.open4 hcl ht
      exact ⟨p, fun j hj => (hat j hj).trans (hp j hj), hn⟩)
    have hlen : ((List.range len).map F).length = len := by simp
    have hmem : ∀ p ∈ (List.range len).map F, ∃ i, i < len ∧ F i = p := fun p hp => by
      obtain ⟨i, hi, e⟩ := List.mem_map.1 hp
      exact ⟨i, List.mem_range.1 hi, e⟩
    have hr : reachBytes = 140737488351232 := rfl
    refine ⟨⟨some a, cap, (List.range len).map F⟩, by rw [hlen], ⟨fun i p hp => ?_, (fun e => by cases e), fun p hp => ?_, ?_, by rw [hlen]; omega⟩⟩
    · have hil : i < len := by have := (List.getElem?_eq_some_iff.1 hp).1; rwa [hlen] at this
      have hFi : F i = p := by
        rw [List.getElem?_map, List.getElem?_range hil] at hp
        simpa using hp
      subst hFi
      have hspot : a = ⟨a.block, a.off, none⟩ := by
        have h0 := (hF 0 (by omega)).1 0 (by omega)
        rw [show a.add (0 * 4) = a from rfl, show a.add 0 = a from rfl] at h0
        have : a.spot = none := by
          exact cell_spot (b := a.block) (o := a.off) (sp := a.spot) h0
        cases a; simp at this ⊢; exact this
      have hat : ∀ j, j < 4 → w.cell? ⟨a.block, a.off + i * 4 + j, none⟩ = some (N.cell (F i) j) := fun j hj => by
        have h0 := (hF i hil).1 j hj
        obtain ⟨b, o, rfl, rfl, hp, hz⟩ := N.cell4' h0
        rcases Nat.eq_zero_or_pos (i * 4 + j) with he | he
        · have := hz he
          rw [show a.off + i * 4 + j = a.off by omega, ← hspot]; exact this
        · exact hp he
      refine ⟨a.block, a.off, by rw [← hspot], ?_, hat 0 (by omega), hat 1 (by omega), hat 2 (by omega), hat 3 (by omega)⟩
      exact World.block_lt_of_cell? w ⟨a.block, a.off + i * 4 + 0, none⟩ (hat 0 (by omega))
    · obtain ⟨i, hil, rfl⟩ := hmem p hp
      exact (hF i hil).2
    · have := hz (((List.range len).map Dd).length * 32 + ((List.range (m - len)).map fun j => Dd (len + j)).length * 32) (by
        simp only [DataW.weights, Try.underlying28, List.mem_cons, hBy]
        exact .inl (by rw [Nat.add_mul]))
      simp only [List.length_map, List.length_range] at this ⊢
      omega
set_option maxRecDepth 100000 in
theorem N.open_arg {H : Type} {enc : TypeId × Value → H} {w : World} {base : Nat} {spare : Nat → Bool} {held : Bool} {r : Reach} {b0 : Nat} {v : Value} {d : DataW H} {p : List MemPlace} (hv : Value.okWide Try.prog w r b0 28 v)
    (h : DataW.Trod enc Try.prog w base spare held 28 v d p) (hz : ∀ n ∈ d.weights Try.prog 28, n ≤ reachBytes) : ∃ s : N.Src, v = .slice s.a s.x.length s.c ∧ N.ArgOk w s := by
  obtain ⟨sa, sl, sc, rfl⟩ := okWide_slice Try.underlying28 hv
  obtain ⟨fu, hfu⟩ := h
  obtain ⟨s, hcs, hs⟩ := N.open_rows hfu hz
  refine ⟨s, ?_, hs⟩
  simpa [Value.cells] using hcs
set_option maxRecDepth 100000 in
theorem N.open_node {H : Type} {enc : TypeId × Value → H} {w : World} {base : Nat} {spare : Nat → Bool} {held : Bool} {r : Reach} {b0 : Nat} {v : Value} {d : DataW H} {p : List MemPlace} (hv : Value.okWide Try.prog w r b0 30 v)
    (h : DataW.Trod enc Try.prog w base spare held 30 v d p) (hz : ∀ n ∈ d.weights Try.prog 30, n ≤ reachBytes) : ∃ x : N.NArg, v = x.v ∧ N.NOk w x := by
  obtain ⟨v0, v1, v2, y0, y1, y2, n, rfl, hd, hp, h0, h1, h2⟩ := Go.Joins.open_agg3 Try.underlying30 (by kernel_rfl) (by kernel_rfl) hv h
  subst hd
  obtain ⟨n0, e0, _, w0⟩ := DataW.trod_int Try.underlying3 h0
  obtain ⟨t0, e1, ed, w1⟩ := DataW.trod_string Try.underlying9 h1
  have hw : ∀ n ∈ y1.1.weights Try.prog 9, n ≤ reachBytes := fun n hn => hz n (by
    simp only [DataW.weights, Try.underlying30, List.map_cons, DataW.weightsEach, List.mem_append]
    exact .inr (.inl hn))
  have hw2 : ∀ n ∈ y2.1.weights Try.prog 28, n ≤ reachBytes := fun n hn => hz n (by
    simp only [DataW.weights, Try.underlying30, List.map_cons, DataW.weightsEach, List.mem_append]
    exact .inr (.inr (.inl hn)))
  obtain ⟨s, hcs, hs⟩ := N.open_rows h2 hw2
  have hr : reachBytes = 140737488351232 := rfl
  have b0 := D.int_bd w0
  have ht : t0.size ≤ 140737488351232 := by
    have := hw t0.size (by rw [ed]; simp [DataW.weights])
    omega
  simp only [List.cons.injEq, and_true] at e0 e1 hcs
  exact ⟨⟨n0, t0, s⟩, by rw [e0, e1, hcs]; rfl, ⟨b0.1, b0.2, ht, hs⟩⟩
end Go.Proofs.Ytniccjbcchdkoaa
