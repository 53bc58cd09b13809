/- The arguments of layer 13's laws as a row's statement reads them: slices of deeds; a node with a number. -/
import Derived.Test.YtniccjbcchdkoaaPackArAw
import Derived.Test.YtniccjbcchdkoaaDeltaArgs
import Derived.Test.YtniccjbcchdkoaaNodeArgs
namespace Go.Proofs.Ytniccjbcchdkoaa
open Go Go.ChangeShapes Go.WideShapes Go.ChangeAt Go.WideMaps Go.WideElems Go.RowKit

instance : Inhabited Ar.Dd := ⟨⟨0, ⟨#[]⟩, none, 0, [], ⟨0, ⟨#[]⟩, ⟨none, 0, []⟩⟩, 0⟩⟩
theorem Ar.trod5 {H : Type} {enc : TypeId × Value → H} {P : Program} {w : World} {base : Nat} {spare : Nat → Bool} {held : Bool} {t : TypeId} {f0 f1 f2 f3 f4 : Field} {fuel : Nat} {cs : List Value} {x : DataW H × List MemPlace} (ht : P.underlying t = some (.struct #[f0, f1, f2, f3, f4])) (h : DataW.trod enc P w base spare held fuel t cs = some x) :
    ∃ y0 y1 y2 y3 y4 n, x.1 = .agg [y0.1, y1.1, y2.1, y3.1, y4.1] ∧ DataW.trod enc P w base spare held n f0.type ((cs.drop f0.offset).take (P.cellsOf f0.type)) = some y0 ∧
      DataW.trod enc P w base spare held n f1.type ((cs.drop f1.offset).take (P.cellsOf f1.type)) = some y1 ∧ DataW.trod enc P w base spare held n f2.type ((cs.drop f2.offset).take (P.cellsOf f2.type)) = some y2 ∧
      DataW.trod enc P w base spare held n f3.type ((cs.drop f3.offset).take (P.cellsOf f3.type)) = some y3 ∧ DataW.trod enc P w base spare held n f4.type ((cs.drop f4.offset).take (P.cellsOf f4.type)) = some y4 := by
  obtain ⟨xs, n, _, rfl, hl, hlen, hf⟩ := DataW.trod_struct ht h
  match xs, hlen with
  | [y0, y1, y2, y3, y4], _ => exact ⟨y0, y1, y2, y3, y4, n, by simp, by simpa using hf 0 f0 rfl, by simpa using hf 1 f1 rfl, by simpa using hf 2 f2 rfl, by simpa using hf 3 f3 rfl, by simpa using hf 4 f4 rfl⟩
/-! ### Slices of ints -/
set_option maxRecDepth 100000 in
theorem Ar.open_ints {H : Type} {enc : TypeId × Value → H} {w : World} {base : Nat} {spare : Nat → Bool} {held : Bool} {fuel : Nat} {cs : List Value} {x : DataW H × List MemPlace}
    (h : DataW.trod enc Try.prog w base spare held fuel 33 cs = some x) (hz : ∀ n ∈ x.1.weights Try.prog 33, n ≤ reachBytes) :
    ∃ (lo : Option Addr) (c : Nat) (l : List Int), cs = [.slice lo l.length c] ∧ V.Row w lo (N.iv l) ∧ l.length ≤ 17592186044416 := by
  rcases Go.Deep.open_slice Try.underlying33 h with ⟨rfl, rfl⟩ | ⟨a, len, cap, m, n, Dd, Pl, rfl, _, hl, hcm, hm, rfl, hi⟩
  · exact ⟨none, 0, [], rfl, fun i p hp => by simp [N.iv] at hp, Nat.zero_le _⟩
  · have hlm : len ≤ m := by rw [hm]; split <;> omega
    have hC : Try.prog.cellsOf 3 = 1 := by kernel_rfl
    have hBy : Try.prog.bytesOf 3 = 8 := by kernel_rfl
    rw [hC] at hi
    obtain ⟨F, hF⟩ := Go.Deep.choose_lt (α := Int) (n := len) (p := fun i z => w.cell? (a.add i) = some (.int .i64 z)) (fun i hil => by
      obtain ⟨cs', hc, ht⟩ := hi i (by omega)
      obtain ⟨_, hcl, hat⟩ := World.cells?_some hc
      match cs', hcl with
      | [c0], _ =>
        obtain ⟨n0, e0, _, w0⟩ := DataW.trod_int Try.underlying3 ht
        simp at e0
        have := hat 0 (by omega)
        rw [show (a.add (i * 1)).add 0 = a.add i by rw [Nat.mul_one]; rfl] at this
        exact ⟨n0, by rw [this, e0]; rfl⟩)
    have hlen : ((List.range len).map F).length = len := by simp
    have hr : reachBytes = 140737488351232 := rfl
    refine ⟨some a, cap, (List.range len).map F, by rw [hlen], fun i z hp => ?_, ?_⟩
    · unfold N.iv at hp
      rw [List.getElem?_map] at hp
      obtain ⟨z', hp', rfl⟩ := Option.map_eq_some_iff.1 hp
      clear hp
      have hp := hp'
      clear hp'
      have hil : i < len := by have := (List.getElem?_eq_some_iff.1 hp).1; rwa [hlen] at this
      have hFi : F i = z' := by
        rw [List.getElem?_map, List.getElem?_range hil] at hp
        simpa using hp
      subst hFi
      have hspot : a = ⟨a.block, a.off, none⟩ := by
        have h0 := hF 0 (by omega)
        rw [show a.add 0 = a from rfl] at h0
        have : a.spot = none := by
          exact cell_spot (b := a.block) (o := a.off) (sp := a.spot) h0
        cases a; simp at this ⊢; exact this
      have hat : w.cell? ⟨a.block, a.off + i, none⟩ = some (.int .i64 (F i)) := by
        have h0 := hF i hil
        rw [hspot] at h0
        have hadd : (⟨a.block, a.off, none⟩ : Addr).add i = ⟨a.block, a.off + i, none⟩ := by
          unfold Addr.add
          split
          · rename_i e; subst e; rfl
          · rfl
        rwa [hadd] at h0
      exact ⟨a.block, a.off, by rw [← hspot], World.block_lt_of_cell? w ⟨a.block, a.off + i, none⟩ hat, hat⟩
    · have := hz (((List.range len).map Dd).length * 8 + ((List.range (m - len)).map fun j => Dd (len + j)).length * 8) (by
        simp only [DataW.weights, Try.underlying33, List.mem_cons, hBy]
        exact .inl (by rw [Nat.add_mul]))
      simp only [List.length_map, List.length_range] at this ⊢
      omega
/-! ### Nodes that lie in memory -/
theorem Ar.node_at {W : World} {x : N.NArg} (h : N.NOk W x) : ∀ g o, x.s.a = some ⟨g, o, none⟩ → x.s.x ≠ [] → g < W.heap.size := fun g o e hne => by
  obtain ⟨q, r, e'⟩ := List.exists_cons_of_ne_nil hne
  obtain ⟨b, o', e2, hlt, _⟩ := h.s.row 0 q (by rw [e']; rfl)
  rw [e] at e2
  injection e2 with e2
  injection e2 with e2
  omega
set_option maxRecDepth 100000 in
/-- Three cells that read as a node. -/
theorem Ar.open3 {H : Type} {enc : TypeId × Value → H} {w : World} {base : Nat} {spare : Nat → Bool} {held : Bool} {fuel : Nat} {c0 c1 c2 : Value} {x : DataW H × List MemPlace}
    (h : DataW.trod enc Try.prog w base spare held fuel 30 [c0, c1, c2] = some x) (hz : ∀ n ∈ x.1.weights Try.prog 30, n ≤ reachBytes) :
    ∃ y : N.NArg, c0 = .int .i64 y.h ∧ c1 = .string y.t ∧ c2 = .slice y.s.a y.s.x.length y.s.c ∧ N.NOk w y := by
  obtain ⟨y0, y1, y2, n, hx, _, h0, h1, h2⟩ := Go.Deep.trod_struct3 Try.underlying30 h
  have k0 : Try.prog.cellsOf 3 = 1 := by kernel_rfl
  have k1 : Try.prog.cellsOf 9 = 1 := by kernel_rfl
  have k2 : Try.prog.cellsOf 28 = 1 := by kernel_rfl
  simp only [k0, k1, k2] at h0 h1 h2
  subst hx
  obtain ⟨n0, e0, _, w0⟩ := DataW.trod_int Try.underlying3 h0
  obtain ⟨t0, e1, ed, w1⟩ := DataW.trod_string Try.underlying9 h1
  have hw : ∀ n ∈ y1.1.weights Try.prog 9, n ≤ reachBytes := fun n hn => hz n (by
    simp only [DataW.weights, Try.underlying30, List.map_cons, DataW.weightsEach, List.mem_append]
    exact .inr (.inl hn))
  have hw2 : ∀ n ∈ y2.1.weights Try.prog 28, n ≤ reachBytes := fun n hn => hz n (by
    simp only [DataW.weights, Try.underlying30, List.map_cons, DataW.weightsEach, List.mem_append]
    exact .inr (.inr (.inl hn)))
  obtain ⟨s, hcs, hs⟩ := N.open_rows h2 hw2
  have hr : reachBytes = 140737488351232 := rfl
  have b0 := D.int_bd w0
  have ht : t0.size ≤ 140737488351232 := by
    have := hw t0.size (by rw [ed]; simp [DataW.weights])
    omega
  simp at e0 e1 hcs
  exact ⟨⟨n0, t0, s⟩, e0, e1, hcs, ⟨b0.1, b0.2, ht, hs⟩⟩
def Ar.cell (d : Ar.Dd) : Nat → Value
  | 0 => .int .i64 d.kind
  | 1 => .string d.text
  | 2 => .slice d.lo d.l.length d.lc
  | 3 => .int .i64 d.x.h
  | 4 => .string d.x.t
  | 5 => .slice d.x.s.a d.x.s.x.length d.x.s.c
  | _ => .int .u64 (d.h : Int)
set_option maxRecDepth 100000 in
/-- Seven cells that read as a deed. -/
theorem Ar.open7 {H : Type} {enc : TypeId × Value → H} {w : World} {base : Nat} {spare : Nat → Bool} {held : Bool} {fuel : Nat} {cs : List Value} {x : DataW H × List MemPlace} (hl : cs.length = 7)
    (h : DataW.trod enc Try.prog w base spare held fuel 46 cs = some x) (hz : ∀ n ∈ x.1.weights Try.prog 46, n ≤ reachBytes) :
    ∃ d : Ar.Dd, (∀ j, j < 7 → cs[j]? = some (Ar.cell d j)) ∧ Ar.DOk w d := by
  obtain ⟨y0, y1, y2, y3, y4, n, hx, h0, h1, h2, h3, h4⟩ := Ar.trod5 Try.underlying46 h
  have k0 : Try.prog.cellsOf 3 = 1 := by kernel_rfl
  have k1 : Try.prog.cellsOf 9 = 1 := by kernel_rfl
  have k2 : Try.prog.cellsOf 33 = 1 := by kernel_rfl
  have k3 : Try.prog.cellsOf 30 = 3 := by kernel_rfl
  have k4 : Try.prog.cellsOf 24 = 1 := by kernel_rfl
  rw [hx] at hz
  have hw : ∀ z ∈ y1.1.weights Try.prog 9, z ≤ reachBytes := fun z hn => hz z (by
    simp only [DataW.weights, Try.underlying46, List.map_cons, DataW.weightsEach, List.mem_append]
    exact .inr (.inl hn))
  have hw2 : ∀ z ∈ y2.1.weights Try.prog 33, z ≤ reachBytes := fun z hn => hz z (by
    simp only [DataW.weights, Try.underlying46, List.map_cons, DataW.weightsEach, List.mem_append]
    exact .inr (.inr (.inl hn)))
  have hw3 : ∀ z ∈ y3.1.weights Try.prog 30, z ≤ reachBytes := fun z hn => hz z (by
    simp only [DataW.weights, Try.underlying46, List.map_cons, DataW.weightsEach, List.mem_append]
    exact .inr (.inr (.inr (.inl hn))))
  match cs, hl with
  | [c0, c1, c2, c3, c4, c5, c6], _ =>
    simp only [k0, k1, k2, k3, k4] at h0 h1 h2 h3 h4
    obtain ⟨n0, e0, _, w0⟩ := DataW.trod_int Try.underlying3 h0
    obtain ⟨t0, e1, ed, w1⟩ := DataW.trod_string Try.underlying9 h1
    obtain ⟨lo, lc, l, e2, r2, l2⟩ := Ar.open_ints h2 hw2
    obtain ⟨y, g0, g1, g2, ok⟩ := Ar.open3 h3 hw3
    obtain ⟨n4, e4, _, w4⟩ := DataW.trod_int Try.underlying24 h4
    simp at e0 e1 e2 e4
    have b4 := N.u64_bd w4
    have hn4 : ((n4.toNat : Nat) : Int) = n4 := by omega
    have hr : reachBytes = 140737488351232 := rfl
    have ht : t0.size ≤ 140737488351232 := by
      have := hw t0.size (by rw [ed]; simp [DataW.weights])
      omega
    refine ⟨⟨n0, t0, lo, lc, l, y, n4.toNat⟩, fun j hj => ?_, ⟨ht, r2, l2, ok, by dsimp only; omega⟩⟩
    rcases (show j = 0 ∨ j = 1 ∨ j = 2 ∨ j = 3 ∨ j = 4 ∨ j = 5 ∨ j = 6 by omega) with rfl | rfl | rfl | rfl | rfl | rfl | rfl
    · rw [e0]; rfl
    · rw [e1]; rfl
    · rw [e2]; rfl
    · rw [g0]; rfl
    · rw [g1]; rfl
    · rw [g2]; rfl
    · rw [e4]; show some (Value.int .u64 n4) = some (Value.int .u64 ((n4.toNat : Nat) : Int)); rw [hn4]
theorem Ar.cell7' {w : World} {a : Addr} {i k : Nat} {v : Value} (h : w.cell? ((a.add (i * 7)).add k) = some v) : ∃ b o, a.block = b ∧ a.off = o ∧ (0 < i * 7 + k → w.cell? ⟨b, o + i * 7 + k, none⟩ = some v) ∧ (i * 7 + k = 0 → w.cell? a = some v) := by
  refine ⟨_, _, rfl, rfl, fun hp => ?_, fun hz => ?_⟩
  · unfold Addr.add at h
    by_cases h1 : i * 7 = 0 <;> by_cases h2 : k = 0
    · omega
    · simpa [h1, h2] using h
    · simpa [h1, h2] using h
    · simpa [h1, h2] using h
  · unfold Addr.add at h
    rw [if_pos (show k = 0 by omega), if_pos (show i * 7 = 0 by omega)] at h
    exact h
set_option maxRecDepth 100000 in
theorem Ar.open_rows {H : Type} {enc : TypeId × Value → H} {w : World} {base : Nat} {spare : Nat → Bool} {held : Bool} {fuel : Nat} {cs : List Value} {x : DataW H × List MemPlace}
    (h : DataW.trod enc Try.prog w base spare held fuel 54 cs = some x) (hz : ∀ n ∈ x.1.weights Try.prog 54, n ≤ reachBytes) :
    ∃ s : Ar.Src, cs = [.slice s.a s.x.length s.c] ∧ Ar.ArgOk w s := by
  rcases Go.Deep.open_slice Try.underlying54 h with ⟨rfl, rfl⟩ | ⟨a, len, cap, m, n, Dd, Pl, rfl, _, hl, hcm, hm, rfl, hi⟩
  · exact ⟨⟨none, 0, []⟩, rfl, ⟨fun i p hp => by simp at hp, fun p hp => (by cases hp), fun _ => rfl, Nat.zero_le _, Nat.zero_le _⟩⟩
  · have hlm : len ≤ m := by rw [hm]; split <;> omega
    have hC : Try.prog.cellsOf 46 = 7 := by kernel_rfl
    have hBy : Try.prog.bytesOf 46 = 104 := by kernel_rfl
    rw [hC] at hi
    obtain ⟨F, hF⟩ := Go.Deep.choose_lt (α := Ar.Dd) (n := len) (p := fun i p => (∀ j, j < 7 → w.cell? ((a.add (i * 7)).add j) = some (Ar.cell p j)) ∧ Ar.DOk w p) (fun i hil => by
      obtain ⟨cs', hc, ht⟩ := hi i (by omega)
      obtain ⟨_, hcl, hat⟩ := World.cells?_some hc
      obtain ⟨p, hp, hn⟩ := Ar.open7 hcl ht (fun k hk => hz k (by
        simp only [DataW.weights, Try.underlying54, List.mem_cons, List.mem_append]
        exact .inr (.inl (D.weights_all (List.mem_map.2 ⟨i, List.mem_range.2 hil, rfl⟩) hk))))
      exact ⟨p, fun j hj => (hat j hj).trans (hp j hj), hn⟩)
    have hlen : ((List.range len).map F).length = len := by simp
    have hmem : ∀ p ∈ (List.range len).map F, ∃ i, i < len ∧ F i = p := fun p hp => by
      obtain ⟨i, hi, e⟩ := List.mem_map.1 hp
      exact ⟨i, List.mem_range.1 hi, e⟩
    have hr : reachBytes = 140737488351232 := rfl
    refine ⟨⟨some a, cap, (List.range len).map F⟩, by rw [hlen], ⟨fun i p hp => ?_, fun p hp => ?_, (fun e => by cases e), ?_, by rw [hlen]; omega⟩⟩
    · have hil : i < len := by have := (List.getElem?_eq_some_iff.1 hp).1; rwa [hlen] at this
      have hFi : F i = p := by
        rw [List.getElem?_map, List.getElem?_range hil] at hp
        simpa using hp
      subst hFi
      have hspot : a = ⟨a.block, a.off, none⟩ := by
        have h0 := (hF 0 (by omega)).1 0 (by omega)
        rw [show a.add (0 * 7) = a from rfl, show a.add 0 = a from rfl] at h0
        have : a.spot = none := by
          exact cell_spot (b := a.block) (o := a.off) (sp := a.spot) h0
        cases a; simp at this ⊢; exact this
      have hat : ∀ j, j < 7 → w.cell? ⟨a.block, a.off + i * 7 + j, none⟩ = some (Ar.cell (F i) j) := fun j hj => by
        have h0 := (hF i hil).1 j hj
        obtain ⟨b, o, rfl, rfl, hp, hz⟩ := Ar.cell7' h0
        rcases Nat.eq_zero_or_pos (i * 7 + j) with he | he
        · have := hz he
          rw [show a.off + i * 7 + j = a.off by omega, ← hspot]; exact this
        · exact hp he
      refine ⟨a.block, a.off, by rw [← hspot], ?_, hat 0 (by omega), hat 1 (by omega), hat 2 (by omega), hat 3 (by omega), hat 4 (by omega), hat 5 (by omega), hat 6 (by omega)⟩
      exact World.block_lt_of_cell? w ⟨a.block, a.off + i * 7 + 0, none⟩ (hat 0 (by omega))
    · obtain ⟨i, hil, rfl⟩ := hmem p hp
      exact ⟨(hF i hil).2, Ar.node_at (hF i hil).2.node⟩
    · have := hz (((List.range len).map Dd).length * 104 + ((List.range (m - len)).map fun j => Dd (len + j)).length * 104) (by
        simp only [DataW.weights, Try.underlying54, List.mem_cons, hBy]
        exact .inl (by rw [Nat.add_mul]))
      simp only [List.length_map, List.length_range] at this ⊢
      omega
set_option maxRecDepth 100000 in
theorem Ar.open_arg {H : Type} {enc : TypeId × Value → H} {w : World} {base : Nat} {spare : Nat → Bool} {held : Bool} {r : Reach} {b0 : Nat} {v : Value} {d : DataW H} {p : List MemPlace} (hv : Value.okWide Try.prog w r b0 54 v)
    (h : DataW.Trod enc Try.prog w base spare held 54 v d p) (hz : ∀ n ∈ d.weights Try.prog 54, n ≤ reachBytes) : ∃ s : Ar.Src, v = .slice s.a s.x.length s.c ∧ Ar.ArgOk w s := by
  obtain ⟨sa, sl, sc, rfl⟩ := okWide_slice Try.underlying54 hv
  obtain ⟨fu, hfu⟩ := h
  obtain ⟨s, hcs, hs⟩ := Ar.open_rows hfu hz
  refine ⟨s, ?_, hs⟩
  simpa [Value.cells] using hcs
/-! ### A node and a number -/
structure Ar.Lst where
  x : N.NArg
  h : Nat
def Ar.Lst.v (l : Ar.Lst) : Value := .agg #[.int .i64 l.x.h, .string l.x.t, .slice l.x.s.a l.x.s.x.length l.x.s.c, .int .u64 (l.h : Int)]
structure Ar.LOk (W : World) (l : Ar.Lst) : Prop where
  x : N.NOk W l.x
  h : l.h ≤ 18446744073709551615
  at_ : ∀ g o, l.x.s.a = some ⟨g, o, none⟩ → l.x.s.x ≠ [] → g < W.heap.size
end Go.Proofs.Ytniccjbcchdkoaa
