/- Arguments that are slices of deeds, or of ints, as a row's statement reads them. -/
import Derived.Test.YtndpknkdmaojaaaDoorDeltaArgs
import Derived.Test.YtndpknkdmaojaaaDoorPackFLaw
import Derived.Test.YtndpknkdmaojaaaDoorFreeLaws5
import Derived.Test.YtndpknkdmaojaaaDoorHandRowKit
namespace Go.Proofs.YtndpknkdmaojaaaDoor
open Go Go.ChangeShapes Go.WideShapes Go.ChangeAt Go.WideMaps Go.WideElems Go.RowKit

instance : Inhabited FL.Dd := ⟨⟨0, 0, 0⟩⟩
def FL.cell (p : FL.Dd) : Nat → Value
  | 0 => .int .i64 p.kind
  | 1 => .int .i64 p.k
  | _ => .int .u64 p.h
set_option maxRecDepth 100000 in
/-- Three cells that read as a deed. -/
theorem FL.open3 {H : Type} {enc : TypeId × Value → H} {w : World} {base : Nat} {spare : Nat → Bool} {held : Bool} {fuel : Nat} {cs : List Value} {x : DataW H × List MemPlace} (hl : cs.length = 3)
    (h : DataW.trod enc Tryd.prog w base spare held fuel 35 cs = some x) :
    ∃ p : FL.Dd, (∀ j, j < 3 → cs[j]? = some (FL.cell p j)) ∧ FL.Fit p := by
  obtain ⟨y0, y1, y2, n, hx, _, h0, h1, h2⟩ := Go.Deep.trod_struct3 Tryd.underlying35 h
  have k0 : Tryd.prog.cellsOf 3 = 1 := by kernel_rfl
  have k1 : Tryd.prog.cellsOf 33 = 1 := by kernel_rfl
  match cs, hl with
  | [c0, c1, c2], _ =>
    simp only [k0, k1] at h0 h1 h2
    obtain ⟨n0, e0, _, w0⟩ := DataW.trod_int Tryd.underlying3 h0
    obtain ⟨n1, e1, _, w1⟩ := DataW.trod_int Tryd.underlying3 h1
    obtain ⟨n2, e2, _, w2⟩ := DataW.trod_int Tryd.underlying33 h2
    simp at e0 e1 e2
    have b0 := D.int_bd w0
    have b1 := D.int_bd w1
    have b2 := Go.Proofs.YtndpknkdmaojaaaDoor.H.u64_bd w2
    refine ⟨⟨n0, n1, n2⟩, fun j hj => ?_, ⟨b0.1, by dsimp only; omega, b1.1, by dsimp only; omega, b2.1, b2.2⟩⟩
    rcases (show j = 0 ∨ j = 1 ∨ j = 2 by omega) with rfl | rfl | rfl
    · rw [e0]; rfl
    · rw [e1]; rfl
    · rw [e2]; rfl
set_option maxRecDepth 100000 in
theorem FL.open_rows {H : Type} {enc : TypeId × Value → H} {w : World} {base : Nat} {spare : Nat → Bool} {held : Bool} {fuel : Nat} {cs : List Value} {x : DataW H × List MemPlace}
    (h : DataW.trod enc Tryd.prog w base spare held fuel 22 cs = some x) (hz : ∀ n ∈ x.1.weights Tryd.prog 22, n ≤ reachBytes) :
    ∃ s : FL.Src, cs = [.slice s.a s.x.length s.c] ∧ FL.ArgOk w s := by
  rcases Go.Deep.open_slice Tryd.underlying22 h with ⟨rfl, rfl⟩ | ⟨a, len, cap, m, n, Dd, Pl, rfl, _, hl, hcm, hm, rfl, hi⟩
  · exact ⟨⟨none, 0, []⟩, rfl, ⟨fun i p hp => by simp at hp, fun p hp => (by cases hp), Nat.zero_le _⟩⟩
  · have hlm : len ≤ m := by rw [hm]; split <;> omega
    have hC : Tryd.prog.cellsOf 35 = 3 := by kernel_rfl
    have hBy : Tryd.prog.bytesOf 35 = 24 := by kernel_rfl
    rw [hC] at hi
    obtain ⟨F, hF⟩ := Go.Deep.choose_lt (α := FL.Dd) (n := len) (p := fun i p => (∀ j, j < 3 → w.cell? ((a.add (i * 3)).add j) = some (FL.cell p j)) ∧ FL.Fit p) (fun i hil => by
      obtain ⟨cs', hc, ht⟩ := hi i (by omega)
      obtain ⟨_, hcl, hat⟩ := World.cells?_some hc
      obtain ⟨p, hp, hn⟩ := FL.open3 hcl ht
      exact ⟨p, fun j hj => (hat j hj).trans (hp j hj), hn⟩)
    have hlen : ((List.range len).map F).length = len := by simp
    have hmem : ∀ p ∈ (List.range len).map F, ∃ i, i < len ∧ F i = p := fun p hp => by
      obtain ⟨i, hi, e⟩ := List.mem_map.1 hp
      exact ⟨i, List.mem_range.1 hi, e⟩
    have hr : reachBytes = 140737488351232 := rfl
    refine ⟨⟨some a, cap, (List.range len).map F⟩, by rw [hlen], ⟨fun i p hp => ?_, fun p hp => ?_, ?_⟩⟩
    · have hil : i < len := by have := (List.getElem?_eq_some_iff.1 hp).1; rwa [hlen] at this
      have hFi : F i = p := by
        rw [List.getElem?_map, List.getElem?_range hil] at hp
        simpa using hp
      subst hFi
      have hspot : a = ⟨a.block, a.off, none⟩ := by
        have h0 := (hF 0 (by omega)).1 0 (by omega)
        rw [show a.add (0 * 3) = a from rfl, show a.add 0 = a from rfl] at h0
        have : a.spot = none := by
          exact cell_spot (b := a.block) (o := a.off) (sp := a.spot) h0
        cases a; simp at this ⊢; exact this
      have hat : ∀ j, j < 3 → w.cell? ⟨a.block, a.off + i * 3 + j, none⟩ = some (FL.cell (F i) j) := fun j hj => by
        have h0 := (hF i hil).1 j hj
        obtain ⟨b, o, rfl, rfl, hp, hz⟩ := D.cell3' h0
        rcases Nat.eq_zero_or_pos (i * 3 + j) with he | he
        · have := hz he
          rw [show a.off + i * 3 + j = a.off by omega, ← hspot]; exact this
        · exact hp he
      refine ⟨a.block, a.off, by rw [← hspot], ?_, hat 0 (by omega), hat 1 (by omega), hat 2 (by omega)⟩
      exact World.block_lt_of_cell? w ⟨a.block, a.off + i * 3 + 0, none⟩ (hat 0 (by omega))
    · obtain ⟨i, hil, rfl⟩ := hmem p hp
      exact (hF i hil).2
    · have := hz (((List.range len).map Dd).length * 24 + ((List.range (m - len)).map fun j => Dd (len + j)).length * 24) (by
        simp only [DataW.weights, Tryd.underlying22, List.mem_cons, hBy]
        exact .inl (by rw [Nat.add_mul]))
      simp only [List.length_map, List.length_range] at this ⊢
      omega
set_option maxRecDepth 100000 in
theorem FL.open_arg {H : Type} {enc : TypeId × Value → H} {w : World} {base : Nat} {spare : Nat → Bool} {held : Bool} {r : Reach} {b0 : Nat} {v : Value} {d : DataW H} {p : List MemPlace} (hv : Value.okWide Tryd.prog w r b0 22 v)
    (h : DataW.Trod enc Tryd.prog w base spare held 22 v d p) (hz : ∀ n ∈ d.weights Tryd.prog 22, n ≤ reachBytes) : ∃ s : FL.Src, v = .slice s.a s.x.length s.c ∧ FL.ArgOk w s := by
  obtain ⟨sa, sl, sc, rfl⟩ := okWide_slice Tryd.underlying22 hv
  obtain ⟨fu, hfu⟩ := h
  obtain ⟨s, hcs, hs⟩ := FL.open_rows hfu hz
  refine ⟨s, ?_, hs⟩
  simpa [Value.cells] using hcs
/-! ### Slices of ints -/
set_option maxRecDepth 100000 in
theorem FL.open_irows {H : Type} {enc : TypeId × Value → H} {w : World} {base : Nat} {spare : Nat → Bool} {held : Bool} {fuel : Nat} {cs : List Value} {x : DataW H × List MemPlace}
    (h : DataW.trod enc Tryd.prog w base spare held fuel 45 cs = some x) (hz : ∀ n ∈ x.1.weights Tryd.prog 45, n ≤ reachBytes) :
    ∃ s : FL.ISrc, cs = [.slice s.a s.x.length s.c] ∧ FL.IArgOk w s := by
  rcases Go.Deep.open_slice Tryd.underlying45 h with ⟨rfl, rfl⟩ | ⟨a, len, cap, m, n, Dd, Pl, rfl, _, hl, hcm, hm, rfl, hi⟩
  · exact ⟨⟨none, 0, []⟩, rfl, ⟨fun i p hp => by simp at hp, fun p hp => (by cases hp), Nat.zero_le _⟩⟩
  · have hlm : len ≤ m := by rw [hm]; split <;> omega
    have hC : Tryd.prog.cellsOf 3 = 1 := by kernel_rfl
    have hBy : Tryd.prog.bytesOf 3 = 8 := by kernel_rfl
    rw [hC] at hi
    obtain ⟨F, hF⟩ := Go.Deep.choose_lt (α := Int) (n := len) (p := fun i z => w.cell? (a.add i) = some (.int .i64 z) ∧ (-9223372036854775808 ≤ z ∧ z ≤ 9223372036854775807)) (fun i hil => by
      obtain ⟨cs', hc, ht⟩ := hi i (by omega)
      obtain ⟨_, hcl, hat⟩ := World.cells?_some hc
      match cs', hcl with
      | [c0], _ =>
        obtain ⟨n0, e0, _, w0⟩ := DataW.trod_int Tryd.underlying3 ht
        simp at e0
        have b0 := D.int_bd w0
        have := hat 0 (by omega)
        rw [show (a.add (i * 1)).add 0 = a.add i by rw [Nat.mul_one]; rfl] at this
        exact ⟨n0, by rw [this, e0]; rfl, b0.1, by omega⟩)
    have hlen : ((List.range len).map F).length = len := by simp
    have hr : reachBytes = 140737488351232 := rfl
    refine ⟨⟨some a, cap, (List.range len).map F⟩, by rw [hlen], ⟨fun i z hp => ?_, fun z hp => ?_, ?_⟩⟩
    · have hil : i < len := by have := (List.getElem?_eq_some_iff.1 hp).1; rwa [hlen] at this
      have hFi : F i = z := by
        rw [List.getElem?_map, List.getElem?_range hil] at hp
        simpa using hp
      subst hFi
      have hspot : a = ⟨a.block, a.off, none⟩ := by
        have h0 := (hF 0 (by omega)).1
        rw [show a.add 0 = a from rfl] at h0
        have : a.spot = none := by
          exact cell_spot (b := a.block) (o := a.off) (sp := a.spot) h0
        cases a; simp at this ⊢; exact this
      have hat : w.cell? ⟨a.block, a.off + i, none⟩ = some (.int .i64 (F i)) := by
        have h0 := (hF i hil).1
        rw [hspot] at h0
        have hadd : (⟨a.block, a.off, none⟩ : Addr).add i = ⟨a.block, a.off + i, none⟩ := by
          unfold Addr.add
          split
          · rename_i e; subst e; rfl
          · rfl
        rwa [hadd] at h0
      exact ⟨a.block, a.off, by rw [← hspot], World.block_lt_of_cell? w ⟨a.block, a.off + i, none⟩ hat, hat⟩
    · obtain ⟨i, hi, rfl⟩ := List.mem_map.1 hp
      exact (hF i (List.mem_range.1 hi)).2
    · have := hz (((List.range len).map Dd).length * 8 + ((List.range (m - len)).map fun j => Dd (len + j)).length * 8) (by
        simp only [DataW.weights, Tryd.underlying45, List.mem_cons, hBy]
        exact .inl (by rw [Nat.add_mul]))
      simp only [List.length_map, List.length_range] at this ⊢
      omega
set_option maxRecDepth 100000 in
theorem FL.open_ints {H : Type} {enc : TypeId × Value → H} {w : World} {base : Nat} {spare : Nat → Bool} {held : Bool} {r : Reach} {b0 : Nat} {v : Value} {d : DataW H} {p : List MemPlace} (hv : Value.okWide Tryd.prog w r b0 45 v)
    (h : DataW.Trod enc Tryd.prog w base spare held 45 v d p) (hz : ∀ n ∈ d.weights Tryd.prog 45, n ≤ reachBytes) : ∃ s : FL.ISrc, v = .slice s.a s.x.length s.c ∧ FL.IArgOk w s := by
  obtain ⟨sa, sl, sc, rfl⟩ := okWide_slice Tryd.underlying45 hv
  obtain ⟨fu, hfu⟩ := h
  obtain ⟨s, hcs, hs⟩ := FL.open_irows hfu hz
  refine ⟨s, ?_, hs⟩
  simpa [Value.cells] using hcs
end Go.Proofs.YtndpknkdmaojaaaDoor
