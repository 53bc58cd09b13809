/- Arguments that are slices of pieces, as a row's statement reads them. -/
import Derived.Test.YtmbgcbgbdjiacaaPackSrc
import Derived.ProofKit
import Derived.OpenShut
import Derived.Stop.Joined
import Derived.SizedLaws
import Derived.Deep.Slices
import Derived.Deep.Strs
import Derived.Lib.SmallJoins
import Derived.Carry
import Derived.Lib.LaidU8
namespace Go.Proofs.Ytmbgcbgbdjiacaa
open Go Go.ChangeShapes Go.WideShapes Go.ChangeAt Go.WideMaps Go.WideElems Go.RowKit

theorem D.trod_lt {H : Type} {enc : TypeId × Value → H} {w : World} {base : Nat} {spare : Nat → Bool} {held : Bool} {t : TypeId} {v : Value} {d : DataW H} {p : List MemPlace} (h : DataW.Trod enc Try.prog w base spare held t v d p) : ∀ x ∈ p, x.block < w.heap.size := by
  obtain ⟨fuel, hf⟩ := h
  exact DataW.trod_lt fuel _ _ _ hf
instance : Inhabited D.P := ⟨⟨0, 0, ⟨#[]⟩⟩⟩
/-- An argument that is a slice of pieces. -/
structure D.ArgOk (W : World) (s : D.Src) : Prop where
  src : D.SrcOk W s
  num : ∀ p ∈ s.x, -9223372036854775808 ≤ p.n ∧ p.n ≤ 9223372036854775807
  fit : s.x.length * 32 ≤ 140737488351232
  cap : s.x.length ≤ s.c
theorem D.cell3' {w : World} {a : Addr} {i k : Nat} {v : Value} (h : w.cell? ((a.add (i * 3)).add k) = some v) : ∃ b o, a.block = b ∧ a.off = o ∧ (0 < i * 3 + k → w.cell? ⟨b, o + i * 3 + k, none⟩ = some v) ∧ (i * 3 + k = 0 → w.cell? a = some v) := by
  refine ⟨_, _, rfl, rfl, fun hp => ?_, fun hz => ?_⟩
  · unfold Addr.add at h
    by_cases h1 : i * 3 = 0 <;> by_cases h2 : k = 0
    · omega
    · simpa [h1, h2] using h
    · simpa [h1, h2] using h
    · simpa [h1, h2] using h
  · unfold Addr.add at h
    rw [if_pos (show k = 0 by omega), if_pos (show i * 3 = 0 by omega)] at h
    exact h
def D.cell (p : D.P) : Nat → Value
  | 0 => .int .u8 p.k
  | 1 => .int .i64 p.n
  | _ => .string p.t
set_option maxRecDepth 100000 in
/-- Three cells that read as a piece. -/
theorem D.open3 {H : Type} {enc : TypeId × Value → H} {w : World} {base : Nat} {spare : Nat → Bool} {held : Bool} {fuel : Nat} {cs : List Value} {x : DataW H × List MemPlace} (hl : cs.length = 3)
    (h : DataW.trod enc Try.prog w base spare held fuel 53 cs = some x) :
    ∃ p : D.P, (∀ j, j < 3 → cs[j]? = some (D.cell p j)) ∧ (-9223372036854775808 ≤ p.n ∧ p.n ≤ 9223372036854775807) ∧ p.t.size ∈ x.1.weights Try.prog 53 := by
  obtain ⟨y0, y1, y2, n, hx, _, h0, h1, h2⟩ := Go.Deep.trod_struct3 Try.underlying53 h
  have k0 : Try.prog.cellsOf 5 = 1 := by kernel_rfl
  have k1 : Try.prog.cellsOf 3 = 1 := by kernel_rfl
  have k2 : Try.prog.cellsOf 9 = 1 := by kernel_rfl
  match cs, hl with
  | [c0, c1, c2], _ =>
    simp only [k0, k1, k2] at h0 h1 h2
    obtain ⟨n0, e0, _, _⟩ := DataW.trod_int Try.underlying5 h0
    obtain ⟨n1, e1, _, hw⟩ := DataW.trod_int Try.underlying3 h1
    obtain ⟨s2, e2, hy2, _⟩ := DataW.trod_string Try.underlying9 h2
    simp at e0 e1 e2
    refine ⟨⟨n0, n1, s2⟩, fun j hj => ?_, ?_, ?_⟩
    · rcases (show j = 0 ∨ j = 1 ∨ j = 2 by omega) with rfl | rfl | rfl
      · rw [e0]; rfl
      · rw [e1]; rfl
      · rw [e2]; rfl
    · simp only [Lit.wf, Bool.and_eq_true, decide_eq_true_eq] at hw
      exact hw
    · rw [hx, hy2]
      simp [DataW.weights, Try.underlying53, DataW.weightsEach]
theorem D.weights_all {H : Type} {e : TypeId} {n : Nat} : ∀ {ds : List (DataW H)} {d : DataW H}, d ∈ ds → n ∈ d.weights Try.prog e → n ∈ DataW.weightsAll Try.prog e ds
  | [], _, h, _ => by cases h
  | c :: r, d, h, hn => by
    rw [DataW.weightsAll, List.mem_append]
    rcases List.mem_cons.1 h with rfl | h
    · exact .inl hn
    · exact .inr (D.weights_all h hn)
set_option maxRecDepth 100000 in
theorem D.open_rows {H : Type} {enc : TypeId × Value → H} {w : World} {base : Nat} {spare : Nat → Bool} {held : Bool} {fuel : Nat} {cs : List Value} {x : DataW H × List MemPlace}
    (h : DataW.trod enc Try.prog w base spare held fuel 39 cs = some x) (hz : ∀ n ∈ x.1.weights Try.prog 39, n ≤ reachBytes) :
    ∃ s : D.Src, cs = [.slice s.a s.x.length s.c] ∧ D.ArgOk w s := by
  rcases Go.Deep.open_slice Try.underlying39 h with ⟨rfl, rfl⟩ | ⟨a, len, cap, m, n, Dd, Pl, rfl, _, hl, hcm, hm, rfl, hi⟩
  · exact ⟨⟨none, 0, []⟩, rfl, ⟨⟨fun i p hp => by simp at hp, Nat.zero_le _, fun p hp => (by cases hp), fun _ => rfl⟩, fun p hp => (by cases hp), Nat.zero_le _, Nat.zero_le _⟩⟩
  · have hlm : len ≤ m := by rw [hm]; split <;> omega
    have hC : Try.prog.cellsOf 53 = 3 := by kernel_rfl
    have hBy : Try.prog.bytesOf 53 = 32 := by kernel_rfl
    rw [hC] at hi
    obtain ⟨F, hF⟩ := Go.Deep.choose_lt (α := D.P) (n := len) (p := fun i p => (∀ j, j < 3 → w.cell? ((a.add (i * 3)).add j) = some (D.cell p j)) ∧ (-9223372036854775808 ≤ p.n ∧ p.n ≤ 9223372036854775807) ∧ p.t.size ∈ (Dd i).weights Try.prog 53) (fun i hil => by
      obtain ⟨cs', hc, ht⟩ := hi i (by omega)
      obtain ⟨_, hcl, hat⟩ := World.cells?_some hc
      obtain ⟨p, hp, hn, hw⟩ := D.open3 hcl ht
      exact ⟨p, fun j hj => (hat j hj).trans (hp j hj), hn, hw⟩)
    have hlen : ((List.range len).map F).length = len := by simp
    have hmem : ∀ p ∈ (List.range len).map F, ∃ i, i < len ∧ F i = p := fun p hp => by
      obtain ⟨i, hi, e⟩ := List.mem_map.1 hp
      exact ⟨i, List.mem_range.1 hi, e⟩
    have hr : reachBytes = 140737488351232 := rfl
    refine ⟨⟨some a, cap, (List.range len).map F⟩, by rw [hlen], ⟨⟨fun i p hp => ?_, ?_, fun p hp => ?_, fun e => by cases e⟩, fun p hp => ?_, ?_, by rw [hlen]; omega⟩⟩
    · have hil : i < len := by have := (List.getElem?_eq_some_iff.1 hp).1; rwa [hlen] at this
      have hFi : F i = p := by
        rw [List.getElem?_map, List.getElem?_range hil] at hp
        simpa using hp
      subst hFi
      have hspot : a = ⟨a.block, a.off, none⟩ := by
        have h0 := (hF 0 (by omega)).1 0 (by omega)
        rw [show a.add (0 * 3) = a from rfl, show a.add 0 = a from rfl] at h0
        have : a.spot = none := by
          exact cell_spot (b := a.block) (o := a.off) (sp := a.spot) h0
        cases a; simp at this ⊢; exact this
      have hat : ∀ j, j < 3 → w.cell? ⟨a.block, a.off + i * 3 + j, none⟩ = some (D.cell (F i) j) := fun j hj => by
        have h0 := (hF i hil).1 j hj
        obtain ⟨b, o, rfl, rfl, hp, hz⟩ := D.cell3' h0
        rcases Nat.eq_zero_or_pos (i * 3 + j) with he | he
        · have := hz he
          rw [show a.off + i * 3 + j = a.off by omega, ← hspot]; exact this
        · exact hp he
      refine ⟨a.block, a.off, by rw [← hspot], ?_, hat 0 (by omega), hat 1 (by omega), hat 2 (by omega)⟩
      exact World.block_lt_of_cell? w ⟨a.block, a.off + i * 3 + 0, none⟩ (hat 0 (by omega))
    · rw [hlen]; omega
    · obtain ⟨i, hil, rfl⟩ := hmem p hp
      have := hz (F i).t.size (by
        simp only [DataW.weights, Try.underlying39, List.mem_cons, List.mem_append]
        exact .inr (.inl (D.weights_all (List.mem_map.2 ⟨i, List.mem_range.2 hil, rfl⟩) (hF i hil).2.2)))
      omega
    · obtain ⟨i, hil, rfl⟩ := hmem p hp
      exact (hF i hil).2.1
    · have := hz (((List.range len).map Dd).length * 32 + ((List.range (m - len)).map fun j => Dd (len + j)).length * 32) (by
        simp only [DataW.weights, Try.underlying39, List.mem_cons, hBy]
        exact .inl (by rw [Nat.add_mul]))
      simp only [List.length_map, List.length_range] at this ⊢
      omega
set_option maxRecDepth 100000 in
theorem D.open_arg {H : Type} {enc : TypeId × Value → H} {w : World} {base : Nat} {spare : Nat → Bool} {held : Bool} {r : Reach} {b0 : Nat} {v : Value} {d : DataW H} {p : List MemPlace} (hv : Value.okWide Try.prog w r b0 39 v)
    (h : DataW.Trod enc Try.prog w base spare held 39 v d p) (hz : ∀ n ∈ d.weights Try.prog 39, n ≤ reachBytes) : ∃ s : D.Src, v = .slice s.a s.x.length s.c ∧ D.ArgOk w s := by
  obtain ⟨sa, sl, sc, rfl⟩ := okWide_slice Try.underlying39 hv
  obtain ⟨fu, hfu⟩ := h
  obtain ⟨s, hcs, hs⟩ := D.open_rows hfu hz
  refine ⟨s, ?_, hs⟩
  simpa [Value.cells] using hcs
theorem D.int_bd {a : Int} (h : (Lit.int .i64 a).wf = true) : -9223372036854775808 ≤ a ∧ a < 9223372036854775808 := by
  simp only [Lit.wf, Bool.and_eq_true, decide_eq_true_eq] at h
  have h1 : (-9223372036854775808 : Int) ≤ a := h.1
  have h2 : a ≤ (9223372036854775807 : Int) := h.2
  omega
theorem D.reach {H : Type} {ts : List TypeId} {ds : List (DataW H)} (h : (DataW.weightsEach Try.prog ts ds).all (· ≤ reachBytes) = true) {j : Nat} {t : TypeId} {d : DataW H} (ht : ts[j]? = some t) (hd : ds[j]? = some d) : ∀ n ∈ d.weights Try.prog t, n ≤ reachBytes := fun n hn => by
  simpa using List.all_eq_true.1 h _ (DataW.weights_mem_each ht hd n hn)
end Go.Proofs.Ytmbgcbgbdjiacaa
