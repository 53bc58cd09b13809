/- Proved: quartolaw02.MeasureSums returns true for every slice of measures and any two measures, and leaves them as they were. Condition: the slice takes at most 2^47 - 4096 bytes (the form's own bound). -/
import Derived.Test.YticaanjjjojmgaaMeasRowKit
import Derived.Test.YticaanjjjojmgaaMeasLaws5
import Derived.Deep.Slices
import Derived.Lib.SmallJoins
import Derived.Lib.LaidU8
import Derived.Carry
namespace Go.Proofs.Yticaanjjjojmgaa
open Go Go.ChangeShapes Go.WideShapes Go.ChangeAt Go.WideMaps Go.WideElems Go.RowKit

theorem Try.laidOut : laidOutB Try.prog = true := by kernel_rfl
theorem M.cell3 {w : World} {a : Addr} {i k : Nat} {v : Value} (h : w.cell? ((a.add (i * 3)).add k) = some v) : ∃ b o, a.block = b ∧ a.off = o ∧ (0 < i * 3 + k → w.cell? ⟨b, o + i * 3 + k, none⟩ = some v) ∧ (i * 3 + k = 0 → w.cell? a = some v) := by
  refine ⟨_, _, rfl, rfl, fun hp => ?_, fun hz => ?_⟩
  · unfold Addr.add at h
    by_cases h1 : i * 3 = 0 <;> by_cases h2 : k = 0
    · omega
    · simpa [h1, h2] using h
    · simpa [h1, h2] using h
    · simpa [h1, h2] using h
  · unfold Addr.add at h
    rw [if_pos (show k = 0 by omega), if_pos (show i * 3 = 0 by omega)] at h
    exact h
/-- Three cells that read as a measure are three numbers. -/
theorem M.open3 {H : Type} {enc : TypeId × Value → H} {w : World} {base : Nat} {spare : Nat → Bool} {held : Bool} {fuel : Nat} {cs : List Value} {x : DataW H × List MemPlace} (hl : cs.length = 3)
    (h : DataW.trod enc Try.prog w base spare held fuel 23 cs = some x) : ∃ f : Nat → Int, ∀ j, j < 3 → cs[j]? = some (.int .i64 (f j)) := by
  obtain ⟨y0, y1, y2, n, _, _, h0, h1, h2⟩ := Go.Deep.trod_struct3 Try.underlying23 h
  have k3 : Try.prog.cellsOf 3 = 1 := by kernel_rfl
  match cs, hl with
  | [c0, c1, c2], _ =>
    simp only [k3] at h0 h1 h2
    obtain ⟨n0, e0, _⟩ := DataW.trod_int Try.underlying3 h0
    obtain ⟨n1, e1, _⟩ := DataW.trod_int Try.underlying3 h1
    obtain ⟨n2, e2, _⟩ := DataW.trod_int Try.underlying3 h2
    simp at e0 e1 e2
    refine ⟨M.at3 n0 n1 n2, fun j hj => ?_⟩
    rcases (show j = 0 ∨ j = 1 ∨ j = 2 by omega) with rfl | rfl | rfl
    · rw [e0]; rfl
    · rw [e1]; rfl
    · rw [e2]; rfl
theorem M.open_rows {H : Type} {enc : TypeId × Value → H} {w : World} {base : Nat} {spare : Nat → Bool} {held : Bool} {fuel : Nat} {cs : List Value} {x : DataW H × List MemPlace}
    (h : DataW.trod enc Try.prog w base spare held fuel 27 cs = some x) :
    ∃ (ao : Option Addr) (n cap : Nat) (F : Nat → Nat → Int), cs = [.slice ao n cap] ∧ (ao = none → n = 0 ∧ cap = 0) ∧ M.Row w ao n F ∧ ((x.1 = .nil ∧ n = 0) ∨ ∃ elems rest, x.1 = .slice elems rest ∧ elems.length = n) := by
  rcases Go.Deep.open_slice Try.underlying27 h with ⟨rfl, rfl⟩ | ⟨a, len, cap, m, n, D, Pl, rfl, _, hl, _, hm, rfl, hi⟩
  · exact ⟨none, 0, 0, fun _ _ => 0, rfl, fun _ => ⟨rfl, rfl⟩, fun i hi => absurd hi (Nat.not_lt_zero _), .inl ⟨rfl, rfl⟩⟩
  · have hlm : len ≤ m := by rw [hm]; split <;> omega
    have hC : Try.prog.cellsOf 23 = 3 := by kernel_rfl
    rw [hC] at hi
    obtain ⟨F, hF⟩ := Go.Deep.choose_lt (α := Nat → Int) (n := len) (p := fun i f => ∀ j, j < 3 → w.cell? ((a.add (i * 3)).add j) = some (.int .i64 (f j))) (fun i hil => by
      obtain ⟨cs', hc, ht⟩ := hi i (by omega)
      obtain ⟨_, hcl, hat⟩ := World.cells?_some hc
      obtain ⟨f, hf⟩ := M.open3 hcl ht
      exact ⟨f, fun j hj => (hat j hj).trans (hf j hj)⟩)
    refine ⟨some a, len, cap, F, rfl, (fun h => by cases h), fun i hil => ?_, .inr ⟨_, _, rfl, by simp⟩⟩
    have hspot : a = ⟨a.block, a.off, none⟩ := by
      have h0 := hF 0 (by omega) 0 (by omega)
      rw [show a.add (0 * 3) = a from rfl, show a.add 0 = a from rfl] at h0
      have : a.spot = none := cell_spot (b := a.block) (o := a.off) (sp := a.spot) h0
      cases a; simp at this ⊢; exact this
    refine ⟨a.block, a.off, by rw [← hspot], ?_, fun j hj => ?_⟩
    · have h0 := hF i hil 0 (by omega)
      have := World.block_lt_of_cell? w _ h0
      have hb : ∀ q r, ((a.add q).add r).block = a.block := fun q r => by unfold Addr.add; (repeat' split) <;> rfl
      rwa [hb] at this
    · have h0 := hF i hil j hj
      obtain ⟨b, o, rfl, rfl, hp, hz⟩ := M.cell3 h0
      rcases Nat.eq_zero_or_pos (i * 3 + j) with he | he
      · have := hz he
        rw [show a.off + i * 3 + j = a.off by omega, ← hspot]; exact this
      · exact hp he
theorem M.open_measure {H : Type} {enc : TypeId × Value → H} {w : World} {base : Nat} {spare : Nat → Bool} {held : Bool} {r : Reach} {b0 : Nat} {v : Value} {d : DataW H} {p : List MemPlace} (hv : Value.okWide Try.prog w r b0 23 v)
    (h : DataW.Trod enc Try.prog w base spare held 23 v d p) : ∃ a b c : Int, v = .agg #[.int .i64 a, .int .i64 b, .int .i64 c] := by
  obtain ⟨v0, v1, v2, y0, y1, y2, n, rfl, _, _, h0, h1, h2⟩ := Go.Joins.open_agg3 Try.underlying23 (by kernel_rfl) (by kernel_rfl) hv h
  obtain ⟨n0, e0, _⟩ := DataW.trod_int Try.underlying3 h0
  obtain ⟨n1, e1, _⟩ := DataW.trod_int Try.underlying3 h1
  obtain ⟨n2, e2, _⟩ := DataW.trod_int Try.underlying3 h2
  simp at e0 e1 e2
  exact ⟨n0, n1, n2, by rw [e0, e1, e2]⟩
theorem M.trod_lt {H : Type} {enc : TypeId × Value → H} {w : World} {base : Nat} {spare : Nat → Bool} {held : Bool} {t : TypeId} {v : Value} {d : DataW H} {p : List MemPlace} (h : DataW.Trod enc Try.prog w base spare held t v d p) : ∀ x ∈ p, x.block < w.heap.size := by
  obtain ⟨fuel, hf⟩ := h
  exact DataW.trod_lt fuel _ _ _ hf

set_option maxRecDepth 100000 in
theorem measureSums_lifted (os : Os) (started : os.Started) (H : Type) (enc : TypeId × Value → H) :
    ReturnsInHanded {} Try.checked os 4 .any (Rows.measureSumsSpec.pre6 enc Try.prog Try.f4 Rows.measureSumsRow.domain false) (Rows.measureSumsSpec.post enc Try.prog Try.f4 false true false false) := by
  refine returnsInHanded_of_change_sized (C := Try.checked) Try.own started (by kernel_rfl) Try.func4
    (ChangeSpec.witness6 (enc := enc) (C := Try.checked) false ⟨#[], #[.slice none 0 0, .agg #[.int .i64 0, .int .i64 0, .int .i64 0], .agg #[.int .i64 0, .int .i64 0, .int .i64 0]], []⟩ 8 (by kernel_rfl) (by kernel_rfl) (by kernel_rfl) (by kernel_rfl)) ?_
  intro W base args ds gs before hval0 hW _ hsz _
  have hval : ∀ (j : Nat) t v, Try.f4.params[j]? = some t → args[j]? = some v → Value.okWide Try.prog W .any base t v := hval0
  have hW' := hW
  obtain ⟨p, q, hA0, hV, rfl, hfz, hnd⟩ := hW
  have hA : DataW.TrodAll enc Try.prog W 0 (fun _ => true) true Try.f4.params.toList args.toList ds p := hA0
  rw [Try.params4] at hA hval
  obtain ⟨v0, v1, v2, d0, d1, d2, p0, p1, p2, rfl, rfl, rfl, h0, h1, h2⟩ := trodAll_three hA
  obtain ⟨rfl, rfl⟩ := trodVars_none hV
  obtain ⟨sa, sl, sc, rfl⟩ := okWide_slice Try.underlying27 (hval 0 27 v0 rfl rfl)
  obtain ⟨fu, hfu⟩ := h0
  have h0 : DataW.Trod enc Try.prog W 0 (fun _ => true) true 27 (.slice sa sl sc) d0 p0 := ⟨fu, hfu⟩
  obtain ⟨ao, n, cap, F, hcs, hao, hrow, hx⟩ := M.open_rows hfu
  obtain ⟨rfl, rfl, rfl⟩ : sa = ao ∧ sl = n ∧ sc = cap := by simpa [Value.cells] using hcs
  have hn : sl * 24 ≤ 140737488351232 := by
    rcases hx with ⟨_, rfl⟩ | ⟨el, re, hd, rfl⟩
    · omega
    · have hd' : d0 = .slice el re := hd
      have := sized_slice (j := 0) hsz rfl (by rw [hd']; rfl) Try.underlying27
      rw [show Try.checked.prog.bytesOf 23 = 24 by kernel_rfl] at this
      have h2 : reachBytes = 140737488351232 := rfl
      omega
  obtain ⟨a1, b1, c1, rfl⟩ := M.open_measure (hval 1 23 v1 rfl rfl) h1
  obtain ⟨a2, b2, c2, rfl⟩ := M.open_measure (hval 2 23 v2 rfl rfl) h2
  refine (measureSums_walk sa sl sc F a1 b1 c1 a2 b2 c2 W hn hao hrow).mono fun e W' ⟨he, hw⟩ => ?_
  subst he
  have e1 : (Rows.measureSumsSpec.fn H ([d0, d1, d2] ++ [])) = { results := [.lit (.bool true)], args := [d0, d1, d2] } := by simp [Rows.measureSumsSpec]
  refine ⟨_, rfl, _, _, _, [], p0 ++ (p1 ++ p2), [], hW', ?_, ?_, ?_, hw.frame _, fun h => by cases h⟩
  · rw [e1]; exact trodAll_mk1 (shut_bool Try.underlying4 true)
  · rw [e1]; exact trodAll_mk3 (Below.trod Try.laidOut (by kernel_rfl) (of_decide_eq_true (by kernel_rfl)) h0 hw (M.trod_lt h0)) (Below.trod Try.laidOut (by kernel_rfl) (of_decide_eq_true (by kernel_rfl)) h1 hw (M.trod_lt h1)) (Below.trod Try.laidOut (by kernel_rfl) (of_decide_eq_true (by kernel_rfl)) h2 hw (M.trod_lt h2))
  · rw [e1]; rfl
theorem measureSums_holds : Rows.MeasureSumsSaid :=
  OpenClaim.holds_of_wide 4 Try.f4 rfl rfl rfl rfl rfl rfl rfl ⟨rfl, rfl, rfl, rfl, rfl⟩ rfl rfl rfl rfl rfl (by kernel_rfl) Try.func4 (by kernel_rfl)
    (of_decide_eq_true (by kernel_rfl)) (by unfold Func.isWrapper; first | (rw [if_pos (by decide +kernel)]; kernel_rfl) | (rw [if_neg (by decide +kernel)]; exact ⟨rfl, rfl⟩))
    (fun os started H enc _ => measureSums_lifted os started H enc)
#print axioms measureSums_holds
end Go.Proofs.Yticaanjjjojmgaa
