/- Proved: quartolaw09.MarkReturns returns true for every input and leaves its arguments as they were.
   Conditions: each slice and each string takes at most 2^47 - 4096 bytes (the form's own bound). -/
import Derived.Test.YtmbgcbgbdjiacaaPackMLaw
import Derived.Test.YtmbgcbgbdjiacaaMarkLaws5
namespace Go.Proofs.Ytmbgcbgbdjiacaa
open Go Go.ChangeShapes Go.WideShapes Go.ChangeAt Go.WideMaps Go.WideElems Go.RowKit
open Go.ChangeMaps (open_string shut_string)

set_option maxRecDepth 100000 in
theorem markReturns_lifted (os : Os) (started : os.Started) (H : Type) (enc : TypeId × Value → H) :
    ReturnsInHanded {} Try.checked os 9 .any (Rows.markReturnsSpec.pre6 enc Try.prog Try.f9 Rows.markReturnsRow.domain false) (Rows.markReturnsSpec.post enc Try.prog Try.f9 false true false false) := by
  refine returnsInHanded_of_change_sized (C := Try.checked) Try.own started (by kernel_rfl) Try.func9
    (ChangeSpec.witness6 (enc := enc) (C := Try.checked) false ⟨#[], #[.string ⟨#[]⟩, .slice none 0 0, .slice none 0 0], []⟩ 8 (by kernel_rfl) (by kernel_rfl) (by kernel_rfl) (by kernel_rfl)) ?_
  intro W base args ds gs before hval0 hW _ hsz _
  have hval : ∀ (j : Nat) t v, Try.f9.params[j]? = some t → args[j]? = some v → Value.okWide Try.prog W .any base t v := hval0
  have hW' := hW
  obtain ⟨p, q, hA0, hV, rfl, hfz, hnd⟩ := hW
  have hA : DataW.TrodAll enc Try.prog W 0 (fun _ => true) true Try.f9.params.toList args.toList ds p := hA0
  rw [Try.params9] at hA hval
  obtain ⟨v0, v1, v2, d0, d1, d2, p0, p1, p2, rfl, rfl, rfl, h0, h1, h2⟩ := trodAll_three hA
  obtain ⟨rfl, rfl⟩ := trodVars_none hV
  obtain ⟨a0, rfl, rfl, rfl, wa0⟩ := open_string Try.underlying9 (hval 0 9 v0 rfl rfl) h0
  have rs0 := A.string_reach hsz (j := 0) rfl rfl
  obtain ⟨s1, hv1, hs1⟩ := K.open_arg (hval 1 22 v1 rfl rfl) h1 (D.reach hsz (j := 1) rfl rfl)
  subst hv1
  obtain ⟨s2, hv2, hs2⟩ := D.open_arg (hval 2 39 v2 rfl rfl) h2 (D.reach hsz (j := 2) rfl rfl)
  subst hv2
  refine (markReturns_walk a0 s1 s2 W rs0 hs1 hs2).mono fun e W' ⟨he, hw⟩ => ?_
  subst he
  have e1 : (Rows.markReturnsSpec.fn H ([.lit (.string a0.data.toList), d1, d2] ++ [])) = { results := [.lit (.bool true)], args := [.lit (.string a0.data.toList), d1, d2] } := by simp [Rows.markReturnsSpec]
  refine ⟨_, rfl, _, _, _, [], [] ++ (p1 ++ p2), [], hW', ?_, ?_, ?_, hw.frame _, fun h => by cases h⟩
  · rw [e1]; exact trodAll_mk1 (shut_bool Try.underlying4 true)
  · rw [e1]; exact trodAll_mk3 (shut_string Try.underlying9 wa0) (Below.trod Try.laidOut (by kernel_rfl) (of_decide_eq_true (by kernel_rfl)) h1 hw (D.trod_lt h1)) (Below.trod Try.laidOut (by kernel_rfl) (of_decide_eq_true (by kernel_rfl)) h2 hw (D.trod_lt h2))
  · rw [e1]; rfl
theorem markReturns_holds : Rows.MarkReturnsSaid :=
  OpenClaim.holds_of_wide 9 Try.f9 rfl rfl rfl rfl rfl rfl rfl ⟨rfl, rfl, rfl, rfl, rfl⟩ rfl rfl rfl rfl rfl (by kernel_rfl) Try.func9 (by kernel_rfl)
    (of_decide_eq_true (by kernel_rfl)) (by unfold Func.isWrapper; first | (rw [if_pos (by decide +kernel)]; kernel_rfl) | (rw [if_neg (by decide +kernel)]; exact ⟨rfl, rfl⟩))
    (fun os started H enc _ => markReturns_lifted os started H enc)
#print axioms markReturns_holds
end Go.Proofs.Ytmbgcbgbdjiacaa
