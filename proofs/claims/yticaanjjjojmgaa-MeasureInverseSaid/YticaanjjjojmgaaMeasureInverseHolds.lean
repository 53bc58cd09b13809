/- Proved: quartolaw02.MeasureInverse returns true for every string and leaves it as it was. Condition: the string takes at most 2^47 - 4096 bytes (the form's own bound). -/
import Derived.Test.YticaanjjjojmgaaMeasRowKit
import Derived.Test.YticaanjjjojmgaaMeasLaws3
namespace Go.Proofs.Yticaanjjjojmgaa
open Go Go.ChangeShapes Go.WideShapes Go.ChangeAt Go.WideMaps Go.WideElems Go.RowKit
open Go.ChangeMaps (open_string shut_string)

set_option maxRecDepth 100000 in
theorem measureInverse_lifted (os : Os) (started : os.Started) (H : Type) (enc : TypeId × Value → H) :
    ReturnsInHanded {} Try.checked os 8 .any (Rows.measureInverseSpec.pre6 enc Try.prog Try.f8 Rows.measureInverseRow.domain false) (Rows.measureInverseSpec.post enc Try.prog Try.f8 false true false false) := by
  refine returnsInHanded_of_change_sized (C := Try.checked) Try.own started (by kernel_rfl) Try.func8
    (ChangeSpec.witness6 (enc := enc) (C := Try.checked) false ⟨#[], #[.string ⟨#[]⟩], []⟩ 8 (by kernel_rfl) (by kernel_rfl) (by kernel_rfl) (by kernel_rfl)) ?_
  intro W base args ds gs before hval0 hW _ hsz _
  have hval : ∀ (j : Nat) t v, Try.f8.params[j]? = some t → args[j]? = some v → Value.okWide Try.prog W .any base t v := hval0
  have hW' := hW
  obtain ⟨p, q, hA0, hV, rfl, hfz, hnd⟩ := hW
  have hA : DataW.TrodAll enc Try.prog W 0 (fun _ => true) true Try.f8.params.toList args.toList ds p := hA0
  rw [Try.params8] at hA hval
  obtain ⟨v0, d0, rfl, rfl, h0⟩ := trodAll_one hA
  obtain ⟨rfl, rfl⟩ := trodVars_none hV
  obtain ⟨a0, rfl, rfl, rfl, wa0⟩ := open_string Try.underlying9 (hval 0 9 v0 rfl rfl) h0
  have rs0 := U.reach hsz (j := 0) rfl rfl
  refine (measureInverse_walk a0 W rs0).mono fun e W' ⟨he, hw⟩ => ?_
  subst he
  have e1 : (Rows.measureInverseSpec.fn H ([.lit (.string a0.data.toList)] ++ [])) = { results := [.lit (.bool true)], args := [.lit (.string a0.data.toList)] } := by simp [Rows.measureInverseSpec]
  refine ⟨_, rfl, _, _, _, [], [], [], hW', ?_, ?_, ?_, hw.frame _, fun h => by cases h⟩
  · rw [e1]; exact trodAll_mk1 (shut_bool Try.underlying4 true)
  · rw [e1]; exact trodAll_mk1 (shut_string Try.underlying9 wa0)
  · rw [e1]; rfl
theorem measureInverse_holds : Rows.MeasureInverseSaid :=
  OpenClaim.holds_of_wide 8 Try.f8 rfl rfl rfl rfl rfl rfl rfl ⟨rfl, rfl, rfl, rfl, rfl⟩ rfl rfl rfl rfl rfl (by kernel_rfl) Try.func8 (by kernel_rfl)
    (of_decide_eq_true (by kernel_rfl)) (by unfold Func.isWrapper; first | (rw [if_pos (by decide +kernel)]; kernel_rfl) | (rw [if_neg (by decide +kernel)]; exact ⟨rfl, rfl⟩))
    (fun os started H enc _ => measureInverse_lifted os started H enc)
#print axioms measureInverse_holds
end Go.Proofs.Yticaanjjjojmgaa
