/- Proved: quartolaw06.ShiftInverts returns true for every input and leaves its arguments as they were.
   Conditions: each slice and each string takes at most 2^47 - 4096 bytes (the form's own bound). -/
import Derived.Test.YtampekldlnlhdaaShiftRowKit
import Derived.Test.YtampekldlnlhdaaShiftLaws2
namespace Go.Proofs.Ytampekldlnlhdaa
open Go Go.ChangeShapes Go.WideShapes Go.ChangeAt Go.WideMaps Go.WideElems Go.RowKit
open Go.ChangeMaps (open_string shut_string)

set_option maxRecDepth 100000 in
theorem shiftInverts_lifted (os : Os) (started : os.Started) (H : Type) (enc : TypeId × Value → H) :
    ReturnsInHanded {} Try.checked os 11 .any (Rows.shiftInvertsSpec.pre6 enc Try.prog Try.f11 Rows.shiftInvertsRow.domain false) (Rows.shiftInvertsSpec.post enc Try.prog Try.f11 false true false false) := by
  refine returnsInHanded_of_change_sized (C := Try.checked) Try.own started (by kernel_rfl) Try.func11
    (ChangeSpec.witness6 (enc := enc) (C := Try.checked) false ⟨#[], #[.string ⟨#[]⟩, .slice none 0 0, .int .i64 0, .int .u8 0], []⟩ 8 (by kernel_rfl) (by kernel_rfl) (by kernel_rfl) (by kernel_rfl)) ?_
  intro W base args ds gs before hval0 hW _ hsz _
  have hval : ∀ (j : Nat) t v, Try.f11.params[j]? = some t → args[j]? = some v → Value.okWide Try.prog W .any base t v := hval0
  have hW' := hW
  obtain ⟨p, q, hA0, hV, rfl, hfz, hnd⟩ := hW
  have hA : DataW.TrodAll enc Try.prog W 0 (fun _ => true) true Try.f11.params.toList args.toList ds p := hA0
  rw [Try.params11] at hA hval
  obtain ⟨v0, v1, v2, v3, d0, d1, d2, d3, p0, p1, p2, p3, rfl, rfl, rfl, h0, h1, h2, h3⟩ := trodAll_four hA
  obtain ⟨rfl, rfl⟩ := trodVars_none hV
  obtain ⟨a0, rfl, rfl, rfl, wa0⟩ := open_string Try.underlying9 (hval 0 9 v0 rfl rfl) h0
  have rs0 := A.string_reach hsz (j := 0) rfl rfl
  obtain ⟨s1, hv1, hs1⟩ := D.open_arg (hval 1 22 v1 rfl rfl) h1 (D.reach hsz (j := 1) rfl rfl)
  subst hv1
  obtain ⟨a2, rfl, rfl, rfl, wa2⟩ := open_int Try.underlying3 (hval 2 3 v2 rfl rfl) h2
  have wb2 : -9223372036854775808 ≤ a2 ∧ a2 < 9223372036854775808 := D.int_bd wa2
  obtain ⟨a3, rfl, rfl, rfl, wa3⟩ := open_int Try.underlying5 (hval 3 5 v3 rfl rfl) h3
  have wb3 : 0 ≤ a3 ∧ a3 ≤ 255 := D.u8_bd wa3
  refine (shiftInverts_walk a0 s1 a2 a3 W rs0 hs1 wb2.1 wb2.2 wb3.1 wb3.2).mono fun e W' ⟨he, hw⟩ => ?_
  subst he
  have e1 : (Rows.shiftInvertsSpec.fn H ([.lit (.string a0.data.toList), d1, .lit (.int .i64 a2), .lit (.int .u8 a3)] ++ [])) = { results := [.lit (.bool true)], args := [.lit (.string a0.data.toList), d1, .lit (.int .i64 a2), .lit (.int .u8 a3)] } := by simp [Rows.shiftInvertsSpec]
  refine ⟨_, rfl, _, _, _, [], [] ++ (p1 ++ ([] ++ [])), [], hW', ?_, ?_, ?_, hw.frame _, fun h => by cases h⟩
  · rw [e1]; exact trodAll_mk1 (shut_bool Try.underlying4 true)
  · rw [e1]; exact trodAll_mk4 (shut_string Try.underlying9 wa0) (Below.trod Try.laidOut (by kernel_rfl) (of_decide_eq_true (by kernel_rfl)) h1 hw (D.trod_lt h1)) (shut_int Try.underlying3 wa2) (shut_int Try.underlying5 wa3)
  · rw [e1]; rfl
theorem shiftInverts_holds : Rows.ShiftInvertsSaid :=
  OpenClaim.holds_of_wide 11 Try.f11 rfl rfl rfl rfl rfl rfl rfl ⟨rfl, rfl, rfl, rfl, rfl⟩ rfl rfl rfl rfl rfl (by kernel_rfl) Try.func11 (by kernel_rfl)
    (of_decide_eq_true (by kernel_rfl)) (by unfold Func.isWrapper; first | (rw [if_pos (by decide +kernel)]; kernel_rfl) | (rw [if_neg (by decide +kernel)]; exact ⟨rfl, rfl⟩))
    (fun os started H enc _ => shiftInverts_lifted os started H enc)
#print axioms shiftInverts_holds
end Go.Proofs.Ytampekldlnlhdaa
