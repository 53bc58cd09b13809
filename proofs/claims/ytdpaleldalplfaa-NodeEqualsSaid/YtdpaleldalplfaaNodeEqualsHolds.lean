/- Proved: quartolaw12.NodeEquals returns true for every input and leaves its arguments as they were.
   Conditions: each slice and each string takes at most 2^47 - 4096 bytes (the form's own bound). -/
import Derived.Test.YtdpaleldalplfaaNodeArgs
import Derived.Test.YtdpaleldalplfaaNodeLaws7
namespace Go.Proofs.Ytdpaleldalplfaa
open Go Go.ChangeShapes Go.WideShapes Go.ChangeAt Go.WideMaps Go.WideElems Go.RowKit
open Go.ChangeMaps (open_string shut_string)

set_option maxRecDepth 100000 in
theorem nodeEquals_lifted (os : Os) (started : os.Started) (H : Type) (enc : TypeId × Value → H) :
    ReturnsInHanded {} Try.checked os 6 .any (Rows.nodeEqualsSpec.pre6 enc Try.prog Try.f6 Rows.nodeEqualsRow.domain false) (Rows.nodeEqualsSpec.post enc Try.prog Try.f6 false true false false) := by
  refine returnsInHanded_of_change_sized (C := Try.checked) Try.own started (by kernel_rfl) Try.func6
    (ChangeSpec.witness6 (enc := enc) (C := Try.checked) false ⟨#[], #[.agg #[.int .i64 0, .string ⟨#[]⟩, .slice none 0 0], .agg #[.int .i64 0, .string ⟨#[]⟩, .slice none 0 0]], []⟩ 8 (by kernel_rfl) (by kernel_rfl) (by kernel_rfl) (by kernel_rfl)) ?_
  intro W base args ds gs before hval0 hW _ hsz _
  have hval : ∀ (j : Nat) t v, Try.f6.params[j]? = some t → args[j]? = some v → Value.okWide Try.prog W .any base t v := hval0
  have hW' := hW
  obtain ⟨p, q, hA0, hV, rfl, hfz, hnd⟩ := hW
  have hA : DataW.TrodAll enc Try.prog W 0 (fun _ => true) true Try.f6.params.toList args.toList ds p := hA0
  rw [Try.params6] at hA hval
  obtain ⟨v0, v1, d0, d1, p0, p1, rfl, rfl, rfl, h0, h1⟩ := trodAll_two hA
  obtain ⟨rfl, rfl⟩ := trodVars_none hV
  obtain ⟨s0, hv0, hs0⟩ := N.open_node (hval 0 24 v0 rfl rfl) h0 (D.reach hsz (j := 0) rfl rfl)
  subst hv0
  obtain ⟨s1, hv1, hs1⟩ := N.open_node (hval 1 24 v1 rfl rfl) h1 (D.reach hsz (j := 1) rfl rfl)
  subst hv1
  refine (nodeEquals_walk s0 s1 W hs0 hs1).mono fun e W' ⟨he, hw⟩ => ?_
  subst he
  have e1 : (Rows.nodeEqualsSpec.fn H ([d0, d1] ++ [])) = { results := [.lit (.bool true)], args := [d0, d1] } := by simp [Rows.nodeEqualsSpec]
  refine ⟨_, rfl, _, _, _, [], p0 ++ p1, [], hW', ?_, ?_, ?_, hw.frame _, fun h => by cases h⟩
  · rw [e1]; exact trodAll_mk1 (shut_bool Try.underlying4 true)
  · rw [e1]; exact trodAll_mk2 (Below.trod Try.laidOut (by kernel_rfl) (of_decide_eq_true (by kernel_rfl)) h0 hw (D.trod_lt h0)) (Below.trod Try.laidOut (by kernel_rfl) (of_decide_eq_true (by kernel_rfl)) h1 hw (D.trod_lt h1))
  · rw [e1]; rfl
theorem nodeEquals_holds : Rows.NodeEqualsSaid :=
  OpenClaim.holds_of_wide 6 Try.f6 rfl rfl rfl rfl rfl rfl rfl ⟨rfl, rfl, rfl, rfl, rfl⟩ rfl rfl rfl rfl rfl (by kernel_rfl) Try.func6 (by kernel_rfl)
    (of_decide_eq_true (by kernel_rfl)) (by unfold Func.isWrapper; first | (rw [if_pos (by decide +kernel)]; kernel_rfl) | (rw [if_neg (by decide +kernel)]; exact ⟨rfl, rfl⟩))
    (fun os started H enc _ => nodeEquals_lifted os started H enc)
#print axioms nodeEquals_holds
end Go.Proofs.Ytdpaleldalplfaa
