/- Proved: quartolaw11.FreelistExamples returns true for every input and leaves its arguments as they were.
   Conditions: the library's tables (internal/strconv.uint64pow10, math/bits.deBruijn32tab, math/bits.deBruijn64tab) hold what their declarations lay (the card ties this to the program's text; the tie speaks of the pruned copy of the repository); each string and each slice takes at most 2^47 - 4096 bytes (the form's own bound). -/
import Derived.Test.YtndpknkdmaojaaaDoorFreeArgs
import Derived.Test.YtndpknkdmaojaaaDoorFreeLaws7
import Derived.SevenTiedAt
namespace Go.Proofs.YtndpknkdmaojaaaDoor
open Go Go.ChangeShapes Go.WideShapes Go.ChangeAt Go.WideMaps Go.WideElems Go.RowKit
open Go.ChangeMaps (open_string shut_string)

set_option maxRecDepth 100000 in
theorem freelistExamples_lifted (os : Os) (started : os.Started) (Y : Type) (enc : TypeId × Value → Y) :
    ReturnsInHanded {} Tryd.checked os 5 .any (fun w args => (Rows.freelistExamplesSpec.pre enc Tryd.prog Tryd.f5 [] false w args ∧ laidMetH Tryd.prog H.laid w) ∧ sizedMet enc Tryd.prog Tryd.f5 (OpenSpec.ofChange Rows.freelistExamplesSpec) false w args)
      (Rows.freelistExamplesSpec.post enc Tryd.prog Tryd.f5 false true false false) := by
  refine returnsInHanded_of_change_and (C := Tryd.checked) (X := fun w _ => laidMetH Tryd.prog H.laid w) (fun _ _ _ hh h => h.of_heap hh) Tryd.own started (by kernel_rfl) Tryd.func5
    (ChangeSpec.witness_shaped (enc := enc) (C := Tryd.checked) (os := os) (X := fun w _ => laidMetH Tryd.prog H.laid w) false (World.laidAll Tryd.prog os H.laid) #[] 8 rfl (H.shaped os _) (by kernel_rfl) (by kernel_rfl) (by kernel_rfl) (H.laid_met os _)) ?_
  intro W base args ds gs before hval0 hW _ hsz hL _
  have hval : ∀ (j : Nat) t v, Tryd.f5.params[j]? = some t → args[j]? = some v → Value.okWide Tryd.prog W .any base t v := hval0
  have hW' := hW
  obtain ⟨p, q, hA0, hV, rfl, hfz, hnd⟩ := hW
  have hA : DataW.TrodAll enc Tryd.prog W 0 (fun _ => true) true Tryd.f5.params.toList args.toList ds p := hA0
  rw [Tryd.params5] at hA hval
  obtain ⟨rfl, rfl, rfl⟩ := trodAll_none hA
  obtain ⟨rfl, rfl⟩ := trodVars_none hV
  have ht := H.pow_of_laid hL
  refine (freelistExamples_walk  W  ht).mono fun e W' ⟨he, hw⟩ => ?_
  subst he
  have e1 : (Rows.freelistExamplesSpec.fn Y ([] ++ [])) = { results := [.lit (.bool true)], args := [] } := by simp [Rows.freelistExamplesSpec]
  refine ⟨_, rfl, _, _, _, [], [], [], hW', ?_, ?_, ?_, hw.frame _, fun h => by cases h⟩
  · rw [e1]; exact trodAll_mk1 (shut_bool Tryd.underlying4 true)
  · rw [e1]; exact trodAll_mk0
  · rw [e1]; rfl
theorem freelistExamples_holds : Rows.FreelistExamplesSaid :=
  OpenClaim.holds_of_wide 5 Tryd.f5 rfl rfl rfl rfl rfl rfl rfl ⟨rfl, rfl, rfl, rfl, rfl⟩ rfl rfl rfl rfl rfl (by kernel_rfl) Tryd.func5 (by kernel_rfl)
    (of_decide_eq_true (by kernel_rfl)) (by unfold Func.isWrapper; first | (rw [if_pos (by decide +kernel)]; kernel_rfl) | (rw [if_neg (by decide +kernel)]; exact ⟨rfl, rfl⟩))
    (fun os started Y enc _ => freelistExamples_lifted os started Y enc)
/-- The card: the row's listed variables are tied to the program's text. -/
theorem freelistExamples_card_holds : Rows.FreelistExamplesCardSaid :=
  Claim7.holds_tied_plain_at .later [] [.data, .data, .data] true Rows.freelistExamplesCard.stood.harness false
    freelistExamples_holds (fun _ h => by cases h) (by kernel_rfl) (fun _ h => by cases h) freelistExamples_row_tie rfl ⟨rfl, rfl⟩ (by kernel_rfl) rfl
    (fun f fn hf hfn => by
      obtain rfl : f = 5 := Option.some.inj ((show Tryd.prog.funcNamed Tryd.f5.name = some 5 by kernel_rfl).symm.trans hf) |>.symm
      obtain rfl : fn = Tryd.f5 := (Option.some.inj (Tryd.func5.symm.trans hfn)).symm
      exact ⟨by kernel_rfl, fun j t ht => by
        rw [Tryd.params5] at ht
        simp at ht⟩)
    (by kernel_rfl)
#print axioms freelistExamples_card_holds
end Go.Proofs.YtndpknkdmaojaaaDoor
