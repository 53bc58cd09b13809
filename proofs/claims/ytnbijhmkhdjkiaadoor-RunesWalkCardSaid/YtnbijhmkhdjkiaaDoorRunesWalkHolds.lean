/- Proved: quartolaw01.RunesWalk returns true for every input and leaves its arguments as they were.
   Conditions: the table quarto/runes.bases holds what its declaration lays (the card ties this to the program's text; the tie speaks of the pruned copy of the repository); each string takes at most 2^47 - 4096 bytes (the form's own bound). -/
import Derived.Test.YtnbijhmkhdjkiaaDoorRunesRowKit
import Derived.Test.YtnbijhmkhdjkiaaDoorRunesLaws6
import Derived.SevenTiedAt
namespace Go.Proofs.YtnbijhmkhdjkiaaDoor
open Go Go.ChangeShapes Go.WideShapes Go.ChangeAt Go.WideMaps Go.WideElems Go.RowKit
open Go.ChangeMaps (open_string shut_string)

set_option maxRecDepth 100000 in
theorem runesWalk_lifted (os : Os) (started : os.Started) (H : Type) (enc : TypeId × Value → H) :
    ReturnsInHanded {} Tryd.checked os 8 .any (fun w args => (Rows.runesWalkSpec.pre enc Tryd.prog Tryd.f8 [] false w args ∧ laidMetH Tryd.prog U.laid w) ∧ sizedMet enc Tryd.prog Tryd.f8 (OpenSpec.ofChange Rows.runesWalkSpec) false w args)
      (Rows.runesWalkSpec.post enc Tryd.prog Tryd.f8 false true false false) := by
  refine returnsInHanded_of_change_and (C := Tryd.checked) (X := fun w _ => laidMetH Tryd.prog U.laid w) (fun _ _ _ hh h => h.of_heap hh) Tryd.own started (by kernel_rfl) Tryd.func8
    (ChangeSpec.witness_shaped (enc := enc) (C := Tryd.checked) (os := os) (X := fun w _ => laidMetH Tryd.prog U.laid w) false (World.laidAll Tryd.prog os U.laid) #[.string ⟨#[]⟩] 8 rfl (U.shaped os _) (by kernel_rfl) (by kernel_rfl) (by kernel_rfl) (U.laid_met os _)) ?_
  intro W base args ds gs before hval0 hW _ hsz hL _
  have hval : ∀ (j : Nat) t v, Tryd.f8.params[j]? = some t → args[j]? = some v → Value.okWide Tryd.prog W .any base t v := hval0
  have hW' := hW
  obtain ⟨p, q, hA0, hV, rfl, hfz, hnd⟩ := hW
  have hA : DataW.TrodAll enc Tryd.prog W 0 (fun _ => true) true Tryd.f8.params.toList args.toList ds p := hA0
  rw [Tryd.params8] at hA hval
  obtain ⟨v0, d0, rfl, rfl, h0⟩ := trodAll_one hA
  obtain ⟨rfl, rfl⟩ := trodVars_none hV
  obtain ⟨a0, rfl, rfl, rfl, wa0⟩ := open_string Tryd.underlying9 (hval 0 9 v0 rfl rfl) h0
  have rs0 := U.reach hsz (j := 0) rfl rfl
  have ht := U.tab_of_laid hL
  refine (runesWalk_walk a0 W rs0 ht).mono fun e W' ⟨he, hw⟩ => ?_
  subst he
  have e1 : (Rows.runesWalkSpec.fn H ([.lit (.string a0.data.toList)] ++ [])) = { results := [.lit (.bool true)], args := [.lit (.string a0.data.toList)] } := by simp [Rows.runesWalkSpec]
  refine ⟨_, rfl, _, _, _, [], [], [], hW', ?_, ?_, ?_, hw.frame _, fun h => by cases h⟩
  · rw [e1]; exact trodAll_mk1 (shut_bool Tryd.underlying4 true)
  · rw [e1]; exact trodAll_mk1 (shut_string Tryd.underlying9 wa0)
  · rw [e1]; rfl
theorem runesWalk_holds : Rows.RunesWalkSaid :=
  OpenClaim.holds_of_wide 8 Tryd.f8 rfl rfl rfl rfl rfl rfl rfl ⟨rfl, rfl, rfl, rfl, rfl⟩ rfl rfl rfl rfl rfl (by kernel_rfl) Tryd.func8 (by kernel_rfl)
    (of_decide_eq_true (by kernel_rfl)) (by unfold Func.isWrapper; first | (rw [if_pos (by decide +kernel)]; kernel_rfl) | (rw [if_neg (by decide +kernel)]; exact ⟨rfl, rfl⟩))
    (fun os started H enc _ => runesWalk_lifted os started H enc)
/-- The card: the row's one listed variable is tied to the program's text. -/
theorem runesWalk_card_holds : Rows.RunesWalkCardSaid :=
  Claim7.holds_tied_plain_at .later [] [.data] true Rows.runesWalkCard.stood.harness false
    runesWalk_holds (fun _ h => by cases h) (by kernel_rfl) (fun _ h => by cases h) runesWalk_row_tie rfl ⟨rfl, rfl⟩ (by kernel_rfl) rfl
    (fun f fn hf hfn => by
      obtain rfl : f = 8 := Option.some.inj ((show Tryd.prog.funcNamed Tryd.f8.name = some 8 by kernel_rfl).symm.trans hf) |>.symm
      obtain rfl : fn = Tryd.f8 := (Option.some.inj (Tryd.func8.symm.trans hfn)).symm
      exact ⟨by kernel_rfl, fun j t ht => by
        rw [Tryd.params8] at ht
        have hm : t ∈ [9] := by simpa using Array.mem_of_getElem? ht
        have hall : ([9].all fun u => !Tryd.prog.wantsStandIn u) = true := by kernel_rfl
        exact (show Tryd.prog.wantsStandIn t = false by simpa using List.all_eq_true.1 hall t hm)⟩)
    (by kernel_rfl)
#print axioms runesWalk_card_holds
end Go.Proofs.YtnbijhmkhdjkiaaDoor
