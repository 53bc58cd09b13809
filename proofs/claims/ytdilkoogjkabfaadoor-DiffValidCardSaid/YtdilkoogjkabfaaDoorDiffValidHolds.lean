/- Proved: quartolaw08.DiffValid returns true for every input and leaves its arguments as they were.
   Conditions: the table quarto/runes.bases holds what its declaration lays (the card ties this to the program's text; the tie speaks of the pruned copy of the repository); each string takes at most 2^47 - 4096 bytes (the form's own bound). -/
import Derived.Test.YtdilkoogjkabfaaDoorDiffRowKit
import Derived.Test.YtdilkoogjkabfaaDoorDiffLaws3
import Derived.SevenTiedAt
namespace Go.Proofs.YtdilkoogjkabfaaDoor
open Go Go.ChangeShapes Go.WideShapes Go.ChangeAt Go.WideMaps Go.WideElems Go.RowKit
open Go.ChangeMaps (open_string shut_string)

set_option maxRecDepth 100000 in
theorem diffValid_lifted (os : Os) (started : os.Started) (H : Type) (enc : TypeId × Value → H) :
    ReturnsInHanded {} Tryd.checked os 3 .any (fun w args => (Rows.diffValidSpec.pre enc Tryd.prog Tryd.f3 [] false w args ∧ laidMetH Tryd.prog U.laid w) ∧ sizedMet enc Tryd.prog Tryd.f3 (OpenSpec.ofChange Rows.diffValidSpec) false w args)
      (Rows.diffValidSpec.post enc Tryd.prog Tryd.f3 false true false false) := by
  refine returnsInHanded_of_change_and (C := Tryd.checked) (X := fun w _ => laidMetH Tryd.prog U.laid w) (fun _ _ _ hh h => h.of_heap hh) Tryd.own started (by kernel_rfl) Tryd.func3
    (ChangeSpec.witness_shaped (enc := enc) (C := Tryd.checked) (os := os) (X := fun w _ => laidMetH Tryd.prog U.laid w) false (World.laidAll Tryd.prog os U.laid) #[.string ⟨#[]⟩, .string ⟨#[]⟩] 8 rfl (U.shaped os _) (by kernel_rfl) (by kernel_rfl) (by kernel_rfl) (U.laid_met os _)) ?_
  intro W base args ds gs before hval0 hW _ hsz hL _
  have hval : ∀ (j : Nat) t v, Tryd.f3.params[j]? = some t → args[j]? = some v → Value.okWide Tryd.prog W .any base t v := hval0
  have hW' := hW
  obtain ⟨p, q, hA0, hV, rfl, hfz, hnd⟩ := hW
  have hA : DataW.TrodAll enc Tryd.prog W 0 (fun _ => true) true Tryd.f3.params.toList args.toList ds p := hA0
  rw [Tryd.params3] at hA hval
  obtain ⟨v0, v1, d0, d1, p0, p1, rfl, rfl, rfl, h0, h1⟩ := trodAll_two hA
  obtain ⟨rfl, rfl⟩ := trodVars_none hV
  obtain ⟨a0, rfl, rfl, rfl, wa0⟩ := open_string Tryd.underlying9 (hval 0 9 v0 rfl rfl) h0
  have rs0 := U.reach hsz (j := 0) rfl rfl
  obtain ⟨a1, rfl, rfl, rfl, wa1⟩ := open_string Tryd.underlying9 (hval 1 9 v1 rfl rfl) h1
  have rs1 := U.reach hsz (j := 1) rfl rfl
  have ht := U.tab_of_laid hL
  refine (diffValid_walk a0 a1 W rs0 rs1 ht).mono fun e W' ⟨he, hw⟩ => ?_
  subst he
  have e1 : (Rows.diffValidSpec.fn H ([.lit (.string a0.data.toList), .lit (.string a1.data.toList)] ++ [])) = { results := [.lit (.bool true)], args := [.lit (.string a0.data.toList), .lit (.string a1.data.toList)] } := by simp [Rows.diffValidSpec]
  refine ⟨_, rfl, _, _, _, [], [], [], hW', ?_, ?_, ?_, hw.frame _, fun h => by cases h⟩
  · rw [e1]; exact trodAll_mk1 (shut_bool Tryd.underlying4 true)
  · rw [e1]; exact trodAll_mk2 (shut_string Tryd.underlying9 wa0) (shut_string Tryd.underlying9 wa1)
  · rw [e1]; rfl
theorem diffValid_holds : Rows.DiffValidSaid :=
  OpenClaim.holds_of_wide 3 Tryd.f3 rfl rfl rfl rfl rfl rfl rfl ⟨rfl, rfl, rfl, rfl, rfl⟩ rfl rfl rfl rfl rfl (by kernel_rfl) Tryd.func3 (by kernel_rfl)
    (of_decide_eq_true (by kernel_rfl)) (by unfold Func.isWrapper; first | (rw [if_pos (by decide +kernel)]; kernel_rfl) | (rw [if_neg (by decide +kernel)]; exact ⟨rfl, rfl⟩))
    (fun os started H enc _ => diffValid_lifted os started H enc)
/-- The card: the row's one listed variable is tied to the program's text. -/
theorem diffValid_card_holds : Rows.DiffValidCardSaid :=
  Claim7.holds_tied_plain_at .later [] [.data] true Rows.diffValidCard.stood.harness false
    diffValid_holds (fun _ h => by cases h) (by kernel_rfl) (fun _ h => by cases h) diffValid_row_tie rfl ⟨rfl, rfl⟩ (by kernel_rfl) rfl
    (fun f fn hf hfn => by
      obtain rfl : f = 3 := Option.some.inj ((show Tryd.prog.funcNamed Tryd.f3.name = some 3 by kernel_rfl).symm.trans hf) |>.symm
      obtain rfl : fn = Tryd.f3 := (Option.some.inj (Tryd.func3.symm.trans hfn)).symm
      exact ⟨by kernel_rfl, fun j t ht => by
        rw [Tryd.params3] at ht
        have hm : t ∈ [9,9] := by simpa using Array.mem_of_getElem? ht
        have hall : ([9,9].all fun u => !Tryd.prog.wantsStandIn u) = true := by kernel_rfl
        exact (show Tryd.prog.wantsStandIn t = false by simpa using List.all_eq_true.1 hall t hm)⟩)
    (by kernel_rfl)
#print axioms diffValid_card_holds
end Go.Proofs.YtdilkoogjkabfaaDoor
