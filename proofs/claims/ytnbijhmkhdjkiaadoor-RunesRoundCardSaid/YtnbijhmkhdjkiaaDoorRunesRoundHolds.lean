/- Proved: quartolaw01.RunesRound returns true for every input and leaves its arguments as they were.
   Conditions: the table quarto/runes.bases holds what its declaration lays (the card ties this to the program's text; the tie speaks of the pruned copy of the repository); each string takes at most 2^47 - 4096 bytes (the form's own bound). -/
import Derived.Test.YtnbijhmkhdjkiaaDoorRunesRowKit
import Derived.Test.YtnbijhmkhdjkiaaDoorRunesLaws2
import Derived.SevenTiedAt
namespace Go.Proofs.YtnbijhmkhdjkiaaDoor
open Go Go.ChangeShapes Go.WideShapes Go.ChangeAt Go.WideMaps Go.WideElems Go.RowKit
open Go.ChangeMaps (open_string shut_string)

set_option maxRecDepth 100000 in
theorem runesRound_lifted (os : Os) (started : os.Started) (H : Type) (enc : TypeId × Value → H) :
    ReturnsInHanded {} Tryd.checked os 7 .any (fun w args => (Rows.runesRoundSpec.pre enc Tryd.prog Tryd.f7 [] false w args ∧ laidMetH Tryd.prog U.laid w) ∧ sizedMet enc Tryd.prog Tryd.f7 (OpenSpec.ofChange Rows.runesRoundSpec) false w args)
      (Rows.runesRoundSpec.post enc Tryd.prog Tryd.f7 false true false false) := by
  refine returnsInHanded_of_change_and (C := Tryd.checked) (X := fun w _ => laidMetH Tryd.prog U.laid w) (fun _ _ _ hh h => h.of_heap hh) Tryd.own started (by kernel_rfl) Tryd.func7
    (ChangeSpec.witness_shaped (enc := enc) (C := Tryd.checked) (os := os) (X := fun w _ => laidMetH Tryd.prog U.laid w) false (World.laidAll Tryd.prog os U.laid) #[.int .i64 0, .string ⟨#[]⟩, .string ⟨#[]⟩] 8 rfl (U.shaped os _) (by kernel_rfl) (by kernel_rfl) (by kernel_rfl) (U.laid_met os _)) ?_
  intro W base args ds gs before hval0 hW _ hsz hL _
  have hval : ∀ (j : Nat) t v, Tryd.f7.params[j]? = some t → args[j]? = some v → Value.okWide Tryd.prog W .any base t v := hval0
  have hW' := hW
  obtain ⟨p, q, hA0, hV, rfl, hfz, hnd⟩ := hW
  have hA : DataW.TrodAll enc Tryd.prog W 0 (fun _ => true) true Tryd.f7.params.toList args.toList ds p := hA0
  rw [Tryd.params7] at hA hval
  obtain ⟨v0, v1, v2, d0, d1, d2, p0, p1, p2, rfl, rfl, rfl, h0, h1, h2⟩ := trodAll_three hA
  obtain ⟨rfl, rfl⟩ := trodVars_none hV
  obtain ⟨a0, rfl, rfl, rfl, wa0⟩ := open_int Tryd.underlying3 (hval 0 3 v0 rfl rfl) h0
  obtain ⟨a1, rfl, rfl, rfl, wa1⟩ := open_string Tryd.underlying9 (hval 1 9 v1 rfl rfl) h1
  have rs1 := U.reach hsz (j := 1) rfl rfl
  obtain ⟨a2, rfl, rfl, rfl, wa2⟩ := open_string Tryd.underlying9 (hval 2 9 v2 rfl rfl) h2
  have rs2 := U.reach hsz (j := 2) rfl rfl
  have ht := U.tab_of_laid hL
  refine (runesRound_walk a0 a1 a2 W rs1 rs2 ht).mono fun e W' ⟨he, hw⟩ => ?_
  subst he
  have e1 : (Rows.runesRoundSpec.fn H ([.lit (.int .i64 a0), .lit (.string a1.data.toList), .lit (.string a2.data.toList)] ++ [])) = { results := [.lit (.bool true)], args := [.lit (.int .i64 a0), .lit (.string a1.data.toList), .lit (.string a2.data.toList)] } := by simp [Rows.runesRoundSpec]
  refine ⟨_, rfl, _, _, _, [], [], [], hW', ?_, ?_, ?_, hw.frame _, fun h => by cases h⟩
  · rw [e1]; exact trodAll_mk1 (shut_bool Tryd.underlying4 true)
  · rw [e1]; exact trodAll_mk3 (shut_int Tryd.underlying3 wa0) (shut_string Tryd.underlying9 wa1) (shut_string Tryd.underlying9 wa2)
  · rw [e1]; rfl
theorem runesRound_holds : Rows.RunesRoundSaid :=
  OpenClaim.holds_of_wide 7 Tryd.f7 rfl rfl rfl rfl rfl rfl rfl ⟨rfl, rfl, rfl, rfl, rfl⟩ rfl rfl rfl rfl rfl (by kernel_rfl) Tryd.func7 (by kernel_rfl)
    (of_decide_eq_true (by kernel_rfl)) (by unfold Func.isWrapper; first | (rw [if_pos (by decide +kernel)]; kernel_rfl) | (rw [if_neg (by decide +kernel)]; exact ⟨rfl, rfl⟩))
    (fun os started H enc _ => runesRound_lifted os started H enc)
/-- The card: the row's one listed variable is tied to the program's text. -/
theorem runesRound_card_holds : Rows.RunesRoundCardSaid :=
  Claim7.holds_tied_plain_at .later [] [.data] true Rows.runesRoundCard.stood.harness false
    runesRound_holds (fun _ h => by cases h) (by kernel_rfl) (fun _ h => by cases h) runesRound_row_tie rfl ⟨rfl, rfl⟩ (by kernel_rfl) rfl
    (fun f fn hf hfn => by
      obtain rfl : f = 7 := Option.some.inj ((show Tryd.prog.funcNamed Tryd.f7.name = some 7 by kernel_rfl).symm.trans hf) |>.symm
      obtain rfl : fn = Tryd.f7 := (Option.some.inj (Tryd.func7.symm.trans hfn)).symm
      exact ⟨by kernel_rfl, fun j t ht => by
        rw [Tryd.params7] at ht
        have hm : t ∈ [3,9,9] := by simpa using Array.mem_of_getElem? ht
        have hall : ([3,9,9].all fun u => !Tryd.prog.wantsStandIn u) = true := by kernel_rfl
        exact (show Tryd.prog.wantsStandIn t = false by simpa using List.all_eq_true.1 hall t hm)⟩)
    (by kernel_rfl)
#print axioms runesRound_card_holds
end Go.Proofs.YtnbijhmkhdjkiaaDoor
