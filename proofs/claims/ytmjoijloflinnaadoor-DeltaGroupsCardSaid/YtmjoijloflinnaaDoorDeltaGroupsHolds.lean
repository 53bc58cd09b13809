/- Proved: quartolaw03.DeltaGroups returns true for every input and leaves its arguments as they were.
   Conditions: the library's tables (internal/strconv.uint64pow10, math/bits.deBruijn32tab, math/bits.deBruijn64tab) hold what their declarations lay (the card ties this to the program's text; the tie speaks of the pruned copy of the repository); each slice and each string takes at most 2^47 - 4096 bytes (the form's own bound). -/
import Derived.Test.YtmjoijloflinnaaDoorDeltaRowKit
import Derived.Test.YtmjoijloflinnaaDoorDeltaLaws9
import Derived.SevenTiedAt
namespace Go.Proofs.YtmjoijloflinnaaDoor
open Go Go.ChangeShapes Go.WideShapes Go.ChangeAt Go.WideMaps Go.WideElems Go.RowKit
open Go.ChangeMaps (open_string shut_string)

set_option maxRecDepth 100000 in
theorem deltaGroups_lifted (os : Os) (started : os.Started) (H : Type) (enc : TypeId × Value → H) :
    ReturnsInHanded {} Tryd.checked os 12 .any (fun w args => (Rows.deltaGroupsSpec.pre enc Tryd.prog Tryd.f12 [] false w args ∧ laidMetH Tryd.prog D.laid w) ∧ sizedMet enc Tryd.prog Tryd.f12 (OpenSpec.ofChange Rows.deltaGroupsSpec) false w args)
      (Rows.deltaGroupsSpec.post enc Tryd.prog Tryd.f12 false true false false) := by
  refine returnsInHanded_of_change_and (C := Tryd.checked) (X := fun w _ => laidMetH Tryd.prog D.laid w) (fun _ _ _ hh h => h.of_heap hh) Tryd.own started (by kernel_rfl) Tryd.func12
    (ChangeSpec.witness_shaped (enc := enc) (C := Tryd.checked) (os := os) (X := fun w _ => laidMetH Tryd.prog D.laid w) false (World.laidAll Tryd.prog os D.laid) #[.slice none 0 0, .slice none 0 0, .slice none 0 0] 8 rfl (D.shaped os _) (by kernel_rfl) (by kernel_rfl) (by kernel_rfl) (D.laid_met os _)) ?_
  intro W base args ds gs before hval0 hW _ hsz hL _
  have hval : ∀ (j : Nat) t v, Tryd.f12.params[j]? = some t → args[j]? = some v → Value.okWide Tryd.prog W .any base t v := hval0
  have hW' := hW
  obtain ⟨p, q, hA0, hV, rfl, hfz, hnd⟩ := hW
  have hA : DataW.TrodAll enc Tryd.prog W 0 (fun _ => true) true Tryd.f12.params.toList args.toList ds p := hA0
  rw [Tryd.params12] at hA hval
  obtain ⟨v0, v1, v2, d0, d1, d2, p0, p1, p2, rfl, rfl, rfl, h0, h1, h2⟩ := trodAll_three hA
  obtain ⟨rfl, rfl⟩ := trodVars_none hV
  obtain ⟨s0, hv0, hs0⟩ := D.open_arg (hval 0 22 v0 rfl rfl) h0 (D.reach hsz (j := 0) rfl rfl)
  subst hv0
  obtain ⟨s1, hv1, hs1⟩ := D.open_arg (hval 1 22 v1 rfl rfl) h1 (D.reach hsz (j := 1) rfl rfl)
  subst hv1
  obtain ⟨s2, hv2, hs2⟩ := D.open_arg (hval 2 22 v2 rfl rfl) h2 (D.reach hsz (j := 2) rfl rfl)
  subst hv2
  have ht := D.pow_of_laid hL
  refine (deltaGroups_walk s0 s1 s2 W hs0 hs1 hs2 ht).mono fun e W' ⟨he, hw⟩ => ?_
  subst he
  have e1 : (Rows.deltaGroupsSpec.fn H ([d0, d1, d2] ++ [])) = { results := [.lit (.bool true)], args := [d0, d1, d2] } := by simp [Rows.deltaGroupsSpec]
  refine ⟨_, rfl, _, _, _, [], p0 ++ (p1 ++ p2), [], hW', ?_, ?_, ?_, hw.frame _, fun h => by cases h⟩
  · rw [e1]; exact trodAll_mk1 (shut_bool Tryd.underlying4 true)
  · rw [e1]; exact trodAll_mk3 (Below.trod Tryd.laidOut (by kernel_rfl) (of_decide_eq_true (by kernel_rfl)) h0 hw (D.trod_lt h0)) (Below.trod Tryd.laidOut (by kernel_rfl) (of_decide_eq_true (by kernel_rfl)) h1 hw (D.trod_lt h1)) (Below.trod Tryd.laidOut (by kernel_rfl) (of_decide_eq_true (by kernel_rfl)) h2 hw (D.trod_lt h2))
  · rw [e1]; rfl
theorem deltaGroups_holds : Rows.DeltaGroupsSaid :=
  OpenClaim.holds_of_wide 12 Tryd.f12 rfl rfl rfl rfl rfl rfl rfl ⟨rfl, rfl, rfl, rfl, rfl⟩ rfl rfl rfl rfl rfl (by kernel_rfl) Tryd.func12 (by kernel_rfl)
    (of_decide_eq_true (by kernel_rfl)) (by unfold Func.isWrapper; first | (rw [if_pos (by decide +kernel)]; kernel_rfl) | (rw [if_neg (by decide +kernel)]; exact ⟨rfl, rfl⟩))
    (fun os started H enc _ => deltaGroups_lifted os started H enc)
/-- The card: the row's listed variables are tied to the program's text. -/
theorem deltaGroups_card_holds : Rows.DeltaGroupsCardSaid :=
  Claim7.holds_tied_plain_at .later [] [.data, .data, .data] true Rows.deltaGroupsCard.stood.harness false
    deltaGroups_holds (fun _ h => by cases h) (by kernel_rfl) (fun _ h => by cases h) deltaGroups_row_tie rfl ⟨rfl, rfl⟩ (by kernel_rfl) rfl
    (fun f fn hf hfn => by
      obtain rfl : f = 12 := Option.some.inj ((show Tryd.prog.funcNamed Tryd.f12.name = some 12 by kernel_rfl).symm.trans hf) |>.symm
      obtain rfl : fn = Tryd.f12 := (Option.some.inj (Tryd.func12.symm.trans hfn)).symm
      exact ⟨by kernel_rfl, fun j t ht => by
        rw [Tryd.params12] at ht
        have hm : t ∈ [22,22,22] := by simpa using Array.mem_of_getElem? ht
        have hall : ([22,22,22].all fun u => !Tryd.prog.wantsStandIn u) = true := by kernel_rfl
        exact (show Tryd.prog.wantsStandIn t = false by simpa using List.all_eq_true.1 hall t hm)⟩)
    (by kernel_rfl)
#print axioms deltaGroups_card_holds
end Go.Proofs.YtmjoijloflinnaaDoor
