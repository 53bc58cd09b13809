/- Proved: quartolaw11.FreelistFresh returns true for every input and leaves its arguments as they were.
   Conditions: the library's tables (internal/strconv.uint64pow10, math/bits.deBruijn32tab, math/bits.deBruijn64tab) hold what their declarations lay (the card ties this to the program's text; the tie speaks of the pruned copy of the repository); each string and each slice takes at most 2^47 - 4096 bytes (the form's own bound). -/
import Derived.Test.YtndpknkdmaojaaaDoorFreeArgs
import Derived.Test.YtndpknkdmaojaaaDoorFreeLaws4
import Derived.SevenTiedAt
namespace Go.Proofs.YtndpknkdmaojaaaDoor
open Go Go.ChangeShapes Go.WideShapes Go.ChangeAt Go.WideMaps Go.WideElems Go.RowKit
open Go.ChangeMaps (open_string shut_string)

set_option maxRecDepth 100000 in
theorem freelistFresh_lifted (os : Os) (started : os.Started) (Y : Type) (enc : TypeId × Value → Y) :
    ReturnsInHanded {} Tryd.checked os 7 .any (fun w args => (Rows.freelistFreshSpec.pre enc Tryd.prog Tryd.f7 [] false w args ∧ laidMetH Tryd.prog H.laid w) ∧ sizedMet enc Tryd.prog Tryd.f7 (OpenSpec.ofChange Rows.freelistFreshSpec) false w args)
      (Rows.freelistFreshSpec.post enc Tryd.prog Tryd.f7 false true false false) := by
  refine returnsInHanded_of_change_and (C := Tryd.checked) (X := fun w _ => laidMetH Tryd.prog H.laid w) (fun _ _ _ hh h => h.of_heap hh) Tryd.own started (by kernel_rfl) Tryd.func7
    (ChangeSpec.witness_shaped (enc := enc) (C := Tryd.checked) (os := os) (X := fun w _ => laidMetH Tryd.prog H.laid w) false (World.laidAll Tryd.prog os H.laid) #[.int .i64 0, .int .i64 0, .slice none 0 0] 8 rfl (H.shaped os _) (by kernel_rfl) (by kernel_rfl) (by kernel_rfl) (H.laid_met os _)) ?_
  intro W base args ds gs before hval0 hW _ hsz hL _
  have hval : ∀ (j : Nat) t v, Tryd.f7.params[j]? = some t → args[j]? = some v → Value.okWide Tryd.prog W .any base t v := hval0
  have hW' := hW
  obtain ⟨p, q, hA0, hV, rfl, hfz, hnd⟩ := hW
  have hA : DataW.TrodAll enc Tryd.prog W 0 (fun _ => true) true Tryd.f7.params.toList args.toList ds p := hA0
  rw [Tryd.params7] at hA hval
  obtain ⟨v0, v1, v2, d0, d1, d2, p0, p1, p2, rfl, rfl, rfl, h0, h1, h2⟩ := trodAll_three hA
  obtain ⟨rfl, rfl⟩ := trodVars_none hV
  obtain ⟨a0, rfl, rfl, rfl, wa0⟩ := open_int Tryd.underlying3 (hval 0 3 v0 rfl rfl) h0
  have wb0 : -9223372036854775808 ≤ a0 ∧ a0 < 9223372036854775808 := H.i64_bd wa0
  obtain ⟨a1, rfl, rfl, rfl, wa1⟩ := open_int Tryd.underlying3 (hval 1 3 v1 rfl rfl) h1
  have wb1 : -9223372036854775808 ≤ a1 ∧ a1 < 9223372036854775808 := H.i64_bd wa1
  obtain ⟨s2, hv2, hs2⟩ := FL.open_arg (hval 2 22 v2 rfl rfl) h2 (D.reach hsz (j := 2) rfl rfl)
  subst hv2
  have ht := H.pow_of_laid hL
  refine (freelistFresh_walk a0 a1 s2 W wb0.1 wb0.2 wb1.1 wb1.2 hs2 ht).mono fun e W' ⟨he, hw⟩ => ?_
  subst he
  have e1 : (Rows.freelistFreshSpec.fn Y ([.lit (.int .i64 a0), .lit (.int .i64 a1), d2] ++ [])) = { results := [.lit (.bool true)], args := [.lit (.int .i64 a0), .lit (.int .i64 a1), d2] } := by simp [Rows.freelistFreshSpec]
  refine ⟨_, rfl, _, _, _, [], [] ++ ([] ++ p2), [], hW', ?_, ?_, ?_, hw.frame _, fun h => by cases h⟩
  · rw [e1]; exact trodAll_mk1 (shut_bool Tryd.underlying4 true)
  · rw [e1]; exact trodAll_mk3 (shut_int Tryd.underlying3 wa0) (shut_int Tryd.underlying3 wa1) (Below.trod Tryd.laidOut (by kernel_rfl) (of_decide_eq_true (by kernel_rfl)) h2 hw (D.trod_lt h2))
  · rw [e1]; rfl
theorem freelistFresh_holds : Rows.FreelistFreshSaid :=
  OpenClaim.holds_of_wide 7 Tryd.f7 rfl rfl rfl rfl rfl rfl rfl ⟨rfl, rfl, rfl, rfl, rfl⟩ rfl rfl rfl rfl rfl (by kernel_rfl) Tryd.func7 (by kernel_rfl)
    (of_decide_eq_true (by kernel_rfl)) (by unfold Func.isWrapper; first | (rw [if_pos (by decide +kernel)]; kernel_rfl) | (rw [if_neg (by decide +kernel)]; exact ⟨rfl, rfl⟩))
    (fun os started Y enc _ => freelistFresh_lifted os started Y enc)
/-- The card: the row's listed variables are tied to the program's text. -/
theorem freelistFresh_card_holds : Rows.FreelistFreshCardSaid :=
  Claim7.holds_tied_plain_at .later [] [.data, .data, .data] true Rows.freelistFreshCard.stood.harness false
    freelistFresh_holds (fun _ h => by cases h) (by kernel_rfl) (fun _ h => by cases h) freelistFresh_row_tie rfl ⟨rfl, rfl⟩ (by kernel_rfl) rfl
    (fun f fn hf hfn => by
      obtain rfl : f = 7 := Option.some.inj ((show Tryd.prog.funcNamed Tryd.f7.name = some 7 by kernel_rfl).symm.trans hf) |>.symm
      obtain rfl : fn = Tryd.f7 := (Option.some.inj (Tryd.func7.symm.trans hfn)).symm
      exact ⟨by kernel_rfl, fun j t ht => by
        rw [Tryd.params7] at ht
        have hm : t ∈ [3,3,22] := by simpa using Array.mem_of_getElem? ht
        have hall : ([3,3,22].all fun u => !Tryd.prog.wantsStandIn u) = true := by kernel_rfl
        exact (show Tryd.prog.wantsStandIn t = false by simpa using List.all_eq_true.1 hall t hm)⟩)
    (by kernel_rfl)
#print axioms freelistFresh_card_holds
end Go.Proofs.YtndpknkdmaojaaaDoor
