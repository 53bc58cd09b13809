/- Proved: quartolaw03.DeltaParses returns true for every input and leaves its arguments as they were.
   Conditions: the library's tables (internal/strconv.uint64pow10, math/bits.deBruijn32tab, math/bits.deBruijn64tab) hold what their declarations lay (the card ties this to the program's text; the tie speaks of the pruned copy of the repository); the bulk of what is read is at most 1048576 (the second form). -/
import Derived.Test.YtmjoijloflinnaaDoorDeltaRowKit
import Derived.Test.YtmjoijloflinnaaDoorDeltaLaws8
import Derived.SevenTiedAt
import Derived.Deep.DeepHandedRow
import Derived.Lib.LaidTab
namespace Go.Proofs.YtmjoijloflinnaaDoor
open Go Go.ChangeShapes Go.WideShapes Go.ChangeAt Go.WideMaps Go.WideElems Go.RowKit
open Go.ChangeMaps (open_string shut_string)
theorem D.bulk_one {H : Type} (d : DataW H) (s : List UInt8) (e : d = .lit (.string s)) : s.length ≤ Rows.uptoBulk d := by subst e; simp [Rows.uptoBulk]
theorem D.bulk {H : Type} {l : List (DataW H)} (h : Rows.uptoSmall H l = true) : Rows.uptoBulkAll l ≤ 1048576 := of_decide_eq_true h
theorem D.bulk_str {H : Type} {l : List (DataW H)} {s : List UInt8} (h : Rows.uptoBulkAll l ≤ 1048576) (hm : DataW.lit (.string s) ∈ l) : s.length ≤ 1048576 := by
  refine Nat.le_trans ?_ h
  clear h
  induction l with
  | nil => cases hm
  | cons x r ih =>
    simp only [Rows.uptoBulkAll]
    cases List.mem_cons.1 hm with
    | inl e => have := D.bulk_one x s e.symm; omega
    | inr e => have := ih e; omega

theorem deltaParses_reads (os : Os) {H : Type} (enc : TypeId × Value → H) : ∃ places, DataW.whole enc Tryd.prog ((World.laidAll Tryd.prog os D.laid).forCall (fun _ _ => 0) ⟨#[], #[.string ⟨#[]⟩], []⟩).memory Tryd.f9.params.toList Rows.deltaParsesSpec.vars false #[.string ⟨#[]⟩].toList 8 = some ([.lit (.string [])], [], places) := ⟨[], by kernel_rfl⟩
set_option maxRecDepth 100000 in
theorem deltaParses_lifted (os : Os) (started : os.Started) (H : Type) (enc : TypeId × Value → H) (F : Stop.Interp) :
    ReturnsInHanded {} Tryd.checked os 9 .any ((Rows.OpenSpec.upto Rows.deltaParsesSpec).preRow enc Tryd.prog Tryd.f9 Rows.deltaParsesUptoRow.domain false Rows.deltaParsesUptoRow.laid) (((Rows.OpenSpec.upto Rows.deltaParsesSpec).at F).post enc Tryd.prog Tryd.f9 false true false false) := by
  obtain ⟨places, hx⟩ := deltaParses_reads os enc
  refine returnsInHanded_of_row (C := Tryd.checked) (s := Rows.OpenSpec.upto Rows.deltaParsesSpec) Tryd.own started (by kernel_rfl) Tryd.func9
    (witness_row_at (enc := enc) (C := Tryd.checked) false (World.laidAll Tryd.prog os D.laid) #[.string ⟨#[]⟩] rfl (by kernel_rfl) (by kernel_rfl) (by kernel_rfl)
      (OpenSpec.preRow_of_cond 8 hx (by kernel_rfl) (fun k hk => by cases hk; kernel_rfl) (by kernel_rfl) (D.laid_met os _))) ?_
  intro W base args ds gs before hval0 hW _ hcond hsz hL _ _
  have hbulk := D.bulk (hcond _ rfl)
  have hval : ∀ (j : Nat) t v, Tryd.f9.params[j]? = some t → args[j]? = some v → Value.okWide Tryd.prog W .any base t v := hval0
  have hW' := hW
  obtain ⟨p, q, hA0, hV, rfl, hfz, hnd⟩ := hW
  have hA : DataW.TrodAll enc Tryd.prog W 0 (fun _ => true) true Tryd.f9.params.toList args.toList ds p := hA0
  rw [Tryd.params9] at hA hval
  obtain ⟨v0, d0, rfl, rfl, h0⟩ := trodAll_one hA
  obtain ⟨rfl, rfl⟩ := trodVars_none hV
  obtain ⟨a0, rfl, rfl, rfl, wa0⟩ := open_string Tryd.underlying9 (hval 0 9 v0 rfl rfl) h0
  have rs0 := D.reach hsz (j := 0) rfl rfl a0.data.toList.length (by simp [DataW.weights])
  have hl0 : a0.data.toList.length ≤ 1048576 := D.bulk_str hbulk (by simp)
  have ea0 : (⟨a0.data.toList.toArray⟩ : ByteArray) = a0 := by cases a0; simp
  have ht := D.pow_of_laid hL
  have hwalk := deltaParses_walk a0.data.toList W hl0 ht
  rw [ea0] at hwalk
  refine hwalk.mono fun e W' ⟨he, hw⟩ => ?_
  subst he
  have e1 : (((Rows.OpenSpec.upto Rows.deltaParsesSpec).at F).fn H ([.lit (.string a0.data.toList)] ++ [])) = { results := [.lit (.bool true)], args := [.lit (.string a0.data.toList)] } := by simp [Rows.deltaParsesSpec, Rows.OpenSpec.upto, OpenSpec.ofChange, OpenSpec.at]
  refine ⟨_, rfl, _, _, _, [], [], [], hW', ?_, ?_, ?_, hw.frame _, fun h => by cases h⟩
  · rw [e1]; exact trodAll_mk1 (shut_bool Tryd.underlying4 true)
  · rw [e1]; exact trodAll_mk1 (shut_string Tryd.underlying9 wa0)
  · rw [e1]; rfl
theorem deltaParsesUpto_holds : Rows.DeltaParsesUptoSaid :=
  OpenClaim.holds_of_cond 9 Tryd.f9 rfl rfl rfl rfl rfl rfl rfl ⟨rfl, rfl, rfl, rfl, rfl⟩ rfl rfl rfl rfl rfl (by kernel_rfl) Tryd.func9 (by kernel_rfl)
    (of_decide_eq_true (by kernel_rfl)) (by unfold Func.isWrapper; first | (rw [if_pos (by decide +kernel)]; kernel_rfl) | (rw [if_neg (by decide +kernel)]; exact ⟨rfl, rfl⟩))
    (fun os started H enc _ F => by rw [OpenClaim.pre_eq_preRow]; exact deltaParses_lifted os started H enc F)
/-- The second form's card: the row's listed variables are tied to the program's text. -/
theorem deltaParsesUpto_card_holds : Rows.DeltaParsesUptoCardSaid :=
  Claim7.holds_tied_plain_at .later [] _ _ _ _
    deltaParsesUpto_holds (fun _ h => by cases h) (by kernel_rfl) (fun _ h => by cases h) deltaParsesUpto_row_tie rfl ⟨rfl, rfl⟩ (by kernel_rfl) rfl
    (fun f fn hf hfn => by
      obtain rfl : f = 9 := Option.some.inj ((show Tryd.prog.funcNamed Tryd.f9.name = some 9 by kernel_rfl).symm.trans hf) |>.symm
      obtain rfl : fn = Tryd.f9 := (Option.some.inj (Tryd.func9.symm.trans hfn)).symm
      exact ⟨by kernel_rfl, fun j t ht => by
        rw [Tryd.params9] at ht
        have hm : t ∈ [9] := by simpa using Array.mem_of_getElem? ht
        have hall : ([9].all fun u => !Tryd.prog.wantsStandIn u) = true := by kernel_rfl
        exact (show Tryd.prog.wantsStandIn t = false by simpa using List.all_eq_true.1 hall t hm)⟩)
    (by kernel_rfl)
#print axioms deltaParsesUpto_card_holds
end Go.Proofs.YtmjoijloflinnaaDoor
