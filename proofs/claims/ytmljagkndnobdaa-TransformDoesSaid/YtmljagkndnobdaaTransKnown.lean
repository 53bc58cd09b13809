/- The examples that every statement of stage 7 asks: they are met. -/
import Derived.Test.YtmljagkndnobdaaPackTRef
import Derived.Test.YtmljagkndnobdaaLawKit
namespace Go.Proofs.Ytmljagkndnobdaa
open Go.RowKit

def T.kA : List D.P := [⟨1, 1, ⟨#[]⟩⟩, ⟨2, 0, ⟨#[65]⟩⟩, ⟨1, 2, ⟨#[]⟩⟩]
def T.kB : List D.P := [⟨1, 1, ⟨#[]⟩⟩, ⟨2, 0, ⟨#[66]⟩⟩, ⟨3, 1, ⟨#[]⟩⟩, ⟨1, 1, ⟨#[]⟩⟩]
def T.kD : List D.P := [⟨1, 2, ⟨#[]⟩⟩, ⟨2, 0, ⟨#[66]⟩⟩, ⟨3, 1, ⟨#[]⟩⟩, ⟨1, 1, ⟨#[]⟩⟩]
def T.kG : List D.P := [⟨1, 1, ⟨#[]⟩⟩, ⟨2, 0, ⟨#[66]⟩⟩, ⟨1, 1, ⟨#[]⟩⟩, ⟨3, 1, ⟨#[]⟩⟩, ⟨1, 1, ⟨#[]⟩⟩]
def T.kM : List D.P := [⟨1, 1, ⟨#[]⟩⟩, ⟨2, 0, ⟨#[65, 66]⟩⟩, ⟨3, 1, ⟨#[]⟩⟩, ⟨1, 1, ⟨#[]⟩⟩]
def T.kR : List D.P := [⟨2, 0, ⟨#[100]⟩⟩, ⟨1, 1, ⟨#[]⟩⟩]
def T.kW : List D.P := [⟨2, 0, ⟨#[119]⟩⟩, ⟨3, 1, ⟨#[]⟩⟩]
def T.kS : List D.P := [⟨1, 1, ⟨#[]⟩⟩, ⟨2, 0, ⟨#[100]⟩⟩]
theorem T.tr_eval {first : Bool} {x y z : List D.P} (h0 : D.bas2 x y = 0) (e : D.tfP first x y = z) (hc : D.chk z = 0) : D.trE first x y = 0 ∧ D.trP first x y = z := by
  have h1 : D.trE first x y = 0 := by unfold D.trE; rw [if_pos h0, e, if_pos hc]
  exact ⟨h1, by unfold D.trP; rw [if_pos h1, e]⟩
theorem T.k1 : D.trE true T.kA T.kB = 0 ∧ D.trP true T.kA T.kB = T.kD := T.tr_eval (by decide) (by rfl) (by decide)
theorem T.k2 : D.trE false T.kA T.kB = 0 ∧ D.trP false T.kA T.kB = T.kG := T.tr_eval (by decide) (by rfl) (by decide)
theorem T.k3 : D.trE false T.kB T.kA = 0 ∧ D.trP false T.kB T.kA = T.kA := T.tr_eval (by decide) (by rfl) (by decide)
theorem T.k4 : D.prE T.kA T.kB = 0 ∧ D.prA T.kA T.kB = T.kA ∧ D.prB T.kA T.kB = T.kD := by
  obtain ⟨e1, e2, e3⟩ := T.pr_good T.k1.1 T.k3.1
  exact ⟨e1, by rw [e2, T.k3.2], by rw [e3, T.k1.2]⟩
theorem T.k5 : D.mrE T.kA T.kB = 0 ∧ D.mrP T.kA T.kB = T.kM := by
  obtain ⟨m1, m2⟩ := D.mr_of T.k1.1
  rw [T.k1.2] at m1 m2
  have hf : D.fit2 T.kA T.kD = 0 := by decide
  have hq : D.cqP T.kA T.kD = T.kM := by rfl
  have he : D.cmpE T.kA T.kD = 0 := by unfold D.cmpE; rw [hf, if_pos rfl, hq]; rfl
  exact ⟨by rw [m1, he], by rw [m2]; unfold D.cmpP; rw [he, if_pos rfl, hq]⟩
theorem T.k6 : D.trE true T.kA T.kD = 21 ∧ D.trP true T.kA T.kD = [] := by
  have h0 : D.bas2 T.kA T.kD = 21 := by decide
  obtain ⟨e1, e2⟩ := D.tr_bad (first := true) (show D.bas2 T.kA T.kD ≠ 0 by rw [h0]; decide)
  exact ⟨by rw [e1, h0], e2⟩
theorem T.k7 : D.dsB T.kA T.kB = false ∧ D.bas2 T.kA T.kB = 0 := by
  have h0 : D.bas2 T.kA T.kB = 0 := by decide
  exact ⟨by unfold D.dsB; rw [if_pos h0]; rfl, h0⟩
theorem T.k8 : D.rebS T.kR [T.kW] = (0, T.kS) := by
  obtain ⟨e1, e2⟩ := T.tr_eval (first := true) (x := T.kW) (y := T.kR) (z := T.kS) (by decide) (by rfl) (by decide)
  show D.stepT (D.chk T.kR, if D.chk T.kR = 0 then D.normP T.kR else []) T.kW = _
  have hc : D.chk T.kR = 0 := by decide
  have hn : D.normP T.kR = T.kR := by rfl
  rw [hc, if_pos rfl, hn]
  unfold D.stepT
  rw [if_pos rfl]
  show (D.trE true T.kW T.kR, D.trP true T.kW T.kR) = _
  rw [e1, e2]
theorem T.bA : D.Bd T.kA := D.bd_of (by decide)
theorem T.bB : D.Bd T.kB := D.bd_of (by decide)
theorem T.bD : D.Bd T.kD := D.bd_of (by decide)
theorem tk1 (W : World) (ao bo : Option Addr) (h : D.Row W ao T.kA) (g : D.Row W bo T.kB) : Calls Try.prog 16 #[.slice ao 3 3, .slice bo 4 4, .bool true] W (fun e w' => ∃ v, e = .returned (.tuple #[v, .int .i64 0]) ∧ D.Made T.kD W v w') := by
  have := transform_any true ao bo 3 4 T.kA T.kB W h g T.bA T.bB
  unfold T.TrEnd at this
  rw [T.k1.1, T.k1.2] at this
  exact this
theorem tk2 (W : World) (ao bo : Option Addr) (h : D.Row W ao T.kA) (g : D.Row W bo T.kB) : Calls Try.prog 16 #[.slice ao 3 3, .slice bo 4 4, .bool false] W (fun e w' => ∃ v, e = .returned (.tuple #[v, .int .i64 0]) ∧ D.Made T.kG W v w') := by
  have := transform_any false ao bo 3 4 T.kA T.kB W h g T.bA T.bB
  unfold T.TrEnd at this
  rw [T.k2.1, T.k2.2] at this
  exact this
theorem tk3 (W : World) (ao bo : Option Addr) (h : D.Row W ao T.kA) (g : D.Row W bo T.kB) : Calls Try.prog 18 #[.slice ao 3 3, .slice bo 4 4] W (fun e w' => ∃ v u, e = .returned (.tuple #[v, u, .int .i64 0]) ∧ D.Made T.kA W v w' ∧ D.Made T.kD W u w') := by
  have := pair_any ao bo 3 4 T.kA T.kB W h g T.bA T.bB
  unfold T.PrEnd at this
  rw [T.k4.1, T.k4.2.1, T.k4.2.2] at this
  exact this
theorem tk4 (W : World) (ao bo : Option Addr) (h : D.Row W ao T.kA) (g : D.Row W bo T.kB) : Calls Try.prog 20 #[.slice ao 3 3, .slice bo 4 4] W (fun e w' => ∃ v, e = .returned (.tuple #[v, .int .i64 0]) ∧ D.Made T.kM W v w') := by
  have := merge_any ao bo 3 4 T.kA T.kB W h g T.bA T.bB (Nat.le_refl _)
  unfold T.MrEnd at this
  rw [T.k5.1, T.k5.2] at this
  exact this
theorem tk5 (W : World) (ao bo : Option Addr) (c : Nat) (h : D.Row W ao T.kA) (g : D.Row W bo T.kD) : Calls Try.prog 16 #[.slice ao 3 3, .slice bo 4 c, .bool true] W (fun e w' => ∃ v, e = .returned (.tuple #[v, .int .i64 21]) ∧ D.Made [] W v w') := by
  have := transform_any true ao bo 3 c T.kA T.kD W h g T.bA T.bD
  unfold T.TrEnd at this
  rw [T.k6.1, T.k6.2] at this
  exact this
theorem tk6 (W : World) (ao bo : Option Addr) (h : D.Row W ao T.kA) (g : D.Row W bo T.kB) : Calls Try.prog 24 #[.slice ao 3 3, .slice bo 4 4] W (fun e w' => e = .returned (.tuple #[.bool false, .int .i64 0]) ∧ Below W.heap.size W w') := by
  have := disjoint_any ao bo 3 4 T.kA T.kB W h g T.bA T.bB
  unfold T.DsEnd at this
  rw [T.k7.1, T.k7.2] at this
  exact this
theorem tk7 (W : World) (ao bo : Option Addr) (h : D.Row W ao T.kR) (g : D.Row W bo T.kW) (hb : bo ≠ none) : Calls Try.prog 22 #[.slice ao 2 2, .slice (some ⟨W.heap.size, 0, none⟩) 1 1] (W.alloc (.cells #[.slice bo 2 2] 22)) (fun e w' => ∃ v, e = .returned (.tuple #[v, .int .i64 0]) ∧ D.Made T.kS W v w') := by
  have hok : ∀ s ∈ [(⟨bo, 2, T.kW⟩ : D.Src)], D.SrcOk W s := fun s hs => by
    rw [List.mem_singleton.1 hs]
    exact ⟨g, (D.bd_of (x := T.kW) (by decide)).1, (D.bd_of (x := T.kW) (by decide)).2, fun e => absurd e hb⟩
  have := rebase_any ao 2 T.kR (some ⟨W.heap.size, 0, none⟩) 1 [(⟨bo, 2, T.kW⟩ : D.Src)] _ (h.below ((Below.refl _ _).alloc (Nat.le_refl _) _)) (D.bd_of (by decide)) (by show 1 ≤ maxLen; decide) (D.rows_lit W _ 22 hok)
  have e : [(⟨bo, 2, T.kW⟩ : D.Src)].map D.Src.x = [T.kW] := rfl
  unfold T.RbEnd at this
  rw [e, T.k8] at this
  refine Calls.mono this fun e w' hh => ?_
  obtain ⟨v, he, hm⟩ := hh
  exact ⟨v, he, C.made_trans ((Below.refl _ _).alloc (Nat.le_refl _) _) hm⟩
theorem tk8 (W : World) (ao bo : Option Addr) (c d : Nat) (h : D.Row W ao T.kA) (g : D.Row W bo T.kA) : Calls Try.prog 17 #[.slice ao 3 c, .slice bo 3 d] W (fun e w' => e = .returned (.bool true) ∧ Below W.heap.size W w') := by
  have := refSame_any ao bo c d T.kA T.kA W h g (by decide) (by decide)
  rwa [(D.same_iff T.kA T.kA).2 rfl] at this
theorem tk9 (W : World) (ao bo : Option Addr) (c d : Nat) (h : D.Row W ao T.kD) (g : D.Row W bo T.kD) : Calls Try.prog 17 #[.slice ao 4 c, .slice bo 4 d] W (fun e w' => e = .returned (.bool true) ∧ Below W.heap.size W w') := by
  have := refSame_any ao bo c d T.kD T.kD W h g (by decide) (by decide)
  rwa [(D.same_iff T.kD T.kD).2 rfl] at this
set_option maxRecDepth 100000 in
set_option maxHeartbeats 8000000 in
theorem tknown_any (w : World) : Calls Try.prog 13 #[] w fun e w' => e = .returned (.bool true) ∧ Below w.heap.size w w' := by
  have K0 : Hid (D.Kn w (w.alloc (.cells (D.cellsL T.kA).toArray 31)) [(some ⟨w.heap.size, 0, none⟩, T.kA)]) := D.Kn.add ⟨(Below.refl _ _).alloc (Nat.le_refl _) _, fun x hx => by cases hx⟩ _ _ (D.row_lit w T.kA)
  have K1 : Hid (D.Kn w ((w.alloc (.cells (D.cellsL T.kA).toArray 31)).alloc (.cells (D.cellsL T.kB).toArray 31)) [(some ⟨w.heap.size + 1, 0, none⟩, T.kB), (some ⟨w.heap.size, 0, none⟩, T.kA)]) := by
    have h := (K0.out.on ((Below.refl _ _).alloc (Nat.le_refl _) (.cells (D.cellsL T.kB).toArray 31)))
    have r := D.row_lit (w.alloc (.cells (D.cellsL T.kA).toArray 31)) T.kB
    rw [World.size_alloc] at r
    exact h.add _ _ r
  clear K0
  go_enter Try.func13, Try.ntmps13
  go_wp2_with fail
  change Calls _ _ _ ((w.alloc (.cells (D.cellsL T.kA).toArray 31)).alloc (.cells (D.cellsL T.kB).toArray 31)) _
  generalize ((w.alloc (.cells (D.cellsL T.kA).toArray 31)).alloc (.cells (D.cellsL T.kB).toArray 31)) = w1 at K1 ⊢
  obtain ⟨H, hH⟩ : ∃ H, Hid (w.heap.size = H) := ⟨_, rfl⟩
  rw [hH.out] at K1 ⊢
  refine (tk1 w1 _ _ K1.out.tl.r0 K1.out.r0).mono ?_
  rintro e w2 ⟨v, rfl, hm⟩
  obtain ⟨da, dc, hv, K2⟩ := K1.out.made hm
  subst hv
  change Hid (D.Kn w w2 [(da, T.kD), (some ⟨H + 1, 0, none⟩, T.kB), (some ⟨H, 0, none⟩, T.kA)]) at K2
  clear hm K1
  go_wp2_with fail
  refine (tk2 w2 _ _ K2.out.tl.tl.r0 K2.out.tl.r0).mono ?_
  rintro e w3 ⟨v, rfl, hm⟩
  obtain ⟨ga, gc, hv, K3⟩ := K2.out.made hm
  subst hv
  change Hid (D.Kn w w3 [(ga, T.kG), (da, T.kD), (some ⟨H + 1, 0, none⟩, T.kB), (some ⟨H, 0, none⟩, T.kA)]) at K3
  clear hm K2
  go_wp2_with fail
  refine (tk3 w3 _ _ K3.out.tl.tl.tl.r0 K3.out.tl.tl.r0).mono ?_
  rintro e w4 ⟨v, u, rfl, hm, hn⟩
  obtain ⟨pa, pc, hv, K4⟩ := K3.out.made hm
  subst hv
  obtain ⟨qa, qc, hv, hqr⟩ := hn.form
  subst hv
  have K5 := Lib.hid (D.Kn.add K4.out qa T.kD hqr)
  change Hid (D.Kn w w4 [(qa, T.kD), (pa, T.kA), (ga, T.kG), (da, T.kD), (some ⟨H + 1, 0, none⟩, T.kB), (some ⟨H, 0, none⟩, T.kA)]) at K5
  clear hm hn hqr K3 K4
  go_wp2_with fail
  refine (tk4 w4 _ _ K5.out.tl.tl.tl.tl.tl.r0 K5.out.tl.tl.tl.tl.r0).mono ?_
  rintro e w5 ⟨v, rfl, hm⟩
  obtain ⟨ma, mc, hv, K6⟩ := K5.out.made hm
  subst hv
  change Hid (D.Kn w w5 [(ma, T.kM), (qa, T.kD), (pa, T.kA), (ga, T.kG), (da, T.kD), (some ⟨H + 1, 0, none⟩, T.kB), (some ⟨H, 0, none⟩, T.kA)]) at K6
  clear hm K5
  go_wp2_with fail
  refine (tk5 w5 _ _ _ K6.out.tl.tl.tl.tl.tl.tl.r0 K6.out.tl.tl.tl.tl.r0).mono ?_
  rintro e w6 ⟨v, rfl, hm⟩
  obtain ⟨xa, xc, hv, _⟩ := hm.form
  subst hv
  have K7 := Lib.hid (K6.out.on hm.below)
  clear hm K6
  go_wp2_with fail
  refine (tk6 w6 _ _ K7.out.tl.tl.tl.tl.tl.tl.r0 K7.out.tl.tl.tl.tl.tl.r0).mono ?_
  rintro e w7 ⟨rfl, hb⟩
  have K8 := Lib.hid (K7.out.on hb)
  clear hb K7
  have hA7 : Below w7.heap.size w7 ((w7.alloc (.cells (D.cellsL T.kR).toArray 31)).alloc (.cells (D.cellsL T.kW).toArray 31)) := ((Below.refl _ _).alloc (Nat.le_refl _) _).alloc (by simp) _
  have rR := (D.row_lit w7 T.kR).below ((Below.refl _ _).alloc (Nat.le_refl _) (.cells (D.cellsL T.kW).toArray 31))
  have rW := D.row_lit (w7.alloc (.cells (D.cellsL T.kR).toArray 31)) T.kW
  rw [World.size_alloc] at rW
  have K9 := Lib.hid (K8.out.on hA7)
  obtain ⟨W8, hW8⟩ : ∃ W8, Hid (W8 = (w7.alloc (.cells (D.cellsL T.kR).toArray 31)).alloc (.cells (D.cellsL T.kW).toArray 31)) := ⟨_, rfl⟩
  obtain ⟨G, hG⟩ : ∃ G, Hid (w7.heap.size = G) := ⟨_, rfl⟩
  have hs8 : W8.heap.size = G + 2 := by rw [hW8.out, ← hG.out]; simp
  rw [← hW8.out, hG.out] at rR rW
  rw [← hW8.out] at K9
  have HT := tk7 W8 _ _ rR rW (by simp)
  rw [hs8] at HT
  have HT := Lib.hid HT
  clear K8 hA7 rR rW hs8
  go_wp2_with fail
  rw [hG.out]
  change Calls _ _ _ (((w7.alloc (.cells (D.cellsL T.kR).toArray 31)).alloc (.cells (D.cellsL T.kW).toArray 31)).alloc _) _
  rw [← hW8.out]
  refine HT.out.mono ?_
  rintro e w9 ⟨v, rfl, hm⟩
  obtain ⟨ra, rc, hv, KA⟩ := K9.out.made hm
  subst hv
  change Hid (D.Kn w w9 [(ra, T.kS), (ma, T.kM), (qa, T.kD), (pa, T.kA), (ga, T.kG), (da, T.kD), (some ⟨H + 1, 0, none⟩, T.kB), (some ⟨H, 0, none⟩, T.kA)]) at KA
  clear hm K9 HT hW8
  obtain ⟨b1, o1, e1, _, c10, c11, c12⟩ := KA.out.tl.tl.tl.tl.tl.r0 0 ⟨1, 2, ⟨#[]⟩⟩ rfl
  obtain ⟨b2, o2, e2, _, c20, c21, c22⟩ := KA.out.tl.tl.tl.tl.tl.r0 1 ⟨2, 0, ⟨#[66]⟩⟩ rfl
  subst e1
  cases e2
  obtain ⟨b3, o3, e3, _, c30, c31, c32⟩ := KA.out.tl.tl.tl.tl.r0 1 ⟨2, 0, ⟨#[66]⟩⟩ rfl
  subst e3
  go_wp2_with fail
  refine (tk8 w9 _ _ _ _ KA.out.tl.tl.tl.r0 KA.out.tl.tl.tl.tl.tl.tl.tl.r0).mono ?_
  rintro e w10 ⟨rfl, hb⟩
  have KB := Lib.hid (KA.out.on hb)
  clear hb KA c10 c11 c12 c20 c21 c22 c30 c31 c32
  go_wp2_with fail
  refine (tk9 w10 _ _ _ _ KB.out.tl.tl.r0 KB.out.tl.tl.tl.tl.tl.r0).mono ?_
  rintro e w11 ⟨rfl, hb⟩
  have KC := Lib.hid (KB.out.on hb)
  clear hb KB
  obtain ⟨b4, o4, e4, _, m10, m11, m12⟩ := KC.out.tl.r0 1 ⟨2, 0, ⟨#[65, 66]⟩⟩ rfl
  obtain ⟨b5, o5, e5, _, r10, r11, r12⟩ := KC.out.r0 1 ⟨2, 0, ⟨#[100]⟩⟩ rfl
  subst e4 e5
  have R := Lib.hid KC.out.below
  clear KC
  go_wp2
  go_ret
  exact ⟨rfl, R.out⟩
theorem L.hKnown7 : Hid (∀ W, Calls Try.prog 13 #[] W (fun e w' => e = .returned (.bool true) ∧ Below W.heap.size W w')) := fun W => tknown_any W
end Go.Proofs.Ytmljagkndnobdaa
