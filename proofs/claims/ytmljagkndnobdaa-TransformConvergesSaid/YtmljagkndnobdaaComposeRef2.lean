/- The contracts of the reference of layer 5: Fits, Compose, All. -/
import Derived.Test.YtmljagkndnobdaaComposeRef
import Derived.Test.YtmljagkndnobdaaComposeAll
import Derived.Test.YtmljagkndnobdaaPackRef
namespace Go.Proofs.Ytmljagkndnobdaa
open Go.RowKit

set_option maxRecDepth 100000 in
set_option maxHeartbeats 1000000 in
theorem refFits5_any (ao bo : Option Addr) (ca cb : Nat) (x y : List D.P) (w : World) (ha : D.Row w ao x) (hb : D.Row w bo y) (bx : D.Bd x) (by_ : D.Bd y) :
    Calls Try.prog 70 #[.slice ao x.length ca, .slice bo y.length cb] w fun e w' => e = .returned (.bool (D.fit2 x y == 0)) ∧ Below w.heap.size w w' := by
  have H1 := Lib.hid (refLengths_any ao ca x w bx.1 ha bx.2)
  have H2 : Hid (∀ V, Below w.heap.size w V → Calls Try.prog 62 #[.slice bo y.length cb] V fun e w' => e = .returned (.tuple #[.int .i64 (if D.chk y = 0 then D.inP y else 0), .int .i64 (if D.chk y = 0 then D.outP y else 0), .int .i64 (D.chk y)]) ∧ Below V.heap.size V w') := fun V h => refLengths_any bo cb y V by_.1 (hb.below h) by_.2
  clear ha hb bx by_
  by_cases h0 : D.chk x = 0
  · rw [if_pos h0, if_pos h0, h0] at H1
    by_cases h1 : D.chk y = 0
    · rw [if_pos h1, if_pos h1, h1] at H2
      have hf : (D.fit2 x y == 0) = (D.outP x == D.inP y) := by
        unfold D.fit2; rw [if_pos h0, if_pos h1]
        by_cases h2 : D.outP x = D.inP y
        · simp [h2]
        · rw [if_neg h2]; simp [h2]
      rw [hf]
      clear hf h0 h1
      generalize D.outP x = p1 at H1 ⊢
      generalize D.inP y = p2 at H2 ⊢
      generalize D.inP x = p3 at H1
      generalize D.outP y = p4 at H2
      go_enter Try.func70, Try.ntmps70
      go_wp2_with fail
      refine H1.out.mono ?_
      rintro e w1 ⟨rfl, hb1⟩
      have H2 := Lib.hid (H2.out w1 hb1)
      have hb1 := Lib.hid hb1
      go_wp2_with fail
      refine H2.out.mono ?_
      rintro e w2 ⟨rfl, hb2⟩
      have R := Lib.hid (hb1.out.trans (hb2.mono hb1.out.size))
      clear hb2
      go_wp2
      go_ret
      exact ⟨rfl, R.out⟩
    · have q : (D.chk y == 0) = false := by simpa using h1
      have hf : (D.fit2 x y == 0) = false := by unfold D.fit2; rw [if_pos h0, if_neg h1]; exact q
      rw [hf]
      clear hf h0 h1
      generalize D.chk y = c at H2 q
      generalize (if c = 0 then D.inP y else 0) = p2 at H2
      generalize (if c = 0 then D.outP y else 0) = p4 at H2
      generalize D.outP x = p1 at H1
      generalize D.inP x = p3 at H1
      go_enter Try.func70, Try.ntmps70
      go_wp2_with fail
      refine H1.out.mono ?_
      rintro e w1 ⟨rfl, hb1⟩
      have H2 := Lib.hid (H2.out w1 hb1)
      have hb1 := Lib.hid hb1
      go_wp2_with fail
      refine H2.out.mono ?_
      rintro e w2 ⟨rfl, hb2⟩
      have R := Lib.hid (hb1.out.trans (hb2.mono hb1.out.size))
      clear hb2
      go_wp2
      go_ret
      exact ⟨rfl, R.out⟩
  · have q : (D.chk x == 0) = false := by simpa using h0
    have hf : (D.fit2 x y == 0) = false := by unfold D.fit2; rw [if_neg h0]; exact q
    rw [hf]
    clear hf h0
    generalize D.chk x = c at H1 q
    generalize (if c = 0 then D.inP x else 0) = p2 at H1
    generalize (if c = 0 then D.outP x else 0) = p4 at H1
    generalize (if D.chk y = 0 then D.inP y else 0) = p1 at H2
    generalize (if D.chk y = 0 then D.outP y else 0) = p3 at H2
    generalize D.chk y = p5 at H2
    go_enter Try.func70, Try.ntmps70
    go_wp2_with fail
    refine H1.out.mono ?_
    rintro e w1 ⟨rfl, hb1⟩
    have H2 := Lib.hid (H2.out w1 hb1)
    have hb1 := Lib.hid hb1
    go_wp2_with fail
    refine H2.out.mono ?_
    rintro e w2 ⟨rfl, hb2⟩
    have R := Lib.hid (hb1.out.trans (hb2.mono hb1.out.size))
    clear hb2
    go_wp2
    go_ret
    exact ⟨rfl, R.out⟩
set_option maxRecDepth 100000 in
set_option maxHeartbeats 2000000 in
theorem refCompose_any (ao bo : Option Addr) (ca cb : Nat) (x y : List D.P) (w : World) (ha : D.Row w ao x) (hb : D.Row w bo y) (bx : D.Bd x) (by_ : D.Bd y) (hbd : D.Fit x y → D.inL (D.qs x) ≤ 100000 ∧ D.outL (D.qs y) ≤ 100000) :
    Calls Try.prog 44 #[.slice ao x.length ca, .slice bo y.length cb] w (C.CmpEnd x y w) := by
  have HA := Lib.hid (refCheck_any ao ca x w bx.1 ha bx.2)
  have HB : Hid (∀ V, Below w.heap.size w V → Calls Try.prog 36 #[.slice bo y.length cb] V fun e w' => e = .returned (.int .i64 (D.chk y)) ∧ Below V.heap.size V w') := fun V h => refCheck_any bo cb y V by_.1 (hb.below h) by_.2
  have HF : Hid (∀ V, Below w.heap.size w V → Calls Try.prog 70 #[.slice ao x.length ca, .slice bo y.length cb] V fun e w' => e = .returned (.bool (D.fit2 x y == 0)) ∧ Below V.heap.size V w') := fun V h => refFits5_any ao bo ca cb x y V (ha.below h) (hb.below h) bx by_
  by_cases h0 : D.chk x = 0
  · rw [h0] at HA
    by_cases h1 : D.chk y = 0
    · rw [h1] at HB
      by_cases hf : D.fit2 x y = 0
      · have f := D.fit_of hf
        have q : (D.fit2 x y == 0) = true := by simpa using hf
        have HC : Hid (∀ V, Below w.heap.size w V → Calls Try.prog 71 #[.slice ao x.length ca, .slice bo y.length cb] V (C.BothEnd x y V)) := fun V h => refBoth_any ao bo ca cb x y V (ha.below h) (hb.below h) f (hbd f).1 (hbd f).2
        unfold C.BothEnd at HC
        rw [q] at HF
        have he : D.cmpE x y = if (D.cqP x y).length ≤ 4096 then 0 else 5 := by rw [f.err, f.chk]
        have hp : D.cmpP x y = if (D.cqP x y).length ≤ 4096 then D.cqP x y else [] := by
          unfold D.cmpP; rw [he]
          split <;> simp
        have Hep := Lib.hid (And.intro he hp)
        clear ha hb bx by_ hbd h0 h1 hf f q he hp
        go_enter Try.func44, Try.ntmps44
        go_wp2_with fail
        refine HA.out.mono ?_
        rintro e w1 ⟨rfl, hb1⟩
        have HB1 := Lib.hid hb1
        have HB := Lib.hid (HB.out w1 hb1)
        clear hb1
        go_wp2_with fail
        refine HB.out.mono ?_
        rintro e w2 ⟨rfl, hb2⟩
        have HB2 := Lib.hid (HB1.out.trans (hb2.mono HB1.out.size))
        have HF := Lib.hid (HF.out w2 HB2.out)
        clear hb2
        go_wp2_with fail
        refine HF.out.mono ?_
        rintro e w3 ⟨rfl, hb3⟩
        have HB3 := Lib.hid (HB2.out.trans (hb3.mono HB2.out.size))
        have HC := Lib.hid (HC.out w3 HB3.out)
        clear hb3
        go_wp2_with fail
        refine HC.out.mono ?_
        rintro e w4 ⟨v, rfl, hm⟩
        have HM := Lib.hid (C.made_trans HB3.out hm)
        obtain ⟨va, vc, hv⟩ := D.slice_of_own hm.own
        subst hv
        clear hm HC
        by_cases hl : (D.cqP x y).length ≤ 4096
        · have R : Hid (C.CmpEnd x y w (.returned (.tuple #[.slice va (D.cqP x y).length vc, .int .i64 0])) w4) := ⟨_, by rw [Hep.out.1, if_pos hl], by rw [Hep.out.2, if_pos hl]; exact HM.out⟩
          clear HM Hep
          generalize (D.cqP x y).length = m at hl R
          have hq : decide (4096 < m) = false := by simp; omega
          go_wp2
          go_ret2
          exact R.out
        · have R : Hid (C.CmpEnd x y w (.returned (.tuple #[.slice none 0 0, .int .i64 5])) w4) := ⟨_, by rw [Hep.out.1, if_neg hl], by rw [Hep.out.2, if_neg hl]; exact D.Made.nil w HM.out.below⟩
          clear HM Hep
          generalize (D.cqP x y).length = m at hl R
          have hq : decide (4096 < m) = true := by simp; omega
          go_wp2
          go_ret2
          exact R.out
      · have q : (D.fit2 x y == 0) = false := by simpa using hf
        obtain ⟨e1, e2⟩ := D.cmpE_not hf
        have e3 : D.fit2 x y = 21 := by
          unfold D.fit2 at hf ⊢
          rw [if_pos h0, if_pos h1] at hf ⊢
          split
          · rename_i h; rw [if_pos h] at hf; exact absurd rfl hf
          · rfl
        rw [q] at HF
        have R : Hid (∀ w', Below w.heap.size w w' → C.CmpEnd x y w (.returned (.tuple #[.slice none 0 0, .int .i64 21])) w') := fun w' h => ⟨_, by rw [e1, e3], by rw [e2]; exact D.Made.nil w h⟩
        clear ha hb bx by_ hbd h0 h1 hf q e1 e2 e3
        go_enter Try.func44, Try.ntmps44
        go_wp2_with fail
        refine HA.out.mono ?_
        rintro e w1 ⟨rfl, hb1⟩
        have HB1 := Lib.hid hb1
        have HB := Lib.hid (HB.out w1 hb1)
        clear hb1
        go_wp2_with fail
        refine HB.out.mono ?_
        rintro e w2 ⟨rfl, hb2⟩
        have HB2 := Lib.hid (HB1.out.trans (hb2.mono HB1.out.size))
        have HF := Lib.hid (HF.out w2 HB2.out)
        clear hb2
        go_wp2_with fail
        refine HF.out.mono ?_
        rintro e w3 ⟨rfl, hb3⟩
        have R := Lib.hid (R.out w3 (HB2.out.trans (hb3.mono HB2.out.size)))
        clear hb3
        go_wp2
        go_ret2
        exact R.out
    · have hf : D.fit2 x y = D.chk y := by unfold D.fit2; rw [if_pos h0, if_neg h1]
      obtain ⟨e1, e2⟩ := D.cmpE_not (show D.fit2 x y ≠ 0 by rw [hf]; exact h1)
      rw [hf] at e1
      have q : (D.chk y != 0) = true := by simpa using h1
      have R : Hid (∀ w', Below w.heap.size w w' → C.CmpEnd x y w (.returned (.tuple #[.slice none 0 0, .int .i64 (D.chk y)])) w') := fun w' h => ⟨_, by rw [e1], by rw [e2]; exact D.Made.nil w h⟩
      clear ha hb bx by_ hbd h0 h1 hf e1 e2 HF
      generalize D.chk y = c at HB q R
      go_enter Try.func44, Try.ntmps44
      go_wp2_with fail
      refine HA.out.mono ?_
      rintro e w1 ⟨rfl, hb1⟩
      have HB1 := Lib.hid hb1
      have HB := Lib.hid (HB.out w1 hb1)
      clear hb1
      go_wp2_with fail
      refine HB.out.mono ?_
      rintro e w2 ⟨rfl, hb2⟩
      have R := Lib.hid (R.out w2 (HB1.out.trans (hb2.mono HB1.out.size)))
      clear hb2
      go_wp2
      go_ret2
      exact R.out
  · have hf : D.fit2 x y = D.chk x := by unfold D.fit2; rw [if_neg h0]
    obtain ⟨e1, e2⟩ := D.cmpE_not (show D.fit2 x y ≠ 0 by rw [hf]; exact h0)
    rw [hf] at e1
    have q : (D.chk x != 0) = true := by simpa using h0
    have q' : (D.chk x == 0) = false := by simpa using h0
    have R : Hid (∀ w', Below w.heap.size w w' → C.CmpEnd x y w (.returned (.tuple #[.slice none 0 0, .int .i64 (D.chk x)])) w') := fun w' h => ⟨_, by rw [e1], by rw [e2]; exact D.Made.nil w h⟩
    clear ha hb bx by_ hbd h0 hf e1 e2 HF HB
    generalize D.chk x = c at HA q q' R
    go_enter Try.func44, Try.ntmps44
    go_wp2_with fail
    refine HA.out.mono ?_
    rintro e w1 ⟨rfl, hb1⟩
    have R := Lib.hid (R.out w1 hb1)
    clear hb1
    go_wp2
    go_ret2
    exact R.out
theorem C.all_in {n : Int} {xs : List (List D.P)} (h : (D.allS n xs).1 = 0) : D.inL (D.qs (D.allS n xs).2) = n.toNat := by
  obtain ⟨m, rfl, _, _, o, iq⟩ := D.all_ok h
  have hi := D.idQ_in m
  have oc := o.ch
  rw [iq] at oc
  have := (D.allQ_out (d := D.idQ m) oc).2
  rw [o.q, iq, this, hi.1]; simp
end Go.Proofs.Ytmljagkndnobdaa
