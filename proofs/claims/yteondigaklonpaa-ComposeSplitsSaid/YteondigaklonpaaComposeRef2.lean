/- The contracts of the reference of layer 5: Fits, Compose, All. -/
import Derived.Test.YteondigaklonpaaComposeRef
import Derived.Test.YteondigaklonpaaComposeAll
import Derived.Test.YteondigaklonpaaPackRef
namespace Go.Proofs.Yteondigaklonpaa
open Go.RowKit

set_option maxRecDepth 100000 in
set_option maxHeartbeats 1000000 in
theorem refFits5_any (ao bo : Option Addr) (ca cb : Nat) (x y : List D.P) (w : World) (ha : D.Row w ao x) (hb : D.Row w bo y) (bx : D.Bd x) (by_ : D.Bd y) :
    Calls Try.prog 17 #[.slice ao x.length ca, .slice bo y.length cb] w fun e w' => e = .returned (.bool (D.fit2 x y == 0)) ∧ Below w.heap.size w w' := by
  have H1 := Lib.hid (refLengths_any ao ca x w bx.1 ha bx.2)
  have H2 : Hid (∀ V, Below w.heap.size w V → Calls Try.prog 37 #[.slice bo y.length cb] V fun e w' => e = .returned (.tuple #[.int .i64 (if D.chk y = 0 then D.inP y else 0), .int .i64 (if D.chk y = 0 then D.outP y else 0), .int .i64 (D.chk y)]) ∧ Below V.heap.size V w') := fun V h => refLengths_any bo cb y V by_.1 (hb.below h) by_.2
  clear ha hb bx by_
  by_cases h0 : D.chk x = 0
  · rw [if_pos h0, if_pos h0, h0] at H1
    by_cases h1 : D.chk y = 0
    · rw [if_pos h1, if_pos h1, h1] at H2
      have hf : (D.fit2 x y == 0) = (D.outP x == D.inP y) := by
        unfold D.fit2; rw [if_pos h0, if_pos h1]
        by_cases h2 : D.outP x = D.inP y
        · simp [h2]
        · rw [if_neg h2]; simp [h2]
      rw [hf]
      clear hf h0 h1
      generalize D.outP x = p1 at H1 ⊢
      generalize D.inP y = p2 at H2 ⊢
      generalize D.inP x = p3 at H1
      generalize D.outP y = p4 at H2
      go_enter Try.func17, Try.ntmps17
      go_wp2_with fail
      refine H1.out.mono ?_
      rintro e w1 ⟨rfl, hb1⟩
      have H2 := Lib.hid (H2.out w1 hb1)
      have hb1 := Lib.hid hb1
      go_wp2_with fail
      refine H2.out.mono ?_
      rintro e w2 ⟨rfl, hb2⟩
      have R := Lib.hid (hb1.out.trans (hb2.mono hb1.out.size))
      clear hb2
      go_wp2
      go_ret
      exact ⟨rfl, R.out⟩
    · have q : (D.chk y == 0) = false := by simpa using h1
      have hf : (D.fit2 x y == 0) = false := by unfold D.fit2; rw [if_pos h0, if_neg h1]; exact q
      rw [hf]
      clear hf h0 h1
      generalize D.chk y = c at H2 q
      generalize (if c = 0 then D.inP y else 0) = p2 at H2
      generalize (if c = 0 then D.outP y else 0) = p4 at H2
      generalize D.outP x = p1 at H1
      generalize D.inP x = p3 at H1
      go_enter Try.func17, Try.ntmps17
      go_wp2_with fail
      refine H1.out.mono ?_
      rintro e w1 ⟨rfl, hb1⟩
      have H2 := Lib.hid (H2.out w1 hb1)
      have hb1 := Lib.hid hb1
      go_wp2_with fail
      refine H2.out.mono ?_
      rintro e w2 ⟨rfl, hb2⟩
      have R := Lib.hid (hb1.out.trans (hb2.mono hb1.out.size))
      clear hb2
      go_wp2
      go_ret
      exact ⟨rfl, R.out⟩
  · have q : (D.chk x == 0) = false := by simpa using h0
    have hf : (D.fit2 x y == 0) = false := by unfold D.fit2; rw [if_neg h0]; exact q
    rw [hf]
    clear hf h0
    generalize D.chk x = c at H1 q
    generalize (if c = 0 then D.inP x else 0) = p2 at H1
    generalize (if c = 0 then D.outP x else 0) = p4 at H1
    generalize (if D.chk y = 0 then D.inP y else 0) = p1 at H2
    generalize (if D.chk y = 0 then D.outP y else 0) = p3 at H2
    generalize D.chk y = p5 at H2
    go_enter Try.func17, Try.ntmps17
    go_wp2_with fail
    refine H1.out.mono ?_
    rintro e w1 ⟨rfl, hb1⟩
    have H2 := Lib.hid (H2.out w1 hb1)
    have hb1 := Lib.hid hb1
    go_wp2_with fail
    refine H2.out.mono ?_
    rintro e w2 ⟨rfl, hb2⟩
    have R := Lib.hid (hb1.out.trans (hb2.mono hb1.out.size))
    clear hb2
    go_wp2
    go_ret
    exact ⟨rfl, R.out⟩
set_option maxRecDepth 100000 in
set_option maxHeartbeats 2000000 in
theorem refCompose_any (ao bo : Option Addr) (ca cb : Nat) (x y : List D.P) (w : World) (ha : D.Row w ao x) (hb : D.Row w bo y) (bx : D.Bd x) (by_ : D.Bd y) (hbd : D.Fit x y → D.inL (D.qs x) ≤ 100000 ∧ D.outL (D.qs y) ≤ 100000) :
    Calls Try.prog 15 #[.slice ao x.length ca, .slice bo y.length cb] w (C.CmpEnd x y w) := by
  have HA := Lib.hid (refCheck_any ao ca x w bx.1 ha bx.2)
  have HB : Hid (∀ V, Below w.heap.size w V → Calls Try.prog 34 #[.slice bo y.length cb] V fun e w' => e = .returned (.int .i64 (D.chk y)) ∧ Below V.heap.size V w') := fun V h => refCheck_any bo cb y V by_.1 (hb.below h) by_.2
  have HF : Hid (∀ V, Below w.heap.size w V → Calls Try.prog 17 #[.slice ao x.length ca, .slice bo y.length cb] V fun e w' => e = .returned (.bool (D.fit2 x y == 0)) ∧ Below V.heap.size V w') := fun V h => refFits5_any ao bo ca cb x y V (ha.below h) (hb.below h) bx by_
  by_cases h0 : D.chk x = 0
  · rw [h0] at HA
    by_cases h1 : D.chk y = 0
    · rw [h1] at HB
      by_cases hf : D.fit2 x y = 0
      · have f := D.fit_of hf
        have q : (D.fit2 x y == 0) = true := by simpa using hf
        have HC : Hid (∀ V, Below w.heap.size w V → Calls Try.prog 35 #[.slice ao x.length ca, .slice bo y.length cb] V (C.BothEnd x y V)) := fun V h => refBoth_any ao bo ca cb x y V (ha.below h) (hb.below h) f (hbd f).1 (hbd f).2
        unfold C.BothEnd at HC
        rw [q] at HF
        have he : D.cmpE x y = if (D.cqP x y).length ≤ 4096 then 0 else 5 := by rw [f.err, f.chk]
        have hp : D.cmpP x y = if (D.cqP x y).length ≤ 4096 then D.cqP x y else [] := by
          unfold D.cmpP; rw [he]
          split <;> simp
        have Hep := Lib.hid (And.intro he hp)
        clear ha hb bx by_ hbd h0 h1 hf f q he hp
        go_enter Try.func15, Try.ntmps15
        go_wp2_with fail
        refine HA.out.mono ?_
        rintro e w1 ⟨rfl, hb1⟩
        have HB1 := Lib.hid hb1
        have HB := Lib.hid (HB.out w1 hb1)
        clear hb1
        go_wp2_with fail
        refine HB.out.mono ?_
        rintro e w2 ⟨rfl, hb2⟩
        have HB2 := Lib.hid (HB1.out.trans (hb2.mono HB1.out.size))
        have HF := Lib.hid (HF.out w2 HB2.out)
        clear hb2
        go_wp2_with fail
        refine HF.out.mono ?_
        rintro e w3 ⟨rfl, hb3⟩
        have HB3 := Lib.hid (HB2.out.trans (hb3.mono HB2.out.size))
        have HC := Lib.hid (HC.out w3 HB3.out)
        clear hb3
        go_wp2_with fail
        refine HC.out.mono ?_
        rintro e w4 ⟨v, rfl, hm⟩
        have HM := Lib.hid (C.made_trans HB3.out hm)
        obtain ⟨va, vc, hv⟩ := D.slice_of_own hm.own
        subst hv
        clear hm HC
        by_cases hl : (D.cqP x y).length ≤ 4096
        · have R : Hid (C.CmpEnd x y w (.returned (.tuple #[.slice va (D.cqP x y).length vc, .int .i64 0])) w4) := ⟨_, by rw [Hep.out.1, if_pos hl], by rw [Hep.out.2, if_pos hl]; exact HM.out⟩
          clear HM Hep
          generalize (D.cqP x y).length = m at hl R
          have hq : decide (4096 < m) = false := by simp; omega
          go_wp2
          go_ret2
          exact R.out
        · have R : Hid (C.CmpEnd x y w (.returned (.tuple #[.slice none 0 0, .int .i64 5])) w4) := ⟨_, by rw [Hep.out.1, if_neg hl], by rw [Hep.out.2, if_neg hl]; exact D.Made.nil w HM.out.below⟩
          clear HM Hep
          generalize (D.cqP x y).length = m at hl R
          have hq : decide (4096 < m) = true := by simp; omega
          go_wp2
          go_ret2
          exact R.out
      · have q : (D.fit2 x y == 0) = false := by simpa using hf
        obtain ⟨e1, e2⟩ := D.cmpE_not hf
        have e3 : D.fit2 x y = 21 := by
          unfold D.fit2 at hf ⊢
          rw [if_pos h0, if_pos h1] at hf ⊢
          split
          · rename_i h; rw [if_pos h] at hf; exact absurd rfl hf
          · rfl
        rw [q] at HF
        have R : Hid (∀ w', Below w.heap.size w w' → C.CmpEnd x y w (.returned (.tuple #[.slice none 0 0, .int .i64 21])) w') := fun w' h => ⟨_, by rw [e1, e3], by rw [e2]; exact D.Made.nil w h⟩
        clear ha hb bx by_ hbd h0 h1 hf q e1 e2 e3
        go_enter Try.func15, Try.ntmps15
        go_wp2_with fail
        refine HA.out.mono ?_
        rintro e w1 ⟨rfl, hb1⟩
        have HB1 := Lib.hid hb1
        have HB := Lib.hid (HB.out w1 hb1)
        clear hb1
        go_wp2_with fail
        refine HB.out.mono ?_
        rintro e w2 ⟨rfl, hb2⟩
        have HB2 := Lib.hid (HB1.out.trans (hb2.mono HB1.out.size))
        have HF := Lib.hid (HF.out w2 HB2.out)
        clear hb2
        go_wp2_with fail
        refine HF.out.mono ?_
        rintro e w3 ⟨rfl, hb3⟩
        have R := Lib.hid (R.out w3 (HB2.out.trans (hb3.mono HB2.out.size)))
        clear hb3
        go_wp2
        go_ret2
        exact R.out
    · have hf : D.fit2 x y = D.chk y := by unfold D.fit2; rw [if_pos h0, if_neg h1]
      obtain ⟨e1, e2⟩ := D.cmpE_not (show D.fit2 x y ≠ 0 by rw [hf]; exact h1)
      rw [hf] at e1
      have q : (D.chk y != 0) = true := by simpa using h1
      have R : Hid (∀ w', Below w.heap.size w w' → C.CmpEnd x y w (.returned (.tuple #[.slice none 0 0, .int .i64 (D.chk y)])) w') := fun w' h => ⟨_, by rw [e1], by rw [e2]; exact D.Made.nil w h⟩
      clear ha hb bx by_ hbd h0 h1 hf e1 e2 HF
      generalize D.chk y = c at HB q R
      go_enter Try.func15, Try.ntmps15
      go_wp2_with fail
      refine HA.out.mono ?_
      rintro e w1 ⟨rfl, hb1⟩
      have HB1 := Lib.hid hb1
      have HB := Lib.hid (HB.out w1 hb1)
      clear hb1
      go_wp2_with fail
      refine HB.out.mono ?_
      rintro e w2 ⟨rfl, hb2⟩
      have R := Lib.hid (R.out w2 (HB1.out.trans (hb2.mono HB1.out.size)))
      clear hb2
      go_wp2
      go_ret2
      exact R.out
  · have hf : D.fit2 x y = D.chk x := by unfold D.fit2; rw [if_neg h0]
    obtain ⟨e1, e2⟩ := D.cmpE_not (show D.fit2 x y ≠ 0 by rw [hf]; exact h0)
    rw [hf] at e1
    have q : (D.chk x != 0) = true := by simpa using h0
    have q' : (D.chk x == 0) = false := by simpa using h0
    have R : Hid (∀ w', Below w.heap.size w w' → C.CmpEnd x y w (.returned (.tuple #[.slice none 0 0, .int .i64 (D.chk x)])) w') := fun w' h => ⟨_, by rw [e1], by rw [e2]; exact D.Made.nil w h⟩
    clear ha hb bx by_ hbd h0 hf e1 e2 HF HB
    generalize D.chk x = c at HA q q' R
    go_enter Try.func15, Try.ntmps15
    go_wp2_with fail
    refine HA.out.mono ?_
    rintro e w1 ⟨rfl, hb1⟩
    have R := Lib.hid (R.out w1 hb1)
    clear hb1
    go_wp2
    go_ret2
    exact R.out
theorem C.all_in {n : Int} {xs : List (List D.P)} (h : (D.allS n xs).1 = 0) : D.inL (D.qs (D.allS n xs).2) = n.toNat := by
  obtain ⟨m, rfl, _, _, o, iq⟩ := D.all_ok h
  have hi := D.idQ_in m
  have oc := o.ch
  rw [iq] at oc
  have := (D.allQ_out (d := D.idQ m) oc).2
  rw [o.q, iq, this, hi.1]; simp
set_option maxRecDepth 100000 in
set_option maxHeartbeats 2000000 in
theorem refAll_any (n : Int) (n0 : -9223372036854775808 ≤ n) (n1 : n ≤ 6000) (lo : Option Addr) (cap : Nat) (L : List D.Src) (w : World) (hl : L.length ≤ maxLen) (hr : D.Rows w lo L) (hb : ∀ s ∈ L, D.chk s.x = 0 → D.outL (D.qs s.x) ≤ 100000) :
    Calls Try.prog 22 #[.int .i64 n, .slice lo L.length cap] w (C.AllEnd n (L.map D.Src.x) w) := by
  have HI := Lib.hid (refIdentity_any n n0 (by omega) w)
  unfold D.IdEnd at HI
  unfold maxLen at hl
  have Hr := Lib.hid hr
  have Hb := Lib.hid hb
  have Hn := Lib.hid n1
  clear hr hb n0 n1
  go_enter Try.func22, Try.ntmps22
  go_wp2_with fail
  refine HI.out.mono ?_
  rintro e w1 ⟨v, rfl, hm⟩
  have HM := Lib.hid hm
  obtain ⟨va, vc, hv⟩ := D.slice_of_own hm.own
  subst hv
  clear hm HI
  go_wp2
  go_loopw [6, 7, 8] (fun a e i wr => ∃ k : Nat, k ≤ L.length ∧ i = .int .i64 k ∧ e = .int .i64 (D.allS n ((L.map D.Src.x).take k)).1 ∧ Hid (D.Made (D.allS n ((L.map D.Src.x).take k)).2 w a wr)) (fun _ _ i _ => L.length - (intOf i).toNat)
  case atStart => exact ⟨0, Nat.zero_le _, rfl, rfl, HM⟩
  case round =>
    clear HM
    obtain ⟨k, hk, rfl, rfl, hm⟩ := hrel
    have hbd := Lib.hid (C.made_bd (n := n) (xs := (L.map D.Src.x).take k))
    have hnil := Lib.hid (D.allS_nil n ((L.map D.Src.x).take k))
    have hin : Hid ((D.allS n ((L.map D.Src.x).take k)).1 = 0 → D.inL (D.qs (D.allS n ((L.map D.Src.x).take k)).2) = n.toNat) := fun h => C.all_in h
    have happ : Hid (D.allS n (L.map D.Src.x) = D.foldS (D.allS n ((L.map D.Src.x).take k)) ((L.map D.Src.x).drop k)) := by
      show _ = _
      conv => lhs; rw [← List.take_append_drop k (L.map D.Src.x)]
      exact D.foldS_append _ _ _
    by_cases hlt : k < L.length
    · obtain ⟨s, hs⟩ : ∃ s, L[k]? = some s := ⟨L[k], List.getElem?_eq_getElem hlt⟩
      obtain ⟨b, o, e, hbl, hcell, hok⟩ := Hr.out k s hs
      subst e
      have hcs := Hb.out s (List.mem_of_getElem? hs)
      have hsn := Lib.hid (D.allS_snoc n (L.map D.Src.x) k s.x (by rw [List.getElem?_map, hs]; rfl))
      generalize D.allS n ((L.map D.Src.x).take k) = st at hm hbd hnil happ hsn hin
      obtain ⟨E, P⟩ := st
      dsimp only at *
      have c0 := ((D.bcell hm.out.below).1 b (o + k) hbl).trans hcell
      by_cases hE : E = 0
      · subst hE
        obtain ⟨vo, vc, hv, hrow, hcap, _⟩ := C.made_src hm.out
        subst hv
        have HC := Lib.hid (refCompose_any vo s.a vc s.c P s.x wr hrow (hok.row.below hm.out.below) hbd.out ⟨hok.len, hok.txt⟩ (fun f => ⟨by have := hin.out rfl; have := Hn.out; omega, hcs f.b⟩))
        have hst : Hid (D.allS n ((L.map D.Src.x).take (k + 1)) = (D.cmpE P s.x, D.cmpP P s.x)) := by show _ = _; rw [hsn.out]; rfl
        have hmb := Lib.hid hm.out.below
        clear hs hcell hok hcs hrow hcap hnil hm hbd hsn happ hin
        go_wp2_with fail
        refine HC.out.mono ?_
        rintro e w2 ⟨v, rfl, hm2⟩
        have HM2 : Hid (D.Made (D.allS n ((L.map D.Src.x).take (k + 1))).2 w v w2) := by show D.Made _ _ _ _; rw [hst.out]; exact C.made_trans hmb.out hm2
        obtain ⟨xo, xc, hv⟩ := D.slice_of_own hm2.own
        subst hv
        have he : Hid ((D.allS n ((L.map D.Src.x).take (k + 1))).1 = D.cmpE P s.x) := by show _ = _; rw [hst.out]
        clear hm2 HC hst
        go_wp2
        go_roundw
        case rel => exact ⟨k + 1, by omega, by go_num, by rw [he.out], HM2⟩
        case measure => simp [intOf]; omega
      · have q : (E != 0) = true := by simpa using hE
        have q2 : (E == 0) = false := by simpa using hE
        have R : Hid (∀ w', Below w.heap.size w w' → C.AllEnd n (L.map D.Src.x) w (.returned (.tuple #[.slice none 0 0, .int .i64 E])) w') := fun w' hb => by
          have e : D.allS n (L.map D.Src.x) = (E, P) := by rw [happ.out]; exact D.foldS_stop (s := (E, P)) hE _
          have hP : P = [] := hnil.out hE
          exact ⟨_, by rw [e], by rw [e]; simp only; rw [hP]; exact D.Made.nil w hb⟩
        have R := Lib.hid (R.out wr hm.out.below)
        clear hs hcell hok hcs hnil hm hbd hsn happ hE hin
        go_wp2
        go_ret2
        exact R.out
    · obtain rfl : k = L.length := by omega
      have e : (L.map D.Src.x).take L.length = L.map D.Src.x := by rw [List.take_of_length_le (by simp)]
      rw [e] at hm hnil ⊢
      obtain ⟨vo, vc, hv⟩ := D.slice_of_own hm.out.own
      subst hv
      by_cases hE : (D.allS n (L.map D.Src.x)).1 = 0
      · have R : Hid (C.AllEnd n (L.map D.Src.x) w (.returned (.tuple #[.slice vo (D.allS n (L.map D.Src.x)).2.length vc, .int .i64 0])) wr) := ⟨_, by rw [hE], hm.out⟩
        rw [hE]
        generalize (D.allS n (L.map D.Src.x)).2.length = m at R
        clear e hm hnil hbd happ hin hE
        go_wp2
        go_ret2
        exact R.out
      · have q : ((D.allS n (L.map D.Src.x)).1 != 0) = true := by simpa using hE
        have q2 : ((D.allS n (L.map D.Src.x)).1 == 0) = false := by simpa using hE
        have R : Hid (C.AllEnd n (L.map D.Src.x) w (.returned (.tuple #[.slice none 0 0, .int .i64 (D.allS n (L.map D.Src.x)).1])) wr) := ⟨_, rfl, by rw [hnil.out hE]; exact D.Made.nil w hm.out.below⟩
        generalize (D.allS n (L.map D.Src.x)).2.length = m at *
        generalize (D.allS n (L.map D.Src.x)).1 = E at *
        clear e hm hnil hbd happ hin hE
        go_wp2
        go_ret2
        exact R.out
end Go.Proofs.Yteondigaklonpaa
