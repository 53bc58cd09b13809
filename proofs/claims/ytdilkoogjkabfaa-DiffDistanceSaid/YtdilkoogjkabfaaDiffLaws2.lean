/- The walks of DiffLeads, DiffDistance, DiffLeast. -/
import Derived.Test.YtdilkoogjkabfaaDiffLawKit
namespace Go.Proofs.Ytdilkoogjkabfaa
open Go.RowKit

set_option maxRecDepth 100000 in
set_option maxHeartbeats 4000000 in
theorem diffLeads_walk (a b : ByteArray) (w : World) (ha : a.size ≤ 140737488351232) (hb : b.size ≤ 140737488351232) :
    Calls Try.prog 7 #[.string a, .string b] w fun e w' => e = .returned (.bool true) ∧ Below w.heap.size w w' := by
  have HK := E.hKn
  have K : Hid (D.Kn w w []) := ⟨Below.refl _ _, fun x hx => by cases hx⟩
  have H1 := E.hBet a b ha hb
  have H2 := E.hLin a b ha hb
  have H3 := E.hBet a a ha ha
  have H4 := E.hLin a a ha ha
  have H5 := E.hId a.size ha
  have P1 : Hid (F.btE a.data.toList b.data.toList = 0 ∨ F.btE a.data.toList b.data.toList = 5) := by
    show _ ∨ _
    rw [F.btE_eq]; split <;> simp
  have P2 : Hid (F.lnE a.data.toList b.data.toList = 0 ∨ F.lnE a.data.toList b.data.toList = 5) := F.lnE_cases _ _
  have A1 : Hid (F.btE a.data.toList b.data.toList = 0 → ∀ ao c W, D.Row W ao (F.btP a.data.toList b.data.toList) → Calls Try.prog 24 #[.string a, .slice ao (F.btP a.data.toList b.data.toList).length c] W (fun e w' => e = .returned (.tuple #[.string b, .int .i64 0]) ∧ Below W.heap.size W w')) := fun h => (E.hApp a b ha _ (E.bt_bd _ _) (F.bt_leads h).1 (F.bt_leads h).2).out
  have A2 : Hid (F.lnE a.data.toList b.data.toList = 0 → ∀ ao c W, D.Row W ao (F.lnQ a.data.toList b.data.toList) → Calls Try.prog 24 #[.string a, .slice ao (F.lnQ a.data.toList b.data.toList).length c] W (fun e w' => e = .returned (.tuple #[.string b, .int .i64 0]) ∧ Below W.heap.size W w')) := fun h => (E.hApp a b ha _ (E.ln_bd _ _) (F.lnQ_ln h).leads.1 (F.lnQ_ln h).leads.2).out
  have S3 := E.hSame (F.btP a.data.toList a.data.toList) (E.bt_bd _ _).1
  have AA : Hid ((F.btE a.data.toList a.data.toList = 0 ∧ D.idE (a.size : Int) = 0 ∧ F.lnE a.data.toList a.data.toList = 0 ∧ D.idP (a.size : Int) = F.btP a.data.toList a.data.toList ∧ F.lnQ a.data.toList a.data.toList = F.btP a.data.toList a.data.toList) ∨
      (F.btE a.data.toList a.data.toList = 0 ∧ D.idE (a.size : Int) = 0 ∧ F.lnE a.data.toList a.data.toList = 5 ∧ D.idP (a.size : Int) = F.btP a.data.toList a.data.toList) ∨
      (F.btE a.data.toList a.data.toList = 5 ∧ D.idE (a.size : Int) = 5 ∧ F.lnE a.data.toList a.data.toList = 5 ∧ D.idP (a.size : Int) = F.btP a.data.toList a.data.toList)) := by
    have hl := U.len a
    by_cases c : 1048576 < a.size
    · have e1 : F.btE a.data.toList a.data.toList = 5 := by rw [F.btE_eq, if_pos (by omega)]
      have e2 : F.lnE a.data.toList a.data.toList = 5 := by unfold F.lnE; rw [if_pos (by omega)]
      refine .inr (.inr ⟨e1, ?_, e2, ?_⟩)
      · unfold D.idE; rw [if_neg (by omega), if_pos (by omega)]
      · rw [F.btP_bad (by rw [e1]; decide)]; unfold D.idP; rw [if_neg (by omega)]
    · have e1 : F.btE a.data.toList a.data.toList = 0 := by rw [F.btE_eq, if_neg (by omega)]
      have e3 : D.idE (a.size : Int) = 0 := by unfold D.idE; rw [if_neg (by omega), if_neg (by omega)]
      have e4 : D.idP (a.size : Int) = F.btP a.data.toList a.data.toList := by rw [F.bt_self e1, ← hl]; exact E.id_self _ (by omega)
      rcases F.lnE_cases a.data.toList a.data.toList with e2 | e2
      · exact .inl ⟨e1, e3, e2, e4, by rw [(F.lnQ_ln e2).self, F.bt_self e1]⟩
      · exact .inr (.inl ⟨e1, e3, e2, e4⟩)
  clear hb
  generalize F.btE a.data.toList b.data.toList = E1 at *
  generalize F.lnE a.data.toList b.data.toList = E2 at *
  generalize F.btP a.data.toList b.data.toList = PX at *
  generalize F.lnQ a.data.toList b.data.toList = PY at *
  generalize F.btE a.data.toList a.data.toList = E3 at *
  generalize F.lnE a.data.toList a.data.toList = E4 at *
  generalize F.btP a.data.toList a.data.toList = PA at *
  generalize F.lnQ a.data.toList a.data.toList = PB at *
  generalize D.idE (a.size : Int) = E5 at *
  generalize D.idP (a.size : Int) = PI at *
  go_enter Try.func7, Try.ntmps7
  go_wp2_with fail
  refine (H1.out _).mono ?_
  rintro e w1 ⟨v, rfl, hm⟩
  obtain ⟨ox, cx, hv, K1⟩ := K.out.made hm
  subst hv
  clear hm K
  go_wp2_with fail
  refine (H2.out _).mono ?_
  rintro e w2 ⟨v, rfl, hm⟩
  obtain ⟨oy, cy, hv, K2⟩ := K1.out.made hm
  subst hv
  clear hm K1
  have KK := Lib.hid K2.out
  clear H1 H2 K2
  go_upto_if 30 with (fail)
  go_cut [9] (fun _ wx => Hid (D.Kn w wx [(oy, PY), (ox, PX)]))
  case first =>
    rcases P1.out with e | e
    · have AP := Lib.hid (A1.out e)
      subst e
      clear A1 P1
      go_wp2_with fail
      refine (AP.out _ _ _ KK.out.tl.r0).mono ?_
      rintro e wz ⟨rfl, hb⟩
      have KZ := Lib.hid (KK.out.on hb)
      clear hb KK AP
      go_wp2
      go_meet
      case rel => exact KZ
    · subst e
      go_wp2
      go_meet
      case rel => exact KK
  case rest =>
  obtain ⟨KMW, rfl⟩ : ∃ KMW : World, KMW = wc := ⟨_, rfl⟩
  have KM := Lib.hid hcut.out
  clear hcut KK P1 A1
  go_upto_if 45 with (fail)
  go_cut [11] (fun _ wx => Hid (D.Kn w wx [(oy, PY), (ox, PX)]))
  case first =>
    rcases P2.out with e | e
    · have AP := Lib.hid (A2.out e)
      subst e
      clear A2 P2
      go_wp2_with fail
      refine (AP.out _ _ _ KM.out.r0).mono ?_
      rintro e wz ⟨rfl, hb⟩
      have KZ := Lib.hid (KM.out.on hb)
      clear hb KM AP
      go_wp2
      go_meet
      case rel => exact KZ
    · subst e
      go_wp2
      go_meet
      case rel => exact KM
  case rest =>
  obtain ⟨KNW, rfl⟩ : ∃ KNW : World, KNW = wc := ⟨_, rfl⟩
  have KN := Lib.hid hcut.out
  clear hcut KM P2 A2
  rcases AA.out with ⟨e1, e2, e3, e4, e5⟩ | ⟨e1, e2, e3, e4⟩ | ⟨e1, e2, e3, e4⟩
  · subst e1 e2 e3 e4 e5
    clear AA
    go_wp2_with fail
    refine (H3.out _).mono ?_
    rintro e w11 ⟨v, rfl, hm⟩
    obtain ⟨op, cp, hv, K11⟩ := KN.out.made hm
    subst hv
    clear hm KN
    go_wp2_with fail
    refine (H4.out _).mono ?_
    rintro e w12 ⟨v, rfl, hm⟩
    obtain ⟨oq, cq, hv, K12⟩ := K11.out.made hm
    subst hv
    clear hm K11
    go_wp2_with fail
    refine (H5.out _).mono ?_
    rintro e w13 ⟨v, rfl, hm⟩
    obtain ⟨or, cr, hv, K13⟩ := K12.out.made hm
    subst hv
    clear hm K12
    go_wp2_with fail
    refine (S3.out _ _ _ _ _ K13.out.tl.tl.r0 K13.out.r0).mono ?_
    rintro e w14 ⟨rfl, hb⟩
    have K14 := Lib.hid (K13.out.on hb)
    clear hb K13
    go_wp2_with fail
    refine (S3.out _ _ _ _ _ K14.out.tl.r0 K14.out.r0).mono ?_
    rintro e w15 ⟨rfl, hb⟩
    have K15 := Lib.hid (K14.out.on hb)
    clear hb K14
    have KB := Lib.hid K15.out.below
    clear K15
    go_wp2_with fail
    refine (HK.out _).mono ?_
    rintro e wk ⟨rfl, hb⟩
    have KC := Lib.hid (KB.out.trans (hb.mono KB.out.size))
    clear hb
    go_wp2
    go_ret
    exact ⟨rfl, KC.out⟩
  · subst e1 e2 e3 e4
    clear AA
    go_wp2_with fail
    refine (H3.out _).mono ?_
    rintro e w11 ⟨v, rfl, hm⟩
    obtain ⟨op, cp, hv, K11⟩ := KN.out.made hm
    subst hv
    clear hm KN
    go_wp2_with fail
    refine (H4.out _).mono ?_
    rintro e w12 ⟨v, rfl, hm⟩
    obtain ⟨oq, cq, hv, K12⟩ := K11.out.made hm
    subst hv
    clear hm K11
    go_wp2_with fail
    refine (H5.out _).mono ?_
    rintro e w13 ⟨v, rfl, hm⟩
    obtain ⟨or, cr, hv, K13⟩ := K12.out.made hm
    subst hv
    clear hm K12
    go_wp2_with fail
    refine (S3.out _ _ _ _ _ K13.out.tl.tl.r0 K13.out.r0).mono ?_
    rintro e w14 ⟨rfl, hb⟩
    have K14 := Lib.hid (K13.out.on hb)
    clear hb K13
    have KB := Lib.hid K14.out.below
    clear K14
    go_wp2_with fail
    refine (HK.out _).mono ?_
    rintro e wk ⟨rfl, hb⟩
    have KC := Lib.hid (KB.out.trans (hb.mono KB.out.size))
    clear hb
    go_wp2
    go_ret
    exact ⟨rfl, KC.out⟩
  · subst e1 e2 e3 e4
    clear AA
    go_wp2_with fail
    refine (H3.out _).mono ?_
    rintro e w11 ⟨v, rfl, hm⟩
    obtain ⟨op, cp, hv, K11⟩ := KN.out.made hm
    subst hv
    clear hm KN
    go_wp2_with fail
    refine (H4.out _).mono ?_
    rintro e w12 ⟨v, rfl, hm⟩
    obtain ⟨oq, cq, hv, K12⟩ := K11.out.made hm
    subst hv
    clear hm K11
    go_wp2_with fail
    refine (H5.out _).mono ?_
    rintro e w13 ⟨v, rfl, hm⟩
    obtain ⟨or, cr, hv, K13⟩ := K12.out.made hm
    subst hv
    clear hm K12
    go_wp2_with fail
    refine (S3.out _ _ _ _ _ K13.out.tl.tl.r0 K13.out.r0).mono ?_
    rintro e w14 ⟨rfl, hb⟩
    have K14 := Lib.hid (K13.out.on hb)
    clear hb K13
    have KB := Lib.hid K14.out.below
    clear K14
    go_wp2_with fail
    refine (HK.out _).mono ?_
    rintro e wk ⟨rfl, hb⟩
    have KC := Lib.hid (KB.out.trans (hb.mono KB.out.size))
    clear hb
    go_wp2
    go_ret
    exact ⟨rfl, KC.out⟩
set_option maxRecDepth 100000 in
set_option maxHeartbeats 4000000 in
theorem diffDistance_walk (a b c : ByteArray) (w : World) (ha : a.size ≤ 140737488351232) (hb : b.size ≤ 140737488351232) (hc : c.size ≤ 140737488351232) :
    Calls Try.prog 8 #[.string a, .string b, .string c] w fun e w' => e = .returned (.bool true) ∧ Below w.heap.size w w' := by
  have HK := E.hKn
  have K : Hid (D.Kn w w []) := ⟨Below.refl _ _, fun x hx => by cases hx⟩
  have H1 := E.hLin a b ha hb
  have H2 := E.hLin b a hb ha
  have H3 := E.hLin b c hb hc
  have H4 := E.hLin a c ha hc
  have C1 := E.hCst (F.lnQ a.data.toList b.data.toList) (E.ln_bd _ _)
  have C2 := E.hCst (F.lnQ b.data.toList a.data.toList) (E.ln_bd _ _)
  have C3 := E.hCst (F.lnQ b.data.toList c.data.toList) (E.ln_bd _ _)
  have C4 := E.hCst (F.lnQ a.data.toList c.data.toList) (E.ln_bd _ _)
  rw [E.lnE_comm b.data.toList a.data.toList] at H2
  rcases F.lnE_cases a.data.toList b.data.toList with e1 | e1
  · rcases F.lnE_cases b.data.toList c.data.toList with e3 | e3
    · rcases F.lnE_cases a.data.toList c.data.toList with e4 | e4
      · have l1 := F.lnQ_ln e1
        have l2 := F.lnQ_ln (show F.lnE b.data.toList a.data.toList = 0 by rw [E.lnE_comm]; exact e1)
        have l3 := F.lnQ_ln e3
        have l4 := F.lnQ_ln e4
        have tri := F.dist_tri a.data.toList b.data.toList c.data.toList
        have le := F.dist_le a.data.toList b.data.toList
        have le3 := F.dist_le b.data.toList c.data.toList
        have zr := F.dist_zero a.data.toList b.data.toList
        rw [l1.cost, l1.ok] at C1
        rw [l2.cost, l2.ok, F.dist_symm b.data.toList a.data.toList] at C2
        rw [l3.cost, l3.ok] at C3
        rw [l4.cost, l4.ok] at C4
        obtain ⟨s1, s2, _, _⟩ := F.lnE_ok e1
        obtain ⟨_, s3, _, _⟩ := F.lnE_ok e3
        rw [e1] at H1 H2
        rw [e3] at H3
        rw [e4] at H4
        rw [U.len, U.len] at le le3
        rw [U.len] at s1 s2 s3
        clear l1 l2 l3 l4 e1 e3 e4 ha hb hc
        generalize F.lnQ a.data.toList b.data.toList = Q1 at *
        generalize F.lnQ b.data.toList a.data.toList = Q2 at *
        generalize F.lnQ b.data.toList c.data.toList = Q3 at *
        generalize F.lnQ a.data.toList c.data.toList = Q4 at *
        by_cases hab : a.data.toList = b.data.toList
        · have hd := zr.2 hab
          have hab2 : a = b := by rw [← D.bytes_eq a, ← D.bytes_eq b, hab]
          subst hab2
          rw [hd] at C1 C2 tri
          clear zr hab hd le
          generalize F.dist a.data.toList c.data.toList = d4 at *
          have l4 : d4 ≤ 2097152 := by omega
          clear le3
          go_enter Try.func8, Try.ntmps8
          go_wp2_with fail
          refine (H1.out _).mono ?_
          rintro e w1 ⟨v, rfl, hm⟩
          obtain ⟨ox, cx, hv, K1⟩ := K.out.made hm
          subst hv
          clear hm K
          go_wp2_with fail
          refine (H2.out _).mono ?_
          rintro e w2 ⟨v, rfl, hm⟩
          obtain ⟨oy, cy, hv, K2⟩ := K1.out.made hm
          subst hv
          clear hm K1
          go_wp2_with fail
          refine (H3.out _).mono ?_
          rintro e w3 ⟨v, rfl, hm⟩
          obtain ⟨oz, cz, hv, K3⟩ := K2.out.made hm
          subst hv
          clear hm K2
          go_wp2_with fail
          refine (H4.out _).mono ?_
          rintro e w4 ⟨v, rfl, hm⟩
          obtain ⟨ou, cu, hv, K4⟩ := K3.out.made hm
          subst hv
          clear hm K3
          go_wp2_with fail
          refine (C1.out _ _ _ K4.out.tl.tl.tl.r0).mono ?_
          rintro e w5 ⟨rfl, hb⟩
          have K5 := Lib.hid (K4.out.on hb)
          clear hb K4
          go_wp2_with fail
          refine (C2.out _ _ _ K5.out.tl.tl.r0).mono ?_
          rintro e w6 ⟨rfl, hb⟩
          have K6 := Lib.hid (K5.out.on hb)
          clear hb K5
          go_wp2_with fail
          refine (C3.out _ _ _ K6.out.tl.r0).mono ?_
          rintro e w7 ⟨rfl, hb⟩
          have K7 := Lib.hid (K6.out.on hb)
          clear hb K6
          go_wp2_with fail
          refine (C4.out _ _ _ K7.out.r0).mono ?_
          rintro e w8 ⟨rfl, hb⟩
          have K8 := Lib.hid (K7.out.on hb)
          clear hb K7
          have KB := Lib.hid K8.out.below
          clear K8
          go_wp2_with fail
          refine (HK.out _).mono ?_
          rintro e wk ⟨rfl, hb⟩
          have KC := Lib.hid (KB.out.trans (hb.mono KB.out.size))
          clear hb
          go_wp2
          go_ret
          exact ⟨rfl, KC.out⟩
        · have hne : (a.toList == b.toList) = false := by
            rw [beq_eq_false_iff_ne, ByteArray.toList_eq, ByteArray.toList_eq]; exact hab
          have hd : ¬ F.dist a.data.toList b.data.toList = 0 := fun e => hab (zr.1 e)
          clear zr hab
          generalize F.dist a.data.toList b.data.toList = d1 at *
          generalize F.dist b.data.toList c.data.toList = d3 at *
          generalize F.dist a.data.toList c.data.toList = d4 at *
          have hq : (((d1 : Nat) : Int) == 0) = false := by simp; omega
          clear hd
          go_enter Try.func8, Try.ntmps8
          go_wp2_with fail
          refine (H1.out _).mono ?_
          rintro e w1 ⟨v, rfl, hm⟩
          obtain ⟨ox, cx, hv, K1⟩ := K.out.made hm
          subst hv
          clear hm K
          go_wp2_with fail
          refine (H2.out _).mono ?_
          rintro e w2 ⟨v, rfl, hm⟩
          obtain ⟨oy, cy, hv, K2⟩ := K1.out.made hm
          subst hv
          clear hm K1
          go_wp2_with fail
          refine (H3.out _).mono ?_
          rintro e w3 ⟨v, rfl, hm⟩
          obtain ⟨oz, cz, hv, K3⟩ := K2.out.made hm
          subst hv
          clear hm K2
          go_wp2_with fail
          refine (H4.out _).mono ?_
          rintro e w4 ⟨v, rfl, hm⟩
          obtain ⟨ou, cu, hv, K4⟩ := K3.out.made hm
          subst hv
          clear hm K3
          go_wp2_with fail
          refine (C1.out _ _ _ K4.out.tl.tl.tl.r0).mono ?_
          rintro e w5 ⟨rfl, hb⟩
          have K5 := Lib.hid (K4.out.on hb)
          clear hb K4
          go_wp2_with fail
          refine (C2.out _ _ _ K5.out.tl.tl.r0).mono ?_
          rintro e w6 ⟨rfl, hb⟩
          have K6 := Lib.hid (K5.out.on hb)
          clear hb K5
          go_wp2_with fail
          refine (C3.out _ _ _ K6.out.tl.r0).mono ?_
          rintro e w7 ⟨rfl, hb⟩
          have K7 := Lib.hid (K6.out.on hb)
          clear hb K6
          go_wp2_with fail
          refine (C4.out _ _ _ K7.out.r0).mono ?_
          rintro e w8 ⟨rfl, hb⟩
          have K8 := Lib.hid (K7.out.on hb)
          clear hb K7
          have KB := Lib.hid K8.out.below
          clear K8
          go_wp2_with fail
          refine (HK.out _).mono ?_
          rintro e wk ⟨rfl, hb⟩
          have KC := Lib.hid (KB.out.trans (hb.mono KB.out.size))
          clear hb
          go_wp2
          go_ret
          exact ⟨rfl, KC.out⟩
      · rw [e1] at H1 H2
        rw [e3] at H3
        rw [e4] at H4
        clear e1 e3 e4 C1 C2 C3 C4
        generalize F.lnQ a.data.toList b.data.toList = Q1 at *
        generalize F.lnQ b.data.toList a.data.toList = Q2 at *
        generalize F.lnQ b.data.toList c.data.toList = Q3 at *
        generalize F.lnQ a.data.toList c.data.toList = Q4 at *
        go_enter Try.func8, Try.ntmps8
        go_wp2_with fail
        refine (H1.out _).mono ?_
        rintro e w1 ⟨v, rfl, hm⟩
        obtain ⟨ox, cx, hv, K1⟩ := K.out.made hm
        subst hv
        clear hm K
        go_wp2_with fail
        refine (H2.out _).mono ?_
        rintro e w2 ⟨v, rfl, hm⟩
        obtain ⟨oy, cy, hv, K2⟩ := K1.out.made hm
        subst hv
        clear hm K1
        go_wp2_with fail
        refine (H3.out _).mono ?_
        rintro e w3 ⟨v, rfl, hm⟩
        obtain ⟨oz, cz, hv, K3⟩ := K2.out.made hm
        subst hv
        clear hm K2
        go_wp2_with fail
        refine (H4.out _).mono ?_
        rintro e w4 ⟨v, rfl, hm⟩
        obtain ⟨ou, cu, hv, K4⟩ := K3.out.made hm
        subst hv
        clear hm K3
        have KB := Lib.hid K4.out.below
        clear K4
        go_wp2_with fail
        refine (HK.out _).mono ?_
        rintro e wk ⟨rfl, hb⟩
        have KC := Lib.hid (KB.out.trans (hb.mono KB.out.size))
        clear hb
        go_wp2
        go_ret
        exact ⟨rfl, KC.out⟩
    · rw [e1] at H1 H2
      rw [e3] at H3
      clear e1 e3 C1 C2 C3 C4
      generalize F.lnQ a.data.toList b.data.toList = Q1 at *
      generalize F.lnQ b.data.toList a.data.toList = Q2 at *
      generalize F.lnQ b.data.toList c.data.toList = Q3 at *
      generalize F.lnQ a.data.toList c.data.toList = Q4 at *
      generalize F.lnE a.data.toList c.data.toList = E4 at *
      go_enter Try.func8, Try.ntmps8
      go_wp2_with fail
      refine (H1.out _).mono ?_
      rintro e w1 ⟨v, rfl, hm⟩
      obtain ⟨ox, cx, hv, K1⟩ := K.out.made hm
      subst hv
      clear hm K
      go_wp2_with fail
      refine (H2.out _).mono ?_
      rintro e w2 ⟨v, rfl, hm⟩
      obtain ⟨oy, cy, hv, K2⟩ := K1.out.made hm
      subst hv
      clear hm K1
      go_wp2_with fail
      refine (H3.out _).mono ?_
      rintro e w3 ⟨v, rfl, hm⟩
      obtain ⟨oz, cz, hv, K3⟩ := K2.out.made hm
      subst hv
      clear hm K2
      go_wp2_with fail
      refine (H4.out _).mono ?_
      rintro e w4 ⟨v, rfl, hm⟩
      obtain ⟨ou, cu, hv, K4⟩ := K3.out.made hm
      subst hv
      clear hm K3
      have KB := Lib.hid K4.out.below
      clear K4
      go_wp2_with fail
      refine (HK.out _).mono ?_
      rintro e wk ⟨rfl, hb⟩
      have KC := Lib.hid (KB.out.trans (hb.mono KB.out.size))
      clear hb
      go_wp2
      go_ret
      exact ⟨rfl, KC.out⟩
  · rw [e1] at H1 H2
    clear e1 C1 C2 C3 C4
    generalize F.lnQ a.data.toList b.data.toList = Q1 at *
    generalize F.lnQ b.data.toList a.data.toList = Q2 at *
    generalize F.lnQ b.data.toList c.data.toList = Q3 at *
    generalize F.lnQ a.data.toList c.data.toList = Q4 at *
    generalize F.lnE b.data.toList c.data.toList = E3 at *
    generalize F.lnE a.data.toList c.data.toList = E4 at *
    go_enter Try.func8, Try.ntmps8
    go_wp2_with fail
    refine (H1.out _).mono ?_
    rintro e w1 ⟨v, rfl, hm⟩
    obtain ⟨ox, cx, hv, K1⟩ := K.out.made hm
    subst hv
    clear hm K
    go_wp2_with fail
    refine (H2.out _).mono ?_
    rintro e w2 ⟨v, rfl, hm⟩
    obtain ⟨oy, cy, hv, K2⟩ := K1.out.made hm
    subst hv
    clear hm K1
    go_wp2_with fail
    refine (H3.out _).mono ?_
    rintro e w3 ⟨v, rfl, hm⟩
    obtain ⟨oz, cz, hv, K3⟩ := K2.out.made hm
    subst hv
    clear hm K2
    go_wp2_with fail
    refine (H4.out _).mono ?_
    rintro e w4 ⟨v, rfl, hm⟩
    obtain ⟨ou, cu, hv, K4⟩ := K3.out.made hm
    subst hv
    clear hm K3
    have KB := Lib.hid K4.out.below
    clear K4
    go_wp2_with fail
    refine (HK.out _).mono ?_
    rintro e wk ⟨rfl, hb⟩
    have KC := Lib.hid (KB.out.trans (hb.mono KB.out.size))
    clear hb
    go_wp2
    go_ret
    exact ⟨rfl, KC.out⟩
set_option maxRecDepth 100000 in
set_option maxHeartbeats 4000000 in
theorem diffLeast_walk (a b : ByteArray) (s : D.Src) (w : World) (ha : a.size ≤ 140737488351232) (hb : b.size ≤ 140737488351232) (hs : D.ArgOk w s) :
    Calls Try.prog 9 #[.string a, .string b, .slice s.a s.x.length s.c] w fun e w' => e = .returned (.bool true) ∧ Below w.heap.size w w' := by
  have HK := E.hKn
  have bd := E.bd_arg hs
  have H1 := E.hLin a b ha hb
  have H2 := E.hBy a b ha hb s.x bd
  have C1 := E.hCst (F.lnQ a.data.toList b.data.toList) (E.ln_bd _ _)
  have C2 := E.hCst s.x bd
  have HL := Lib.hid hs.fit
  have K : Hid (D.Kn w w [(s.a, s.x)]) := ⟨Below.refl _ _, fun x hx => by simp at hx; subst hx; exact hs.src.row⟩
  have nS : Hid (s.a = none → s.c = 0) := hs.src.nil
  rcases F.lnE_cases a.data.toList b.data.toList with e1 | e1
  · have l1 := F.lnQ_ln e1
    rw [l1.cost, l1.ok] at C1
    rw [e1] at H1
    clear e1 ha hb bd hs l1
    cases hby : F.byB a.data.toList b.data.toList s.x with
    | true =>
      obtain ⟨f1, f2, f3⟩ := F.byB_iff.1 hby
      have hck : D.chk s.x = 0 := by
        unfold D.fitE at f1
        by_cases c : D.chk s.x = 0
        · exact c
        · rw [if_neg c] at f1; exact absurd f1 c
      have lst := F.least_of hck ((F.by_iff hck).2 ⟨f1, f2, f3⟩)
      rw [hby] at H2
      rw [hck] at C2
      clear hby f1 f2 f3 hck
      generalize F.lnQ a.data.toList b.data.toList = Q at *
      generalize F.dist a.data.toList b.data.toList = d at *
      generalize F.costP s.x = n at *
      obtain ⟨oS, cS, S⟩ := s
      dsimp only at *
      go_enter Try.func9, Try.ntmps9
      go_wp2_with fail
      refine (H1.out _).mono ?_
      rintro e w1 ⟨v, rfl, hm⟩
      obtain ⟨ox, cx, hv, K1⟩ := K.out.made hm
      subst hv
      clear hm K
      go_wp2_with fail
      refine (H2.out _ _ _ K1.out.tl.r0).mono ?_
      rintro e w2 ⟨rfl, hb⟩
      have K2 := Lib.hid (K1.out.on hb)
      clear hb K1
      go_wp2_with fail
      refine (C1.out _ _ _ K2.out.r0).mono ?_
      rintro e w3 ⟨rfl, hb⟩
      have K3 := Lib.hid (K2.out.on hb)
      clear hb K2
      have ho := Lib.hid (World.ownsRow_made (w := w3) (base := w3.heap.size) (e := 47) (size := 3) #[] 0 (Nat.le_refl _) (Nat.zero_le _) rfl)
      have hbb := Lib.hid ((Below.refl w3.heap.size w3).alloc (Nat.le_refl _) (.cells #[] 47))
      have hr1 := Lib.hid (K3.out.tl.r0.below ((Below.refl w3.heap.size w3).alloc (Nat.le_refl _) (.cells #[] 47)))
      go_wp2_with (at_builtin; refine D.append_src' (w0 := w3) rfl _ _ rfl _ _ _ rfl ho.out hbb.out oS cS S rfl nS.out hr1.out ?q3 ?_)
      case q3 => (have := HL.out; omega)
      intro v w4 hown' hb3
      have hm : D.Made S w3 v w4 := ⟨hown', hb3⟩
      clear hown' hb3 ho hbb hr1
      obtain ⟨oy, cy, hv, K4⟩ := K3.out.made hm
      subst hv
      clear hm K3
      go_wp2_with fail
      refine (C2.out _ _ _ K4.out.r0).mono ?_
      rintro e w5 ⟨rfl, hb⟩
      have K5 := Lib.hid (K4.out.on hb)
      clear hb K4
      have KB := Lib.hid K5.out.below
      clear K5
      go_wp2_with fail
      refine (HK.out _).mono ?_
      rintro e wk ⟨rfl, hb⟩
      have KC := Lib.hid (KB.out.trans (hb.mono KB.out.size))
      clear hb
      go_wp2
      go_ret
      exact ⟨rfl, KC.out⟩
    | false =>
      rw [hby] at H2
      clear hby C1 C2
      generalize F.lnQ a.data.toList b.data.toList = Q at *
      obtain ⟨oS, cS, S⟩ := s
      dsimp only at *
      go_enter Try.func9, Try.ntmps9
      go_wp2_with fail
      refine (H1.out _).mono ?_
      rintro e w1 ⟨v, rfl, hm⟩
      obtain ⟨ox, cx, hv, K1⟩ := K.out.made hm
      subst hv
      clear hm K
      go_wp2_with fail
      refine (H2.out _ _ _ K1.out.tl.r0).mono ?_
      rintro e w2 ⟨rfl, hb⟩
      have K2 := Lib.hid (K1.out.on hb)
      clear hb K1
      have KB := Lib.hid K2.out.below
      clear K2
      go_wp2_with fail
      refine (HK.out _).mono ?_
      rintro e wk ⟨rfl, hb⟩
      have KC := Lib.hid (KB.out.trans (hb.mono KB.out.size))
      clear hb
      go_wp2
      go_ret
      exact ⟨rfl, KC.out⟩
  · rw [e1] at H1
    clear e1 ha hb bd hs C1 C2 H2
    generalize F.lnQ a.data.toList b.data.toList = Q at *
    obtain ⟨oS, cS, S⟩ := s
    dsimp only at *
    go_enter Try.func9, Try.ntmps9
    go_wp2_with fail
    refine (H1.out _).mono ?_
    rintro e w1 ⟨v, rfl, hm⟩
    obtain ⟨ox, cx, hv, K1⟩ := K.out.made hm
    subst hv
    clear hm K
    have KB := Lib.hid K1.out.below
    clear K1
    go_wp2_with fail
    refine (HK.out _).mono ?_
    rintro e wk ⟨rfl, hb⟩
    have KC := Lib.hid (KB.out.trans (hb.mono KB.out.size))
    clear hb
    go_wp2
    go_ret
    exact ⟨rfl, KC.out⟩
end Go.Proofs.Ytdilkoogjkabfaa
