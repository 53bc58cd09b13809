/- The walks of DiffCommon, DiffBetween, DiffLines, DiffCosts. -/
import Derived.Test.YtdilkoogjkabfaaDiffLawKit
namespace Go.Proofs.Ytdilkoogjkabfaa
open Go.RowKit

set_option maxRecDepth 100000 in
set_option maxHeartbeats 4000000 in
theorem diffCommon_walk (a b : ByteArray) (w : World) (ha : a.size ≤ 140737488351232) (hb : b.size ≤ 140737488351232) :
    Calls Try.prog 3 #[.string a, .string b] w fun e w' => e = .returned (.bool true) ∧ Below w.heap.size w w' := by
  have HK := E.hKn
  have K : Hid (D.Kn w w []) := ⟨Below.refl _ _, fun x hx => by cases hx⟩
  have H1 := E.hCom a b ha hb
  have H2 := E.hCom' a b ha hb
  clear ha hb
  generalize F.pre a.data.toList b.data.toList = p at *
  generalize F.suf a.data.toList b.data.toList = q at *
  go_enter Try.func3, Try.ntmps3
  go_wp2_with fail
  refine (H1.out _).mono ?_
  rintro e w1 ⟨rfl, hb⟩
  have K1 := Lib.hid (K.out.on hb)
  clear hb K
  go_wp2_with fail
  refine (H2.out _).mono ?_
  rintro e w2 ⟨rfl, hb⟩
  have K2 := Lib.hid (K1.out.on hb)
  clear hb K1
  have KB := Lib.hid K2.out.below
  clear K2
  go_wp2_with fail
  refine (HK.out _).mono ?_
  rintro e wk ⟨rfl, hb⟩
  have KC := Lib.hid (KB.out.trans (hb.mono KB.out.size))
  clear hb
  go_wp2
  go_ret
  exact ⟨rfl, KC.out⟩
set_option maxRecDepth 100000 in
set_option maxHeartbeats 4000000 in
theorem diffBetween_walk (a b : ByteArray) (w : World) (ha : a.size ≤ 140737488351232) (hb : b.size ≤ 140737488351232) :
    Calls Try.prog 4 #[.string a, .string b] w fun e w' => e = .returned (.bool true) ∧ Below w.heap.size w w' := by
  have HK := E.hKn
  have K : Hid (D.Kn w w []) := ⟨Below.refl _ _, fun x hx => by cases hx⟩
  have H1 := E.hBet a b ha hb
  have H2 := E.hBet' a b ha hb
  have S1 := E.hSame (F.btP a.data.toList b.data.toList) (E.bt_bd _ _).1
  clear ha hb
  generalize F.btP a.data.toList b.data.toList = P at *
  generalize F.btE a.data.toList b.data.toList = E at *
  go_enter Try.func4, Try.ntmps4
  go_wp2_with fail
  refine (H1.out _).mono ?_
  rintro e w1 ⟨v, rfl, hm⟩
  obtain ⟨ox, cx, hv, K1⟩ := K.out.made hm
  subst hv
  clear hm K
  go_wp2_with fail
  refine (H2.out _).mono ?_
  rintro e w2 ⟨v, rfl, hm⟩
  obtain ⟨oy, cy, hv, K2⟩ := K1.out.made hm
  subst hv
  clear hm K1
  go_wp2_with fail
  refine (S1.out _ _ _ _ _ K2.out.tl.r0 K2.out.r0).mono ?_
  rintro e w3 ⟨rfl, hb⟩
  have K3 := Lib.hid (K2.out.on hb)
  clear hb K2
  have KB := Lib.hid K3.out.below
  clear K3
  go_wp2_with fail
  refine (HK.out _).mono ?_
  rintro e wk ⟨rfl, hb⟩
  have KC := Lib.hid (KB.out.trans (hb.mono KB.out.size))
  clear hb
  go_wp2
  go_ret
  exact ⟨rfl, KC.out⟩
set_option maxRecDepth 100000 in
set_option maxHeartbeats 4000000 in
theorem diffLines_walk (a b : ByteArray) (w : World) (ha : a.size ≤ 140737488351232) (hb : b.size ≤ 140737488351232) :
    Calls Try.prog 5 #[.string a, .string b] w fun e w' => e = .returned (.bool true) ∧ Below w.heap.size w w' := by
  have HK := E.hKn
  have K : Hid (D.Kn w w []) := ⟨Below.refl _ _, fun x hx => by cases hx⟩
  have H1 := E.hLin a b ha hb
  have H2 := E.hLong a b ha hb
  rcases F.lnE_cases a.data.toList b.data.toList with h5 | h5
  · have ln := F.lnQ_ln h5
    obtain ⟨sa, sb, na, nb⟩ := F.lnE_ok h5
    rw [U.len] at sa sb
    have tl : F.tlB a.data.toList b.data.toList = false := by unfold F.tlB; rw [h5]; rfl
    have bd := E.ln_bd a.data.toList b.data.toList
    have H3 := E.hNrm (F.lnQ a.data.toList b.data.toList) bd ln.ok ln.nrm
    have H4 := E.hBy a b ha hb (F.lnQ a.data.toList b.data.toList) bd
    have by1 : F.byB a.data.toList b.data.toList (F.lnQ a.data.toList b.data.toList) = true := F.byB_iff.2 ((F.by_iff ln.ok).1 ln.lines)
    rw [by1] at H4
    have H5 := E.hRws a sa
    have H6 := E.hRws b sb
    have H7 := E.hCst' (F.lnQ a.data.toList b.data.toList) bd
    rw [ln.cost, ln.ok] at H7
    have H8 := E.hLst a b sa sb na nb
    rw [h5] at H1
    rw [tl] at H2
    clear h5 ln bd by1 tl
    generalize F.lnQ a.data.toList b.data.toList = Q at *
    generalize F.dist a.data.toList b.data.toList = z at *
    generalize (F.rows a.data.toList).length = n at *
    generalize (F.rows b.data.toList).length = m at *
    by_cases hn : 200 < n
    · have q1 : decide (200 < n) = true := by simpa using hn
      go_enter Try.func5, Try.ntmps5
      go_wp2_with fail
      refine (H1.out _).mono ?_
      rintro e w1 ⟨v, rfl, hm⟩
      obtain ⟨ox, cx, hv, K1⟩ := K.out.made hm
      subst hv
      clear hm K
      go_wp2_with fail
      refine (H2.out _).mono ?_
      rintro e w2 ⟨rfl, hb⟩
      have K2 := Lib.hid (K1.out.on hb)
      clear hb K1
      go_wp2_with fail
      refine (H3.out _ _ _ K2.out.r0).mono ?_
      rintro e w3 ⟨rfl, hb⟩
      have K3 := Lib.hid (K2.out.on hb)
      clear hb K2
      go_wp2_with fail
      refine (H4.out _ _ _ K3.out.r0).mono ?_
      rintro e w4 ⟨rfl, hb⟩
      have K4 := Lib.hid (K3.out.on hb)
      clear hb K3
      go_wp2_with fail
      refine (H5.out _).mono ?_
      rintro e w5 ⟨⟨qr, zr, rfl⟩, hb⟩
      have K5 := Lib.hid (K4.out.on hb)
      clear hb K4
      have KB := Lib.hid K5.out.below
      clear K5
      go_wp2_with fail
      refine (HK.out _).mono ?_
      rintro e wk ⟨rfl, hb⟩
      have KC := Lib.hid (KB.out.trans (hb.mono KB.out.size))
      clear hb
      go_wp2
      go_ret
      exact ⟨rfl, KC.out⟩
    · have q1 : decide (200 < n) = false := by simpa using hn
      by_cases hm : 200 < m
      · have q2 : decide (200 < m) = true := by simpa using hm
        go_enter Try.func5, Try.ntmps5
        go_wp2_with fail
        refine (H1.out _).mono ?_
        rintro e w1 ⟨v, rfl, hm⟩
        obtain ⟨ox, cx, hv, K1⟩ := K.out.made hm
        subst hv
        clear hm K
        go_wp2_with fail
        refine (H2.out _).mono ?_
        rintro e w2 ⟨rfl, hb⟩
        have K2 := Lib.hid (K1.out.on hb)
        clear hb K1
        go_wp2_with fail
        refine (H3.out _ _ _ K2.out.r0).mono ?_
        rintro e w3 ⟨rfl, hb⟩
        have K3 := Lib.hid (K2.out.on hb)
        clear hb K2
        go_wp2_with fail
        refine (H4.out _ _ _ K3.out.r0).mono ?_
        rintro e w4 ⟨rfl, hb⟩
        have K4 := Lib.hid (K3.out.on hb)
        clear hb K3
        go_wp2_with fail
        refine (H5.out _).mono ?_
        rintro e w5 ⟨⟨qr, zr, rfl⟩, hb⟩
        have K5 := Lib.hid (K4.out.on hb)
        clear hb K4
        go_wp2_with fail
        refine (H6.out _).mono ?_
        rintro e w6 ⟨⟨qs, zs, rfl⟩, hb⟩
        have K6 := Lib.hid (K5.out.on hb)
        clear hb K5
        have KB := Lib.hid K6.out.below
        clear K6
        go_wp2_with fail
        refine (HK.out _).mono ?_
        rintro e wk ⟨rfl, hb⟩
        have KC := Lib.hid (KB.out.trans (hb.mono KB.out.size))
        clear hb
        go_wp2
        go_ret
        exact ⟨rfl, KC.out⟩
      · have q2 : decide (200 < m) = false := by simpa using hm
        go_enter Try.func5, Try.ntmps5
        go_wp2_with fail
        refine (H1.out _).mono ?_
        rintro e w1 ⟨v, rfl, hm⟩
        obtain ⟨ox, cx, hv, K1⟩ := K.out.made hm
        subst hv
        clear hm K
        go_wp2_with fail
        refine (H2.out _).mono ?_
        rintro e w2 ⟨rfl, hb⟩
        have K2 := Lib.hid (K1.out.on hb)
        clear hb K1
        go_wp2_with fail
        refine (H3.out _ _ _ K2.out.r0).mono ?_
        rintro e w3 ⟨rfl, hb⟩
        have K3 := Lib.hid (K2.out.on hb)
        clear hb K2
        go_wp2_with fail
        refine (H4.out _ _ _ K3.out.r0).mono ?_
        rintro e w4 ⟨rfl, hb⟩
        have K4 := Lib.hid (K3.out.on hb)
        clear hb K3
        go_wp2_with fail
        refine (H5.out _).mono ?_
        rintro e w5 ⟨⟨qr, zr, rfl⟩, hb⟩
        have K5 := Lib.hid (K4.out.on hb)
        clear hb K4
        go_wp2_with fail
        refine (H6.out _).mono ?_
        rintro e w6 ⟨⟨qs, zs, rfl⟩, hb⟩
        have K6 := Lib.hid (K5.out.on hb)
        clear hb K5
        go_wp2_with fail
        refine (H7.out _ _ _ K6.out.r0).mono ?_
        rintro e w7 ⟨rfl, hb⟩
        have K7 := Lib.hid (K6.out.on hb)
        clear hb K6
        go_wp2_with fail
        refine (H8.out _).mono ?_
        rintro e w8 ⟨rfl, hb⟩
        have K8 := Lib.hid (K7.out.on hb)
        clear hb K7
        have KB := Lib.hid K8.out.below
        clear K8
        go_wp2_with fail
        refine (HK.out _).mono ?_
        rintro e wk ⟨rfl, hb⟩
        have KC := Lib.hid (KB.out.trans (hb.mono KB.out.size))
        clear hb
        go_wp2
        go_ret
        exact ⟨rfl, KC.out⟩
  · have tl : F.tlB a.data.toList b.data.toList = true := by unfold F.tlB; rw [h5]; rfl
    have e0 : F.lnQ a.data.toList b.data.toList = [] := F.lnQ_bad (by rw [h5]; decide)
    rw [h5, e0] at H1
    rw [tl] at H2
    clear h5 e0 tl
    obtain ⟨Q, hQ⟩ : ∃ Q : List D.P, Q = [] := ⟨_, rfl⟩
    have hQl : Q.length = 0 := by rw [hQ]; rfl
    rw [← hQ] at H1
    clear hQ
    go_enter Try.func5, Try.ntmps5
    go_wp2_with fail
    refine (H1.out _).mono ?_
    rintro e w1 ⟨v, rfl, hm⟩
    obtain ⟨ox, cx, hv, K1⟩ := K.out.made hm
    subst hv
    clear hm K
    go_wp2_with fail
    refine (H2.out _).mono ?_
    rintro e w2 ⟨rfl, hb⟩
    have K2 := Lib.hid (K1.out.on hb)
    clear hb K1
    have KB := Lib.hid K2.out.below
    clear K2
    go_wp2_with fail
    refine (HK.out _).mono ?_
    rintro e wk ⟨rfl, hb⟩
    have KC := Lib.hid (KB.out.trans (hb.mono KB.out.size))
    clear hb
    go_wp2
    go_ret
    exact ⟨rfl, KC.out⟩
set_option maxRecDepth 100000 in
set_option maxHeartbeats 4000000 in
theorem diffCosts_walk (s : D.Src) (w : World) (hs : D.ArgOk w s) :
    Calls Try.prog 6 #[.slice s.a s.x.length s.c] w fun e w' => e = .returned (.bool true) ∧ Below w.heap.size w w' := by
  have HK := E.hKn
  have bd := E.bd_arg hs
  have H1 := E.hCst s.x bd
  have H2 := E.hCst' s.x bd
  have S1 := E.hSame s.x bd.1
  have HL := Lib.hid hs.fit
  have K : Hid (D.Kn w w [(s.a, s.x)]) := ⟨Below.refl _ _, fun x hx => by simp at hx; subst hx; exact hs.src.row⟩
  have nS : Hid (s.a = none → s.c = 0) := hs.src.nil
  obtain ⟨oS, cS, S⟩ := s
  dsimp only at *
  clear bd hs
  generalize F.costP S = n at *
  generalize D.chk S = k at *
  go_enter Try.func6, Try.ntmps6
  have ho := Lib.hid (World.ownsRow_made (w := w) (base := w.heap.size) (e := 47) (size := 3) #[] 0 (Nat.le_refl _) (Nat.zero_le _) rfl)
  have hbb := Lib.hid ((Below.refl w.heap.size w).alloc (Nat.le_refl _) (.cells #[] 47))
  have hr1 := Lib.hid (K.out.r0.below ((Below.refl w.heap.size w).alloc (Nat.le_refl _) (.cells #[] 47)))
  go_wp2_with (at_builtin; refine D.append_src' (w0 := w) rfl _ _ rfl _ _ _ rfl ho.out hbb.out oS cS S rfl nS.out hr1.out ?q0 ?_)
  case q0 => (have := HL.out; omega)
  intro v w1 hown' hb3
  have hm : D.Made S w v w1 := ⟨hown', hb3⟩
  clear hown' hb3 ho hbb hr1
  obtain ⟨ox, cx, hv, K1⟩ := K.out.made hm
  subst hv
  clear hm K
  go_wp2_with fail
  refine (H1.out _ _ _ K1.out.r0).mono ?_
  rintro e w2 ⟨rfl, hb⟩
  have K2 := Lib.hid (K1.out.on hb)
  clear hb K1
  go_wp2_with fail
  refine (H2.out _ _ _ K2.out.tl.r0).mono ?_
  rintro e w3 ⟨rfl, hb⟩
  have K3 := Lib.hid (K2.out.on hb)
  clear hb K2
  go_wp2_with fail
  refine (S1.out _ _ _ _ _ K3.out.r0 K3.out.tl.r0).mono ?_
  rintro e w4 ⟨rfl, hb⟩
  have K4 := Lib.hid (K3.out.on hb)
  clear hb K3
  have KB := Lib.hid K4.out.below
  clear K4
  go_wp2_with fail
  refine (HK.out _).mono ?_
  rintro e wk ⟨rfl, hb⟩
  have KC := Lib.hid (KB.out.trans (hb.mono KB.out.size))
  clear hb
  go_wp2
  go_ret
  exact ⟨rfl, KC.out⟩
end Go.Proofs.Ytdilkoogjkabfaa
