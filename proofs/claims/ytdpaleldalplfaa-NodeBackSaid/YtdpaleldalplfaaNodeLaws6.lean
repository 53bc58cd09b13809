/- The walk of NodeBack. -/
import Derived.Test.YtdpaleldalplfaaNodeLaws0
namespace Go.Proofs.Ytdpaleldalplfaa
open Go.RowKit

theorem N.ok_fit {h : Nat} {k : N.K} (x : N.KOk h k) : N.Fit k := by
  have h1 := N.hi_bd h
  have := x.hi; have := x.r0; have := x.r1; have := x.l0; have := x.l1
  have hl := H.ok_lt x.at_
  exact ⟨by omega, by omega, by omega, by omega, by omega, by omega, by omega⟩
theorem N.valid_cd {x : N.Nd} (h : N.chk x = 0) : N.Cd x.h (⟨x.t.toArray⟩ : ByteArray) x.ks := by
  rcases N.chk_cases h with k | k
  · have := k.t2
    exact ⟨by rw [D.size_l]; unfold maxLen; omega, by rw [k.ks]; decide, fun p hp => by rw [k.ks] at hp; cases hp⟩
  · have := k.k4
    exact ⟨by rw [k.t]; decide, by omega, fun p hp => N.ok_fit (k.ok p hp)⟩
theorem N.nd_eta (x : N.Nd) : N.nd x.h (⟨x.t.toArray⟩ : ByteArray) x.ks = x := rfl
/-- What Decode answers, when a node was encoded, or not. -/
theorem N.hDx {x : N.Nd} {s : ByteArray} (hs : s.size ≤ maxLen) (hd : N.dec s.data.toList = some x) : Hid (∀ W, Calls Try.prog 34 #[.string s] W fun e w' => ∃ v, e = .returned (.tuple #[.agg #[.int .i64 x.h, .string ⟨x.t.toArray⟩, v], .int .i64 0]) ∧ N.Made x.ks W v w') := fun W => by
  refine (decode12_any s hs W).mono fun e w' h => ?_
  obtain ⟨v, rfl, hm⟩ := h
  have e1 : N.dcX s.data.toList = x := by unfold N.dcX; rw [hd]; rfl
  have e2 : N.dcE s.data.toList = 0 := by unfold N.dcE; rw [hd]; rfl
  rw [e1] at hm
  rw [e1, e2]
  exact ⟨v, rfl, hm⟩
theorem N.hDn {s : ByteArray} (hs : s.size ≤ maxLen) (hd : N.dec s.data.toList = none) : Hid (∀ W, Calls Try.prog 34 #[.string s] W fun e w' => ∃ v, e = .returned (.tuple #[.agg #[.int .i64 0, .string ⟨#[]⟩, v], .int .i64 4]) ∧ N.Made [] W v w') := fun W => by
  refine (decode12_any s hs W).mono fun e w' h => ?_
  obtain ⟨v, rfl, hm⟩ := h
  have e1 : N.dcX s.data.toList = ⟨0, [], []⟩ := by unfold N.dcX; rw [hd]; rfl
  have e2 : N.dcE s.data.toList = 4 := by unfold N.dcE; rw [hd]; rfl
  rw [e1] at hm
  rw [e1, e2]
  exact ⟨v, rfl, hm⟩
theorem N.str_eq_enc {x y : N.Nd} (hx : N.chk x = 0) (hy : N.chk y = 0) : ((⟨(N.enc x).toArray⟩ : ByteArray).toList == (⟨(N.enc y).toArray⟩ : ByteArray).toList) = decide (x = y) := by
  rw [ByteArray.toList_eq, ByteArray.toList_eq, Bool.eq_iff_iff, decide_eq_true_iff]
  show (N.enc x == N.enc y) = true ↔ _
  rw [beq_iff_eq]
  exact ⟨N.enc_inj hx hy, fun e => by rw [e]⟩
set_option maxRecDepth 100000 in
set_option maxHeartbeats 16000000 in
theorem nodeBack_walk (x y : N.NArg) (s : ByteArray) (w : World) (hx : N.NOk w x) (hy : N.NOk w y) (hs : s.size ≤ 140737488351232) :
    Calls Try.prog 8 #[x.v, y.v, .string s] w fun e w' => e = .returned (.bool true) ∧ Below w.heap.size w w' := by
  have cx := hx.cd
  have cy := hy.cd
  have rx := hx.s.row
  have ry := hy.s.row
  obtain ⟨h, t, ao, ca, l⟩ := x
  obtain ⟨k, r, bo, cb, m⟩ := y
  dsimp only at cx cy rx ry
  clear hx hy
  have hsm : s.size ≤ maxLen := by unfold maxLen; omega
  have HEx := N.hEn cx
  have HEy := N.hEn cy
  have HCx := N.hCk cx
  have HK := N.hAw
  have HZ : Hid (∀ vo vc W, N.Row W vo [] → Calls Try.prog 25 #[.agg #[.int .i64 0, .string ⟨#[]⟩, .slice vo 0 vc], .agg #[.int .i64 0, .string ⟨#[]⟩, .slice none 0 0]] W fun e w' => e = .returned (.bool true) ∧ Below W.heap.size W w') := fun vo vc W hr => (N.hEq (h := 0) (k := 0) (s := ⟨#[]⟩) (t := ⟨#[]⟩) (a := []) (b := []) (Nat.zero_le _) true (decide_eq_true rfl)).out vo vc none 0 W hr (N.row_nil _ _)
  have X1 := Lib.hid ((N.Nb.new w h t (.slice ao l.length ca) 24).alloc (.cells #[.int .i64 k, .string r, .slice bo m.length cb] 24))
  have Y1 := N.Nb.new (w.alloc (.cells #[.int .i64 h, .string t, .slice ao l.length ca] 24)) k r (.slice bo m.length cb) 24
  rw [World.size_alloc] at Y1
  have Y1 := Lib.hid Y1
  have Z1 : Hid (N.Kn w ((w.alloc (.cells #[.int .i64 h, .string t, .slice ao l.length ca] 24)).alloc (.cells #[.int .i64 k, .string r, .slice bo m.length cb] 24)) [(ao, l), (bo, m)]) := (((N.Kn0 w).add ry).add rx).on (((Below.refl _ _).alloc (Nat.le_refl _) _).alloc (by simp) _)
  unfold N.NArg.v N.nv
  dsimp only
  by_cases hA : N.chk (N.nd h t l) = 0
  · have HDx : Hid (∀ W, Calls Try.prog 34 #[.string ⟨(N.enc (N.nd h t l)).toArray⟩] W fun e w' => ∃ v, e = .returned (.tuple #[.agg #[.int .i64 h, .string t, v], .int .i64 0]) ∧ N.Made l W v w') := by
      have hd := N.dec_enc hA
      have hl := (N.enc_len hA).1
      have := N.hDx (x := N.nd h t l) (s := ⟨(N.enc (N.nd h t l)).toArray⟩) (by rw [D.size_l]; unfold maxLen; omega) hd
      rw [show (⟨(N.nd h t l).t.toArray⟩ : ByteArray) = t from D.bytes_eq t] at this
      exact this
    have HXX := N.hEq (h := h) (k := h) (s := t) (t := t) (a := l) (b := l) cx.len true (decide_eq_true rfl)
    by_cases hB : N.chk (N.nd k r m) = 0
    · obtain ⟨u, hu⟩ : ∃ u, decide (N.nd h t l = N.nd k r m) = u := ⟨_, rfl⟩
      have HXY := N.hEq (h := h) (k := k) (s := t) (t := r) (a := l) (b := m) cx.len u hu
      have qe := N.str_eq_enc hA hB
      rw [hu] at qe
      have qu : (u != u) = false := by simp
      rw [hA] at HEx HCx
      rw [hB] at HEy
      generalize (⟨(N.enc (N.nd h t l)).toArray⟩ : ByteArray) = xs at *
      generalize (⟨(N.enc (N.nd k r m)).toArray⟩ : ByteArray) = ys at *
      clear hu hA hB cx cy rx ry
      cases hd : N.dec s.data.toList with
      | none =>
        have HS := N.hDn hsm hd
        clear hd
        clear hsm hs
        go_enter Try.func8, Try.ntmps8
        go_wp2_with fail
        refine (HEx.out _ _ _ Z1.out.r0).mono ?_
        rintro e w2 ⟨rfl, hb⟩
        have Z2 := Lib.hid (Z1.out.on hb)
        have X2 := Lib.hid (X1.out.below hb)
        have Y2 := Lib.hid (Y1.out.below hb)
        clear hb Z1 X1 Y1
        have y0 := Y2.out.c0
        have y1 := Y2.out.c1
        have y2 := Y2.out.c2
        go_wp2_with fail
        refine (HEy.out _ _ _ Z2.out.tl.r0).mono ?_
        rintro e w3 ⟨rfl, hb⟩
        have Z3 := Lib.hid (Z2.out.on hb)
        have X3 := Lib.hid (X2.out.below hb)
        have Y3 := Lib.hid (Y2.out.below hb)
        clear hb Z2 X2 Y2 y0 y1 y2
        have x0 := X3.out.c0
        have x1 := X3.out.c1
        have x2 := X3.out.c2
        go_wp2_with fail
        refine (HCx.out _ _ _ Z3.out.r0).mono ?_
        rintro e w4 ⟨rfl, hb⟩
        have Z4 := Lib.hid (Z3.out.on hb)
        have X4 := Lib.hid (X3.out.below hb)
        have Y4 := Lib.hid (Y3.out.below hb)
        clear hb Z3 X3 Y3 x0 x1 x2
        have x0 := X4.out.c0
        have x1 := X4.out.c1
        have x2 := X4.out.c2
        have y0 := Y4.out.c0
        have y1 := Y4.out.c1
        have y2 := Y4.out.c2
        go_wp2_with fail
        refine (HXY.out _ _ _ _ _ Z4.out.r0 Z4.out.tl.r0).mono ?_
        rintro e w5 ⟨rfl, hb⟩
        have Z5 := Lib.hid (Z4.out.on hb)
        have X5 := Lib.hid (X4.out.below hb)
        clear hb Z4 X4 Y4 x0 x1 x2 y0 y1 y2
        go_wp2_with fail
        refine (HDx.out _).mono ?_
        rintro e w6 ⟨v, rfl, hm⟩
        obtain ⟨vo, vc, hv, Z6⟩ := Z5.out.made hm
        have X6 := Lib.hid (((X5.out.below hm.below)).alloc (.cells #[.int .i64 h, .string t, v] 24))
        have Z6 := Lib.hid (Z6.out.on ((Below.refl _ _).alloc (Nat.le_refl _) (.cells #[.int .i64 h, .string t, v] 24)))
        have C6 := Lib.hid (N.Nb.new w6 h t v 24)
        subst hv
        clear hm Z5 X5
        have x0 := X6.out.c0
        have x1 := X6.out.c1
        have x2 := X6.out.c2
        have c0 := C6.out.c0
        have c1 := C6.out.c1
        have c2 := C6.out.c2
        go_wp2_with fail
        refine (HXX.out _ _ _ _ _ Z6.out.r0 Z6.out.tl.r0).mono ?_
        rintro e w7 ⟨rfl, hb⟩
        have Z7 := Lib.hid (Z6.out.on hb)
        clear hb Z6 X6 C6 x0 x1 x2 c0 c1 c2
        go_wp2_with fail
        refine (HS.out _).mono ?_
        rintro e wd ⟨v, rfl, hm⟩
        obtain ⟨vo, vc, hv, ZD⟩ := Z7.out.made hm
        subst hv
        have ZD := Lib.hid (ZD.out.on ((Below.refl _ _).alloc (Nat.le_refl _) (.cells #[.int .i64 0, .string ⟨#[]⟩, .slice vo 0 vc] 24)))
        have CD := Lib.hid (N.Nb.new wd 0 ⟨#[]⟩ (.slice vo 0 vc) 24)
        clear hm
        have c0 := CD.out.c0
        have c1 := CD.out.c1
        have c2 := CD.out.c2
        go_wp2_with fail
        refine (HZ.out _ _ _ ZD.out.r0).mono ?_
        rintro e wf ⟨rfl, hb⟩
        have ZF := Lib.hid (ZD.out.on hb)
        clear hb c0 c1 c2 CD ZD
        go_wp2_with fail
        refine (HK.out _).mono ?_
        rintro e wk ⟨rfl, hb⟩
        have KC := Lib.hid (ZF.out.below.trans (hb.mono ZF.out.below.size))
        clear hb
        go_wp2
        go_ret
        exact ⟨rfl, KC.out⟩
      | some X =>
        obtain ⟨hc, he⟩ := N.enc_dec hd
        have HS := N.hDx hsm hd
        have cX := N.valid_cd hc
        have HSe := N.hEn cX
        have HSc := N.hCk cX
        rw [N.nd_eta, he, hc] at HSe
        rw [N.nd_eta, hc] at HSc
        rw [D.bytes_eq] at HSe
        obtain ⟨xh, xt0, xk⟩ := X
        dsimp only at HS HSe HSc
        generalize (⟨xt0.toArray⟩ : ByteArray) = xt at HS HSe HSc
        clear hc he hd cX
        clear hsm hs
        go_enter Try.func8, Try.ntmps8
        go_wp2_with fail
        refine (HEx.out _ _ _ Z1.out.r0).mono ?_
        rintro e w2 ⟨rfl, hb⟩
        have Z2 := Lib.hid (Z1.out.on hb)
        have X2 := Lib.hid (X1.out.below hb)
        have Y2 := Lib.hid (Y1.out.below hb)
        clear hb Z1 X1 Y1
        have y0 := Y2.out.c0
        have y1 := Y2.out.c1
        have y2 := Y2.out.c2
        go_wp2_with fail
        refine (HEy.out _ _ _ Z2.out.tl.r0).mono ?_
        rintro e w3 ⟨rfl, hb⟩
        have Z3 := Lib.hid (Z2.out.on hb)
        have X3 := Lib.hid (X2.out.below hb)
        have Y3 := Lib.hid (Y2.out.below hb)
        clear hb Z2 X2 Y2 y0 y1 y2
        have x0 := X3.out.c0
        have x1 := X3.out.c1
        have x2 := X3.out.c2
        go_wp2_with fail
        refine (HCx.out _ _ _ Z3.out.r0).mono ?_
        rintro e w4 ⟨rfl, hb⟩
        have Z4 := Lib.hid (Z3.out.on hb)
        have X4 := Lib.hid (X3.out.below hb)
        have Y4 := Lib.hid (Y3.out.below hb)
        clear hb Z3 X3 Y3 x0 x1 x2
        have x0 := X4.out.c0
        have x1 := X4.out.c1
        have x2 := X4.out.c2
        have y0 := Y4.out.c0
        have y1 := Y4.out.c1
        have y2 := Y4.out.c2
        go_wp2_with fail
        refine (HXY.out _ _ _ _ _ Z4.out.r0 Z4.out.tl.r0).mono ?_
        rintro e w5 ⟨rfl, hb⟩
        have Z5 := Lib.hid (Z4.out.on hb)
        have X5 := Lib.hid (X4.out.below hb)
        clear hb Z4 X4 Y4 x0 x1 x2 y0 y1 y2
        go_wp2_with fail
        refine (HDx.out _).mono ?_
        rintro e w6 ⟨v, rfl, hm⟩
        obtain ⟨vo, vc, hv, Z6⟩ := Z5.out.made hm
        have X6 := Lib.hid (((X5.out.below hm.below)).alloc (.cells #[.int .i64 h, .string t, v] 24))
        have Z6 := Lib.hid (Z6.out.on ((Below.refl _ _).alloc (Nat.le_refl _) (.cells #[.int .i64 h, .string t, v] 24)))
        have C6 := Lib.hid (N.Nb.new w6 h t v 24)
        subst hv
        clear hm Z5 X5
        have x0 := X6.out.c0
        have x1 := X6.out.c1
        have x2 := X6.out.c2
        have c0 := C6.out.c0
        have c1 := C6.out.c1
        have c2 := C6.out.c2
        go_wp2_with fail
        refine (HXX.out _ _ _ _ _ Z6.out.r0 Z6.out.tl.r0).mono ?_
        rintro e w7 ⟨rfl, hb⟩
        have Z7 := Lib.hid (Z6.out.on hb)
        clear hb Z6 X6 C6 x0 x1 x2 c0 c1 c2
        go_wp2_with fail
        refine (HS.out _).mono ?_
        rintro e wd ⟨v, rfl, hm⟩
        obtain ⟨vo, vc, hv, ZD⟩ := Z7.out.made hm
        subst hv
        have ZD := Lib.hid (ZD.out.on ((Below.refl _ _).alloc (Nat.le_refl _) (.cells #[.int .i64 xh, .string xt, .slice vo xk.length vc] 24)))
        have CD := Lib.hid (N.Nb.new wd xh xt (.slice vo xk.length vc) 24)
        clear hm
        have c0 := CD.out.c0
        have c1 := CD.out.c1
        have c2 := CD.out.c2
        go_wp2_with fail
        refine (HSe.out _ _ _ ZD.out.r0).mono ?_
        rintro e we ⟨rfl, hb⟩
        have ZE := Lib.hid (ZD.out.on hb)
        have CE := Lib.hid (CD.out.below hb)
        clear hb c0 c1 c2 ZD CD
        have c0 := CE.out.c0
        have c1 := CE.out.c1
        have c2 := CE.out.c2
        have qs : (s.toList == s.toList) = true := by simp
        go_wp2_with fail
        refine (HSc.out _ _ _ ZE.out.r0).mono ?_
        rintro e wf ⟨rfl, hb⟩
        have ZF := Lib.hid (ZE.out.on hb)
        clear hb c0 c1 c2 CE ZE
        go_wp2_with fail
        refine (HK.out _).mono ?_
        rintro e wk ⟨rfl, hb⟩
        have KC := Lib.hid (ZF.out.below.trans (hb.mono ZF.out.below.size))
        clear hb
        go_wp2
        go_ret
        exact ⟨rfl, KC.out⟩
    · have qB : (N.chk (N.nd k r m) == 0) = false := by simpa using hB
      rw [hA] at HEx HCx
      generalize N.chk (N.nd k r m) = cB at *
      generalize (⟨(N.enc (N.nd h t l)).toArray⟩ : ByteArray) = xs at *
      generalize (⟨(N.enc (N.nd k r m)).toArray⟩ : ByteArray) = ys at *
      clear hA hB cx cy rx ry
      cases hd : N.dec s.data.toList with
      | none =>
        have HS := N.hDn hsm hd
        clear hd
        clear hsm hs
        go_enter Try.func8, Try.ntmps8
        go_wp2_with fail
        refine (HEx.out _ _ _ Z1.out.r0).mono ?_
        rintro e w2 ⟨rfl, hb⟩
        have Z2 := Lib.hid (Z1.out.on hb)
        have X2 := Lib.hid (X1.out.below hb)
        have Y2 := Lib.hid (Y1.out.below hb)
        clear hb Z1 X1 Y1
        have y0 := Y2.out.c0
        have y1 := Y2.out.c1
        have y2 := Y2.out.c2
        go_wp2_with fail
        refine (HEy.out _ _ _ Z2.out.tl.r0).mono ?_
        rintro e w3 ⟨rfl, hb⟩
        have Z3 := Lib.hid (Z2.out.on hb)
        have X3 := Lib.hid (X2.out.below hb)
        have Y3 := Lib.hid (Y2.out.below hb)
        clear hb Z2 X2 Y2 y0 y1 y2
        have x0 := X3.out.c0
        have x1 := X3.out.c1
        have x2 := X3.out.c2
        go_wp2_with fail
        refine (HCx.out _ _ _ Z3.out.r0).mono ?_
        rintro e w4 ⟨rfl, hb⟩
        have Z4 := Lib.hid (Z3.out.on hb)
        have X4 := Lib.hid (X3.out.below hb)
        have Y4 := Lib.hid (Y3.out.below hb)
        clear hb Z3 X3 Y3 x0 x1 x2
        go_wp2_with fail
        refine (HDx.out _).mono ?_
        rintro e w6 ⟨v, rfl, hm⟩
        obtain ⟨vo, vc, hv, Z6⟩ := Z4.out.made hm
        have X6 := Lib.hid (((X4.out.below hm.below)).alloc (.cells #[.int .i64 h, .string t, v] 24))
        have Z6 := Lib.hid (Z6.out.on ((Below.refl _ _).alloc (Nat.le_refl _) (.cells #[.int .i64 h, .string t, v] 24)))
        have C6 := Lib.hid (N.Nb.new w6 h t v 24)
        subst hv
        clear hm Z4 X4
        have x0 := X6.out.c0
        have x1 := X6.out.c1
        have x2 := X6.out.c2
        have c0 := C6.out.c0
        have c1 := C6.out.c1
        have c2 := C6.out.c2
        go_wp2_with fail
        refine (HXX.out _ _ _ _ _ Z6.out.r0 Z6.out.tl.r0).mono ?_
        rintro e w7 ⟨rfl, hb⟩
        have Z7 := Lib.hid (Z6.out.on hb)
        clear hb Z6 X6 C6 x0 x1 x2 c0 c1 c2
        go_wp2_with fail
        refine (HS.out _).mono ?_
        rintro e wd ⟨v, rfl, hm⟩
        obtain ⟨vo, vc, hv, ZD⟩ := Z7.out.made hm
        subst hv
        have ZD := Lib.hid (ZD.out.on ((Below.refl _ _).alloc (Nat.le_refl _) (.cells #[.int .i64 0, .string ⟨#[]⟩, .slice vo 0 vc] 24)))
        have CD := Lib.hid (N.Nb.new wd 0 ⟨#[]⟩ (.slice vo 0 vc) 24)
        clear hm
        have c0 := CD.out.c0
        have c1 := CD.out.c1
        have c2 := CD.out.c2
        go_wp2_with fail
        refine (HZ.out _ _ _ ZD.out.r0).mono ?_
        rintro e wf ⟨rfl, hb⟩
        have ZF := Lib.hid (ZD.out.on hb)
        clear hb c0 c1 c2 CD ZD
        go_wp2_with fail
        refine (HK.out _).mono ?_
        rintro e wk ⟨rfl, hb⟩
        have KC := Lib.hid (ZF.out.below.trans (hb.mono ZF.out.below.size))
        clear hb
        go_wp2
        go_ret
        exact ⟨rfl, KC.out⟩
      | some X =>
        obtain ⟨hc, he⟩ := N.enc_dec hd
        have HS := N.hDx hsm hd
        have cX := N.valid_cd hc
        have HSe := N.hEn cX
        have HSc := N.hCk cX
        rw [N.nd_eta, he, hc] at HSe
        rw [N.nd_eta, hc] at HSc
        rw [D.bytes_eq] at HSe
        obtain ⟨xh, xt0, xk⟩ := X
        dsimp only at HS HSe HSc
        generalize (⟨xt0.toArray⟩ : ByteArray) = xt at HS HSe HSc
        clear hc he hd cX
        clear hsm hs
        go_enter Try.func8, Try.ntmps8
        go_wp2_with fail
        refine (HEx.out _ _ _ Z1.out.r0).mono ?_
        rintro e w2 ⟨rfl, hb⟩
        have Z2 := Lib.hid (Z1.out.on hb)
        have X2 := Lib.hid (X1.out.below hb)
        have Y2 := Lib.hid (Y1.out.below hb)
        clear hb Z1 X1 Y1
        have y0 := Y2.out.c0
        have y1 := Y2.out.c1
        have y2 := Y2.out.c2
        go_wp2_with fail
        refine (HEy.out _ _ _ Z2.out.tl.r0).mono ?_
        rintro e w3 ⟨rfl, hb⟩
        have Z3 := Lib.hid (Z2.out.on hb)
        have X3 := Lib.hid (X2.out.below hb)
        have Y3 := Lib.hid (Y2.out.below hb)
        clear hb Z2 X2 Y2 y0 y1 y2
        have x0 := X3.out.c0
        have x1 := X3.out.c1
        have x2 := X3.out.c2
        go_wp2_with fail
        refine (HCx.out _ _ _ Z3.out.r0).mono ?_
        rintro e w4 ⟨rfl, hb⟩
        have Z4 := Lib.hid (Z3.out.on hb)
        have X4 := Lib.hid (X3.out.below hb)
        have Y4 := Lib.hid (Y3.out.below hb)
        clear hb Z3 X3 Y3 x0 x1 x2
        go_wp2_with fail
        refine (HDx.out _).mono ?_
        rintro e w6 ⟨v, rfl, hm⟩
        obtain ⟨vo, vc, hv, Z6⟩ := Z4.out.made hm
        have X6 := Lib.hid (((X4.out.below hm.below)).alloc (.cells #[.int .i64 h, .string t, v] 24))
        have Z6 := Lib.hid (Z6.out.on ((Below.refl _ _).alloc (Nat.le_refl _) (.cells #[.int .i64 h, .string t, v] 24)))
        have C6 := Lib.hid (N.Nb.new w6 h t v 24)
        subst hv
        clear hm Z4 X4
        have x0 := X6.out.c0
        have x1 := X6.out.c1
        have x2 := X6.out.c2
        have c0 := C6.out.c0
        have c1 := C6.out.c1
        have c2 := C6.out.c2
        go_wp2_with fail
        refine (HXX.out _ _ _ _ _ Z6.out.r0 Z6.out.tl.r0).mono ?_
        rintro e w7 ⟨rfl, hb⟩
        have Z7 := Lib.hid (Z6.out.on hb)
        clear hb Z6 X6 C6 x0 x1 x2 c0 c1 c2
        go_wp2_with fail
        refine (HS.out _).mono ?_
        rintro e wd ⟨v, rfl, hm⟩
        obtain ⟨vo, vc, hv, ZD⟩ := Z7.out.made hm
        subst hv
        have ZD := Lib.hid (ZD.out.on ((Below.refl _ _).alloc (Nat.le_refl _) (.cells #[.int .i64 xh, .string xt, .slice vo xk.length vc] 24)))
        have CD := Lib.hid (N.Nb.new wd xh xt (.slice vo xk.length vc) 24)
        clear hm
        have c0 := CD.out.c0
        have c1 := CD.out.c1
        have c2 := CD.out.c2
        go_wp2_with fail
        refine (HSe.out _ _ _ ZD.out.r0).mono ?_
        rintro e we ⟨rfl, hb⟩
        have ZE := Lib.hid (ZD.out.on hb)
        have CE := Lib.hid (CD.out.below hb)
        clear hb c0 c1 c2 ZD CD
        have c0 := CE.out.c0
        have c1 := CE.out.c1
        have c2 := CE.out.c2
        have qs : (s.toList == s.toList) = true := by simp
        go_wp2_with fail
        refine (HSc.out _ _ _ ZE.out.r0).mono ?_
        rintro e wf ⟨rfl, hb⟩
        have ZF := Lib.hid (ZE.out.on hb)
        clear hb c0 c1 c2 CE ZE
        go_wp2_with fail
        refine (HK.out _).mono ?_
        rintro e wk ⟨rfl, hb⟩
        have KC := Lib.hid (ZF.out.below.trans (hb.mono ZF.out.below.size))
        clear hb
        go_wp2
        go_ret
        exact ⟨rfl, KC.out⟩
  · have qA : (N.chk (N.nd h t l) == 0) = false := by simpa using hA
    generalize N.chk (N.nd h t l) = cA at *
    generalize N.chk (N.nd k r m) = cB at *
    generalize (⟨(N.enc (N.nd h t l)).toArray⟩ : ByteArray) = xs at *
    generalize (⟨(N.enc (N.nd k r m)).toArray⟩ : ByteArray) = ys at *
    clear hA cx cy rx ry
    cases hd : N.dec s.data.toList with
    | none =>
      have HS := N.hDn hsm hd
      clear hd
      clear hsm hs
      go_enter Try.func8, Try.ntmps8
      go_wp2_with fail
      refine (HEx.out _ _ _ Z1.out.r0).mono ?_
      rintro e w2 ⟨rfl, hb⟩
      have Z2 := Lib.hid (Z1.out.on hb)
      have X2 := Lib.hid (X1.out.below hb)
      have Y2 := Lib.hid (Y1.out.below hb)
      clear hb Z1 X1 Y1
      have y0 := Y2.out.c0
      have y1 := Y2.out.c1
      have y2 := Y2.out.c2
      go_wp2_with fail
      refine (HEy.out _ _ _ Z2.out.tl.r0).mono ?_
      rintro e w3 ⟨rfl, hb⟩
      have Z3 := Lib.hid (Z2.out.on hb)
      have X3 := Lib.hid (X2.out.below hb)
      have Y3 := Lib.hid (Y2.out.below hb)
      clear hb Z2 X2 Y2 y0 y1 y2
      have x0 := X3.out.c0
      have x1 := X3.out.c1
      have x2 := X3.out.c2
      go_wp2_with fail
      refine (HCx.out _ _ _ Z3.out.r0).mono ?_
      rintro e w4 ⟨rfl, hb⟩
      have Z4 := Lib.hid (Z3.out.on hb)
      have X4 := Lib.hid (X3.out.below hb)
      have Y4 := Lib.hid (Y3.out.below hb)
      clear hb Z3 X3 Y3 x0 x1 x2
      go_wp2_with fail
      refine (HS.out _).mono ?_
      rintro e wd ⟨v, rfl, hm⟩
      obtain ⟨vo, vc, hv, ZD⟩ := Z4.out.made hm
      subst hv
      have ZD := Lib.hid (ZD.out.on ((Below.refl _ _).alloc (Nat.le_refl _) (.cells #[.int .i64 0, .string ⟨#[]⟩, .slice vo 0 vc] 24)))
      have CD := Lib.hid (N.Nb.new wd 0 ⟨#[]⟩ (.slice vo 0 vc) 24)
      clear hm
      have c0 := CD.out.c0
      have c1 := CD.out.c1
      have c2 := CD.out.c2
      go_wp2_with fail
      refine (HZ.out _ _ _ ZD.out.r0).mono ?_
      rintro e wf ⟨rfl, hb⟩
      have ZF := Lib.hid (ZD.out.on hb)
      clear hb c0 c1 c2 CD ZD
      go_wp2_with fail
      refine (HK.out _).mono ?_
      rintro e wk ⟨rfl, hb⟩
      have KC := Lib.hid (ZF.out.below.trans (hb.mono ZF.out.below.size))
      clear hb
      go_wp2
      go_ret
      exact ⟨rfl, KC.out⟩
    | some X =>
      obtain ⟨hc, he⟩ := N.enc_dec hd
      have HS := N.hDx hsm hd
      have cX := N.valid_cd hc
      have HSe := N.hEn cX
      have HSc := N.hCk cX
      rw [N.nd_eta, he, hc] at HSe
      rw [N.nd_eta, hc] at HSc
      rw [D.bytes_eq] at HSe
      obtain ⟨xh, xt0, xk⟩ := X
      dsimp only at HS HSe HSc
      generalize (⟨xt0.toArray⟩ : ByteArray) = xt at HS HSe HSc
      clear hc he hd cX
      clear hsm hs
      go_enter Try.func8, Try.ntmps8
      go_wp2_with fail
      refine (HEx.out _ _ _ Z1.out.r0).mono ?_
      rintro e w2 ⟨rfl, hb⟩
      have Z2 := Lib.hid (Z1.out.on hb)
      have X2 := Lib.hid (X1.out.below hb)
      have Y2 := Lib.hid (Y1.out.below hb)
      clear hb Z1 X1 Y1
      have y0 := Y2.out.c0
      have y1 := Y2.out.c1
      have y2 := Y2.out.c2
      go_wp2_with fail
      refine (HEy.out _ _ _ Z2.out.tl.r0).mono ?_
      rintro e w3 ⟨rfl, hb⟩
      have Z3 := Lib.hid (Z2.out.on hb)
      have X3 := Lib.hid (X2.out.below hb)
      have Y3 := Lib.hid (Y2.out.below hb)
      clear hb Z2 X2 Y2 y0 y1 y2
      have x0 := X3.out.c0
      have x1 := X3.out.c1
      have x2 := X3.out.c2
      go_wp2_with fail
      refine (HCx.out _ _ _ Z3.out.r0).mono ?_
      rintro e w4 ⟨rfl, hb⟩
      have Z4 := Lib.hid (Z3.out.on hb)
      have X4 := Lib.hid (X3.out.below hb)
      have Y4 := Lib.hid (Y3.out.below hb)
      clear hb Z3 X3 Y3 x0 x1 x2
      go_wp2_with fail
      refine (HS.out _).mono ?_
      rintro e wd ⟨v, rfl, hm⟩
      obtain ⟨vo, vc, hv, ZD⟩ := Z4.out.made hm
      subst hv
      have ZD := Lib.hid (ZD.out.on ((Below.refl _ _).alloc (Nat.le_refl _) (.cells #[.int .i64 xh, .string xt, .slice vo xk.length vc] 24)))
      have CD := Lib.hid (N.Nb.new wd xh xt (.slice vo xk.length vc) 24)
      clear hm
      have c0 := CD.out.c0
      have c1 := CD.out.c1
      have c2 := CD.out.c2
      go_wp2_with fail
      refine (HSe.out _ _ _ ZD.out.r0).mono ?_
      rintro e we ⟨rfl, hb⟩
      have ZE := Lib.hid (ZD.out.on hb)
      have CE := Lib.hid (CD.out.below hb)
      clear hb c0 c1 c2 ZD CD
      have c0 := CE.out.c0
      have c1 := CE.out.c1
      have c2 := CE.out.c2
      have qs : (s.toList == s.toList) = true := by simp
      go_wp2_with fail
      refine (HSc.out _ _ _ ZE.out.r0).mono ?_
      rintro e wf ⟨rfl, hb⟩
      have ZF := Lib.hid (ZE.out.on hb)
      clear hb c0 c1 c2 CE ZE
      go_wp2_with fail
      refine (HK.out _).mono ?_
      rintro e wk ⟨rfl, hb⟩
      have KC := Lib.hid (ZF.out.below.trans (hb.mono ZF.out.below.size))
      clear hb
      go_wp2
      go_ret
      exact ⟨rfl, KC.out⟩
end Go.Proofs.Ytdpaleldalplfaa
