/- The walk of MarkKeeps. -/
import Derived.Test.YtmbgcbgbdjiacaaMarkKnown
import Derived.Deep.RegionWith
import Derived.Deep.DeepCutAuto
import Derived.BigQuiet
namespace Go.Proofs.Ytmbgcbgbdjiacaa
open Go.RowKit

set_option maxRecDepth 100000 in
set_option maxHeartbeats 20000000 in
theorem markKeeps_bad (s : K.Src) (m q : K.M) (w : World) (hs : K.ArgOk w s) (fm : K.Fit m) (_ : K.Fit q) (h1 : K.setE s.x m ≠ 0) :
    Calls Try.prog 7 #[.slice s.a s.x.length s.c, .agg #[.int .u32 m.id, .int .i64 m.at_, .int .u8 m.g], .agg #[.int .u32 q.id, .int .i64 q.at_, .int .u8 q.g]] w fun e w' => e = .returned (.bool true) ∧ Below w.heap.size w w' := by
  have HK := J.hKnown
  have laS : s.x.length ≤ maxLen := by have := hs.fit; unfold maxLen; omega
  have hfS : J.Fits s.x := hs.fits
  have HOS := J.hOwn s.x hs.fit
  have Z : Hid (K.Kn w w [] [(s.a, s.x)]) := J.Kn.addm (J.Kn0 w) hs.row
  have nS : Hid ((s.a = none → s.c = 0) ∧ s.x.length ≤ s.c) := ⟨hs.nil, hs.cap⟩
  obtain ⟨oS, cS, S⟩ := s
  dsimp only at *
  clear hs
  have H1 := J.hSet S m laS hfS fm
  have Z2 : Hid (K.Kn w ((w.alloc (.cells #[.int .u32 m.id, .int .i64 m.at_, .int .u8 m.g] 32)).alloc (.cells #[.int .u32 q.id, .int .i64 q.at_, .int .u8 q.g] 32)) [] [(some ⟨w.heap.size + 1, 0, none⟩, [q]), (some ⟨w.heap.size, 0, none⟩, [m]), (oS, S)]) := by
    have h := J.mlit (J.mlit Z.out [m]) [q]
    rw [World.size_alloc] at h
    exact h
  clear Z
  have q0 : (K.setE S m != 0) = true := by simpa using h1
  generalize K.setE S m = E1 at *
  generalize K.setL S m = A at *
  clear laS hfS fm h1
  go_enter Try.func7, Try.ntmps7
  go_upto_region 1 with (fail)
  generalize (w.alloc (.cells #[.int .u32 m.id, .int .i64 m.at_, .int .u8 m.g] 32)).alloc (.cells #[.int .u32 q.id, .int .i64 q.at_, .int .u8 q.g] 32) = w2 at Z2 ⊢
  go_cut [7, 8] (fun v e wx => ∃ o c, v = .slice o A.length c ∧ e = .int .i64 E1 ∧ Hid ((o = none → c = 0) ∧ A.length ≤ c) ∧ Hid (K.Kn w wx [] ((o, A) :: [(some ⟨w.heap.size + 1, 0, none⟩, [q]), (some ⟨w.heap.size, 0, none⟩, [m]), (oS, S)])))
  case first =>
    obtain ⟨x0, x1, x2⟩ := J.box Z2.out.mt.m0
    have Zd := Lib.hid (J.Kn.drew Z2.out)
    go_region_with (first
      | (go_at_call 11; refine (HOS.out _ _ _ Zd.out.mt.mt.m0 nS.out.1).mono ?_; rintro e wo ⟨v, rfl, hm⟩; obtain ⟨oo, co, hv, no, Zo⟩ := J.mmade Zd.out hm; subst hv; clear hm x0 x1 x2; obtain ⟨x0, x1, x2⟩ := J.box Zo.out.mt.mt.m0)
      | (go_at_call 18; refine (H1.out _ _ _ Zo.out.m0 no.out.1).mono ?_; rintro e wp ⟨v, rfl, hm⟩; obtain ⟨op, cp, hv, np, Zp⟩ := J.mmade Zo.out hm; subst hv; clear hm x0 x1 x2))
    all_goals
      have Zq : Hid (K.Kn w wp [] ((op, A) :: [(some ⟨w.heap.size + 1, 0, none⟩, [q]), (some ⟨w.heap.size, 0, none⟩, [m]), (oS, S)])) := ⟨Zp.out.below, Zp.out.prow, fun x hx => by
        rcases List.mem_cons.1 hx with rfl | hx
        · exact Zp.out.m0
        · exact Zp.out.mrow x (List.mem_cons_of_mem _ (List.mem_cons_of_mem _ hx))⟩
      clear Zo Zp
      go_wp2_with fail
      go_meet
      case rel => exact ⟨op, cp, rfl, rfl, np, Zq⟩
  case rest =>
  obtain ⟨oa, ca, rfl, rfl, na, Z3⟩ := hcut
  obtain ⟨W2, rfl⟩ : ∃ W2 : World, W2 = wc := ⟨_, rfl⟩
  clear Z2
  have KB := Lib.hid Z3.out.below
  clear Z3
  go_wp2_with fail
  refine (HK.out _).mono ?_
  rintro e wk ⟨rfl, hb⟩
  have KC := Lib.hid (KB.out.trans (hb.mono KB.out.size))
  clear hb
  go_wp2
  go_ret
  exact ⟨rfl, KC.out⟩
set_option maxRecDepth 100000 in
set_option maxHeartbeats 20000000 in
theorem markKeeps_good (s : K.Src) (m q : K.M) (w : World) (hs : K.ArgOk w s) (fm : K.Fit m) (fq : K.Fit q) (h1 : K.setE s.x m = 0) :
    Calls Try.prog 7 #[.slice s.a s.x.length s.c, .agg #[.int .u32 m.id, .int .i64 m.at_, .int .u8 m.g], .agg #[.int .u32 q.id, .int .i64 q.at_, .int .u8 q.g]] w fun e w' => e = .returned (.bool true) ∧ Below w.heap.size w w' := by
  have HK := J.hKnown
  have laS : s.x.length ≤ maxLen := by have := hs.fit; unfold maxLen; omega
  have hfS : J.Fits s.x := hs.fits
  have HOS := J.hOwn s.x hs.fit
  have Z : Hid (K.Kn w w [] [(s.a, s.x)]) := J.Kn.addm (J.Kn0 w) hs.row
  have nS : Hid ((s.a = none → s.c = 0) ∧ s.x.length ≤ s.c) := ⟨hs.nil, hs.cap⟩
  obtain ⟨oS, cS, S⟩ := s
  dsimp only at *
  clear hs
  have H1 := J.hSet S m laS hfS fm
  have Z2 : Hid (K.Kn w ((w.alloc (.cells #[.int .u32 m.id, .int .i64 m.at_, .int .u8 m.g] 32)).alloc (.cells #[.int .u32 q.id, .int .i64 q.at_, .int .u8 q.g] 32)) [] [(some ⟨w.heap.size + 1, 0, none⟩, [q]), (some ⟨w.heap.size, 0, none⟩, [m]), (oS, S)]) := by
    have h := J.mlit (J.mlit Z.out [m]) [q]
    rw [World.size_alloc] at h
    exact h
  clear Z
  have sd := K.set_drop h1
  have sf := K.set_find h1
  have f1 : K.fnd (K.setL S m) m.id = m := by unfold K.fnd; rw [sf]; rfl
  have f2 : (K.find (K.setL S m) m.id).isSome = true := by rw [sf]; rfl
  have lA := J.setL_le S m
  have laA : (K.setL S m).length ≤ maxLen := by unfold maxLen; omega
  have hfA := J.setL_fit S m hfS fm
  have N1 := J.hFnd (K.setL S m) m.id laA
  rw [f1, f2] at N1
  have HOA := J.hOwn (K.setL S m) (by omega)
  have D1 := J.hDrp (K.setL S m) m.id laA hfA
  rw [sd.1, sd.2] at D1
  have lS := ((K.setE_iff S m).1 h1).set.len
  have lB := K.without_le S m.id
  have laB : (K.without S m.id).length ≤ maxLen := by unfold maxLen; omega
  have N2 := J.hFnd (K.without S m.id) m.id laB
  rw [K.drop_gone] at N2
  have N3 := fun i : Int => J.hFnd (K.setL S m) i laA
  have N4 := fun i : Int => J.hFnd (K.without S m.id) i laB
  have HF : Hid (∀ p ∈ S, p.id ≠ m.id → K.fnd (K.setL S m) p.id = p ∧ (K.find (K.setL S m) p.id).isSome = true ∧ K.fnd (K.without S m.id) p.id = p ∧ (K.find (K.without S m.id) p.id).isSome = true) := fun p hp hi => by
    have e1 := K.set_stays h1 hp hi
    have e2 := K.drop_stays ((K.setE_iff S m).1 h1).set.asc hp hi
    refine ⟨?_, by rw [e1]; rfl, ?_, by rw [e2]; rfl⟩
    · unfold K.fnd; rw [e1]; rfl
    · unfold K.fnd; rw [e2]; rfl
  have ln := K.set_lens h1
  rw [sd.2] at ln
  have H2 := J.hSet (K.setL S m) q laA hfA fq
  have H3 := J.hSet S q laS hfS fq
  have lD := J.setL_le S q
  have H4 := J.hSet (K.setL S q) m (by unfold maxLen; omega) (J.setL_fit S q hfS fq) fm
  have lC := J.setL_le (K.setL S m) q
  have SC := J.hSame (K.setL (K.setL S m) q) (by unfold maxLen; omega)
  have BO : Hid (K.setE (K.setL S m) q = 0 → K.setE S q = 0 → m.id ≠ q.id → K.setE (K.setL S q) m = 0 ∧ K.setL (K.setL S q) m = K.setL (K.setL S m) q) := fun e2 e3 hne => K.set_both h1 e2 e3 hne
  rw [h1] at H1
  clear sd sf f1 f2 laA laB hfA lB lD lC h1 hfS fm fq laS
  generalize K.without S m.id = B at *
  generalize K.setE (K.setL S q) m = E4 at *
  generalize K.setL (K.setL S q) m = F4 at *
  generalize K.setE (K.setL S m) q = E2 at *
  generalize K.setL (K.setL S m) q = C at *
  generalize K.setE S q = E3 at *
  generalize K.setL S q = Dd at *
  generalize K.setL S m = A at *
  generalize K.fnd B m.id = X0 at *
  have qr := J.eqT m
  have qn : decide ((S.length : Int) + 1 < (A.length : Int)) = false := by simp; omega
  have qo : decide ((A.length : Int) < (S.length : Int)) = false := by simp; omega
  have qm : ((B.length : Int) + 1 != (A.length : Int)) = false := by simp; omega
  have ln := Lib.hid ln
  go_enter Try.func7, Try.ntmps7
  go_upto_region 1 with (fail)
  generalize (w.alloc (.cells #[.int .u32 m.id, .int .i64 m.at_, .int .u8 m.g] 32)).alloc (.cells #[.int .u32 q.id, .int .i64 q.at_, .int .u8 q.g] 32) = w2 at Z2 ⊢
  go_cut [7, 8] (fun v e wx => ∃ o c, v = .slice o A.length c ∧ e = .int .i64 0 ∧ Hid ((o = none → c = 0) ∧ A.length ≤ c) ∧ Hid (K.Kn w wx [] ((o, A) :: [(some ⟨w.heap.size + 1, 0, none⟩, [q]), (some ⟨w.heap.size, 0, none⟩, [m]), (oS, S)])))
  case first => as_aux_lemma =>
    obtain ⟨x0, x1, x2⟩ := J.box Z2.out.mt.m0
    have Zd := Lib.hid (J.Kn.drew Z2.out)
    go_region_with (first
      | (go_at_call 11; refine (HOS.out _ _ _ Zd.out.mt.mt.m0 nS.out.1).mono ?_; rintro e wo ⟨v, rfl, hm⟩; obtain ⟨oo, co, hv, no, Zo⟩ := J.mmade Zd.out hm; subst hv; clear hm x0 x1 x2; obtain ⟨x0, x1, x2⟩ := J.box Zo.out.mt.mt.m0)
      | (go_at_call 18; refine (H1.out _ _ _ Zo.out.m0 no.out.1).mono ?_; rintro e wp ⟨v, rfl, hm⟩; obtain ⟨op, cp, hv, np, Zp⟩ := J.mmade Zo.out hm; subst hv; clear hm x0 x1 x2))
    all_goals
      have Zq : Hid (K.Kn w wp [] ((op, A) :: [(some ⟨w.heap.size + 1, 0, none⟩, [q]), (some ⟨w.heap.size, 0, none⟩, [m]), (oS, S)])) := ⟨Zp.out.below, Zp.out.prow, fun x hx => by
        rcases List.mem_cons.1 hx with rfl | hx
        · exact Zp.out.m0
        · exact Zp.out.mrow x (List.mem_cons_of_mem _ (List.mem_cons_of_mem _ hx))⟩
      clear Zo Zp
      go_wp2_with fail
      go_meet
      case rel => exact ⟨op, cp, rfl, rfl, np, Zq⟩
  case rest =>
  obtain ⟨oa, ca, rfl, rfl, na, Z3⟩ := hcut
  obtain ⟨W2, rfl⟩ : ∃ W2 : World, W2 = wc := ⟨_, rfl⟩
  clear Z2
  obtain ⟨x0, x1, x2⟩ := J.box Z3.out.mt.mt.m0
  go_wp2_with fail
  refine (N1.out _ _ _ Z3.out.m0).mono ?_
  rintro e w4 ⟨rfl, hb⟩
  have Z4 := Lib.hid (Z3.out.on hb)
  clear hb Z3
  have Zx : Hid (K.Kn w (w4.alloc (.cells #[.int .u32 m.id, .int .i64 m.at_, .int .u8 m.g] 32)) [] ((some ⟨w4.heap.size, 0, none⟩, [m]) :: [(oa, A), (some ⟨w.heap.size + 1, 0, none⟩, [q]), (some ⟨w.heap.size, 0, none⟩, [m]), (oS, S)])) := J.mlit Z4.out [m]
  clear Z4
  obtain ⟨b9, hb9⟩ : ∃ b9, b9 = w4.heap.size := ⟨_, rfl⟩
  go_upto_region 5 with (fail)
  rw [← hb9] at Zx ⊢
  generalize w4.alloc (.cells #[.int .u32 m.id, .int .i64 m.at_, .int .u8 m.g] 32) = w5 at Zx ⊢
  clear hb9
  have Z5 := Lib.hid Zx.out
  clear Zx
  clear x0 x1 x2
  obtain ⟨x0, x1, x2⟩ := J.box Z5.out.mt.mt.mt.m0
  obtain ⟨y0, y1, y2⟩ := J.box Z5.out.m0
  go_upto_region 7 with (fail)
  clear x0 x1 x2 y0 y1 y2
  have ZA : Hid (K.Kn w w5 [] [(oa, A), (some ⟨w.heap.size + 1, 0, none⟩, [q]), (some ⟨w.heap.size, 0, none⟩, [m]), (oS, S)]) := ⟨Z5.out.below, Z5.out.prow, fun x hx => Z5.out.mrow x (List.mem_cons_of_mem _ hx)⟩
  clear Z5
  go_cut [11, 12] (fun v e wx => ∃ o c, v = .slice o B.length c ∧ e = .int .i64 0 ∧ Hid ((o = none → c = 0) ∧ B.length ≤ c) ∧ Hid (K.Kn w wx [] ((o, B) :: [(oa, A), (some ⟨w.heap.size + 1, 0, none⟩, [q]), (some ⟨w.heap.size, 0, none⟩, [m]), (oS, S)])))
  case first => as_aux_lemma =>
    obtain ⟨x0, x1, x2⟩ := J.box ZA.out.mt.mt.m0
    have Zd := Lib.hid (J.Kn.drew ZA.out)
    go_region_with (first
      | (go_at_call 11; refine (HOA.out _ _ _ Zd.out.m0 na.out.1).mono ?_; rintro e wo ⟨v, rfl, hm⟩; obtain ⟨oo, co, hv, no, Zo⟩ := J.mmade Zd.out hm; subst hv; clear hm x0 x1 x2; obtain ⟨x0, x1, x2⟩ := J.box Zo.out.mt.mt.mt.m0)
      | (go_at_call 19; refine (D1.out _ _ _ Zo.out.m0 no.out.1).mono ?_; rintro e wp ⟨v, rfl, hm⟩; obtain ⟨op, cp, hv, np, Zp⟩ := J.mmade Zo.out hm; subst hv; clear hm x0 x1 x2))
    all_goals
      have Zq : Hid (K.Kn w wp [] ((op, B) :: [(oa, A), (some ⟨w.heap.size + 1, 0, none⟩, [q]), (some ⟨w.heap.size, 0, none⟩, [m]), (oS, S)])) := ⟨Zp.out.below, Zp.out.prow, fun x hx => by
        rcases List.mem_cons.1 hx with rfl | hx
        · exact Zp.out.m0
        · exact Zp.out.mrow x (List.mem_cons_of_mem _ (List.mem_cons_of_mem _ hx))⟩
      clear Zo Zp
      go_wp2_with fail
      go_meet
      case rel => exact ⟨op, cp, rfl, rfl, np, Zq⟩
  case rest =>
  obtain ⟨ob, cb, rfl, rfl, nb, Z11⟩ := hcut
  obtain ⟨W10, rfl⟩ : ∃ W10 : World, W10 = wc := ⟨_, rfl⟩
  clear ZA
  obtain ⟨x0, x1, x2⟩ := J.box Z11.out.mt.mt.mt.m0
  go_wp2_with fail
  refine (N2.out _ _ _ Z11.out.m0).mono ?_
  rintro e w12 ⟨rfl, hb⟩
  have Z12 := Lib.hid (Z11.out.on hb)
  clear hb Z11
  have Zx : Hid (K.Kn w (w12.alloc (.cells #[.int .u32 X0.id, .int .i64 X0.at_, .int .u8 X0.g] 32)) [] ((some ⟨w12.heap.size, 0, none⟩, [X0]) :: [(ob, B), (oa, A), (some ⟨w.heap.size + 1, 0, none⟩, [q]), (some ⟨w.heap.size, 0, none⟩, [m]), (oS, S)])) := J.mlit Z12.out [X0]
  clear Z12
  obtain ⟨b13, hb13⟩ : ∃ b13, b13 = w12.heap.size := ⟨_, rfl⟩
  go_upto_region 9 with (fail)
  rw [← hb13] at Zx ⊢
  generalize w12.alloc (.cells #[.int .u32 X0.id, .int .i64 X0.at_, .int .u8 X0.g] 32) = w13 at Zx ⊢
  clear hb13
  have Z13 := Lib.hid Zx.out
  clear Zx
  clear x0 x1 x2
  have ZB : Hid (K.Kn w w13 [] [(ob, B), (oa, A), (some ⟨w.heap.size + 1, 0, none⟩, [q]), (some ⟨w.heap.size, 0, none⟩, [m]), (oS, S)]) := ⟨Z13.out.below, Z13.out.prow, fun x hx => Z13.out.mrow x (List.mem_cons_of_mem _ hx)⟩
  clear Z13
  clear N1 N2 D1 H1
  go_wp2
  go_loopw [15] (fun i wr => ∃ j : Nat, j ≤ S.length ∧ i = .int .i64 j ∧ Hid (K.Kn w wr [] [(ob, B), (oa, A), (some ⟨w.heap.size + 1, 0, none⟩, [q]), (some ⟨w.heap.size, 0, none⟩, [m]), (oS, S)])) (fun i _ => S.length - (intOf i).toNat)
  case atStart => exact ⟨0, Nat.zero_le _, rfl, ZB.out⟩
  case round => as_aux_lemma =>
    obtain ⟨j, hj, rfl, ZL⟩ := hrel
    clear ZB
    by_cases hlt : j < S.length
    · obtain ⟨p, hp⟩ : ∃ p, S[j]? = some p := ⟨S[j]'hlt, List.getElem?_eq_getElem _⟩
      have N3 := N3 p.id
      have N4 := N4 p.id
      by_cases hpe : p.id = m.id
      · generalize K.fnd A p.id = X3 at N3
        generalize (K.find A p.id).isSome = s3 at N3
        generalize K.fnd B p.id = X4 at N4
        generalize (K.find B p.id).isSome = s4 at N4
        have qq : (p.id != m.id) = false := by simpa using hpe
        clear hpe
        have hp := Lib.hid hp
        obtain ⟨bs, ps, es, _, c0, c1, c2⟩ := ZL.out.mt.mt.mt.mt.m0 j p hp.out
        subst es
        go_wp2_with fail
        refine (N3.out _ _ _ ZL.out.mt.m0).mono ?_
        rintro e w31 ⟨rfl, hb⟩
        have Z31 := Lib.hid (ZL.out.on hb)
        clear hb ZL
        have Zx : Hid (K.Kn w (w31.alloc (.cells #[.int .u32 X3.id, .int .i64 X3.at_, .int .u8 X3.g] 32)) [] ((some ⟨w31.heap.size, 0, none⟩, [X3]) :: [(ob, B), (oa, A), (some ⟨w.heap.size + 1, 0, none⟩, [q]), (some ⟨w.heap.size, 0, none⟩, [m]), (some ⟨bs, ps, none⟩, S)])) := J.mlit Z31.out [X3]
        clear Z31
        obtain ⟨b16, hb16⟩ : ∃ b16, b16 = w31.heap.size := ⟨_, rfl⟩
        go_upto_region 15 with (fail)
        rw [← hb16] at Zx ⊢
        generalize w31.alloc (.cells #[.int .u32 X3.id, .int .i64 X3.at_, .int .u8 X3.g] 32) = w32 at Zx ⊢
        clear hb16
        have Z32 := Lib.hid Zx.out
        clear Zx
        clear c0 c1 c2
        obtain ⟨c0, c1, c2⟩ := J.row0 Z32.out.mt.mt.mt.mt.mt.m0 hp.out
        go_wp2_with fail
        refine (N4.out _ _ _ Z32.out.mt.m0).mono ?_
        rintro e w33 ⟨rfl, hb⟩
        have Z33 := Lib.hid (Z32.out.on hb)
        clear hb Z32
        have Zx : Hid (K.Kn w (w33.alloc (.cells #[.int .u32 X4.id, .int .i64 X4.at_, .int .u8 X4.g] 32)) [] ((some ⟨w33.heap.size, 0, none⟩, [X4]) :: [(some ⟨b16, 0, none⟩, [X3]), (ob, B), (oa, A), (some ⟨w.heap.size + 1, 0, none⟩, [q]), (some ⟨w.heap.size, 0, none⟩, [m]), (some ⟨bs, ps, none⟩, S)])) := J.mlit Z33.out [X4]
        clear Z33
        obtain ⟨b18, hb18⟩ : ∃ b18, b18 = w33.heap.size := ⟨_, rfl⟩
        go_upto_region 16 with (fail)
        rw [← hb18] at Zx ⊢
        generalize w33.alloc (.cells #[.int .u32 X4.id, .int .i64 X4.at_, .int .u8 X4.g] 32) = w34 at Zx ⊢
        clear hb18
        have Z34 := Lib.hid Zx.out
        clear Zx
        clear c0 c1 c2
        obtain ⟨c0, c1, c2⟩ := J.row0 Z34.out.mt.mt.mt.mt.mt.mt.m0 hp.out
        obtain ⟨x0, x1, x2⟩ := J.box Z34.out.mt.mt.mt.mt.mt.m0
        obtain ⟨y0, y1, y2⟩ := J.box Z34.out.mt.m0
        obtain ⟨z0, z1, z2⟩ := J.box Z34.out.m0
        have R : Hid (∀ n, K.Kn w (w34.drewN n) [] [(ob, B), (oa, A), (some ⟨w.heap.size + 1, 0, none⟩, [q]), (some ⟨w.heap.size, 0, none⟩, [m]), (some ⟨bs, ps, none⟩, S)]) := fun n => J.Kn.drewN ⟨Z34.out.below, Z34.out.prow, fun x hx => Z34.out.mrow x (List.mem_cons_of_mem _ (List.mem_cons_of_mem _ hx))⟩ n
        clear Z34 hp
        go_wp2_with fail
        go_quiet (fail)
        go_wp2
        go_roundw
        case rel => exact ⟨j + 1, by omega, by go_num, R.out _⟩
        case measure => simp [intOf]; omega
      · obtain ⟨g1, g2, g3, g4⟩ := HF.out p (List.mem_of_getElem? hp) hpe
        rw [g1, g2] at N3
        rw [g3, g4] at N4
        clear g1 g2 g3 g4
        have qp := J.eqT p
        have qq : (p.id != m.id) = true := by simpa using hpe
        clear hpe
        have hp := Lib.hid hp
        obtain ⟨bs, ps, es, _, c0, c1, c2⟩ := ZL.out.mt.mt.mt.mt.m0 j p hp.out
        subst es
        go_wp2_with fail
        refine (N3.out _ _ _ ZL.out.mt.m0).mono ?_
        rintro e w31 ⟨rfl, hb⟩
        have Z31 := Lib.hid (ZL.out.on hb)
        clear hb ZL
        have Zx : Hid (K.Kn w (w31.alloc (.cells #[.int .u32 p.id, .int .i64 p.at_, .int .u8 p.g] 32)) [] ((some ⟨w31.heap.size, 0, none⟩, [p]) :: [(ob, B), (oa, A), (some ⟨w.heap.size + 1, 0, none⟩, [q]), (some ⟨w.heap.size, 0, none⟩, [m]), (some ⟨bs, ps, none⟩, S)])) := J.mlit Z31.out [p]
        clear Z31
        obtain ⟨b16, hb16⟩ : ∃ b16, b16 = w31.heap.size := ⟨_, rfl⟩
        go_upto_region 15 with (fail)
        rw [← hb16] at Zx ⊢
        generalize w31.alloc (.cells #[.int .u32 p.id, .int .i64 p.at_, .int .u8 p.g] 32) = w32 at Zx ⊢
        clear hb16
        have Z32 := Lib.hid Zx.out
        clear Zx
        clear c0 c1 c2
        obtain ⟨c0, c1, c2⟩ := J.row0 Z32.out.mt.mt.mt.mt.mt.m0 hp.out
        go_wp2_with fail
        refine (N4.out _ _ _ Z32.out.mt.m0).mono ?_
        rintro e w33 ⟨rfl, hb⟩
        have Z33 := Lib.hid (Z32.out.on hb)
        clear hb Z32
        have Zx : Hid (K.Kn w (w33.alloc (.cells #[.int .u32 p.id, .int .i64 p.at_, .int .u8 p.g] 32)) [] ((some ⟨w33.heap.size, 0, none⟩, [p]) :: [(some ⟨b16, 0, none⟩, [p]), (ob, B), (oa, A), (some ⟨w.heap.size + 1, 0, none⟩, [q]), (some ⟨w.heap.size, 0, none⟩, [m]), (some ⟨bs, ps, none⟩, S)])) := J.mlit Z33.out [p]
        clear Z33
        obtain ⟨b18, hb18⟩ : ∃ b18, b18 = w33.heap.size := ⟨_, rfl⟩
        go_upto_region 16 with (fail)
        rw [← hb18] at Zx ⊢
        generalize w33.alloc (.cells #[.int .u32 p.id, .int .i64 p.at_, .int .u8 p.g] 32) = w34 at Zx ⊢
        clear hb18
        have Z34 := Lib.hid Zx.out
        clear Zx
        clear c0 c1 c2
        obtain ⟨c0, c1, c2⟩ := J.row0 Z34.out.mt.mt.mt.mt.mt.mt.m0 hp.out
        obtain ⟨x0, x1, x2⟩ := J.box Z34.out.mt.mt.mt.mt.mt.m0
        obtain ⟨y0, y1, y2⟩ := J.box Z34.out.mt.m0
        obtain ⟨z0, z1, z2⟩ := J.box Z34.out.m0
        have R : Hid (∀ n, K.Kn w (w34.drewN n) [] [(ob, B), (oa, A), (some ⟨w.heap.size + 1, 0, none⟩, [q]), (some ⟨w.heap.size, 0, none⟩, [m]), (some ⟨bs, ps, none⟩, S)]) := fun n => J.Kn.drewN ⟨Z34.out.below, Z34.out.prow, fun x hx => Z34.out.mrow x (List.mem_cons_of_mem _ (List.mem_cons_of_mem _ hx))⟩ n
        clear Z34 hp
        go_wp2_with fail
        go_quiet (fail)
        go_wp2
        go_roundw
        case rel => exact ⟨j + 1, by omega, by go_num, R.out _⟩
        case measure => simp [intOf]; omega
    · obtain rfl : j = S.length := by omega
      clear N3 N4 HF
      go_upto_region 20 with (fail)
      have ZE := Lib.hid ZL.out
      clear ZL
      go_cut [20, 8] (fun v e wx => ∃ o c, v = .slice o C.length c ∧ e = .int .i64 E2 ∧ Hid ((o = none → c = 0) ∧ C.length ≤ c) ∧ Hid (K.Kn w wx [] ((o, C) :: [(ob, B), (oa, A), (some ⟨w.heap.size + 1, 0, none⟩, [q]), (some ⟨w.heap.size, 0, none⟩, [m]), (oS, S)])))
      case first => as_aux_lemma =>
        obtain ⟨x0, x1, x2⟩ := J.box ZE.out.mt.mt.m0
        have Zd := Lib.hid (J.Kn.drew ZE.out)
        go_region_with (first
          | (go_at_call 11; refine (HOA.out _ _ _ Zd.out.mt.m0 na.out.1).mono ?_; rintro e wo ⟨v, rfl, hm⟩; obtain ⟨oo, co, hv, no, Zo⟩ := J.mmade Zd.out hm; subst hv; clear hm x0 x1 x2; obtain ⟨x0, x1, x2⟩ := J.box Zo.out.mt.mt.mt.m0)
          | (go_at_call 18; refine (H2.out _ _ _ Zo.out.m0 no.out.1).mono ?_; rintro e wp ⟨v, rfl, hm⟩; obtain ⟨op, cp, hv, np, Zp⟩ := J.mmade Zo.out hm; subst hv; clear hm x0 x1 x2))
        all_goals
          have Zq : Hid (K.Kn w wp [] ((op, C) :: [(ob, B), (oa, A), (some ⟨w.heap.size + 1, 0, none⟩, [q]), (some ⟨w.heap.size, 0, none⟩, [m]), (oS, S)])) := ⟨Zp.out.below, Zp.out.prow, fun x hx => by
            rcases List.mem_cons.1 hx with rfl | hx
            · exact Zp.out.m0
            · exact Zp.out.mrow x (List.mem_cons_of_mem _ (List.mem_cons_of_mem _ hx))⟩
          clear Zo Zp
          go_wp2_with fail
          go_meet
          case rel => exact ⟨op, cp, rfl, rfl, np, Zq⟩
      case rest =>
      obtain ⟨oc, cc, rfl, rfl, nc, Z51⟩ := hcut
      obtain ⟨W50, rfl⟩ : ∃ W50 : World, W50 = wc := ⟨_, rfl⟩
      clear ZE
      go_upto_region 21 with (fail)
      go_cut [21, 12] (fun v e wx => ∃ o c, v = .slice o Dd.length c ∧ e = .int .i64 E3 ∧ Hid ((o = none → c = 0) ∧ Dd.length ≤ c) ∧ Hid (K.Kn w wx [] ((o, Dd) :: [(oc, C), (ob, B), (oa, A), (some ⟨w.heap.size + 1, 0, none⟩, [q]), (some ⟨w.heap.size, 0, none⟩, [m]), (oS, S)])))
      case first => as_aux_lemma =>
        obtain ⟨x0, x1, x2⟩ := J.box Z51.out.mt.mt.mt.m0
        have Zd := Lib.hid (J.Kn.drew Z51.out)
        go_region_with (first
          | (go_at_call 11; refine (HOS.out _ _ _ Zd.out.mt.mt.mt.mt.mt.m0 nS.out.1).mono ?_; rintro e wo ⟨v, rfl, hm⟩; obtain ⟨oo, co, hv, no, Zo⟩ := J.mmade Zd.out hm; subst hv; clear hm x0 x1 x2; obtain ⟨x0, x1, x2⟩ := J.box Zo.out.mt.mt.mt.mt.m0)
          | (go_at_call 18; refine (H3.out _ _ _ Zo.out.m0 no.out.1).mono ?_; rintro e wp ⟨v, rfl, hm⟩; obtain ⟨op, cp, hv, np, Zp⟩ := J.mmade Zo.out hm; subst hv; clear hm x0 x1 x2))
        all_goals
          have Zq : Hid (K.Kn w wp [] ((op, Dd) :: [(oc, C), (ob, B), (oa, A), (some ⟨w.heap.size + 1, 0, none⟩, [q]), (some ⟨w.heap.size, 0, none⟩, [m]), (oS, S)])) := ⟨Zp.out.below, Zp.out.prow, fun x hx => by
            rcases List.mem_cons.1 hx with rfl | hx
            · exact Zp.out.m0
            · exact Zp.out.mrow x (List.mem_cons_of_mem _ (List.mem_cons_of_mem _ hx))⟩
          clear Zo Zp
          go_wp2_with fail
          go_meet
          case rel => exact ⟨op, cp, rfl, rfl, np, Zq⟩
      case rest =>
      obtain ⟨od, cd, rfl, rfl, nd, Z52⟩ := hcut
      obtain ⟨W51, rfl⟩ : ∃ W51 : World, W51 = wc := ⟨_, rfl⟩
      clear Z51
      obtain ⟨x0, x1, x2⟩ := J.box Z52.out.mt.mt.mt.mt.mt.m0
      obtain ⟨y0, y1, y2⟩ := J.box Z52.out.mt.mt.mt.mt.m0
      by_cases he2 : E2 = 0
      · subst he2
        by_cases he3 : E3 = 0
        · subst he3
          by_cases hi : m.id = q.id
          · have q3 : (m.id == q.id) = true := by simpa using hi
            clear BO x1 x2 y1 y2
            have KB := Lib.hid Z52.out.below
            clear Z52
            go_wp2_with fail
            refine (HK.out _).mono ?_
            rintro e wk ⟨rfl, hb⟩
            have KC := Lib.hid (KB.out.trans (hb.mono KB.out.size))
            clear hb
            go_wp2
            go_ret
            exact ⟨rfl, KC.out⟩
          · obtain ⟨g1, g2⟩ := BO.out rfl rfl hi
            rw [g1, g2] at H4
            clear g1 g2 BO
            have q3 : (m.id == q.id) = false := by simpa using hi
            clear hi
            go_wp2_with fail
            refine (H4.out _ _ _ Z52.out.m0 nd.out.1).mono ?_
            rintro e w53 ⟨v, rfl, hm⟩
            obtain ⟨of, cf, hv, nf, Z53⟩ := J.mmade Z52.out hm
            subst hv
            clear hm Z52
            go_wp2_with fail
            refine (SC.out _ _ _ _ _ Z53.out.mt.mt.m0 Z53.out.m0).mono ?_
            rintro e w54 ⟨rfl, hb⟩
            have Z54 := Lib.hid (Z53.out.on hb)
            clear hb Z53
            clear x0 x1 x2 y0 y1 y2
            have KB := Lib.hid Z54.out.below
            clear Z54
            go_wp2_with fail
            refine (HK.out _).mono ?_
            rintro e wk ⟨rfl, hb⟩
            have KC := Lib.hid (KB.out.trans (hb.mono KB.out.size))
            clear hb
            go_wp2
            go_ret
            exact ⟨rfl, KC.out⟩
        · have q2 : (E3 != 0) = true := by simpa using he3
          clear BO x1 x2 y1 y2
          have KB := Lib.hid Z52.out.below
          clear Z52
          go_wp2_with fail
          refine (HK.out _).mono ?_
          rintro e wk ⟨rfl, hb⟩
          have KC := Lib.hid (KB.out.trans (hb.mono KB.out.size))
          clear hb
          go_wp2
          go_ret
          exact ⟨rfl, KC.out⟩
      · have q1 : (E2 != 0) = true := by simpa using he2
        clear BO x1 x2 y1 y2
        have KB := Lib.hid Z52.out.below
        clear Z52
        go_wp2_with fail
        refine (HK.out _).mono ?_
        rintro e wk ⟨rfl, hb⟩
        have KC := Lib.hid (KB.out.trans (hb.mono KB.out.size))
        clear hb
        go_wp2
        go_ret
        exact ⟨rfl, KC.out⟩
theorem markKeeps_walk (s : K.Src) (m q : K.M) (w : World) (hs : K.ArgOk w s) (fm : K.Fit m) (fq : K.Fit q) :
    Calls Try.prog 7 #[.slice s.a s.x.length s.c, .agg #[.int .u32 m.id, .int .i64 m.at_, .int .u8 m.g], .agg #[.int .u32 q.id, .int .i64 q.at_, .int .u8 q.g]] w fun e w' => e = .returned (.bool true) ∧ Below w.heap.size w w' := by
  by_cases h : K.setE s.x m = 0
  · exact markKeeps_good s m q w hs fm fq h
  · exact markKeeps_bad s m q w hs fm fq h
end Go.Proofs.Ytmbgcbgbdjiacaa
