/- The walk of ArenaKeeps, over whatever arena. -/
import Derived.Test.YtlhgakdplabnlaaArKeepM
import Derived.Test.YtlhgakdplabnlaaPeel
namespace Go.Proofs.Ytlhgakdplabnlaa
open Go.RowKit

/-- Which places of the row are to be turned. -/
def Ar.Tn (K E : Int) (hh : Nat) (all : List Ar.I) (ds ds' : List Bool) : Prop :=
  (K = 2 ∧ E = 0 ∧ ∀ (k : Nat) (i : Ar.I) (d : Bool), all[k]? = some i → ds[k]? = some d → ds'[k]? = some (d || decide (i.h = hh)) ∧ (i.h = hh → d = false)) ∨ ((K ≠ 2 ∨ E ≠ 0) ∧ ds' = ds)
def Ar.Ln (all : List Ar.I) (ds ds' : List Bool) (n : Nat) : Prop := all.length = ds.length ∧ ds'.length = ds.length ∧ all.length ≤ n
theorem Ar.own_some {W : World} {base n c : Nat} {e : TypeId} {ao : Option Addr} {xs : List Value} (h : W.ownsRow base e 1 (.slice ao n c) n xs) (hn : 0 < n) : ∃ g, ao = some ⟨g, 0, none⟩ := by
  rcases h.2 with ⟨e, h0⟩ | ⟨g, _, _, e, _⟩
  · omega
  · injection e with e; exact ⟨g, e⟩
section
variable {O : World → Nat → A13.A → (Nat → Prop) → Prop}
set_option maxRecDepth 100000 in
set_option maxHeartbeats 16000000 in
theorem arenaKeeps_walk (X : Ar.Pa O) (n g : Int) (sr : Ar.Src) (w : World) (_ : -9223372036854775808 ≤ n) (_ : n < 9223372036854775808) (_ : -9223372036854775808 ≤ g) (_ : g < 9223372036854775808) (hs : Ar.ArgOk w sr) :
    Calls Try.prog 6 #[.int .i64 n, .int .i64 g, .slice sr.a sr.x.length sr.c] w fun e w' => e = .returned (.bool true) ∧ Below w.heap.size w w' := by
  have HK : Hid (∀ W, Below w.heap.size w W → Calls Try.prog 27 #[] W (fun e w' => e = .returned (.bool true) ∧ Below w.heap.size w w')) := fun W hb => (awake13_any X W).mono fun _ _ k => ⟨k.1, Ar.bt hb k.2⟩
  obtain ⟨Nn, hN, N1, N2⟩ := Ar.nn_of n 12 (by omega) (by omega)
  obtain ⟨Gn, hG, G1, G2⟩ := Ar.nn_of g 3 (by omega) (by omega)
  have M12 := Lib.hid (fun W => mod11_any n 12 (by omega) (by omega) W)
  have M3 := Lib.hid (fun W => mod11_any g 3 (by omega) (by omega) W)
  have H1 := Lib.hid (X.new Nn Gn w (by omega) (by omega) (by omega) (by omega))
  have b1 : 0 ≤ n % 12 ∧ n % 12 < 12 := by omega
  have b2 : 0 ≤ g % 3 ∧ g % 3 < 3 := by omega
  rw [hN, hG] at H1
  have wn : IntKind.i64.wrap (1 + n % 12) = 1 + n % 12 := IntWalk.i64_in _ (by omega)
  have wg : IntKind.i64.wrap (1 + g % 3) = 1 + g % 3 := IntWalk.i64_in _ (by omega)
  have wu : IntKind.u64.wrap (1 + g % 3) = 1 + g % 3 := by rw [← hG]; exact H.u64_in _ (by omega)
  generalize n % 12 = nz at *
  generalize g % 3 = gz at *
  obtain ⟨sa, sc, sx⟩ := sr
  have HA : Hid (Ar.ArgOk w ⟨sa, sc, sx⟩) := hs
  have hl : sx.length ≤ 2000000000000 := hs.len
  dsimp only
  clear hs
  unfold FL.ptr at H1
  go_enter Try.func6, Try.ntmps6
  go_wp2_with fail
  refine (M12.out _).mono ?_
  rintro e w1 ⟨rfl, rfl⟩
  go_wp2_with fail
  refine (M3.out _).mono ?_
  rintro e w1 ⟨rfl, rfl⟩
  go_wp2_with fail
  refine H1.out.mono ?_
  rintro e w1 ⟨p, rfl, ho, hb⟩
  have S0 : Hid (Ar.Kr O w p (A13.new Nn Gn) (.slice none 0 0) (.slice none 0 0) [] [] w1) :=
    ⟨(Ar.St.make ho hb (fun k c => c.elim False.elim (fun c => c.1))).less (fun k c => by cases c), World.ownsRow_nil _ _ _ _⟩
  have F0 : (A13.new Nn Gn).st = 0 := rfl
  have H0 : Hid (∃ dd, FL.Hist (A13.new Nn Gn).l (([] : List Ar.I).map Ar.I.h) dd) := ⟨[], FL.hist_new⟩
  have K0 := Lib.hid (Ar.Kp.nil (A13.new Nn Gn))
  clear ho hb H1 M12 M3 wn wg wu hN hG b1 b2
  go_wp2
  go_loopw [9, 10, 11] (fun v u j wr => ∃ (i : Nat) (a : A13.A) (all : List Ar.I) (ds : List Bool), i ≤ sx.length ∧ i ≤ 40 ∧ all.length ≤ i ∧ a.st ≤ 41 * i ∧ j = .int .i64 i ∧ Hid (all.length = ds.length) ∧ Hid (Ar.Kr O w p a v u all ds wr ∧ (∃ dd, FL.Hist a.l (all.map Ar.I.h) dd) ∧ Ar.Kp a all ds)) (fun _ _ j _ => 40 - (intOf j).toNat)
  case atStart => exact ⟨0, _, [], [], Nat.zero_le _, Nat.zero_le _, Nat.zero_le _, Nat.zero_le _, rfl, rfl, S0.out, H0.out, K0.out⟩
  case round =>
    obtain ⟨i, a, all, ds, hi, hi4, hX, hst, rfl, hlen, hT⟩ := hrel
    clear S0 F0 H0 K0
    by_cases hlt : i < sx.length ∧ i < 40
    · obtain ⟨h1, h2⟩ := hlt
      have q1 : decide ((i : Int) < (sx.length : Int)) = true := by simp; omega
      have q2 : decide ((i : Int) < 40) = true := by simp; omega
      obtain ⟨d, hd⟩ : ∃ d, sx[i]? = some d := ⟨_, List.getElem?_eq_getElem h1⟩
      obtain ⟨hKr, hHi, hKp⟩ := hT.out
      have hS := hKr.st
      have HAw := HA.out.on hS.below
      obtain ⟨bb, oo, ea, lb, c0, c1, c2, c3, c4, c5, c6⟩ := HAw.row i d hd
      dsimp only at ea
      subst ea
      obtain ⟨va, vc, hv, _⟩ := hS.row
      subst hv
      obtain ⟨ua, uc, rfl⟩ := D.slice_of_own hKr.row
      have HP := Lib.hid (hS.play X (by omega) d (HAw.deed d (List.mem_of_getElem? hd)).1 (by omega) (fun g o e n => (HA.out.deed d (List.mem_of_getElem? hd)).2 g o e n))
      unfold Ar.Dd.v FL.ptr at HP
      have HAd := (HAw.deed d (List.mem_of_getElem? hd)).1.h
      clear HAw hd
      go_wp2_with fail
      refine HP.out.mono ?_
      rintro e w3 ⟨t, xo, xc, ht, rfl, hS3, hK3⟩
      have hinv := hS.inv X
      have hOp := Ar.opH_le hinv (HAd) (fun i hi => (hS.hands i hi).2.2)
      have S3 := hS3 hOp
      have BA : Below w3.heap.size w3 (w3.alloc (.cells #[.int .i64 (d.opX all a).h, .string t, .slice xo (d.opX all a).ks.length xc] 37)) := (Below.refl _ _).alloc (Nat.le_refl _) _
      have S4 := Lib.hid (S3.on X BA)
      have R4 := Lib.hid (D.own_below (Ar.kept_own hKr.row hK3 (fun _ e => e)) BA)
      have stp := Ar.op_st d all a
      have C3 := Ar.did3 d all a
      have N4 := heap_alloc_new w3 (.cells #[.int .i64 (d.opX all a).h, .string t, .slice xo (d.opX all a).ks.length xc] 37)
      have hHi := Lib.hid hHi
      have hKp := Lib.hid hKp
      have hinv := Lib.hid hinv
      have htc := Lib.hid (fun (c : N.chk (d.opX all a) = 0) => Ar.chk_of (xo := xo) (xc := xc) ht c)
      have hnd : Hid ((⟨(d.opX all a).h, t, ⟨xo, xc, (d.opX all a).ks⟩⟩ : N.NArg).nd = d.opX all a) := by show (⟨_, _, _⟩ : N.Nd) = _; rw [ht]
      clear hT hKr hS hS3 S3 hK3 HP BA c0 c1 c2 c3 c4 c5 c6 ht HAd
      generalize d.op all a = a6 at *
      generalize d.opK = K at *
      generalize d.opE all a = E at *
      generalize d.opH all a = hh at *
      generalize d.opX all a = x at *
      obtain ⟨W4, hW4⟩ : ∃ Z, w3.alloc (.cells #[.int .i64 x.h, .string t, .slice xo x.ks.length xc] 37) = Z := ⟨_, rfl⟩
      rw [hW4] at S4 R4 N4
      go_upto_region 10 with (fail)
      obtain ⟨mk, hmk⟩ : ∃ b : Bool, Hid (decide (K = 0 ∧ E = 0) = b) := ⟨_, rfl⟩
      go_cut [60] from 55 to 60 (fun c wx => c = .bool mk ∧ wx = W4)
      case first =>
        by_cases k0 : K = 0
        · by_cases e0 : E = 0
          · have m : mk = true := by rw [← hmk.out]; exact decide_eq_true ⟨k0, e0⟩
            subst k0 e0
            clear C3 S4 R4 htc hnd
            go_wp2
            go_meet
            exact ⟨by rw [m], rfl⟩
          · have m : mk = false := by rw [← hmk.out]; exact decide_eq_false (fun c => e0 c.2)
            have e0' : (E == 0) = false := by simpa using e0
            subst k0
            clear C3 S4 R4 htc hnd
            go_wp2
            go_meet
            exact ⟨by rw [m], rfl⟩
        · have m : mk = false := by rw [← hmk.out]; exact decide_eq_false (fun c => k0 c.1)
          have k0' : (K == 0) = false := by simpa using k0
          clear C3 S4 R4 htc hnd
          go_wp2
          go_meet
          exact ⟨by rw [m], rfl⟩
      case rest =>
      obtain ⟨rfl, hwc⟩ := hcut
      have hwc := hwc.symm
      subst hwc
      go_upto_if 60 with (fail)
      go_cut [9, 10] (fun v' u' wx => ∃ (all' : List Ar.I) (ds1 ds' : List Bool), Hid (Ar.Ln all' ds1 ds' (i + 1)) ∧ Hid (Ar.Kr O w p a6 v' u' all' ds1 wx ∧ (∃ dd, FL.Hist a6.l (all'.map Ar.I.h) dd) ∧ Ar.Kp a6 all' ds' ∧ Ar.Tn K E hh all' ds1 ds'))
      case first =>
        obtain ⟨dd, hHd⟩ := hHi.out
        rcases C3 with ⟨rfl, rfl, c, eh, eo, z⟩ | ⟨rfl, rfl, hy, eo⟩ | ⟨kk, n1, hn1, eo⟩
        · have m : mk = true := by rw [← hmk.out]; rfl
          subst m
          obtain ⟨hno, hh1⟩ := Ar.hist_al hinv.out hHd z
          rw [← eh] at hno hh1
          have hno := Lib.hid hno
          have F1 : Hid (FL.Hist a6.l ((all ++ [(⟨hh, ⟨x.h, t, ⟨xo, xc, x.ks⟩⟩⟩ : Ar.I)]).map Ar.I.h) dd ∧ Ar.Kp a6 (all ++ [⟨hh, ⟨x.h, t, ⟨xo, xc, x.ks⟩⟩⟩]) (ds ++ [false])) := by
            refine ⟨by rw [List.map_append, eo]; exact hh1, ?_⟩
            rw [eo, eh]
            exact Ar.Kp.made hinv.out hKp.out hlen.out z (fun i hi e => hno.out (by rw [eh, ← e]; exact List.mem_map.2 ⟨i, hi, rfl⟩)) hnd.out
          have cc := Lib.hid (htc.out c)
          have hl2 : ds.length ≤ 1000000 := by have := hlen.out; omega
          clear hHd hh1 eo eh z c hKp hHi htc hnd hmk hinv
          go_wp2
          go_loopw [16] (fun j wr => ∃ k : Nat, k ≤ all.length ∧ j = .int .i64 k ∧ wr = W4) (fun j _ => all.length - (intOf j).toNat)
          case atStart => exact ⟨0, Nat.zero_le _, rfl, rfl⟩
          case round =>
            obtain ⟨k, hk, rfl, rfl⟩ := hrel
            by_cases hkl : k < all.length
            · have hkl' : (k : Int) < (all.length : Int) := by omega
              obtain ⟨it, hit⟩ : ∃ it, all[k]? = some it := ⟨_, List.getElem?_eq_getElem hkl⟩
              obtain ⟨ao, ac, e, hrow⟩ := S4.out.row
              cases e
              obtain ⟨ab, e, lb2, g0, _⟩ := hrow k it hit
              subst e
              have ne : it.h ≠ hh := fun e => hno.out (by rw [← e]; exact List.mem_map.2 ⟨it, List.mem_of_getElem? hit, rfl⟩)
              have n1 : ((it.h : Int) == (hh : Int)) = false := by simp; omega
              have n2 : (it.h == hh) = false := by simpa using ne
              have n3 : decide (it.h = hh) = false := decide_eq_false ne
              clear hrow hit ne
              go_wp2
              go_roundw
              case rel => exact ⟨k + 1, by omega, by rfl, by first | rfl | trivial⟩
              case measure => simp [intOf]; omega
            · have hge : ¬ (k : Int) < (all.length : Int) := by omega
              have hgd : decide (k < all.length) = false := decide_eq_false hkl
              have n0 := Lib.cell_of_heap N4 0
              have n1 := Lib.cell_of_heap N4 1
              have n2 := Lib.cell_of_heap N4 2
              go_wp2_with (at_builtin; refine Ar.append_known rfl _ _ rfl w.heap.size (.slice va all.length vc) all ?s1 ?s2 ⟨hh, ⟨x.h, t, ⟨xo, xc, x.ks⟩⟩⟩ 1 ?s3 ?s4 ?s5 ?_)
              case s2 => exact S4.out.own
              case s4 => omega
              case s5 => exact S4.out.below.size
              intro v' w5 g1 g2 g3
              obtain ⟨S5, K5⟩ := S4.out.push X cc.out (by simpa using g1) g2 g3
              have R5 := Lib.hid (Ar.kept_own R4.out K5 (fun _ e => e))
              have S5 := Lib.hid S5
              clear g1 g2 g3 K5 n0 n1 n2 S4 R4 N4
              go_wp2_with (at_builtin; refine Ar.append_bool rfl _ _ rfl w.heap.size (.slice ua ds.length uc) ds.length ds ?t1 ?t2 rfl false 1 ?t3 hl2 ?t5 ?_)
              case t1 => rfl
              case t2 => exact R5.out
              case t3 => rfl
              case t5 => exact S5.out.below.size
              intro u' w6 r1 r2 r3
              have S6 := Ar.St.grow X S5.out r2.out (fun _ e => e) (L' := fun k => u'.ownBlock = some k) (fun k e => by
                rcases r3.out with c | ⟨g', c, hg⟩
                · exact .inl (c ▸ e)
                · rw [c] at e; injection e with e; exact .inr ⟨by omega, (r1.out.lt k (by rw [c, e])).2⟩)
              have FF : Hid (Ar.Kr O w p a6 v' u' (all ++ [⟨hh, ⟨x.h, t, ⟨xo, xc, x.ks⟩⟩⟩]) (ds ++ [false]) w6) := ⟨S6, by rw [List.length_append]; exact r1.out⟩
              have HL : Hid (Ar.Ln (all ++ [(⟨hh, ⟨x.h, t, ⟨xo, xc, x.ks⟩⟩⟩ : Ar.I)]) (ds ++ [false]) (ds ++ [false]) (i + 1)) := ⟨by rw [List.length_append, List.length_append, hlen.out]; rfl, rfl, by rw [List.length_append]; simp; omega⟩
              clear r1 r2 r3 S6 S5 R5
              go_wp2
              go_meet
              exact ⟨_, _, ds ++ [false], HL.out, FF.out, ⟨dd, F1.out.1⟩, F1.out.2, .inr ⟨.inl (by decide), rfl⟩⟩
        · have m : mk = false := by rw [← hmk.out]; rfl
          subst m
          have F1 : Hid (Ar.Ln all ds (Ar.dy hh all ds) (i + 1) ∧ Ar.Kr O w p a6 (.slice va all.length vc) (.slice ua ds.length uc) all ds W4 ∧ (∃ dd, FL.Hist a6.l (all.map Ar.I.h) dd) ∧ Ar.Kp a6 all (Ar.dy hh all ds) ∧ Ar.Tn 2 0 hh all ds (Ar.dy hh all ds)) := by
            refine ⟨⟨hlen.out, Ar.dy_len hlen.out, by omega⟩, ⟨S4.out.drop, R4.out⟩, ⟨dd ++ [hh], by rw [eo]; exact Ar.hist_free hinv.out hHd hy⟩, by rw [eo]; exact hKp.out.freed hinv.out hlen.out hy, .inl ⟨rfl, rfl, fun k i d hi hd => ⟨Ar.dy_at hi hd, fun e => ?_⟩⟩⟩
            cases d with
            | false => rfl
            | true =>
              have := (hKp.out k i true hi hd).1 rfl
              rw [e, hy] at this; cases this
          clear hHd eo hy hKp hHi htc hnd hmk hinv S4 R4 N4
          go_wp2
          go_meet
          exact ⟨all, ds, _, F1.out.1, F1.out.2⟩
        · have m : mk = false := by
            rw [← hmk.out]
            refine decide_eq_false fun c => ?_
            rcases kk with ⟨_, k⟩ | k | ⟨k, _⟩
            · exact k c.2
            · omega
            · omega
          subst m
          have F1 : Hid (Ar.Ln all ds ds (i + 1) ∧ Ar.Kr O w p a6 (.slice va all.length vc) (.slice ua ds.length uc) all ds W4 ∧ (∃ dd, FL.Hist a6.l (all.map Ar.I.h) dd) ∧ Ar.Kp a6 all ds ∧ Ar.Tn K E hh all ds ds) := by
            refine ⟨⟨hlen.out, rfl, by omega⟩, ⟨S4.out.drop, R4.out⟩, ⟨dd, by rw [eo]; exact hHd⟩, by rw [eo]; exact hKp.out, .inr ⟨?_, rfl⟩⟩
            rcases kk with ⟨k, _⟩ | k | ⟨_, k⟩
            · exact .inl (by omega)
            · exact .inl (by omega)
            · exact .inr k
          clear hHd eo kk hKp hHi htc hnd hmk hinv S4 R4 N4
          go_wp2
          go_meet
          exact ⟨all, ds, _, F1.out.1, F1.out.2⟩
      case rest =>
      obtain ⟨all', ds1, ds', hL, hQ⟩ := hcut
      clear C3 S4 R4 N4 htc hnd hKp hHi hinv hmk
      obtain ⟨va', vc', hv', _⟩ := hQ.out.1.st.row
      obtain ⟨ua', uc', hu'⟩ := D.slice_of_own hQ.out.1.row
      subst hv' hu'
      have hli := hL.out.2.2
      have QK := Lib.hid hQ.out.2.2.1
      have QT := Lib.hid hQ.out.2.2.2
      have QH := Lib.hid hQ.out.2.1
      have M0 : Hid (Ar.Kr O w p (Ar.stt a6 a6.st) (.slice va' all'.length vc') (.slice ua' ds1.length uc') all' (Ar.mid ds1 ds' 0) wc) := by
        rw [Ar.mid_zero]; exact hQ.out.1
      clear hQ hlen hX
      go_wp2
      go_loopw [17] (fun j wr => ∃ (k st' : Nat), k ≤ all'.length ∧ j = .int .i64 k ∧ st' ≤ a6.st + k ∧ Hid (Ar.Kr O w p (Ar.stt a6 st') (.slice va' all'.length vc') (.slice ua' ds1.length uc') all' (Ar.mid ds1 ds' k) wr)) (fun j _ => all'.length - (intOf j).toNat)
      case atStart => exact ⟨0, a6.st, Nat.zero_le _, rfl, Nat.le_refl _, M0.out⟩
      case round =>
        obtain ⟨k, st', hk, rfl, hst', hM⟩ := hrel
        clear M0
        by_cases hkl : k < all'.length
        · have hkl' : (k : Int) < (all'.length : Int) := by omega
          have hdl : (k : Int) < (ds1.length : Int) := by have := hL.out.1; omega
          obtain ⟨it, hit⟩ : ∃ it, all'[k]? = some it := ⟨_, List.getElem?_eq_getElem hkl⟩
          obtain ⟨d1, hd1⟩ : ∃ b, ds1[k]? = some b := ⟨_, List.getElem?_eq_getElem (by have := hL.out.1; omega)⟩
          obtain ⟨d2, hd2⟩ : ∃ b, ds'[k]? = some b := ⟨_, List.getElem?_eq_getElem (by have := hL.out.1; have := hL.out.2.1; omega)⟩
          have hmid : (Ar.mid ds1 ds' k).length = ds1.length := Ar.mid_len hL.out.2.1 (by have := hL.out.1; omega)
          obtain ⟨ao, ac, e, hrow⟩ := hM.out.st.row
          cases e
          obtain ⟨ab, e, lb2, g0, g1, g2, g3⟩ := hrow k it hit
          subst e
          have hrw := hM.out.row
          rw [hmid] at hrw
          obtain ⟨ub, e⟩ := Ar.own_some hrw (by have := hL.out.1; omega)
          subst e
          obtain ⟨cu, fu, _⟩ := V.own_cell hrw (FL.b_at (by rw [Ar.mid_at hL.out.2.1 (by have := hL.out.1; omega)]; exact hd1))
          obtain ⟨hit', hH⟩ : ∃ h' : Bool, Hid (((K = 2 ∧ E = 0 ∧ decide (it.h = hh) = h') ∨ (h' = false ∧ (K ≠ 2 ∨ E ≠ 0))) ∧ (h' = true → d1 = false ∧ d2 = true) ∧ (h' = false → d2 = d1)) := by
            rcases QT.out with ⟨kk, ee, f⟩ | ⟨ke, f⟩
            · obtain ⟨f1, f2⟩ := f k it d1 hit hd1
              rw [hd2] at f1
              injection f1 with f1
              refine ⟨decide (it.h = hh), .inl ⟨kk, ee, rfl⟩, fun c => ?_, fun c => ?_⟩
              · exact ⟨f2 (of_decide_eq_true c), by rw [f1, c, Bool.or_true]⟩
              · rw [f1, c, Bool.or_false]
            · refine ⟨false, .inr ⟨rfl, ke⟩, (fun c => by cases c), fun _ => ?_⟩
              rw [f, hd1] at hd2
              injection hd2 with hd2; exact hd2.symm
          have M1 : Hid (∀ wx, (hit' = true → wx = wr.setCell ⟨ub, k, none⟩ (.bool true)) → (hit' = false → wx = wr) → Ar.Kr O w p (Ar.stt a6 st') (.slice (some ⟨ab, 0, none⟩) all'.length vc') (.slice (some ⟨ub, 0, none⟩) ds1.length uc') all' (Ar.mid ds1 ds' (k + 1)) wx) := by
            intro wx e1 e2
            cases hit' with
            | true =>
              rw [e1 rfl, ← Ar.mid_next hL.out.2.1 hd2, (hH.out.2.1 rfl).2]
              exact Ar.Kr.set X hM.out hmid.symm k true
            | false =>
              rw [e2 rfl, ← Ar.mid_same hL.out.2.1 hd1 (by rw [hd2, hH.out.2.2 rfl])]
              exact hM.out
          have KD := Lib.hid (QK.out k it d2 hit hd2)
          have hD2 := Lib.hid hd2
          have HN := Lib.hid (hM.out.st.hands it (List.mem_of_getElem? hit))
          clear hrow hrw hd1 hd2 hmid lb2
          go_upto_region 21 with (fail)
          go_cut [103] from 89 to 103 (fun c wx => c = .bool hit' ∧ wx = wr)
          case first =>
            rcases hH.out.1 with ⟨rfl, rfl, e⟩ | ⟨e, c⟩
            · have n1 : ((it.h : Int) == (hh : Int)) = hit' := by rw [← e]; by_cases c : it.h = hh <;> simp [c] <;> omega
              have n2 : (it.h == hh) = hit' := by rw [← e]; by_cases c : it.h = hh <;> simp [c]
              clear hM M1 KD HN hH hit
              go_wp2
              go_meet
              exact ⟨by first | rfl | rw [e], rfl⟩
            · by_cases k2 : K = 2
              · have e0 : (E == 0) = false := by simpa using c.resolve_left (fun x => x k2)
                subst k2
                clear hM M1 KD HN hH hit c
                go_wp2
                go_meet
                exact ⟨by rw [e], rfl⟩
              · have k0 : (K == 2) = false := by simpa using k2
                clear hM M1 KD HN hH hit c
                go_wp2
                go_meet
                exact ⟨by rw [e], rfl⟩
          case rest =>
          obtain ⟨rfl, hwc⟩ := hcut
          have hwc := hwc.symm
          subst hwc
          go_upto_if 103 with (fail)
          go_cut [] (fun wx => (hit' = true → wx = wr.setCell ⟨ub, k, none⟩ (.bool true)) ∧ (hit' = false → wx = wr))
          case first =>
            cases hit' with
            | true =>
              have e1 := (hH.out.2.1 rfl).1
              subst e1
              clear hM M1 KD HN hH hit
              go_wp2
              go_meet
              exact ⟨fun _ => rfl, (fun c => by cases c)⟩
            | false =>
              clear hM M1 KD HN hH hit
              go_wp2
              go_meet
              exact ⟨(fun c => by cases c), fun _ => rfl⟩
          case rest =>
          obtain ⟨e1, e2⟩ := hcut
          have M2 := Lib.hid (M1.out _ e1 e2)
          clear e1 e2 M1 hM g0 g1 g2 g3 cu fu hH
          obtain ⟨ao, ac, e, hrow⟩ := M2.out.st.row
          cases e
          obtain ⟨_, e, lb2, g0, g1, g2, g3⟩ := hrow k it hit
          cases e
          have hst2 : (Ar.stt a6 st').st < 1000000000 := by show st' < _; omega
          have HG := M2.out.st.get X hst2 it.h HN.out.2.2
          have HY : Hid ((d2 = true → Ar.got (Ar.stt a6 st') it.h = ⟨0, [], []⟩ ∧ (Ar.stt a6 st').gtE it.h = 10 ∧ (Ar.stt a6 st').gt it.h = Ar.stt a6 (st' + 1) ∧ (Ar.stt a6 st').has it.h = false) ∧ (d2 = false → Ar.got (Ar.stt a6 st') it.h = it.x.nd ∧ (Ar.stt a6 st').gtE it.h = 0 ∧ (Ar.stt a6 st').gt it.h = Ar.stt a6 st' ∧ (Ar.stt a6 st').has it.h = true)) := by
            refine ⟨fun c => ?_, fun c => ?_⟩
            · have h1 : (Ar.stt a6 st').has it.h = false := KD.out.1 c
              have h2 : (Ar.stt a6 st').look it.h = none := by
                unfold A13.A.has at h1
                cases e : (Ar.stt a6 st').look it.h with
                | none => rfl
                | some y => rw [e] at h1; cases h1
              exact ⟨by unfold Ar.got; rw [h2]; rfl, by unfold A13.A.gtE; rw [if_neg (by rw [h1]; simp)], by rw [A13.gt_no h1]; rfl, h1⟩
            · have h2 : (Ar.stt a6 st').look it.h = some it.x.nd := KD.out.2 c
              have h1 : (Ar.stt a6 st').has it.h = true := Ar.look_has h2
              exact ⟨by unfold Ar.got; rw [h2]; rfl, by unfold A13.A.gtE; rw [if_pos h1], by rw [A13.gt_yes h1], h1⟩
          unfold FL.ptr at HG
          have HLv : Hid (∀ Z a9, Ar.Kr O w p a9 (.slice (some ⟨ab, 0, none⟩) all'.length vc') (.slice (some ⟨ub, 0, none⟩) ds1.length uc') all' (Ar.mid ds1 ds' (k + 1)) Z → Calls Try.prog 25 #[.pointer (some ⟨p, 0, none⟩), .int .u64 (it.h : Int)] Z fun e W' => e = .returned (.bool (a9.has it.h)) ∧ Below Z.heap.size Z W') := fun Z a9 hZ => hZ.st.live X it.h HN.out.2.2
          generalize Ar.got (Ar.stt a6 st') it.h = y at *
          generalize (Ar.stt a6 st').gtE it.h = eG at *
          generalize (Ar.stt a6 st').gt it.h = a9 at *
          have HG := Lib.hid HG
          have HG' := Lib.hid HG.out
          clear HG
          clear hrow
          go_wp2_with fail
          refine HG'.out.mono ?_
          rintro e w8 ⟨t8, yo, yc, ht8, rfl, hS8, hK8, hN8, hz8⟩
          have R8 := Ar.kept_own M2.out.row hK8 (fun _ e => e)
          have S8 := hS8.less (L' := fun k => Value.ownBlock (.slice (some ⟨ub, 0, none⟩) ds1.length uc') = some k) (fun _ c => .inl c)
          obtain ⟨W9, hW9⟩ : ∃ Z, w8.alloc (.cells #[.int .i64 y.h, .string t8, .slice yo y.ks.length yc] 37) = Z := ⟨_, rfl⟩
          have b9 : Below w8.heap.size w8 W9 := hW9 ▸ (Below.refl _ _).alloc (Nat.le_refl _) _
          have Y9 := heap_alloc_new w8 (.cells #[.int .i64 y.h, .string t8, .slice yo y.ks.length yc] 37)
          rw [hW9] at Y9
          have KR9 : Hid (Ar.Kr O w p a9 (.slice (some ⟨ab, 0, none⟩) all'.length vc') (.slice (some ⟨ub, 0, none⟩) ds1.length uc') all' (Ar.mid ds1 ds' (k + 1)) W9) := Ar.Kr.on X ⟨S8, R8⟩ b9
          have hN9 := Lib.hid (hN8.on b9)
          have Y9 := Lib.hid Y9
          have ht8 := Lib.hid ht8
          clear hS8 hK8 hN8 hz8 R8 S8 b9 HG' g0 g1 g2 g3 M2 lb2 hst2
          have hmid : Hid ((Ar.mid ds1 ds' (k + 1)).length = ds1.length) := Ar.mid_len hL.out.2.1 (by have := hL.out.1; omega)
          have hmd : Hid ((Ar.mid ds1 ds' (k + 1))[k]? = some d2) := by
            have : (Ar.mid ds1 ds' (k + 1))[k]? = ds'[k]? := by
              unfold Ar.mid
              rw [List.getElem?_append_left (by rw [List.length_take]; have := hL.out.1; have := hL.out.2.1; omega), List.getElem?_take, if_pos (by omega)]
            exact this.trans hD2.out
          go_upto_region 26 with (fail)
          obtain ⟨W2, hW2⟩ : ∃ Z, Z = W9.drew := ⟨_, rfl⟩
          have KR2 : Hid (Ar.Kr O w p a9 (.slice (some ⟨ab, 0, none⟩) all'.length vc') (.slice (some ⟨ub, 0, none⟩) ds1.length uc') all' (Ar.mid ds1 ds' (k + 1)) W2) := hW2 ▸ Ar.Kr.on X KR9.out (Below.refl _ _).drew
          have Y2 : Hid (W2.heap[w8.heap.size]? = some (.cells #[.int .i64 y.h, .string t8, .slice yo y.ks.length yc] 37 (0, 0))) := by rw [hW2]; exact Y9.out
          have hN2 : Hid (N.NOk W2 ⟨y.h, t8, ⟨yo, yc, y.ks⟩⟩) := hW2 ▸ hN9.out.on (Below.refl _ _).drew
          have CU : Hid (∀ Z, Below W2.heap.size W2 Z → Z.cell? ⟨ub, k, none⟩ = some (.bool d2) ∧ Z.cell? ⟨ab, k * 4, none⟩ = some (.int .u64 (it.h : Int)) ∧ Z.cell? ⟨ab, k * 4 + 1, none⟩ = some (.int .i64 it.x.h) ∧ Z.cell? ⟨ab, k * 4 + 2, none⟩ = some (.string it.x.t) ∧ Z.cell? ⟨ab, k * 4 + 3, none⟩ = some (.slice it.x.s.a it.x.s.x.length it.x.s.c)) := fun Z hb => by
            have hZ := Ar.Kr.on X KR2.out hb
            have hrw := hZ.row
            rw [hmid.out] at hrw
            obtain ⟨ao, ac, e, hrow⟩ := hZ.st.row
            cases e
            obtain ⟨_, e, _, g0, g1, g2, g3⟩ := hrow k it hit
            cases e
            exact ⟨(V.own_cell hrw (FL.b_at hmd.out)).1, g0, g1, g2, g3⟩
          clear KR9 Y9 hN9
          cases d2 with
          | true =>
            obtain ⟨rfl, rfl, rfl, hno⟩ := HY.out.1 rfl
            have HS : Hid (∀ Z, Below W2.heap.size W2 Z → (Z.cell? ⟨ub, k, none⟩ = some (.bool true) ∧ Z.cell? ⟨ab, k * 4, none⟩ = some (.int .u64 (it.h : Int))) ∧ Below W2.heap.size W2 Z) := fun Z hb => ⟨⟨(CU.out Z hb).1, (CU.out Z hb).2.1⟩, hb⟩
            have HL2 : Hid (∀ Z, Below W2.heap.size W2 Z → Calls Try.prog 25 #[.pointer (some ⟨p, 0, none⟩), .int .u64 (it.h : Int)] Z fun e W' => e = .returned (.bool false) ∧ Below Z.heap.size Z W') := fun Z hb => by
              have := HLv.out Z _ (Ar.Kr.on X KR2.out hb)
              rw [show (Ar.stt a6 (st' + 1)).has it.h = false from hno] at this
              exact this
            have HLv := HL2
            clear HL2 CU HY hno KD HN hmd hmid hit hN2 Y2 ht8
            refine Pe.start (z := 47) (S := (fun Z => (Z.cell? ⟨ub, k, none⟩ = some (.bool true) ∧ Z.cell? ⟨ab, k * 4, none⟩ = some (.int .u64 (it.h : Int))) ∧ Below W2.heap.size W2 Z)) (by kernel_rfl) (by kernel_rfl) W2 hW2 (HS.out _ (Below.refl _ _)) (fun hHeld => ?_)
            clear hW2
            refine Pe.Left.take (i := 0) (o := ?od0) (v := ?vd0) ?hid0 (by kernel_rfl) (by decide) (by kernel_rfl) (by kernel_rfl) ?hQd0 (Or.inl ⟨?wad0, ?hyd0⟩) hHeld ?restd0
            case hid0 => simp only [List.getElem?_toArray, List.getElem?_cons_zero]; rfl
            case hQd0 => exact fun _ _ _ h => h
            case wad0 => rfl
            case hyd0 => (intro w hSw; (try dsimp only at hSw); go_simp; (try with_reducible rfl))
            (try simp only [Act.put, List.setIfInBounds_toArray, List.set_cons_zero, List.set_cons_succ])
            refine Pe.Left.take (i := 1) (o := ?od1) (v := ?vd1) ?hid1 (by kernel_rfl) (by decide) (by kernel_rfl) (by kernel_rfl) ?hQd1 (Or.inl ⟨?wad1, ?hyd1⟩) hHeld ?restd1
            case hid1 => simp only [List.getElem?_toArray, List.getElem?_cons_succ, List.getElem?_cons_zero]; rfl
            case hQd1 => exact fun _ _ _ h => h
            case wad1 => rfl
            case hyd1 => (intro w hSw; (try dsimp only at hSw); go_simp; (try with_reducible rfl))
            (try simp only [Act.put, List.setIfInBounds_toArray, List.set_cons_zero, List.set_cons_succ])
            refine Pe.Left.take (i := 2) (o := ?od2) (v := ?vd2) ?hid2 (by kernel_rfl) (by decide) (by kernel_rfl) (by kernel_rfl) ?hQd2 (Or.inl ⟨?wad2, ?hyd2⟩) hHeld ?restd2
            case hid2 => simp only [List.getElem?_toArray, List.getElem?_cons_succ, List.getElem?_cons_zero]; rfl
            case hQd2 => exact fun _ _ _ h => h
            case wad2 => rfl
            case hyd2 => (intro w hSw; (try dsimp only at hSw); go_simp; (try with_reducible rfl))
            (try simp only [Act.put, List.setIfInBounds_toArray, List.set_cons_zero, List.set_cons_succ])
            refine Pe.Left.take (i := 3) (o := ?od3) (v := ?vd3) ?hid3 (by kernel_rfl) (by decide) (by kernel_rfl) (by kernel_rfl) ?hQd3 (Or.inl ⟨?wad3, ?hyd3⟩) hHeld ?restd3
            case hid3 => simp only [List.getElem?_toArray, List.getElem?_cons_succ, List.getElem?_cons_zero]; rfl
            case hQd3 => exact fun _ _ _ h => h
            case wad3 => rfl
            case hyd3 => (intro w hSw; (try dsimp only at hSw); go_simp; (try with_reducible rfl))
            (try simp only [Act.put, List.setIfInBounds_toArray, List.set_cons_zero, List.set_cons_succ])
            refine Pe.Left.take (i := 4) (o := ?od4) (v := ?vd4) ?hid4 (by kernel_rfl) (by decide) (by kernel_rfl) (by kernel_rfl) ?hQd4 (Or.inl ⟨?wad4, ?hyd4⟩) hHeld ?restd4
            case hid4 => simp only [List.getElem?_toArray, List.getElem?_cons_succ, List.getElem?_cons_zero]; rfl
            case hQd4 => exact fun _ _ _ h => h
            case wad4 => rfl
            case hyd4 => (intro w hSw; (try dsimp only at hSw); go_simp; (try with_reducible rfl))
            (try simp only [Act.put, List.setIfInBounds_toArray, List.set_cons_zero, List.set_cons_succ])
            refine Pe.Left.take (i := 5) (o := ?od5) (v := ?vd5) ?hid5 (by kernel_rfl) (by decide) (by kernel_rfl) (by kernel_rfl) ?hQd5 (Or.inl ⟨?wad5, ?hyd5⟩) hHeld ?restd5
            case hid5 => simp only [List.getElem?_toArray, List.getElem?_cons_succ, List.getElem?_cons_zero]; rfl
            case hQd5 => exact fun _ _ _ h => h
            case wad5 => rfl
            case hyd5 => (intro w hSw; (try dsimp only at hSw); go_simp; (try with_reducible rfl))
            (try simp only [Act.put, List.setIfInBounds_toArray, List.set_cons_zero, List.set_cons_succ])
            refine Pe.Left.take (i := 6) (o := ?od6) (v := ?vd6) ?hid6 (by kernel_rfl) (by decide) (by kernel_rfl) (by kernel_rfl) ?hQd6 (Or.inl ⟨?wad6, ?hyd6⟩) hHeld ?restd6
            case hid6 => simp only [List.getElem?_toArray, List.getElem?_cons_succ, List.getElem?_cons_zero]; rfl
            case hQd6 => exact fun _ _ _ h => h
            case wad6 => rfl
            case hyd6 => (intro w hSw; (try dsimp only at hSw); go_simp; (try with_reducible rfl))
            (try simp only [Act.put, List.setIfInBounds_toArray, List.set_cons_zero, List.set_cons_succ])
            refine Pe.Left.take (i := 7) (o := ?od7) (v := ?vd7) ?hid7 (by kernel_rfl) (by decide) (by kernel_rfl) (by kernel_rfl) ?hQd7 (Or.inl ⟨?wad7, ?hyd7⟩) hHeld ?restd7
            case hid7 => simp only [List.getElem?_toArray, List.getElem?_cons_succ, List.getElem?_cons_zero]; rfl
            case hQd7 => exact fun _ _ _ h => h
            case wad7 => rfl
            case hyd7 => (intro w hSw; (try dsimp only at hSw); go_simp; (try with_reducible rfl))
            (try simp only [Act.put, List.setIfInBounds_toArray, List.set_cons_zero, List.set_cons_succ])
            refine Pe.Left.take (i := 8) (o := ?od8) (v := ?vd8) ?hid8 (by kernel_rfl) (by decide) (by kernel_rfl) (by kernel_rfl) ?hQd8 (Or.inl ⟨?wad8, ?hyd8⟩) hHeld ?restd8
            case hid8 => simp only [List.getElem?_toArray, List.getElem?_cons_succ, List.getElem?_cons_zero]; rfl
            case hQd8 => exact fun _ _ _ h => h
            case wad8 => rfl
            case hyd8 => (intro w hSw; (try dsimp only at hSw); go_simp; (try with_reducible rfl))
            (try simp only [Act.put, List.setIfInBounds_toArray, List.set_cons_zero, List.set_cons_succ])
            refine Pe.Left.take (i := 9) (o := ?od9) (v := ?vd9) ?hid9 (by kernel_rfl) (by decide) (by kernel_rfl) (by kernel_rfl) ?hQd9 (Or.inl ⟨?wad9, ?hyd9⟩) hHeld ?restd9
            case hid9 => simp only [List.getElem?_toArray, List.getElem?_cons_succ, List.getElem?_cons_zero]; rfl
            case hQd9 => exact fun _ _ _ h => h
            case wad9 => rfl
            case hyd9 => (intro w hSw; (try dsimp only at hSw); go_simp; (try with_reducible rfl))
            (try simp only [Act.put, List.setIfInBounds_toArray, List.set_cons_zero, List.set_cons_succ])
            refine Pe.Left.take (i := 10) (o := ?od10) (v := ?vd10) ?hid10 (by kernel_rfl) (by decide) (by kernel_rfl) (by kernel_rfl) ?hQd10 (Or.inl ⟨?wad10, ?hyd10⟩) hHeld ?restd10
            case hid10 => simp only [List.getElem?_toArray, List.getElem?_cons_succ, List.getElem?_cons_zero]; rfl
            case hQd10 => exact fun _ _ _ h => h
            case wad10 => rfl
            case hyd10 => (intro w hSw; (try dsimp only at hSw); go_simp; (try with_reducible rfl))
            (try simp only [Act.put, List.setIfInBounds_toArray, List.set_cons_zero, List.set_cons_succ])
            refine Pe.Left.take (i := 11) (o := ?od11) (v := ?vd11) ?hid11 (by kernel_rfl) (by decide) (by kernel_rfl) (by kernel_rfl) ?hQd11 (Or.inl ⟨?wad11, ?hyd11⟩) hHeld ?restd11
            case hid11 => simp only [List.getElem?_toArray, List.getElem?_cons_succ, List.getElem?_cons_zero]; rfl
            case hQd11 => exact fun _ _ _ h => h
            case wad11 => rfl
            case hyd11 => (intro w hSw; (try dsimp only at hSw); go_simp; (try with_reducible rfl))
            (try simp only [Act.put, List.setIfInBounds_toArray, List.set_cons_zero, List.set_cons_succ])
            refine Pe.Left.take (i := 12) (o := ?od12) (v := ?vd12) ?hid12 (by kernel_rfl) (by decide) (by kernel_rfl) (by kernel_rfl) ?hQd12 (Or.inl ⟨?wad12, ?hyd12⟩) hHeld ?restd12
            case hid12 => simp only [List.getElem?_toArray, List.getElem?_cons_succ, List.getElem?_cons_zero]; rfl
            case hQd12 => exact fun _ _ _ h => h
            case wad12 => rfl
            case hyd12 => (intro w hSw; (try dsimp only at hSw); go_simp; (try with_reducible rfl))
            (try simp only [Act.put, List.setIfInBounds_toArray, List.set_cons_zero, List.set_cons_succ])
            refine Pe.Left.take (i := 13) (o := ?od13) (v := ?vd13) ?hid13 (by kernel_rfl) (by decide) (by kernel_rfl) (by kernel_rfl) ?hQd13 (Or.inl ⟨?wad13, ?hyd13⟩) hHeld ?restd13
            case hid13 => simp only [List.getElem?_toArray, List.getElem?_cons_succ, List.getElem?_cons_zero]; rfl
            case hQd13 => exact fun _ _ _ h => h
            case wad13 => rfl
            case hyd13 => (intro w hSw; (try dsimp only at hSw); go_simp; (try with_reducible rfl))
            (try simp only [Act.put, List.setIfInBounds_toArray, List.set_cons_zero, List.set_cons_succ])
            refine Pe.Left.one (i := 14) (o := ?od14) ?hid14 (by kernel_rfl) (by decide) (fun KK hK => ?restd14)
            case hid14 => simp only [List.getElem?_toArray, List.getElem?_cons_succ, List.getElem?_cons_zero]; rfl
            go_simp
            go_at_call 25
            refine (HLv.out _ hHeld.2).mono ?_
            rintro e w10 ⟨rfl, hb⟩
            have Bw10 := Ar.bt hHeld.2 hb
            have hSw10 := HS.out _ Bw10
            have Bw10 := Lib.hid Bw10
            clear hHeld hb
            (try go_wp2_with fail)
            refine hK.out _ _ ?_ (fun hHeld => ?_)
            · exact hSw10
            clear hK KK
            (try simp only [Act.put, List.setIfInBounds_toArray, List.set_cons_zero, List.set_cons_succ])
            refine Pe.Left.take (i := 15) (o := ?od15) (v := ?vd15) ?hid15 (by kernel_rfl) (by decide) (by kernel_rfl) (by kernel_rfl) ?hQd15 (Or.inl ⟨?wad15, ?hyd15⟩) hHeld ?restd15
            case hid15 => simp only [List.getElem?_toArray, List.getElem?_cons_succ, List.getElem?_cons_zero]; rfl
            case hQd15 => exact fun _ _ _ h => h
            case wad15 => rfl
            case hyd15 => (intro w hSw; (try dsimp only at hSw); go_simp; (try with_reducible rfl))
            (try simp only [Act.put, List.setIfInBounds_toArray, List.set_cons_zero, List.set_cons_succ])
            refine Pe.Left.take (i := 16) (o := ?od16) (v := ?vd16) ?hid16 (by kernel_rfl) (by decide) (by kernel_rfl) (by kernel_rfl) ?hQd16 (Or.inl ⟨?wad16, ?hyd16⟩) hHeld ?restd16
            case hid16 => simp only [List.getElem?_toArray, List.getElem?_cons_succ, List.getElem?_cons_zero]; rfl
            case hQd16 => exact fun _ _ _ h => h
            case wad16 => rfl
            case hyd16 => (intro w hSw; (try dsimp only at hSw); go_simp; (try with_reducible rfl))
            (try simp only [Act.put, List.setIfInBounds_toArray, List.set_cons_zero, List.set_cons_succ])
            refine Pe.Left.take (i := 17) (o := ?od17) (v := ?vd17) ?hid17 (by kernel_rfl) (by decide) (by kernel_rfl) (by kernel_rfl) ?hQd17 (Or.inl ⟨?wad17, ?hyd17⟩) hHeld ?restd17
            case hid17 => simp only [List.getElem?_toArray, List.getElem?_cons_succ, List.getElem?_cons_zero]; rfl
            case hQd17 => exact fun _ _ _ h => h
            case wad17 => rfl
            case hyd17 => (intro w hSw; (try dsimp only at hSw); go_simp; (try with_reducible rfl))
            (try simp only [Act.put, List.setIfInBounds_toArray, List.set_cons_zero, List.set_cons_succ])
            refine Pe.Left.take (i := 18) (o := ?od18) (v := ?vd18) ?hid18 (by kernel_rfl) (by decide) (by kernel_rfl) (by kernel_rfl) ?hQd18 (Or.inl ⟨?wad18, ?hyd18⟩) hHeld ?restd18
            case hid18 => simp only [List.getElem?_toArray, List.getElem?_cons_succ, List.getElem?_cons_zero]; rfl
            case hQd18 => exact fun _ _ _ h => h
            case wad18 => rfl
            case hyd18 => (intro w hSw; (try dsimp only at hSw); go_simp; (try with_reducible rfl))
            (try simp only [Act.put, List.setIfInBounds_toArray, List.set_cons_zero, List.set_cons_succ])
            refine Pe.Left.take (i := 19) (o := ?od19) (v := ?vd19) ?hid19 (by kernel_rfl) (by decide) (by kernel_rfl) (by kernel_rfl) ?hQd19 (Or.inl ⟨?wad19, ?hyd19⟩) hHeld ?restd19
            case hid19 => simp only [List.getElem?_toArray, List.getElem?_cons_succ, List.getElem?_cons_zero]; rfl
            case hQd19 => exact fun _ _ _ h => h
            case wad19 => rfl
            case hyd19 => (intro w hSw; (try dsimp only at hSw); go_simp; (try with_reducible rfl))
            (try simp only [Act.put, List.setIfInBounds_toArray, List.set_cons_zero, List.set_cons_succ])
            refine Pe.Left.take (i := 20) (o := ?od20) (v := ?vd20) ?hid20 (by kernel_rfl) (by decide) (by kernel_rfl) (by kernel_rfl) ?hQd20 (Or.inl ⟨?wad20, ?hyd20⟩) hHeld ?restd20
            case hid20 => simp only [List.getElem?_toArray, List.getElem?_cons_succ, List.getElem?_cons_zero]; rfl
            case hQd20 => exact fun _ _ _ h => h
            case wad20 => rfl
            case hyd20 => (intro w hSw; (try dsimp only at hSw); go_simp; (try with_reducible rfl))
            (try simp only [Act.put, List.setIfInBounds_toArray, List.set_cons_zero, List.set_cons_succ])
            refine Pe.Left.take (i := 21) (o := ?od21) (v := ?vd21) ?hid21 (by kernel_rfl) (by decide) (by kernel_rfl) (by kernel_rfl) ?hQd21 (Or.inl ⟨?wad21, ?hyd21⟩) hHeld ?restd21
            case hid21 => simp only [List.getElem?_toArray, List.getElem?_cons_succ, List.getElem?_cons_zero]; rfl
            case hQd21 => exact fun _ _ _ h => h
            case wad21 => rfl
            case hyd21 => (intro w hSw; (try dsimp only at hSw); go_simp; (try with_reducible rfl))
            (try simp only [Act.put, List.setIfInBounds_toArray, List.set_cons_zero, List.set_cons_succ])
            refine Pe.Left.take (i := 22) (o := ?od22) (v := ?vd22) ?hid22 (by kernel_rfl) (by decide) (by kernel_rfl) (by kernel_rfl) ?hQd22 (Or.inl ⟨?wad22, ?hyd22⟩) hHeld ?restd22
            case hid22 => simp only [List.getElem?_toArray, List.getElem?_cons_succ, List.getElem?_cons_zero]; rfl
            case hQd22 => exact fun _ _ _ h => h
            case wad22 => rfl
            case hyd22 => (intro w hSw; (try dsimp only at hSw); go_simp; (try with_reducible rfl))
            (try simp only [Act.put, List.setIfInBounds_toArray, List.set_cons_zero, List.set_cons_succ])
            refine Pe.Left.take (i := 23) (o := ?od23) (v := ?vd23) ?hid23 (by kernel_rfl) (by decide) (by kernel_rfl) (by kernel_rfl) ?hQd23 (Or.inl ⟨?wad23, ?hyd23⟩) hHeld ?restd23
            case hid23 => simp only [List.getElem?_toArray, List.getElem?_cons_succ, List.getElem?_cons_zero]; rfl
            case hQd23 => exact fun _ _ _ h => h
            case wad23 => rfl
            case hyd23 => (intro w hSw; (try dsimp only at hSw); go_simp; (try with_reducible rfl))
            (try simp only [Act.put, List.setIfInBounds_toArray, List.set_cons_zero, List.set_cons_succ])
            refine Pe.Left.take (i := 24) (o := ?od24) (v := undef) ?hid24 (by kernel_rfl) (by decide) (by kernel_rfl) (by kernel_rfl) ?hQd24 (Or.inr ⟨?wad24, rfl⟩) hHeld ?restd24
            case hid24 => simp only [List.getElem?_toArray, List.getElem?_cons_succ, List.getElem?_cons_zero]; rfl
            case hQd24 => exact fun _ _ _ h => h
            case wad24 => rfl
            (try simp only [Act.put, List.setIfInBounds_toArray, List.set_cons_zero, List.set_cons_succ])
            refine Pe.Left.take (i := 25) (o := ?od25) (v := undef) ?hid25 (by kernel_rfl) (by decide) (by kernel_rfl) (by kernel_rfl) ?hQd25 (Or.inr ⟨?wad25, rfl⟩) hHeld ?restd25
            case hid25 => simp only [List.getElem?_toArray, List.getElem?_cons_succ, List.getElem?_cons_zero]; rfl
            case hQd25 => exact fun _ _ _ h => h
            case wad25 => rfl
            (try simp only [Act.put, List.setIfInBounds_toArray, List.set_cons_zero, List.set_cons_succ])
            refine Pe.Left.take (i := 26) (o := ?od26) (v := undef) ?hid26 (by kernel_rfl) (by decide) (by kernel_rfl) (by kernel_rfl) ?hQd26 (Or.inr ⟨?wad26, rfl⟩) hHeld ?restd26
            case hid26 => simp only [List.getElem?_toArray, List.getElem?_cons_succ, List.getElem?_cons_zero]; rfl
            case hQd26 => exact fun _ _ _ h => h
            case wad26 => rfl
            (try simp only [Act.put, List.setIfInBounds_toArray, List.set_cons_zero, List.set_cons_succ])
            refine Pe.Left.take (i := 27) (o := ?od27) (v := undef) ?hid27 (by kernel_rfl) (by decide) (by kernel_rfl) (by kernel_rfl) ?hQd27 (Or.inr ⟨?wad27, rfl⟩) hHeld ?restd27
            case hid27 => simp only [List.getElem?_toArray, List.getElem?_cons_succ, List.getElem?_cons_zero]; rfl
            case hQd27 => exact fun _ _ _ h => h
            case wad27 => rfl
            (try simp only [Act.put, List.setIfInBounds_toArray, List.set_cons_zero, List.set_cons_succ])
            refine Pe.Left.take (i := 28) (o := ?od28) (v := undef) ?hid28 (by kernel_rfl) (by decide) (by kernel_rfl) (by kernel_rfl) ?hQd28 (Or.inr ⟨?wad28, rfl⟩) hHeld ?restd28
            case hid28 => simp only [List.getElem?_toArray, List.getElem?_cons_succ, List.getElem?_cons_zero]; rfl
            case hQd28 => exact fun _ _ _ h => h
            case wad28 => rfl
            (try simp only [Act.put, List.setIfInBounds_toArray, List.set_cons_zero, List.set_cons_succ])
            refine Pe.Left.take (i := 29) (o := ?od29) (v := undef) ?hid29 (by kernel_rfl) (by decide) (by kernel_rfl) (by kernel_rfl) ?hQd29 (Or.inr ⟨?wad29, rfl⟩) hHeld ?restd29
            case hid29 => simp only [List.getElem?_toArray, List.getElem?_cons_succ, List.getElem?_cons_zero]; rfl
            case hQd29 => exact fun _ _ _ h => h
            case wad29 => rfl
            (try simp only [Act.put, List.setIfInBounds_toArray, List.set_cons_zero, List.set_cons_succ])
            refine Pe.Left.take (i := 30) (o := ?od30) (v := undef) ?hid30 (by kernel_rfl) (by decide) (by kernel_rfl) (by kernel_rfl) ?hQd30 (Or.inr ⟨?wad30, rfl⟩) hHeld ?restd30
            case hid30 => simp only [List.getElem?_toArray, List.getElem?_cons_succ, List.getElem?_cons_zero]; rfl
            case hQd30 => exact fun _ _ _ h => h
            case wad30 => rfl
            (try simp only [Act.put, List.setIfInBounds_toArray, List.set_cons_zero, List.set_cons_succ])
            refine Pe.Left.take (i := 31) (o := ?od31) (v := undef) ?hid31 (by kernel_rfl) (by decide) (by kernel_rfl) (by kernel_rfl) ?hQd31 (Or.inr ⟨?wad31, rfl⟩) hHeld ?restd31
            case hid31 => simp only [List.getElem?_toArray, List.getElem?_cons_succ, List.getElem?_cons_zero]; rfl
            case hQd31 => exact fun _ _ _ h => h
            case wad31 => rfl
            (try simp only [Act.put, List.setIfInBounds_toArray, List.set_cons_zero, List.set_cons_succ])
            refine Pe.Left.take (i := 32) (o := ?od32) (v := undef) ?hid32 (by kernel_rfl) (by decide) (by kernel_rfl) (by kernel_rfl) ?hQd32 (Or.inr ⟨?wad32, rfl⟩) hHeld ?restd32
            case hid32 => simp only [List.getElem?_toArray, List.getElem?_cons_succ, List.getElem?_cons_zero]; rfl
            case hQd32 => exact fun _ _ _ h => h
            case wad32 => rfl
            (try simp only [Act.put, List.setIfInBounds_toArray, List.set_cons_zero, List.set_cons_succ])
            refine Pe.Left.one (i := 33) (o := ?od33) ?hid33 (by kernel_rfl) (by decide) (fun KK hK => ?restd33)
            case hid33 => simp only [List.getElem?_toArray, List.getElem?_cons_succ, List.getElem?_cons_zero]; rfl
            refine hK.out _ _ ?_ (fun hHeld => ?_)
            · exact hHeld
            clear hK KK
            (try simp only [Act.put, List.setIfInBounds_toArray, List.set_cons_zero, List.set_cons_succ])
            refine Pe.Left.take (i := 34) (o := ?od34) (v := undef) ?hid34 (by kernel_rfl) (by decide) (by kernel_rfl) (by kernel_rfl) ?hQd34 (Or.inr ⟨?wad34, rfl⟩) hHeld ?restd34
            case hid34 => simp only [List.getElem?_toArray, List.getElem?_cons_succ, List.getElem?_cons_zero]; rfl
            case hQd34 => exact fun _ _ _ h => h
            case wad34 => rfl
            (try simp only [Act.put, List.setIfInBounds_toArray, List.set_cons_zero, List.set_cons_succ])
            refine Pe.Left.take (i := 35) (o := ?od35) (v := undef) ?hid35 (by kernel_rfl) (by decide) (by kernel_rfl) (by kernel_rfl) ?hQd35 (Or.inr ⟨?wad35, rfl⟩) hHeld ?restd35
            case hid35 => simp only [List.getElem?_toArray, List.getElem?_cons_succ, List.getElem?_cons_zero]; rfl
            case hQd35 => exact fun _ _ _ h => h
            case wad35 => rfl
            (try simp only [Act.put, List.setIfInBounds_toArray, List.set_cons_zero, List.set_cons_succ])
            refine Pe.Left.take (i := 36) (o := ?od36) (v := undef) ?hid36 (by kernel_rfl) (by decide) (by kernel_rfl) (by kernel_rfl) ?hQd36 (Or.inr ⟨?wad36, rfl⟩) hHeld ?restd36
            case hid36 => simp only [List.getElem?_toArray, List.getElem?_cons_succ, List.getElem?_cons_zero]; rfl
            case hQd36 => exact fun _ _ _ h => h
            case wad36 => rfl
            (try simp only [Act.put, List.setIfInBounds_toArray, List.set_cons_zero, List.set_cons_succ])
            refine Pe.Left.take (i := 37) (o := ?od37) (v := undef) ?hid37 (by kernel_rfl) (by decide) (by kernel_rfl) (by kernel_rfl) ?hQd37 (Or.inr ⟨?wad37, rfl⟩) hHeld ?restd37
            case hid37 => simp only [List.getElem?_toArray, List.getElem?_cons_succ, List.getElem?_cons_zero]; rfl
            case hQd37 => exact fun _ _ _ h => h
            case wad37 => rfl
            (try simp only [Act.put, List.setIfInBounds_toArray, List.set_cons_zero, List.set_cons_succ])
            refine Pe.Left.take (i := 38) (o := ?od38) (v := undef) ?hid38 (by kernel_rfl) (by decide) (by kernel_rfl) (by kernel_rfl) ?hQd38 (Or.inr ⟨?wad38, rfl⟩) hHeld ?restd38
            case hid38 => simp only [List.getElem?_toArray, List.getElem?_cons_succ, List.getElem?_cons_zero]; rfl
            case hQd38 => exact fun _ _ _ h => h
            case wad38 => rfl
            (try simp only [Act.put, List.setIfInBounds_toArray, List.set_cons_zero, List.set_cons_succ])
            refine Pe.Left.take (i := 39) (o := ?od39) (v := undef) ?hid39 (by kernel_rfl) (by decide) (by kernel_rfl) (by kernel_rfl) ?hQd39 (Or.inr ⟨?wad39, rfl⟩) hHeld ?restd39
            case hid39 => simp only [List.getElem?_toArray, List.getElem?_cons_succ, List.getElem?_cons_zero]; rfl
            case hQd39 => exact fun _ _ _ h => h
            case wad39 => rfl
            (try simp only [Act.put, List.setIfInBounds_toArray, List.set_cons_zero, List.set_cons_succ])
            refine Pe.Left.take (i := 40) (o := ?od40) (v := undef) ?hid40 (by kernel_rfl) (by decide) (by kernel_rfl) (by kernel_rfl) ?hQd40 (Or.inr ⟨?wad40, rfl⟩) hHeld ?restd40
            case hid40 => simp only [List.getElem?_toArray, List.getElem?_cons_succ, List.getElem?_cons_zero]; rfl
            case hQd40 => exact fun _ _ _ h => h
            case wad40 => rfl
            (try simp only [Act.put, List.setIfInBounds_toArray, List.set_cons_zero, List.set_cons_succ])
            refine Pe.Left.take (i := 41) (o := ?od41) (v := undef) ?hid41 (by kernel_rfl) (by decide) (by kernel_rfl) (by kernel_rfl) ?hQd41 (Or.inr ⟨?wad41, rfl⟩) hHeld ?restd41
            case hid41 => simp only [List.getElem?_toArray, List.getElem?_cons_succ, List.getElem?_cons_zero]; rfl
            case hQd41 => exact fun _ _ _ h => h
            case wad41 => rfl
            (try simp only [Act.put, List.setIfInBounds_toArray, List.set_cons_zero, List.set_cons_succ])
            refine Pe.Left.take (i := 42) (o := ?od42) (v := undef) ?hid42 (by kernel_rfl) (by decide) (by kernel_rfl) (by kernel_rfl) ?hQd42 (Or.inr ⟨?wad42, rfl⟩) hHeld ?restd42
            case hid42 => simp only [List.getElem?_toArray, List.getElem?_cons_succ, List.getElem?_cons_zero]; rfl
            case hQd42 => exact fun _ _ _ h => h
            case wad42 => rfl
            (try simp only [Act.put, List.setIfInBounds_toArray, List.set_cons_zero, List.set_cons_succ])
            refine Pe.Left.one (i := 43) (o := ?od43) ?hid43 (by kernel_rfl) (by decide) (fun KK hK => ?restd43)
            case hid43 => simp only [List.getElem?_toArray, List.getElem?_cons_succ, List.getElem?_cons_zero]; rfl
            refine hK.out _ _ ?_ (fun hHeld => ?_)
            · exact hHeld
            clear hK KK
            (try simp only [Act.put, List.setIfInBounds_toArray, List.set_cons_zero, List.set_cons_succ])
            refine Pe.Left.take (i := 44) (o := ?od44) (v := undef) ?hid44 (by kernel_rfl) (by decide) (by kernel_rfl) (by kernel_rfl) ?hQd44 (Or.inr ⟨?wad44, rfl⟩) hHeld ?restd44
            case hid44 => simp only [List.getElem?_toArray, List.getElem?_cons_succ, List.getElem?_cons_zero]; rfl
            case hQd44 => exact fun _ _ _ h => h
            case wad44 => rfl
            (try simp only [Act.put, List.setIfInBounds_toArray, List.set_cons_zero, List.set_cons_succ])
            refine Pe.Left.take (i := 45) (o := ?od45) (v := undef) ?hid45 (by kernel_rfl) (by decide) (by kernel_rfl) (by kernel_rfl) ?hQd45 (Or.inr ⟨?wad45, rfl⟩) hHeld ?restd45
            case hid45 => simp only [List.getElem?_toArray, List.getElem?_cons_succ, List.getElem?_cons_zero]; rfl
            case hQd45 => exact fun _ _ _ h => h
            case wad45 => rfl
            (try simp only [Act.put, List.setIfInBounds_toArray, List.set_cons_zero, List.set_cons_succ])
            refine Pe.Left.take (i := 46) (o := ?od46) (v := ?vd46) ?hid46 (by kernel_rfl) (by decide) (by kernel_rfl) (by kernel_rfl) ?hQd46 (Or.inl ⟨?wad46, ?hyd46⟩) hHeld ?restd46
            case hid46 => simp only [List.getElem?_toArray, List.getElem?_cons_succ, List.getElem?_cons_zero]; rfl
            case hQd46 => exact fun _ _ _ h => h
            case wad46 => rfl
            case hyd46 => (intro w hSw; (try dsimp only at hSw); go_simp; (try with_reducible rfl))
            (try simp only [Act.put, List.setIfInBounds_toArray, List.set_cons_zero, List.set_cons_succ])
            refine Pe.Left.last (o := ?odZ) ?hidZ (by kernel_rfl) (by kernel_rfl) (fun KK hK => ?restdZ)
            case hidZ => simp only [List.getElem?_toArray, List.getElem?_cons_succ, List.getElem?_cons_zero]; rfl
            go_simp
            refine hK.out _ _ ?_
            clear hK KK hHeld
            have M3 : Hid (Ar.Kr O w p (Ar.stt a6 (st' + 1)) (.slice (some ⟨ab, 0, none⟩) all'.length vc') (.slice (some ⟨ub, 0, none⟩) ds1.length uc') all' (Ar.mid ds1 ds' (k + 1)) w10) := Ar.Kr.on X KR2.out Bw10.out
            clear KR2 Bw10 hSw10 HS HLv
            go_wp2
            go_roundw
            case rel => exact ⟨k + 1, st' + 1, by omega, by rfl, by omega, M3.out⟩
            case measure => simp [intOf]; omega
          | false =>
            obtain ⟨rfl, rfl, rfl, hno⟩ := HY.out.2 rfl
            have HS : Hid (∀ Z, Below W2.heap.size W2 Z → (Z.cell? ⟨ub, k, none⟩ = some (.bool false) ∧ Z.cell? ⟨ab, k * 4, none⟩ = some (.int .u64 (it.h : Int)) ∧ Z.cell? ⟨ab, k * 4 + 1, none⟩ = some (.int .i64 it.x.h) ∧ Z.cell? ⟨ab, k * 4 + 2, none⟩ = some (.string it.x.t) ∧ Z.cell? ⟨ab, k * 4 + 3, none⟩ = some (.slice it.x.s.a it.x.s.x.length it.x.s.c) ∧ Z.cell? ⟨w8.heap.size, 0, none⟩ = some (.int .i64 it.x.nd.h) ∧ Z.cell? ⟨w8.heap.size, 1, none⟩ = some (.string t8) ∧ Z.cell? ⟨w8.heap.size, 2, none⟩ = some (.slice yo it.x.nd.ks.length yc)) ∧ Below W2.heap.size W2 Z) := fun Z hb => by
              have h8 := (Array.getElem?_eq_some_iff.1 Y2.out).1
              have y8 := (hb.block _ h8).trans Y2.out
              obtain ⟨u1, u2, u3, u4, u5⟩ := CU.out Z hb
              exact ⟨⟨u1, u2, u3, u4, u5, Lib.cell_of_heap y8 0, Lib.cell_of_heap y8 1, Lib.cell_of_heap y8 2⟩, hb⟩
            have HL2 : Hid (∀ Z, Below W2.heap.size W2 Z → Calls Try.prog 25 #[.pointer (some ⟨p, 0, none⟩), .int .u64 (it.h : Int)] Z fun e W' => e = .returned (.bool true) ∧ Below Z.heap.size Z W') := fun Z hb => by
              have := HLv.out Z _ (Ar.Kr.on X KR2.out hb)
              rw [show (Ar.stt a6 st').has it.h = true from hno] at this
              exact this
            have HEq : Hid (∀ Z, Below W2.heap.size W2 Z → Calls Try.prog 18 #[.agg #[.int .i64 it.x.nd.h, .string t8, .slice yo it.x.nd.ks.length yc], .agg #[.int .i64 it.x.h, .string it.x.t, .slice it.x.s.a it.x.s.x.length it.x.s.c]] Z fun e W' => e = .returned (.bool true) ∧ Below Z.heap.size Z W') := fun Z hb => by
              have hn := hN2.out.on hb
              have hx := ((Ar.Kr.on X KR2.out hb).st.hands it (List.mem_of_getElem? hit)).1
              have := equalNode_any it.x.nd.h it.x.h t8 it.x.t yo it.x.s.a yc it.x.s.c it.x.nd.ks it.x.s.x Z hn.s.row hx.s.row (by have h := hn.s.fit; dsimp only at h; unfold maxLen; omega)
              rw [show N.nd it.x.nd.h t8 it.x.nd.ks = N.nd it.x.h it.x.t it.x.s.x by unfold N.nd; rw [ht8.out]; rfl, decide_eq_true rfl] at this
              exact this
            have HLv := HL2
            clear HL2 CU HY hno KD HN hmd hmid hit hN2 Y2 ht8
            refine Pe.start (z := 47) (S := (fun Z => (Z.cell? ⟨ub, k, none⟩ = some (.bool false) ∧ Z.cell? ⟨ab, k * 4, none⟩ = some (.int .u64 (it.h : Int)) ∧ Z.cell? ⟨ab, k * 4 + 1, none⟩ = some (.int .i64 it.x.h) ∧ Z.cell? ⟨ab, k * 4 + 2, none⟩ = some (.string it.x.t) ∧ Z.cell? ⟨ab, k * 4 + 3, none⟩ = some (.slice it.x.s.a it.x.s.x.length it.x.s.c) ∧ Z.cell? ⟨w8.heap.size, 0, none⟩ = some (.int .i64 it.x.nd.h) ∧ Z.cell? ⟨w8.heap.size, 1, none⟩ = some (.string t8) ∧ Z.cell? ⟨w8.heap.size, 2, none⟩ = some (.slice yo it.x.nd.ks.length yc)) ∧ Below W2.heap.size W2 Z)) (by kernel_rfl) (by kernel_rfl) W2 hW2 (HS.out _ (Below.refl _ _)) (fun hHeld => ?_)
            clear hW2
            refine Pe.Left.take (i := 0) (o := ?ol0) (v := ?vl0) ?hil0 (by kernel_rfl) (by decide) (by kernel_rfl) (by kernel_rfl) ?hQl0 (Or.inl ⟨?wal0, ?hyl0⟩) hHeld ?restl0
            case hil0 => simp only [List.getElem?_toArray, List.getElem?_cons_zero]; rfl
            case hQl0 => exact fun _ _ _ h => h
            case wal0 => rfl
            case hyl0 => (intro w hSw; (try dsimp only at hSw); go_simp; (try with_reducible rfl))
            (try simp only [Act.put, List.setIfInBounds_toArray, List.set_cons_zero, List.set_cons_succ])
            refine Pe.Left.take (i := 1) (o := ?ol1) (v := ?vl1) ?hil1 (by kernel_rfl) (by decide) (by kernel_rfl) (by kernel_rfl) ?hQl1 (Or.inl ⟨?wal1, ?hyl1⟩) hHeld ?restl1
            case hil1 => simp only [List.getElem?_toArray, List.getElem?_cons_succ, List.getElem?_cons_zero]; rfl
            case hQl1 => exact fun _ _ _ h => h
            case wal1 => rfl
            case hyl1 => (intro w hSw; (try dsimp only at hSw); go_simp; (try with_reducible rfl))
            (try simp only [Act.put, List.setIfInBounds_toArray, List.set_cons_zero, List.set_cons_succ])
            refine Pe.Left.take (i := 2) (o := ?ol2) (v := ?vl2) ?hil2 (by kernel_rfl) (by decide) (by kernel_rfl) (by kernel_rfl) ?hQl2 (Or.inl ⟨?wal2, ?hyl2⟩) hHeld ?restl2
            case hil2 => simp only [List.getElem?_toArray, List.getElem?_cons_succ, List.getElem?_cons_zero]; rfl
            case hQl2 => exact fun _ _ _ h => h
            case wal2 => rfl
            case hyl2 => (intro w hSw; (try dsimp only at hSw); go_simp; (try with_reducible rfl))
            (try simp only [Act.put, List.setIfInBounds_toArray, List.set_cons_zero, List.set_cons_succ])
            refine Pe.Left.take (i := 3) (o := ?ol3) (v := ?vl3) ?hil3 (by kernel_rfl) (by decide) (by kernel_rfl) (by kernel_rfl) ?hQl3 (Or.inl ⟨?wal3, ?hyl3⟩) hHeld ?restl3
            case hil3 => simp only [List.getElem?_toArray, List.getElem?_cons_succ, List.getElem?_cons_zero]; rfl
            case hQl3 => exact fun _ _ _ h => h
            case wal3 => rfl
            case hyl3 => (intro w hSw; (try dsimp only at hSw); go_simp; (try with_reducible rfl))
            (try simp only [Act.put, List.setIfInBounds_toArray, List.set_cons_zero, List.set_cons_succ])
            refine Pe.Left.take (i := 4) (o := ?ol4) (v := ?vl4) ?hil4 (by kernel_rfl) (by decide) (by kernel_rfl) (by kernel_rfl) ?hQl4 (Or.inl ⟨?wal4, ?hyl4⟩) hHeld ?restl4
            case hil4 => simp only [List.getElem?_toArray, List.getElem?_cons_succ, List.getElem?_cons_zero]; rfl
            case hQl4 => exact fun _ _ _ h => h
            case wal4 => rfl
            case hyl4 => (intro w hSw; (try dsimp only at hSw); go_simp; (try with_reducible rfl))
            (try simp only [Act.put, List.setIfInBounds_toArray, List.set_cons_zero, List.set_cons_succ])
            refine Pe.Left.take (i := 5) (o := ?ol5) (v := undef) ?hil5 (by kernel_rfl) (by decide) (by kernel_rfl) (by kernel_rfl) ?hQl5 (Or.inr ⟨?wal5, rfl⟩) hHeld ?restl5
            case hil5 => simp only [List.getElem?_toArray, List.getElem?_cons_succ, List.getElem?_cons_zero]; rfl
            case hQl5 => exact fun _ _ _ h => h
            case wal5 => rfl
            (try simp only [Act.put, List.setIfInBounds_toArray, List.set_cons_zero, List.set_cons_succ])
            refine Pe.Left.take (i := 6) (o := ?ol6) (v := undef) ?hil6 (by kernel_rfl) (by decide) (by kernel_rfl) (by kernel_rfl) ?hQl6 (Or.inr ⟨?wal6, rfl⟩) hHeld ?restl6
            case hil6 => simp only [List.getElem?_toArray, List.getElem?_cons_succ, List.getElem?_cons_zero]; rfl
            case hQl6 => exact fun _ _ _ h => h
            case wal6 => rfl
            (try simp only [Act.put, List.setIfInBounds_toArray, List.set_cons_zero, List.set_cons_succ])
            refine Pe.Left.take (i := 7) (o := ?ol7) (v := undef) ?hil7 (by kernel_rfl) (by decide) (by kernel_rfl) (by kernel_rfl) ?hQl7 (Or.inr ⟨?wal7, rfl⟩) hHeld ?restl7
            case hil7 => simp only [List.getElem?_toArray, List.getElem?_cons_succ, List.getElem?_cons_zero]; rfl
            case hQl7 => exact fun _ _ _ h => h
            case wal7 => rfl
            (try simp only [Act.put, List.setIfInBounds_toArray, List.set_cons_zero, List.set_cons_succ])
            refine Pe.Left.take (i := 8) (o := ?ol8) (v := undef) ?hil8 (by kernel_rfl) (by decide) (by kernel_rfl) (by kernel_rfl) ?hQl8 (Or.inr ⟨?wal8, rfl⟩) hHeld ?restl8
            case hil8 => simp only [List.getElem?_toArray, List.getElem?_cons_succ, List.getElem?_cons_zero]; rfl
            case hQl8 => exact fun _ _ _ h => h
            case wal8 => rfl
            (try simp only [Act.put, List.setIfInBounds_toArray, List.set_cons_zero, List.set_cons_succ])
            refine Pe.Left.take (i := 9) (o := ?ol9) (v := undef) ?hil9 (by kernel_rfl) (by decide) (by kernel_rfl) (by kernel_rfl) ?hQl9 (Or.inr ⟨?wal9, rfl⟩) hHeld ?restl9
            case hil9 => simp only [List.getElem?_toArray, List.getElem?_cons_succ, List.getElem?_cons_zero]; rfl
            case hQl9 => exact fun _ _ _ h => h
            case wal9 => rfl
            (try simp only [Act.put, List.setIfInBounds_toArray, List.set_cons_zero, List.set_cons_succ])
            refine Pe.Left.take (i := 10) (o := ?ol10) (v := undef) ?hil10 (by kernel_rfl) (by decide) (by kernel_rfl) (by kernel_rfl) ?hQl10 (Or.inr ⟨?wal10, rfl⟩) hHeld ?restl10
            case hil10 => simp only [List.getElem?_toArray, List.getElem?_cons_succ, List.getElem?_cons_zero]; rfl
            case hQl10 => exact fun _ _ _ h => h
            case wal10 => rfl
            (try simp only [Act.put, List.setIfInBounds_toArray, List.set_cons_zero, List.set_cons_succ])
            refine Pe.Left.take (i := 11) (o := ?ol11) (v := undef) ?hil11 (by kernel_rfl) (by decide) (by kernel_rfl) (by kernel_rfl) ?hQl11 (Or.inr ⟨?wal11, rfl⟩) hHeld ?restl11
            case hil11 => simp only [List.getElem?_toArray, List.getElem?_cons_succ, List.getElem?_cons_zero]; rfl
            case hQl11 => exact fun _ _ _ h => h
            case wal11 => rfl
            (try simp only [Act.put, List.setIfInBounds_toArray, List.set_cons_zero, List.set_cons_succ])
            refine Pe.Left.take (i := 12) (o := ?ol12) (v := undef) ?hil12 (by kernel_rfl) (by decide) (by kernel_rfl) (by kernel_rfl) ?hQl12 (Or.inr ⟨?wal12, rfl⟩) hHeld ?restl12
            case hil12 => simp only [List.getElem?_toArray, List.getElem?_cons_succ, List.getElem?_cons_zero]; rfl
            case hQl12 => exact fun _ _ _ h => h
            case wal12 => rfl
            (try simp only [Act.put, List.setIfInBounds_toArray, List.set_cons_zero, List.set_cons_succ])
            refine Pe.Left.take (i := 13) (o := ?ol13) (v := undef) ?hil13 (by kernel_rfl) (by decide) (by kernel_rfl) (by kernel_rfl) ?hQl13 (Or.inr ⟨?wal13, rfl⟩) hHeld ?restl13
            case hil13 => simp only [List.getElem?_toArray, List.getElem?_cons_succ, List.getElem?_cons_zero]; rfl
            case hQl13 => exact fun _ _ _ h => h
            case wal13 => rfl
            (try simp only [Act.put, List.setIfInBounds_toArray, List.set_cons_zero, List.set_cons_succ])
            refine Pe.Left.one (i := 14) (o := ?ol14) ?hil14 (by kernel_rfl) (by decide) (fun KK hK => ?restl14)
            case hil14 => simp only [List.getElem?_toArray, List.getElem?_cons_succ, List.getElem?_cons_zero]; rfl
            refine hK.out _ _ ?_ (fun hHeld => ?_)
            · exact hHeld
            clear hK KK
            (try simp only [Act.put, List.setIfInBounds_toArray, List.set_cons_zero, List.set_cons_succ])
            refine Pe.Left.take (i := 15) (o := ?ol15) (v := undef) ?hil15 (by kernel_rfl) (by decide) (by kernel_rfl) (by kernel_rfl) ?hQl15 (Or.inr ⟨?wal15, rfl⟩) hHeld ?restl15
            case hil15 => simp only [List.getElem?_toArray, List.getElem?_cons_succ, List.getElem?_cons_zero]; rfl
            case hQl15 => exact fun _ _ _ h => h
            case wal15 => rfl
            (try simp only [Act.put, List.setIfInBounds_toArray, List.set_cons_zero, List.set_cons_succ])
            refine Pe.Left.take (i := 16) (o := ?ol16) (v := ?vl16) ?hil16 (by kernel_rfl) (by decide) (by kernel_rfl) (by kernel_rfl) ?hQl16 (Or.inl ⟨?wal16, ?hyl16⟩) hHeld ?restl16
            case hil16 => simp only [List.getElem?_toArray, List.getElem?_cons_succ, List.getElem?_cons_zero]; rfl
            case hQl16 => exact fun _ _ _ h => h
            case wal16 => rfl
            case hyl16 => (intro w hSw; (try dsimp only at hSw); go_simp; (try with_reducible rfl))
            (try simp only [Act.put, List.setIfInBounds_toArray, List.set_cons_zero, List.set_cons_succ])
            refine Pe.Left.take (i := 17) (o := ?ol17) (v := ?vl17) ?hil17 (by kernel_rfl) (by decide) (by kernel_rfl) (by kernel_rfl) ?hQl17 (Or.inl ⟨?wal17, ?hyl17⟩) hHeld ?restl17
            case hil17 => simp only [List.getElem?_toArray, List.getElem?_cons_succ, List.getElem?_cons_zero]; rfl
            case hQl17 => exact fun _ _ _ h => h
            case wal17 => rfl
            case hyl17 => (intro w hSw; (try dsimp only at hSw); go_simp; (try with_reducible rfl))
            (try simp only [Act.put, List.setIfInBounds_toArray, List.set_cons_zero, List.set_cons_succ])
            refine Pe.Left.take (i := 18) (o := ?ol18) (v := ?vl18) ?hil18 (by kernel_rfl) (by decide) (by kernel_rfl) (by kernel_rfl) ?hQl18 (Or.inl ⟨?wal18, ?hyl18⟩) hHeld ?restl18
            case hil18 => simp only [List.getElem?_toArray, List.getElem?_cons_succ, List.getElem?_cons_zero]; rfl
            case hQl18 => exact fun _ _ _ h => h
            case wal18 => rfl
            case hyl18 => (intro w hSw; (try dsimp only at hSw); go_simp; (try with_reducible rfl))
            (try simp only [Act.put, List.setIfInBounds_toArray, List.set_cons_zero, List.set_cons_succ])
            refine Pe.Left.take (i := 19) (o := ?ol19) (v := ?vl19) ?hil19 (by kernel_rfl) (by decide) (by kernel_rfl) (by kernel_rfl) ?hQl19 (Or.inl ⟨?wal19, ?hyl19⟩) hHeld ?restl19
            case hil19 => simp only [List.getElem?_toArray, List.getElem?_cons_succ, List.getElem?_cons_zero]; rfl
            case hQl19 => exact fun _ _ _ h => h
            case wal19 => rfl
            case hyl19 => (intro w hSw; (try dsimp only at hSw); go_simp; (try with_reducible rfl))
            (try simp only [Act.put, List.setIfInBounds_toArray, List.set_cons_zero, List.set_cons_succ])
            refine Pe.Left.take (i := 20) (o := ?ol20) (v := ?vl20) ?hil20 (by kernel_rfl) (by decide) (by kernel_rfl) (by kernel_rfl) ?hQl20 (Or.inl ⟨?wal20, ?hyl20⟩) hHeld ?restl20
            case hil20 => simp only [List.getElem?_toArray, List.getElem?_cons_succ, List.getElem?_cons_zero]; rfl
            case hQl20 => exact fun _ _ _ h => h
            case wal20 => rfl
            case hyl20 => (intro w hSw; (try dsimp only at hSw); go_simp; (try with_reducible rfl))
            (try simp only [Act.put, List.setIfInBounds_toArray, List.set_cons_zero, List.set_cons_succ])
            refine Pe.Left.take (i := 21) (o := ?ol21) (v := ?vl21) ?hil21 (by kernel_rfl) (by decide) (by kernel_rfl) (by kernel_rfl) ?hQl21 (Or.inl ⟨?wal21, ?hyl21⟩) hHeld ?restl21
            case hil21 => simp only [List.getElem?_toArray, List.getElem?_cons_succ, List.getElem?_cons_zero]; rfl
            case hQl21 => exact fun _ _ _ h => h
            case wal21 => rfl
            case hyl21 => (intro w hSw; (try dsimp only at hSw); go_simp; (try with_reducible rfl))
            (try simp only [Act.put, List.setIfInBounds_toArray, List.set_cons_zero, List.set_cons_succ])
            refine Pe.Left.take (i := 22) (o := ?ol22) (v := ?vl22) ?hil22 (by kernel_rfl) (by decide) (by kernel_rfl) (by kernel_rfl) ?hQl22 (Or.inl ⟨?wal22, ?hyl22⟩) hHeld ?restl22
            case hil22 => simp only [List.getElem?_toArray, List.getElem?_cons_succ, List.getElem?_cons_zero]; rfl
            case hQl22 => exact fun _ _ _ h => h
            case wal22 => rfl
            case hyl22 => (intro w hSw; (try dsimp only at hSw); go_simp; (try with_reducible rfl))
            (try simp only [Act.put, List.setIfInBounds_toArray, List.set_cons_zero, List.set_cons_succ])
            refine Pe.Left.take (i := 23) (o := ?ol23) (v := ?vl23) ?hil23 (by kernel_rfl) (by decide) (by kernel_rfl) (by kernel_rfl) ?hQl23 (Or.inl ⟨?wal23, ?hyl23⟩) hHeld ?restl23
            case hil23 => simp only [List.getElem?_toArray, List.getElem?_cons_succ, List.getElem?_cons_zero]; rfl
            case hQl23 => exact fun _ _ _ h => h
            case wal23 => rfl
            case hyl23 => (intro w hSw; (try dsimp only at hSw); go_simp; (try with_reducible rfl))
            (try simp only [Act.put, List.setIfInBounds_toArray, List.set_cons_zero, List.set_cons_succ])
            refine Pe.Left.take (i := 24) (o := ?ol24) (v := ?vl24) ?hil24 (by kernel_rfl) (by decide) (by kernel_rfl) (by kernel_rfl) ?hQl24 (Or.inl ⟨?wal24, ?hyl24⟩) hHeld ?restl24
            case hil24 => simp only [List.getElem?_toArray, List.getElem?_cons_succ, List.getElem?_cons_zero]; rfl
            case hQl24 => exact fun _ _ _ h => h
            case wal24 => rfl
            case hyl24 => (intro w hSw; (try dsimp only at hSw); go_simp; (try with_reducible rfl))
            (try simp only [Act.put, List.setIfInBounds_toArray, List.set_cons_zero, List.set_cons_succ])
            refine Pe.Left.take (i := 25) (o := ?ol25) (v := ?vl25) ?hil25 (by kernel_rfl) (by decide) (by kernel_rfl) (by kernel_rfl) ?hQl25 (Or.inl ⟨?wal25, ?hyl25⟩) hHeld ?restl25
            case hil25 => simp only [List.getElem?_toArray, List.getElem?_cons_succ, List.getElem?_cons_zero]; rfl
            case hQl25 => exact fun _ _ _ h => h
            case wal25 => rfl
            case hyl25 => (intro w hSw; (try dsimp only at hSw); go_simp; (try with_reducible rfl))
            (try simp only [Act.put, List.setIfInBounds_toArray, List.set_cons_zero, List.set_cons_succ])
            refine Pe.Left.take (i := 26) (o := ?ol26) (v := ?vl26) ?hil26 (by kernel_rfl) (by decide) (by kernel_rfl) (by kernel_rfl) ?hQl26 (Or.inl ⟨?wal26, ?hyl26⟩) hHeld ?restl26
            case hil26 => simp only [List.getElem?_toArray, List.getElem?_cons_succ, List.getElem?_cons_zero]; rfl
            case hQl26 => exact fun _ _ _ h => h
            case wal26 => rfl
            case hyl26 => (intro w hSw; (try dsimp only at hSw); go_simp; (try with_reducible rfl))
            (try simp only [Act.put, List.setIfInBounds_toArray, List.set_cons_zero, List.set_cons_succ])
            refine Pe.Left.take (i := 27) (o := ?ol27) (v := ?vl27) ?hil27 (by kernel_rfl) (by decide) (by kernel_rfl) (by kernel_rfl) ?hQl27 (Or.inl ⟨?wal27, ?hyl27⟩) hHeld ?restl27
            case hil27 => simp only [List.getElem?_toArray, List.getElem?_cons_succ, List.getElem?_cons_zero]; rfl
            case hQl27 => exact fun _ _ _ h => h
            case wal27 => rfl
            case hyl27 => (intro w hSw; (try dsimp only at hSw); go_simp; (try with_reducible rfl))
            (try simp only [Act.put, List.setIfInBounds_toArray, List.set_cons_zero, List.set_cons_succ])
            refine Pe.Left.take (i := 28) (o := ?ol28) (v := ?vl28) ?hil28 (by kernel_rfl) (by decide) (by kernel_rfl) (by kernel_rfl) ?hQl28 (Or.inl ⟨?wal28, ?hyl28⟩) hHeld ?restl28
            case hil28 => simp only [List.getElem?_toArray, List.getElem?_cons_succ, List.getElem?_cons_zero]; rfl
            case hQl28 => exact fun _ _ _ h => h
            case wal28 => rfl
            case hyl28 => (intro w hSw; (try dsimp only at hSw); go_simp; (try with_reducible rfl))
            (try simp only [Act.put, List.setIfInBounds_toArray, List.set_cons_zero, List.set_cons_succ])
            refine Pe.Left.take (i := 29) (o := ?ol29) (v := ?vl29) ?hil29 (by kernel_rfl) (by decide) (by kernel_rfl) (by kernel_rfl) ?hQl29 (Or.inl ⟨?wal29, ?hyl29⟩) hHeld ?restl29
            case hil29 => simp only [List.getElem?_toArray, List.getElem?_cons_succ, List.getElem?_cons_zero]; rfl
            case hQl29 => exact fun _ _ _ h => h
            case wal29 => rfl
            case hyl29 => (intro w hSw; (try dsimp only at hSw); go_simp; (try with_reducible rfl))
            (try simp only [Act.put, List.setIfInBounds_toArray, List.set_cons_zero, List.set_cons_succ])
            refine Pe.Left.take (i := 30) (o := ?ol30) (v := ?vl30) ?hil30 (by kernel_rfl) (by decide) (by kernel_rfl) (by kernel_rfl) ?hQl30 (Or.inl ⟨?wal30, ?hyl30⟩) hHeld ?restl30
            case hil30 => simp only [List.getElem?_toArray, List.getElem?_cons_succ, List.getElem?_cons_zero]; rfl
            case hQl30 => exact fun _ _ _ h => h
            case wal30 => rfl
            case hyl30 => (intro w hSw; (try dsimp only at hSw); go_simp; (try with_reducible rfl))
            (try simp only [Act.put, List.setIfInBounds_toArray, List.set_cons_zero, List.set_cons_succ])
            refine Pe.Left.take (i := 31) (o := ?ol31) (v := ?vl31) ?hil31 (by kernel_rfl) (by decide) (by kernel_rfl) (by kernel_rfl) ?hQl31 (Or.inl ⟨?wal31, ?hyl31⟩) hHeld ?restl31
            case hil31 => simp only [List.getElem?_toArray, List.getElem?_cons_succ, List.getElem?_cons_zero]; rfl
            case hQl31 => exact fun _ _ _ h => h
            case wal31 => rfl
            case hyl31 => (intro w hSw; (try dsimp only at hSw); go_simp; (try with_reducible rfl))
            (try simp only [Act.put, List.setIfInBounds_toArray, List.set_cons_zero, List.set_cons_succ])
            refine Pe.Left.take (i := 32) (o := ?ol32) (v := ?vl32) ?hil32 (by kernel_rfl) (by decide) (by kernel_rfl) (by kernel_rfl) ?hQl32 (Or.inl ⟨?wal32, ?hyl32⟩) hHeld ?restl32
            case hil32 => simp only [List.getElem?_toArray, List.getElem?_cons_succ, List.getElem?_cons_zero]; rfl
            case hQl32 => exact fun _ _ _ h => h
            case wal32 => rfl
            case hyl32 => (intro w hSw; (try dsimp only at hSw); go_simp; (try with_reducible rfl))
            (try simp only [Act.put, List.setIfInBounds_toArray, List.set_cons_zero, List.set_cons_succ])
            refine Pe.Left.one (i := 33) (o := ?ol33) ?hil33 (by kernel_rfl) (by decide) (fun KK hK => ?restl33)
            case hil33 => simp only [List.getElem?_toArray, List.getElem?_cons_succ, List.getElem?_cons_zero]; rfl
            go_simp
            go_at_call 18
            refine (HEq.out _ hHeld.2).mono ?_
            rintro e w9 ⟨rfl, hb⟩
            have Bw9 := Ar.bt hHeld.2 hb
            have hSw9 := HS.out _ Bw9
            have Bw9 := Lib.hid Bw9
            clear hHeld hb
            (try go_wp2_with fail)
            refine hK.out _ _ ?_ (fun hHeld => ?_)
            · exact hSw9
            clear hK KK
            (try simp only [Act.put, List.setIfInBounds_toArray, List.set_cons_zero, List.set_cons_succ])
            refine Pe.Left.take (i := 34) (o := ?ol34) (v := ?vl34) ?hil34 (by kernel_rfl) (by decide) (by kernel_rfl) (by kernel_rfl) ?hQl34 (Or.inl ⟨?wal34, ?hyl34⟩) hHeld ?restl34
            case hil34 => simp only [List.getElem?_toArray, List.getElem?_cons_succ, List.getElem?_cons_zero]; rfl
            case hQl34 => exact fun _ _ _ h => h
            case wal34 => rfl
            case hyl34 => (intro w hSw; (try dsimp only at hSw); go_simp; (try with_reducible rfl))
            (try simp only [Act.put, List.setIfInBounds_toArray, List.set_cons_zero, List.set_cons_succ])
            refine Pe.Left.take (i := 35) (o := ?ol35) (v := ?vl35) ?hil35 (by kernel_rfl) (by decide) (by kernel_rfl) (by kernel_rfl) ?hQl35 (Or.inl ⟨?wal35, ?hyl35⟩) hHeld ?restl35
            case hil35 => simp only [List.getElem?_toArray, List.getElem?_cons_succ, List.getElem?_cons_zero]; rfl
            case hQl35 => exact fun _ _ _ h => h
            case wal35 => rfl
            case hyl35 => (intro w hSw; (try dsimp only at hSw); go_simp; (try with_reducible rfl))
            (try simp only [Act.put, List.setIfInBounds_toArray, List.set_cons_zero, List.set_cons_succ])
            refine Pe.Left.take (i := 36) (o := ?ol36) (v := ?vl36) ?hil36 (by kernel_rfl) (by decide) (by kernel_rfl) (by kernel_rfl) ?hQl36 (Or.inl ⟨?wal36, ?hyl36⟩) hHeld ?restl36
            case hil36 => simp only [List.getElem?_toArray, List.getElem?_cons_succ, List.getElem?_cons_zero]; rfl
            case hQl36 => exact fun _ _ _ h => h
            case wal36 => rfl
            case hyl36 => (intro w hSw; (try dsimp only at hSw); go_simp; (try with_reducible rfl))
            (try simp only [Act.put, List.setIfInBounds_toArray, List.set_cons_zero, List.set_cons_succ])
            refine Pe.Left.take (i := 37) (o := ?ol37) (v := ?vl37) ?hil37 (by kernel_rfl) (by decide) (by kernel_rfl) (by kernel_rfl) ?hQl37 (Or.inl ⟨?wal37, ?hyl37⟩) hHeld ?restl37
            case hil37 => simp only [List.getElem?_toArray, List.getElem?_cons_succ, List.getElem?_cons_zero]; rfl
            case hQl37 => exact fun _ _ _ h => h
            case wal37 => rfl
            case hyl37 => (intro w hSw; (try dsimp only at hSw); go_simp; (try with_reducible rfl))
            (try simp only [Act.put, List.setIfInBounds_toArray, List.set_cons_zero, List.set_cons_succ])
            refine Pe.Left.take (i := 38) (o := ?ol38) (v := ?vl38) ?hil38 (by kernel_rfl) (by decide) (by kernel_rfl) (by kernel_rfl) ?hQl38 (Or.inl ⟨?wal38, ?hyl38⟩) hHeld ?restl38
            case hil38 => simp only [List.getElem?_toArray, List.getElem?_cons_succ, List.getElem?_cons_zero]; rfl
            case hQl38 => exact fun _ _ _ h => h
            case wal38 => rfl
            case hyl38 => (intro w hSw; (try dsimp only at hSw); go_simp; (try with_reducible rfl))
            (try simp only [Act.put, List.setIfInBounds_toArray, List.set_cons_zero, List.set_cons_succ])
            refine Pe.Left.take (i := 39) (o := ?ol39) (v := ?vl39) ?hil39 (by kernel_rfl) (by decide) (by kernel_rfl) (by kernel_rfl) ?hQl39 (Or.inl ⟨?wal39, ?hyl39⟩) hHeld ?restl39
            case hil39 => simp only [List.getElem?_toArray, List.getElem?_cons_succ, List.getElem?_cons_zero]; rfl
            case hQl39 => exact fun _ _ _ h => h
            case wal39 => rfl
            case hyl39 => (intro w hSw; (try dsimp only at hSw); go_simp; (try with_reducible rfl))
            (try simp only [Act.put, List.setIfInBounds_toArray, List.set_cons_zero, List.set_cons_succ])
            refine Pe.Left.take (i := 40) (o := ?ol40) (v := ?vl40) ?hil40 (by kernel_rfl) (by decide) (by kernel_rfl) (by kernel_rfl) ?hQl40 (Or.inl ⟨?wal40, ?hyl40⟩) hHeld ?restl40
            case hil40 => simp only [List.getElem?_toArray, List.getElem?_cons_succ, List.getElem?_cons_zero]; rfl
            case hQl40 => exact fun _ _ _ h => h
            case wal40 => rfl
            case hyl40 => (intro w hSw; (try dsimp only at hSw); go_simp; (try with_reducible rfl))
            (try simp only [Act.put, List.setIfInBounds_toArray, List.set_cons_zero, List.set_cons_succ])
            refine Pe.Left.take (i := 41) (o := ?ol41) (v := ?vl41) ?hil41 (by kernel_rfl) (by decide) (by kernel_rfl) (by kernel_rfl) ?hQl41 (Or.inl ⟨?wal41, ?hyl41⟩) hHeld ?restl41
            case hil41 => simp only [List.getElem?_toArray, List.getElem?_cons_succ, List.getElem?_cons_zero]; rfl
            case hQl41 => exact fun _ _ _ h => h
            case wal41 => rfl
            case hyl41 => (intro w hSw; (try dsimp only at hSw); go_simp; (try with_reducible rfl))
            (try simp only [Act.put, List.setIfInBounds_toArray, List.set_cons_zero, List.set_cons_succ])
            refine Pe.Left.take (i := 42) (o := ?ol42) (v := ?vl42) ?hil42 (by kernel_rfl) (by decide) (by kernel_rfl) (by kernel_rfl) ?hQl42 (Or.inl ⟨?wal42, ?hyl42⟩) hHeld ?restl42
            case hil42 => simp only [List.getElem?_toArray, List.getElem?_cons_succ, List.getElem?_cons_zero]; rfl
            case hQl42 => exact fun _ _ _ h => h
            case wal42 => rfl
            case hyl42 => (intro w hSw; (try dsimp only at hSw); go_simp; (try with_reducible rfl))
            (try simp only [Act.put, List.setIfInBounds_toArray, List.set_cons_zero, List.set_cons_succ])
            refine Pe.Left.one (i := 43) (o := ?ol43) ?hil43 (by kernel_rfl) (by decide) (fun KK hK => ?restl43)
            case hil43 => simp only [List.getElem?_toArray, List.getElem?_cons_succ, List.getElem?_cons_zero]; rfl
            go_simp
            go_at_call 25
            refine (HLv.out _ hHeld.2).mono ?_
            rintro e w10 ⟨rfl, hb⟩
            have Bw10 := Ar.bt hHeld.2 hb
            have hSw10 := HS.out _ Bw10
            have Bw10 := Lib.hid Bw10
            clear hHeld hb
            (try go_wp2_with fail)
            refine hK.out _ _ ?_ (fun hHeld => ?_)
            · exact hSw10
            clear hK KK
            (try simp only [Act.put, List.setIfInBounds_toArray, List.set_cons_zero, List.set_cons_succ])
            refine Pe.Left.take (i := 44) (o := ?ol44) (v := ?vl44) ?hil44 (by kernel_rfl) (by decide) (by kernel_rfl) (by kernel_rfl) ?hQl44 (Or.inl ⟨?wal44, ?hyl44⟩) hHeld ?restl44
            case hil44 => simp only [List.getElem?_toArray, List.getElem?_cons_succ, List.getElem?_cons_zero]; rfl
            case hQl44 => exact fun _ _ _ h => h
            case wal44 => rfl
            case hyl44 => (intro w hSw; (try dsimp only at hSw); go_simp; (try with_reducible rfl))
            (try simp only [Act.put, List.setIfInBounds_toArray, List.set_cons_zero, List.set_cons_succ])
            refine Pe.Left.take (i := 45) (o := ?ol45) (v := ?vl45) ?hil45 (by kernel_rfl) (by decide) (by kernel_rfl) (by kernel_rfl) ?hQl45 (Or.inl ⟨?wal45, ?hyl45⟩) hHeld ?restl45
            case hil45 => simp only [List.getElem?_toArray, List.getElem?_cons_succ, List.getElem?_cons_zero]; rfl
            case hQl45 => exact fun _ _ _ h => h
            case wal45 => rfl
            case hyl45 => (intro w hSw; (try dsimp only at hSw); go_simp; (try with_reducible rfl))
            (try simp only [Act.put, List.setIfInBounds_toArray, List.set_cons_zero, List.set_cons_succ])
            refine Pe.Left.take (i := 46) (o := ?ol46) (v := ?vl46) ?hil46 (by kernel_rfl) (by decide) (by kernel_rfl) (by kernel_rfl) ?hQl46 (Or.inl ⟨?wal46, ?hyl46⟩) hHeld ?restl46
            case hil46 => simp only [List.getElem?_toArray, List.getElem?_cons_succ, List.getElem?_cons_zero]; rfl
            case hQl46 => exact fun _ _ _ h => h
            case wal46 => rfl
            case hyl46 => (intro w hSw; (try dsimp only at hSw); go_simp; (try with_reducible rfl))
            (try simp only [Act.put, List.setIfInBounds_toArray, List.set_cons_zero, List.set_cons_succ])
            refine Pe.Left.last (o := ?olZ) ?hilZ (by kernel_rfl) (by kernel_rfl) (fun KK hK => ?restlZ)
            case hilZ => simp only [List.getElem?_toArray, List.getElem?_cons_succ, List.getElem?_cons_zero]; rfl
            go_simp
            refine hK.out _ _ ?_
            clear hK KK hHeld
            have M3 : Hid (Ar.Kr O w p (Ar.stt a6 st') (.slice (some ⟨ab, 0, none⟩) all'.length vc') (.slice (some ⟨ub, 0, none⟩) ds1.length uc') all' (Ar.mid ds1 ds' (k + 1)) w10) := Ar.Kr.on X KR2.out Bw10.out
            clear KR2 Bw10 hSw10 Bw9 hSw9 HS HLv HEq
            go_wp2
            go_roundw
            case rel => exact ⟨k + 1, st', by omega, by rfl, by omega, M3.out⟩
            case measure => simp [intOf]; omega
        · have hge : ¬ (k : Int) < (all'.length : Int) := by omega
          have hgd : decide (k < all'.length) = false := decide_eq_false hkl
          have FF : Hid (Ar.Kr O w p (Ar.stt a6 st') (.slice va' all'.length vc') (.slice ua' ds1.length uc') all' ds' wr) := by
            have := hM.out
            rw [Ar.mid_all (by have := hL.out.1; omega) (by have := hL.out.1; have := hL.out.2.1; omega)] at this
            exact this
          have e2 : Hid (ds'.length = ds1.length) := hL.out.2.1
          have e3 : Hid (all'.length = ds'.length) := hL.out.1.trans hL.out.2.1.symm
          clear hM
          go_wp2
          go_roundw
          case rel =>
            refine ⟨i + 1, Ar.stt a6 st', all', ds', by omega, by omega, hli, ?_, by rfl, e3.out, ?_, QH.out, QK.out⟩
            · show st' ≤ 41 * (i + 1); omega
            · have := FF.out; exact this
          case measure => simp [intOf]; omega
    · have q : decide ((i : Int) < (sx.length : Int)) = false ∨ (decide ((i : Int) < (sx.length : Int)) = true ∧ decide ((i : Int) < 40) = false) := by
        by_cases c : i < sx.length
        · exact .inr ⟨decide_eq_true (by omega), decide_eq_false (by omega)⟩
        · exact .inl (decide_eq_false (by omega))
      have BE := Lib.hid hT.out.1.st.below
      clear hT hlt
      rcases q with q1 | ⟨q1, q2⟩
      all_goals
        (try have z1 : decide (i < sx.length) = false := decide_eq_false (by simpa using q1))
        (try have z2 : decide (i < 40) = false := decide_eq_false (by simpa using q2))
        (try have z3 : decide (i < sx.length) = true := decide_eq_true (by simpa using q1))
        go_wp2_with fail
        refine (HK.out _ BE.out).mono ?_
        rintro e w3 ⟨rfl, hb⟩
        have B3 := Lib.hid hb
        clear hb
        go_wp2
        go_ret
        exact ⟨rfl, B3.out⟩
end
end Go.Proofs.Ytlhgakdplabnlaa
