/- The walk of ArenaPlays, over whatever arena. -/
import Derived.Test.YtniccjbcchdkoaaPackArTw
import Derived.Test.YtniccjbcchdkoaaArCnt
import Derived.Test.YtniccjbcchdkoaaPeel
namespace Go.Proofs.Ytniccjbcchdkoaa
open Go.RowKit

section
variable {O : World → Nat → A13.A → (Nat → Prop) → Prop}
set_option maxRecDepth 100000 in
set_option maxHeartbeats 16000000 in
theorem arenaPlays_walk (X : Ar.Pa O) (n g : Int) (sr : Ar.Src) (w : World) (_ : -9223372036854775808 ≤ n) (_ : n < 9223372036854775808) (_ : -9223372036854775808 ≤ g) (_ : g < 9223372036854775808) (hs : Ar.ArgOk w sr) :
    Calls Try.prog 24 #[.int .i64 n, .int .i64 g, .slice sr.a sr.x.length sr.c] w fun e w' => e = .returned (.bool true) ∧ Below w.heap.size w w' := by
  have HK : Hid (∀ W, Below w.heap.size w W → Calls Try.prog 25 #[] W (fun e w' => e = .returned (.bool true) ∧ Below w.heap.size w w')) := fun W hb => (awake13_any X W).mono fun _ _ k => ⟨k.1, Ar.bt hb k.2⟩
  obtain ⟨Nn, hN, N1, N2⟩ := Ar.nn_of n 12 (by omega) (by omega)
  obtain ⟨Gn, hG, G1, G2⟩ := Ar.nn_of g 3 (by omega) (by omega)
  have M12 := Lib.hid (fun W => mod11_any n 12 (by omega) (by omega) W)
  have M3 := Lib.hid (fun W => mod11_any g 3 (by omega) (by omega) W)
  have H1 := Lib.hid (X.new Nn Gn w (by omega) (by omega) (by omega) (by omega))
  have H2 := Lib.hid (fun W => refNew13_ok Nn Gn (by omega) (by omega) (by omega) (by omega) W)
  have b1 : 0 ≤ n % 12 ∧ n % 12 < 12 := by omega
  have b2 : 0 ≤ g % 3 ∧ g % 3 < 3 := by omega
  rw [hN, hG] at H1 H2
  have wn : IntKind.i64.wrap (1 + n % 12) = 1 + n % 12 := IntWalk.i64_in _ (by omega)
  have wg : IntKind.i64.wrap (1 + g % 3) = 1 + g % 3 := IntWalk.i64_in _ (by omega)
  have wu : IntKind.u64.wrap (1 + g % 3) = 1 + g % 3 := by rw [← hG]; exact H.u64_in _ (by omega)
  generalize n % 12 = nz at *
  generalize g % 3 = gz at *
  obtain ⟨sa, sc, sx⟩ := sr
  have HA : Hid (Ar.ArgOk w ⟨sa, sc, sx⟩) := hs
  have hl : sx.length ≤ 2000000000000 := hs.len
  dsimp only
  clear hs
  unfold FL.ptr at H1 H2
  go_enter Try.func24, Try.ntmps24
  go_wp2_with fail
  refine (M12.out _).mono ?_
  rintro e w1 ⟨rfl, rfl⟩
  go_wp2_with fail
  refine (M3.out _).mono ?_
  rintro e w1 ⟨rfl, rfl⟩
  go_wp2_with fail
  refine H1.out.mono ?_
  rintro e w1 ⟨p, rfl, ho, hb⟩
  go_wp2_with fail
  refine (M12.out _).mono ?_
  rintro e w2 ⟨rfl, rfl⟩
  go_wp2_with fail
  refine (M3.out _).mono ?_
  rintro e w2 ⟨rfl, rfl⟩
  go_wp2_with fail
  refine (H2.out _).mono ?_
  rintro e w2 ⟨q, rfl, ho2, hb2⟩
  have T0 : Hid (∃ Q, Ar.Tw O w p q (A13.new Nn Gn) (A13.new Nn Gn) (.slice none 0 0) [] [] Q (fun _ => False) w2) :=
    ⟨_, Ar.Tw.make X ho hb (fun k c => c.elim False.elim (fun c => c.1)) hb2 ho2 (fun k c => c.elim False.elim (fun c => c.1))⟩
  have F0 : (A13.new Nn Gn).st = 0 := rfl
  clear ho ho2 hb hb2 H1 H2 M12 M3 wn wg wu hN hG b1 b2
  go_wp2
  go_loopw [11, 12] (fun v j wr => ∃ (i : Nat) (a : A13.A) (all : List Ar.I), i ≤ sx.length ∧ i ≤ 50 ∧ all.length ≤ i ∧ a.st ≤ 2 * i ∧ j = .int .i64 i ∧ Hid (∃ Q, Ar.Tw O w p q a a v all [] Q (fun _ => False) wr)) (fun _ j _ => 50 - (intOf j).toNat)
  case atStart => exact ⟨0, _, [], Nat.zero_le _, Nat.zero_le _, Nat.zero_le _, Nat.zero_le _, rfl, T0.out⟩
  case round =>
    obtain ⟨i, a, all, hi, hi5, hX, hst, rfl, hT⟩ := hrel
    clear T0 F0
    by_cases hlt : i < sx.length ∧ i < 50
    · obtain ⟨h1, h2⟩ := hlt
      have q1 : decide ((i : Int) < (sx.length : Int)) = true := by simp; omega
      have q1' : (i : Int) < (sx.length : Int) := by omega
      have q2 : decide ((i : Int) < 50) = true := by simp; omega
      obtain ⟨d, hd⟩ : ∃ d, sx[i]? = some d := ⟨_, List.getElem?_eq_getElem h1⟩
      obtain ⟨Q, hT⟩ := hT.out
      have hT := Lib.hid hT
      obtain ⟨bb, oo, ea, _⟩ := HA.out.row i d hd
      dsimp only at ea
      subst ea
      have HD : Hid (∀ Z, Below w.heap.size w Z → Z.cell? ⟨bb, oo + i * 7, none⟩ = some (.int .i64 d.kind) ∧ Z.cell? ⟨bb, oo + i * 7 + 1, none⟩ = some (.string d.text) ∧ Z.cell? ⟨bb, oo + i * 7 + 2, none⟩ = some (.slice d.lo d.l.length d.lc) ∧ Z.cell? ⟨bb, oo + i * 7 + 3, none⟩ = some (.int .i64 d.x.h) ∧ Z.cell? ⟨bb, oo + i * 7 + 4, none⟩ = some (.string d.x.t) ∧ Z.cell? ⟨bb, oo + i * 7 + 5, none⟩ = some (.slice d.x.s.a d.x.s.x.length d.x.s.c) ∧ Z.cell? ⟨bb, oo + i * 7 + 6, none⟩ = some (.int .u64 (d.h : Int))) := fun Z hb => by
        obtain ⟨_, _, e, _, c⟩ := (HA.out.on hb).row i d hd
        cases e
        exact c
      have HAd := Lib.hid (HA.out.deed d (List.mem_of_getElem? hd))
      obtain ⟨va, vc, hv, _⟩ := hT.out.st.row
      subst hv
      have hX9 : all.length ≤ 1000 := by omega
      have Hh := hT.out.handle d (HAd.out.1.on hT.out.st.below) hX9
      have hhl := Lib.hid (Ar.hand_le (all := all) HAd.out.1.h (fun j hj => (hT.out.st.hands j hj).2.2))
      obtain ⟨c0, c1, c2, c3, c4, c5, c6⟩ := HD.out wr hT.out.st.below
      unfold Ar.Dd.v at Hh
      have Hh := Lib.hid Hh
      clear hd HA hX9
      go_wp2_with fail
      refine Hh.out.mono ?_
      rintro e w1 ⟨rfl, hb1⟩
      have T1 := Lib.hid (hT.out.on X hb1)
      clear hb1 hT c0 c1 c2 c3 c4 c5 c6 Hh
      have Hn := T1.out.node d (HAd.out.1.on T1.out.st.below) (by omega)
      obtain ⟨c0, c1, c2, c3, c4, c5, c6⟩ := HD.out w1 T1.out.st.below
      unfold Ar.Dd.v at Hn
      have Hn := Lib.hid Hn
      go_wp2_with fail
      refine Hn.out.mono ?_
      rintro e w2 ⟨t, xo, xc, ht, rfl, hb2, hN2, hx2⟩
      obtain ⟨W3, hW3⟩ : ∃ Z, w2.alloc (.cells #[.int .i64 (d.nd all).h, .string t, .slice xo (d.nd all).ks.length xc] 30) = Z := ⟨_, rfl⟩
      have b3 : Below w2.heap.size w2 W3 := hW3 ▸ (Below.refl _ _).alloc (Nat.le_refl _) _
      have z3 : W3.heap.size = w2.heap.size + 1 := by rw [← hW3]; exact World.size_alloc _ _
      have Y3 := heap_alloc_new w2 (.cells #[.int .i64 (d.nd all).h, .string t, .slice xo (d.nd all).ks.length xc] 30)
      rw [hW3] at Y3
      have T3 : Hid (Ar.Tw O w p q a a (.slice va all.length vc) all [] Q (fun k => w1.heap.size ≤ k ∧ k < W3.heap.size) W3) := T1.out.more X (Ar.bt hb2 b3) (fun k c => .inr c)
      have hxw : Hid (∀ g o, xo = some ⟨g, o, none⟩ → (d.nd all).ks ≠ [] → (g < w.heap.size ∨ (w1.heap.size ≤ g ∧ g < w2.heap.size))) := fun g o e n => by
        rcases hx2 with ⟨hx2, k4⟩ | hx2
        · exact .inl (HAd.out.2 g o (by rw [← hx2]; exact e) (by rw [← Ar.nd4 k4]; exact n))
        · exact .inr (hx2 g o e)
      have N3 := Lib.hid (hN2.on b3)
      have Y3 := Lib.hid Y3
      have z3 := Lib.hid z3
      have z1 := Lib.hid (And.intro T1.out.st.below.size hb2.size)
      have ht := Lib.hid ht
      clear hb2 hN2 hx2 b3 T1 c0 c1 c2 c3 c4 c5 c6 Hn
      obtain ⟨tk, htk⟩ : ∃ b, d.is = b := ⟨_, rfl⟩
      obtain ⟨h0, hh0⟩ : ∃ m, d.hand all = m := ⟨_, rfl⟩
      rw [hh0] at hhl
      rw [htk, hh0]
      generalize d.nd all = x at *
      clear htk hh0
      go_upto_if 77 with (fail)
      go_cut [13, 11] (fun h' v' wx => ∃ (a' : A13.A) (all' : List Ar.I) (hh : Nat), h' = .int .u64 (hh : Int) ∧ hh ≤ 18446744073709551615 ∧ all'.length ≤ i + 1 ∧ a'.st = a.st ∧ Hid (∃ Q, Ar.Tw O w p q a' a' v' all' [] Q (fun _ => False) wx))
      case first =>
        cases tk with
        | true =>
          as_aux_lemma =>
            have x0 := Lib.cell_of_heap Y3.out 0
            have x1 := Lib.cell_of_heap Y3.out 1
            have x2 := Lib.cell_of_heap Y3.out 2
            have HC := copyNode12_any x.h t xo xc x.ks W3 N3.out.s.fit N3.out.s.row
            unfold N.nv at HC
            have HC := Lib.hid HC
            have hkl := Lib.hid N3.out.s.fit
            go_wp2_with fail
            refine HC.out.mono ?_
            rintro e w4 ⟨vi, rfl, hm⟩
            obtain ⟨io, ic, rfl, hNi, hbi, hoi⟩ := Ar.copy_ok N3.out hm
            dsimp only at hNi hoi
            have hB4 := hm.below
            obtain ⟨W5, hW5⟩ : ∃ Z, w4.alloc (.cells #[.int .i64 x.h, .string t, .slice io x.ks.length ic] 30) = Z := ⟨_, rfl⟩
            have b5 : Below w4.heap.size w4 W5 := hW5 ▸ (Below.refl _ _).alloc (Nat.le_refl _) _
            have z5 : W5.heap.size = w4.heap.size + 1 := by rw [← hW5]; exact World.size_alloc _ _
            have Y5 := heap_alloc_new w4 (.cells #[.int .i64 x.h, .string t, .slice io x.ks.length ic] 30)
            rw [hW5] at Y5
            have B5 := Ar.bt hB4 b5
            have z4 := hB4.size
            obtain ⟨E, hE⟩ : ∃ E : Nat → Prop, Hid (E = fun k => w1.heap.size ≤ k ∧ k < W5.heap.size) := ⟨_, rfl⟩
            have hin : ∀ k, w1.heap.size ≤ k → k < W5.heap.size → E k := fun k c1 c2 => by rw [hE.out]; exact ⟨c1, c2⟩
            have T5 : Hid (Ar.Tw O w p q a a (.slice va all.length vc) all [] Q E W5) := by
              rw [hE.out]
              refine T3.out.more X B5 (fun k c => ?_)
              by_cases c' : k < W3.heap.size
              · exact .inl ⟨c.1, c'⟩
              · exact .inr ⟨by omega, c.2⟩
            have M5 : Hid (Ar.Px O w p q a a (.slice va all.length vc) all Q E w4.heap.size w2.heap.size x.h t io ic xo xc x.ks W5) := by
              have hz3 := z3.out
              have hz1 := z1.out.1
              have hz2 := z1.out.2
              refine ⟨⟨T5.out, Y5, Ar.Zr.of (D.own_below hoi b5) (fun g o e => ?_), ?_, fun g o e => ?_⟩, (B5.block _ (Array.getElem?_eq_some_iff.1 Y3.out).1).trans Y3.out, N3.out.on B5, ?_, fun g o e n c => ?_, fun g o e => ⟨?_, fun o' n c => ?_⟩⟩
              · have := hbi g o e; exact hin _ (by omega) (by omega)
              · exact hin _ (by omega) (by omega)
              · have := hbi g o e; omega
              · exact hin _ (by omega) (by omega)
              · rcases hxw.out g o e n with c' | c'
                · have := c.1; omega
                · exact c.2 (hin _ (by omega) (by omega))
              · have := hbi g o e; omega
              · have h1 := hbi g o e
                rcases hxw.out g o' c n with c' | c' <;> omega
            have ci : Hid (∀ g o, io = some ⟨g, o, none⟩ → x.ks ≠ [] → ¬ Ar.Ot w E g) := fun g o e _ c => c.2 (hin _ (by have := (hbi g o e).1; have := z1.out.2; have := z3.out; omega) (by have := (hbi g o e).2; omega))
            have Ni := Lib.hid (hNi.on b5)
            have HAl := M5.out.bz.tw.palloc X ⟨x.h, t, ⟨io, ic, x.ks⟩⟩ Ni.out ci.out
            have HRl : Hid (∀ Z a9, Ar.Px O w p q a9 a (.slice va all.length vc) all Q E w4.heap.size w2.heap.size x.h t io ic xo xc x.ks Z → Calls Try.prog 55 #[.pointer (some ⟨q, 0, none⟩), .agg #[.int .i64 x.h, .string t, .slice xo x.ks.length xc]] Z fun e W' => e = .returned (.tuple #[.int .u64 (A13.alH Ar.ms a x : Nat), .int .i64 (A13.alE Ar.ms a x)]) ∧ (∃ Q', Ar.Tw O w p q a9 (A13.al Ar.ms a x) (.slice va all.length vc) all [] Q' E W') ∧ FL.But (Ar.Ot w E) Z W') := fun Z a9 m => by
              have := m.bz.tw.ralloc X ⟨x.h, t, ⟨xo, xc, x.ks⟩⟩ m.nx m.cx
              rw [show (⟨x.h, t, ⟨xo, xc, x.ks⟩⟩ : N.NArg).nd = x by show (⟨_, _, _⟩ : N.Nd) = _; rw [ht.out]] at this
              exact this
            rw [show (⟨x.h, t, ⟨io, ic, x.ks⟩⟩ : N.NArg).nd = x by show (⟨_, _, _⟩ : N.Nd) = _; rw [ht.out]] at HAl
            have HAl : Hid (Calls Try.prog 12 #[.pointer (some ⟨p, 0, none⟩), .agg #[.int .i64 x.h, .string t, .slice io x.ks.length ic]] W5 fun e W' => e = .returned (.tuple #[.int .u64 (A13.alH Ar.ms a x : Nat), .int .i64 (A13.alE Ar.ms a x)]) ∧ Ar.Tw O w p q (A13.al Ar.ms a x) a (.slice va all.length vc) all [] Q E W' ∧ FL.But (Ar.Ot w E) W5 W') := HAl
            have hahl : Hid (A13.alH Ar.ms a x ≤ 18446744073709551615) := Ar.alH_le (T5.out.inv X) x
            have her : Hid (A13.alE Ar.ms a x = 0 → N.chk x = 0) := fun c => Ar.alE_chk c
            have h6s : (A13.al Ar.ms a x).st = a.st := Ar.al_st a x
            generalize A13.alH Ar.ms a x = ah at *
            generalize A13.alE Ar.ms a x = er at *
            generalize A13.al Ar.ms a x = a6 at *
            have x0 : W5.cell? ⟨w4.heap.size, 0, none⟩ = some (.int .i64 x.h) := Lib.cell_of_heap M5.out.bz.yi 0
            have x1 : W5.cell? ⟨w4.heap.size, 1, none⟩ = some (.string t) := Lib.cell_of_heap M5.out.bz.yi 1
            have x2 : W5.cell? ⟨w4.heap.size, 2, none⟩ = some (.slice io x.ks.length ic) := Lib.cell_of_heap M5.out.bz.yi 2
            clear hNi hoi hB4 b5 z5 Y5 B5 z4 hin T5 hbi hm T3 Y3 N3 hxw HC
            go_wp2_with fail
            refine HAl.out.mono ?_
            rintro e w6 ⟨rfl, T6, B6⟩
            have M6 := Lib.hid (M5.out.but B6 T6)
            have Ni6 := Lib.hid (Ni.out.but B6 ci.out)
            have x0 : w6.cell? ⟨w2.heap.size, 0, none⟩ = some (.int .i64 x.h) := Lib.cell_of_heap M6.out.yx 0
            have x1 : w6.cell? ⟨w2.heap.size, 1, none⟩ = some (.string t) := Lib.cell_of_heap M6.out.yx 1
            have x2 : w6.cell? ⟨w2.heap.size, 2, none⟩ = some (.slice xo x.ks.length xc) := Lib.cell_of_heap M6.out.yx 2
            clear M5 Ni T6 B6 HAl
            go_wp2_with fail
            refine (HRl.out _ _ M6.out).mono ?_
            rintro e w7 ⟨rfl, ⟨Q7, T7⟩, B7⟩
            have M7 := Lib.hid (M6.out.but B7 T7)
            have Ni7 := Lib.hid (Ni6.out.but B7 ci.out)
            have HEq := equalNode_any x.h x.h t t io xo ic xc x.ks x.ks w7 Ni7.out.s.row M7.out.nx.s.row (by have := hkl.out; unfold maxLen; omega)
            rw [decide_eq_true rfl] at HEq
            unfold N.nv at HEq
            have HEq := Lib.hid HEq
            have x0 : w7.cell? ⟨w2.heap.size, 0, none⟩ = some (.int .i64 x.h) := Lib.cell_of_heap M7.out.yx 0
            have x1 : w7.cell? ⟨w2.heap.size, 1, none⟩ = some (.string t) := Lib.cell_of_heap M7.out.yx 1
            have x2 : w7.cell? ⟨w2.heap.size, 2, none⟩ = some (.slice xo x.ks.length xc) := Lib.cell_of_heap M7.out.yx 2
            have y0 : w7.cell? ⟨w4.heap.size, 0, none⟩ = some (.int .i64 x.h) := Lib.cell_of_heap M7.out.bz.yi 0
            have y1 : w7.cell? ⟨w4.heap.size, 1, none⟩ = some (.string t) := Lib.cell_of_heap M7.out.bz.yi 1
            have y2 : w7.cell? ⟨w4.heap.size, 2, none⟩ = some (.slice io x.ks.length ic) := Lib.cell_of_heap M7.out.bz.yi 2
            have i1 : ∀ z : Int, (z == z) = true := fun z => by simp
            clear M6 Ni6 T7 B7 HRl Ni7
            go_wp2_with fail
            refine HEq.out.mono ?_
            rintro e w8 ⟨rfl, hb8⟩
            have M8 := Lib.hid (M7.out.on X hb8)
            clear M7 hb8 HEq x0 x1 x2 y0 y1 y2 i1 ci
            go_wp2
            go_loopw [21] (fun j wr => ∃ k : Nat, k ≤ x.ks.length ∧ j = .int .i64 k ∧ Hid (Ar.Px O w p q a6 a6 (.slice va all.length vc) all Q7 E w4.heap.size w2.heap.size x.h t io ic xo xc x.ks wr)) (fun j _ => x.ks.length - (intOf j).toNat)
            case atStart => exact ⟨0, Nat.zero_le _, rfl, M8.out⟩
            case round =>
              obtain ⟨k, hk, rfl, hM⟩ := hrel
              clear M8
              have hkb : x.ks.length ≤ 4398046511104 := by have := hkl.out; omega
              have y2 : wr.cell? ⟨w4.heap.size, 2, none⟩ = some (.slice io x.ks.length ic) := Lib.cell_of_heap hM.out.bz.yi 2
              by_cases hkx : k < x.ks.length
              · have q3 : (k : Int) < (x.ks.length : Int) := by omega
                have q3' : decide ((k : Int) < (x.ks.length : Int)) = true := decide_eq_true q3
                obtain ⟨g, eg, hc, hz⟩ := hM.out.get X hkx
                subst eg
                obtain ⟨⟨z0, c0⟩, f0⟩ := hc 0 (by omega)
                obtain ⟨⟨z1, c1⟩, f1⟩ := hc 1 (by omega)
                obtain ⟨⟨z2, c2⟩, f2⟩ := hc 2 (by omega)
                obtain ⟨⟨z3, c3⟩, f3⟩ := hc 3 (by omega)
                rw [Nat.add_zero] at c0 f0
                have R := Lib.hid (hz (.int .u64 0) (.int .i64 0) (.int .i64 0) (.int .i64 0))
                clear hM hc hz
                go_wp2
                go_roundw
                case rel => exact ⟨k + 1, by omega, by go_num, R.out⟩
                case measure => simp [intOf]; omega
              · have q3' : decide ((k : Int) < (x.ks.length : Int)) = false := by simp; omega
                have x0 : wr.cell? ⟨w2.heap.size, 0, none⟩ = some (.int .i64 x.h) := Lib.cell_of_heap hM.out.yx 0
                have x1 : wr.cell? ⟨w2.heap.size, 1, none⟩ = some (.string t) := Lib.cell_of_heap hM.out.yx 1
                have x2 : wr.cell? ⟨w2.heap.size, 2, none⟩ = some (.slice xo x.ks.length xc) := Lib.cell_of_heap hM.out.yx 2
                by_cases e0 : er = 0
                · have hc := Lib.hid (her.out e0)
                  subst e0
                  have HC := copyNode12_any x.h t xo xc x.ks wr hkl.out hM.out.nx.s.row
                  unfold N.nv at HC
                  have HC := Lib.hid HC
                  go_wp2_with fail
                  refine HC.out.mono ?_
                  rintro e w9 ⟨vi, rfl, hm⟩
                  obtain ⟨co, cc, rfl, hNc, hbc, _⟩ := Ar.copy_ok hM.out.nx hm
                  dsimp only at hNc
                  have T9 := Lib.hid (hM.out.bz.tw.hold X hm.below ⟨ah, ⟨x.h, t, ⟨co, cc, x.ks⟩⟩⟩ hNc (fun g o e _ => hbc g o e) hahl.out)
                  clear hM hNc hbc hm HC x0 x1 x2 y2 q3' her
                  go_wp2_with (at_builtin; refine Ar.append_known rfl _ _ rfl w.heap.size (.slice va all.length vc) all ?s1 ?s2 ⟨ah, ⟨x.h, t, ⟨co, cc, x.ks⟩⟩⟩ 1 ?s3 ?s4 ?s5 ?_)
                  case s1 => rfl
                  case s2 => exact T9.out.st.own
                  case s3 => rfl
                  case s4 => omega
                  case s5 => exact T9.out.st.below.size
                  intro v' w10 g1 g2 g3
                  have T10 := Lib.hid ((T9.out.push X (Ar.chk_of ht.out hc.out) (by simpa using g1) g2 g3).1.less (E' := fun _ => False) (fun _ c => c.elim))
                  clear g1 g2 g3 T9
                  have hX' : (all ++ [(⟨ah, ⟨x.h, t, ⟨co, cc, x.ks⟩⟩⟩ : Ar.I)]).length ≤ i + 1 := by rw [List.length_append]; simp; omega
                  go_wp2
                  go_meet
                  exact ⟨a6, _, ah, by rfl, hahl.out, hX', h6s, ⟨Q7, T10.out⟩⟩
                · have e0' : (er == 0) = false := by simpa using e0
                  have T9 := Lib.hid (hM.out.bz.tw.less (E' := fun _ => False) (fun _ c => c.elim))
                  clear hM x0 x1 x2 her e0
                  go_wp2
                  go_meet
                  exact ⟨a6, all, h0, by rfl, hhl.out, by omega, h6s, ⟨Q7, T9.out⟩⟩
        | false =>
          have T9 := Lib.hid (T3.out.less (E' := fun _ => False) (fun _ c => c.elim))
          clear T3 N3 hxw Y3
          go_wp2
          go_meet
          exact ⟨a, all, h0, by rfl, hhl.out, by omega, by rfl, ⟨Q, T9.out⟩⟩
      case rest =>
      obtain ⟨a6, all6, hh, rfl, hhb, hX6, hs6, hT6⟩ := hcut
      obtain ⟨Q6, hT6⟩ := hT6.out
      have hT6 := Lib.hid hT6
      have hs6 : a6.st ≤ 2 * i := by omega
      have hdh := Lib.hid HAd.out.1.h
      clear T3 hxw N3 Y3 z3 z1 ht HAd hhl hX hst
      have M8 := Lib.hid (fun W => mod11_any d.kind 8 (by omega) (by omega) W)
      have hkm : 0 ≤ d.kind % 8 ∧ d.kind % 8 < 8 := by omega
      generalize d.kind % 8 = km at *
      have i1 : ∀ z : Int, (z == z) = true := fun z => by simp
      obtain ⟨c0, c1, c2, c3, c4, c5, c6⟩ := HD.out _ hT6.out.st.below
      clear c1 c2 c3 c4 c5 c6
      go_wp2_with fail
      refine (M8.out _).mono ?_
      rintro e w1 ⟨rfl, rfl⟩
      go_upto_if 134 with (fail)
      go_cut [] (fun wx => ∃ a' : A13.A, a'.st ≤ 2 * i + 1 ∧ Hid (∃ Q, Ar.Tw O w p q a' a' u11 all6 [] Q (fun _ => False) wx))
      case first =>
        as_aux_lemma =>
          by_cases k6 : (6 : Int) ≤ km
          · have k6' : decide ((6 : Int) ≤ km) = true := decide_eq_true k6
            have hst : a6.st < 1000000000 := by omega
            have HF := hT6.out.pfree X hst hh hhb
            have HRf : Hid (∀ Z a9, Ar.Tw O w p q a9 a6 u11 all6 [] Q6 (fun _ => False) Z → Calls Try.prog 56 #[.pointer (some ⟨q, 0, none⟩), .int .u64 (hh : Int)] Z fun e W' => e = .returned (.int .i64 (a6.gtE hh)) ∧ (∃ Q', Ar.Tw O w p q a9 (a6.free hh) u11 all6 [] Q' (fun _ => False) W') ∧ FL.But (Ar.Ot w (fun _ => False)) Z W') := fun Z a9 m => m.rfree X hst hh hhb
            have hsf := Ar.free_st a6 hh
            unfold FL.ptr at HF
            have HF := Lib.hid HF
            generalize a6.gtE hh = ge at *
            generalize a6.free hh = a7 at *
            clear hT6 c0 hkm M8
            go_wp2_with fail
            refine HF.out.mono ?_
            rintro e w7 ⟨rfl, T7, _⟩
            have T7 := Lib.hid T7
            clear HF
            go_wp2_with fail
            refine (HRf.out _ _ T7.out).mono ?_
            rintro e w8 ⟨rfl, ⟨Q8, T8⟩, _⟩
            have T8 := Lib.hid T8
            clear HRf T7
            go_wp2
            go_meet
            exact ⟨a7, by omega, ⟨Q8, T8.out⟩⟩
          · have k6' : decide ((6 : Int) ≤ km) = false := decide_eq_false k6
            clear M8 c0
            go_wp2
            go_meet
            exact ⟨a6, by omega, ⟨Q6, hT6.out⟩⟩
      case rest =>
      obtain ⟨a7, hs7, hT7⟩ := hcut
      obtain ⟨Q7, hT7⟩ := hT7.out
      have hT7 := Lib.hid hT7
      clear hT6 c0 hs6
      have c0 := (HD.out _ hT7.out.st.below).1
      obtain ⟨gk, hgk⟩ : ∃ b : Bool, Hid (decide (km = 5 ∨ km = 7) = b) := ⟨_, rfl⟩
      obtain ⟨wz, hwz⟩ : ∃ Z, Z = wc := ⟨_, rfl⟩
      subst hwz
      go_upto_region 27 with (fail)
      go_cut [157] from 142 to 157 (fun c wx => c = .bool gk ∧ wx = wz)
      case first =>
        as_aux_lemma =>
          by_cases k5 : km = 5
          · have t5 : (km == 5) = true := by rw [k5]; rfl
            have m : gk = true := by rw [← hgk.out]; exact decide_eq_true (.inl k5)
            clear hT7 hgk hkm
            go_wp2_with fail
            refine (M8.out _).mono ?_
            rintro e w1 ⟨rfl, rfl⟩
            go_wp2
            go_meet
            exact ⟨by rw [m], rfl⟩
          · have t5 : (km == 5) = false := by simpa using k5
            by_cases k7 : km = 7
            · have t7 : (km == 7) = true := by rw [k7]; rfl
              have m : gk = true := by rw [← hgk.out]; exact decide_eq_true (.inr k7)
              clear hT7 hgk hkm
              go_wp2_with fail
              refine (M8.out _).mono ?_
              rintro e w1 ⟨rfl, rfl⟩
              go_wp2_with fail
              refine (M8.out _).mono ?_
              rintro e w1 ⟨rfl, rfl⟩
              go_wp2
              go_meet
              exact ⟨by rw [m], rfl⟩
            · have t7 : (km == 7) = false := by simpa using k7
              have m : gk = false := by rw [← hgk.out]; exact decide_eq_false (fun c => c.elim k5 k7)
              clear hT7 hgk hkm
              go_wp2_with fail
              refine (M8.out _).mono ?_
              rintro e w1 ⟨rfl, rfl⟩
              go_wp2_with fail
              refine (M8.out _).mono ?_
              rintro e w1 ⟨rfl, rfl⟩
              go_wp2
              go_meet
              exact ⟨by rw [m], rfl⟩
      case rest =>
      obtain ⟨rfl, hwc⟩ := hcut
      have hwc := hwc.symm
      subst hwc
      clear c0 hgk hkm M8
      go_upto_if 157 with (fail)
      go_cut [] (fun wx => ∃ a' : A13.A, a'.st ≤ 2 * i + 2 ∧ Hid (∃ Q, Ar.Tw O w p q a' a' u11 all6 [] Q (fun _ => False) wx))
      case first =>
        cases gk with
        | true =>
          as_aux_lemma =>
            have hst : a7.st < 1000000000 := by omega
            have HG := hT7.out.pget X hst hh hhb
            have HRg : Hid (∀ Z a9 E, Ar.Tw O w p q a9 a7 u11 all6 [] Q7 E Z → Calls Try.prog 57 #[.pointer (some ⟨q, 0, none⟩), .int .u64 (hh : Int)] Z fun e W' => ∃ yo yc, e = .returned (.tuple #[.agg #[.int .i64 (Ar.got a7 hh).h, .string ⟨(Ar.got a7 hh).t.toArray⟩, .slice yo (Ar.got a7 hh).ks.length yc], .int .i64 (a7.gtE hh)]) ∧ Ar.Tw O w p q a9 (a7.gt hh) u11 all6 [] Q7 E W' ∧ FL.But (Ar.Ot w E) Z W' ∧ N.Row W' yo (Ar.got a7 hh).ks) := fun Z a9 E m => m.rget X hst hh
            have hsg := Ar.gt_st a7 hh
            unfold FL.ptr at HG
            have HG := Lib.hid HG
            generalize Ar.got a7 hh = y at *
            generalize a7.gtE hh = ge at *
            generalize a7.gt hh = a8 at *
            clear hT7
            go_wp2_with fail
            refine HG.out.mono ?_
            rintro e w7 ⟨t7, yo, yc, ht7, rfl, T7, B7, N7, O7⟩
            obtain ⟨W8, hW8⟩ : ∃ Z, w7.alloc (.cells #[.int .i64 y.h, .string t7, .slice yo y.ks.length yc] 30) = Z := ⟨_, rfl⟩
            have b8 : Below w7.heap.size w7 W8 := hW8 ▸ (Below.refl _ _).alloc (Nat.le_refl _) _
            have z8 : W8.heap.size = w7.heap.size + 1 := by rw [← hW8]; exact World.size_alloc _ _
            have Y8 := heap_alloc_new w7 (.cells #[.int .i64 y.h, .string t7, .slice yo y.ks.length yc] 30)
            rw [hW8] at Y8
            have hyb := Ar.own_block O7
            obtain ⟨E, hE⟩ : ∃ E : Nat → Prop, Hid (E = fun k => (∃ o, yo = some ⟨k, o, none⟩) ∨ k = w7.heap.size) := ⟨_, rfl⟩
            have hE1 : ∀ k o, yo = some ⟨k, o, none⟩ → E k := fun k o e => by rw [hE.out]; exact .inl ⟨o, e⟩
            have T8 : Ar.Tw O w p q a8 a7 u11 all6 [] Q7 E W8 := by
              rw [hE.out]
              exact T7.more X b8 (fun k c => c.elim (fun c => .inl (.inr c)) (fun c => .inr ⟨by omega, by omega⟩))
            have M8 : Hid (Ar.Bz O w p q a8 a7 u11 all6 Q7 E w7.heap.size y.h t7 yo y.ks.length yc W8) :=
              ⟨T8, Y8, Ar.Zr.of (D.own_below O7 b8) (fun g o e => hE1 g o e), (by rw [hE.out]; exact .inr rfl), fun g o e => by have := hyb g o e; omega⟩
            have Ny := Lib.hid (N7.on b8)
            have cy : Hid (∀ g o, yo = some ⟨g, o, none⟩ → y.ks ≠ [] → ¬ Ar.Ot w E g) := fun g o e _ c => c.2 (hE1 g o e)
            have hyl := Lib.hid N7.s.fit
            have ht7 := Lib.hid ht7
            clear T7 B7 N7 O7 b8 z8 Y8 hyb hE hE1 T8 HG
            go_wp2_with fail
            refine (HRg.out _ _ _ M8.out.tw).mono ?_
            rintro e w9 ⟨zo, zc, rfl, T9, B9, hr9⟩
            have M9 := M8.out.but B9 T9
            have Ny9 := Ny.out.but B9 cy.out
            obtain ⟨W10, hW10⟩ : ∃ Z, w9.alloc (.cells #[.int .i64 y.h, .string ⟨y.t.toArray⟩, .slice zo y.ks.length zc] 30) = Z := ⟨_, rfl⟩
            have b10 : Below w9.heap.size w9 W10 := hW10 ▸ (Below.refl _ _).alloc (Nat.le_refl _) _
            have Y10 := heap_alloc_new w9 (.cells #[.int .i64 y.h, .string ⟨y.t.toArray⟩, .slice zo y.ks.length zc] 30)
            rw [hW10] at Y10
            have M10 := Lib.hid (M9.on X b10)
            have HEq := equalNode_any y.h y.h t7 ⟨y.t.toArray⟩ yo zo yc zc y.ks y.ks W10 (Ny9.on b10).s.row (hr9.below b10) (by have := hyl.out; unfold maxLen; omega)
            rw [show N.nd y.h t7 y.ks = N.nd y.h ⟨y.t.toArray⟩ y.ks by unfold N.nd; rw [ht7.out], decide_eq_true rfl] at HEq
            unfold N.nv at HEq
            have HEq := Lib.hid HEq
            have x0 : W10.cell? ⟨w7.heap.size, 0, none⟩ = some (.int .i64 y.h) := Lib.cell_of_heap M10.out.yi 0
            have x1 : W10.cell? ⟨w7.heap.size, 1, none⟩ = some (.string t7) := Lib.cell_of_heap M10.out.yi 1
            have x2 : W10.cell? ⟨w7.heap.size, 2, none⟩ = some (.slice yo y.ks.length yc) := Lib.cell_of_heap M10.out.yi 2
            have y0 := Lib.cell_of_heap Y10 0
            have y1 := Lib.cell_of_heap Y10 1
            have y2 := Lib.cell_of_heap Y10 2
            clear T9 B9 hr9 M8 M9 Ny Ny9 b10 Y10 cy HRg ht7
            go_wp2_with fail
            refine HEq.out.mono ?_
            rintro e w11 ⟨rfl, hb11⟩
            have M11 := Lib.hid (M10.out.on X hb11)
            clear M10 hb11 HEq x0 x1 x2 y0 y1 y2
            go_wp2
            go_loopw [26] (fun j wr => ∃ k : Nat, k ≤ y.ks.length ∧ j = .int .i64 k ∧ Hid (Ar.Bz O w p q a8 a8 u11 all6 Q7 E w7.heap.size y.h t7 yo y.ks.length yc wr)) (fun j _ => y.ks.length - (intOf j).toNat)
            case atStart => exact ⟨0, Nat.zero_le _, rfl, M11.out⟩
            case round =>
              obtain ⟨k, hk, rfl, hM⟩ := hrel
              clear M11
              have hkb : y.ks.length ≤ 4398046511104 := by have := hyl.out; omega
              have y2 : wr.cell? ⟨w7.heap.size, 2, none⟩ = some (.slice yo y.ks.length yc) := Lib.cell_of_heap hM.out.yi 2
              by_cases hkx : k < y.ks.length
              · have q3 : (k : Int) < (y.ks.length : Int) := by omega
                have q3' : decide ((k : Int) < (y.ks.length : Int)) = true := decide_eq_true q3
                obtain ⟨g, eg, _, hc, hz⟩ := hM.out.get X hkx
                subst eg
                obtain ⟨⟨z0, c0⟩, f0⟩ := hc 0 (by omega)
                obtain ⟨⟨z1, c1⟩, f1⟩ := hc 1 (by omega)
                obtain ⟨⟨z2, c2⟩, f2⟩ := hc 2 (by omega)
                obtain ⟨⟨z3, c3⟩, f3⟩ := hc 3 (by omega)
                rw [Nat.add_zero] at c0 f0
                have R := Lib.hid (hz (.int .u64 0) (.int .i64 0) (.int .i64 0) (.int .i64 0))
                clear hM hc hz
                go_wp2
                go_roundw
                case rel => exact ⟨k + 1, by omega, by go_num, R.out⟩
                case measure => simp [intOf]; omega
              · have q3' : decide ((k : Int) < (y.ks.length : Int)) = false := by simp; omega
                have T12 := Lib.hid (hM.out.tw.less (E' := fun _ => False) (fun _ c => c.elim))
                clear hM
                go_wp2
                go_meet
                exact ⟨a8, by omega, ⟨Q7, T12.out⟩⟩
        | false =>
          go_wp2
          go_meet
          exact ⟨a7, by omega, ⟨Q7, hT7.out⟩⟩
      case rest =>
      obtain ⟨a8, hs8, hT8⟩ := hcut
      obtain ⟨Q8, hT8⟩ := hT8.out
      have hT8 := Lib.hid hT8
      have HSp := hT8.out.spoil X
      unfold FL.ptr at HSp
      have HSp := Lib.hid HSp
      clear hT7 hs7
      go_wp2_with fail
      refine HSp.out.mono ?_
      rintro e w3 ⟨rfl, hb3⟩
      have T9 := Lib.hid (hT8.out.on X hb3)
      clear hT8 HSp hb3
      go_upto_region 37 with (fail)
      as_aux_lemma =>
        obtain ⟨W2, hW2⟩ : ∃ Z, Z = w3.drew := ⟨_, rfl⟩
        have T2 : Hid (Ar.Tw O w p q a8 a8 u11 all6 [] Q8 (fun _ => False) W2) := hW2 ▸ T9.out.on X (Below.refl _ _).drew
        have HS : Hid (∀ Z, Below W2.heap.size W2 Z → Z.cell? ⟨bb, oo + i * 7 + 6, none⟩ = some (.int .u64 (d.h : Int)) ∧ Below W2.heap.size W2 Z) := fun Z hb => ⟨(HD.out Z (Ar.bt T2.out.st.below hb)).2.2.2.2.2.2, hb⟩
        have HSm : Hid (∀ Z, Below W2.heap.size W2 Z → Calls Try.prog 59 #[.pointer (some ⟨p, 0, none⟩), .pointer (some ⟨q, 0, none⟩)] Z fun e W' => e = .returned (.bool true) ∧ Below Z.heap.size Z W') := fun Z hb => (T2.out.on X hb).same X
        obtain ⟨l1, hl1⟩ : ∃ b, Hid (a8.has hh = b) := ⟨_, rfl⟩
        obtain ⟨l2, hl2⟩ : ∃ b, Hid (a8.has d.h = b) := ⟨_, rfl⟩
        have HL1 : Hid (∀ Z, Below W2.heap.size W2 Z → Calls Try.prog 17 #[.pointer (some ⟨p, 0, none⟩), .int .u64 (hh : Int)] Z fun e W' => e = .returned (.bool l1) ∧ Below Z.heap.size Z W') := fun Z hb => by rw [← hl1.out]; exact (T2.out.on X hb).plive X hh hhb
        have HR1 : Hid (∀ Z, Below W2.heap.size W2 Z → Calls Try.prog 60 #[.pointer (some ⟨q, 0, none⟩), .int .u64 (hh : Int)] Z fun e W' => e = .returned (.bool l1) ∧ Below Z.heap.size Z W') := fun Z hb => by rw [← hl1.out]; exact (T2.out.on X hb).rlive hh
        have HL2 : Hid (∀ Z, Below W2.heap.size W2 Z → Calls Try.prog 17 #[.pointer (some ⟨p, 0, none⟩), .int .u64 (d.h : Int)] Z fun e W' => e = .returned (.bool l2) ∧ Below Z.heap.size Z W') := fun Z hb => by rw [← hl2.out]; exact (T2.out.on X hb).plive X d.h hdh.out
        have HR2 : Hid (∀ Z, Below W2.heap.size W2 Z → Calls Try.prog 60 #[.pointer (some ⟨q, 0, none⟩), .int .u64 (d.h : Int)] Z fun e W' => e = .returned (.bool l2) ∧ Below Z.heap.size Z W') := fun Z hb => by rw [← hl2.out]; exact (T2.out.on X hb).rlive d.h
        have bb1 : (l1 == l1) = true := by simp
        have bb2 : (l2 == l2) = true := by simp
        clear T9 hl1 hl2
        refine Pe.start (z := 29) (S := (fun Z => Z.cell? ⟨bb, oo + i * 7 + 6, none⟩ = some (.int .u64 (d.h : Int)) ∧ Below W2.heap.size W2 Z)) (by kernel_rfl) (by kernel_rfl) W2 hW2 (HS.out _ (Below.refl _ _)) (fun hHeld => ?_)
        clear hW2
        refine Pe.Left.take (i := 0) (o := ?oe0) (v := ?ve0) ?hie0 (by kernel_rfl) (by decide) (by kernel_rfl) (by kernel_rfl) ?hQe0 (Or.inl ⟨?wae0, ?hye0⟩) hHeld ?reste0
        case hie0 => simp only [List.getElem?_toArray, List.getElem?_cons_zero]; rfl
        case hQe0 => exact fun _ _ _ h => h
        case wae0 => rfl
        case hye0 => (intro w hSw; (try dsimp only at hSw); go_simp; (try with_reducible rfl))
        (try simp only [Act.put, List.setIfInBounds_toArray, List.set_cons_zero, List.set_cons_succ])
        refine Pe.Left.take (i := 1) (o := ?oe1) (v := ?ve1) ?hie1 (by kernel_rfl) (by decide) (by kernel_rfl) (by kernel_rfl) ?hQe1 (Or.inl ⟨?wae1, ?hye1⟩) hHeld ?reste1
        case hie1 => simp only [List.getElem?_toArray, List.getElem?_cons_succ, List.getElem?_cons_zero]; rfl
        case hQe1 => exact fun _ _ _ h => h
        case wae1 => rfl
        case hye1 => (intro w hSw; (try dsimp only at hSw); go_simp; (try with_reducible rfl))
        (try simp only [Act.put, List.setIfInBounds_toArray, List.set_cons_zero, List.set_cons_succ])
        refine Pe.Left.one (i := 2) (o := ?oe2) ?hie2 (by kernel_rfl) (by decide) (fun KK hK => ?reste2)
        case hie2 => simp only [List.getElem?_toArray, List.getElem?_cons_succ, List.getElem?_cons_zero]; rfl
        go_simp
        go_at_call 59
        refine (HSm.out _ hHeld.2).mono ?_
        rintro e w4 ⟨rfl, hb⟩
        have Bw4 := Ar.bt hHeld.2 hb
        have hSw4 := HS.out _ Bw4
        have Bw4 := Lib.hid Bw4
        clear hHeld hb
        (try go_wp2_with fail)
        refine hK.out _ _ ?_ (fun hHeld => ?_)
        · exact hSw4
        clear hK KK
        (try simp only [Act.put, List.setIfInBounds_toArray, List.set_cons_zero, List.set_cons_succ])
        refine Pe.Left.take (i := 3) (o := ?oe3) (v := ?ve3) ?hie3 (by kernel_rfl) (by decide) (by kernel_rfl) (by kernel_rfl) ?hQe3 (Or.inl ⟨?wae3, ?hye3⟩) hHeld ?reste3
        case hie3 => simp only [List.getElem?_toArray, List.getElem?_cons_succ, List.getElem?_cons_zero]; rfl
        case hQe3 => exact fun _ _ _ h => h
        case wae3 => rfl
        case hye3 => (intro w hSw; (try dsimp only at hSw); go_simp; (try with_reducible rfl))
        (try simp only [Act.put, List.setIfInBounds_toArray, List.set_cons_zero, List.set_cons_succ])
        refine Pe.Left.take (i := 4) (o := ?oe4) (v := ?ve4) ?hie4 (by kernel_rfl) (by decide) (by kernel_rfl) (by kernel_rfl) ?hQe4 (Or.inl ⟨?wae4, ?hye4⟩) hHeld ?reste4
        case hie4 => simp only [List.getElem?_toArray, List.getElem?_cons_succ, List.getElem?_cons_zero]; rfl
        case hQe4 => exact fun _ _ _ h => h
        case wae4 => rfl
        case hye4 => (intro w hSw; (try dsimp only at hSw); go_simp; (try with_reducible rfl))
        (try simp only [Act.put, List.setIfInBounds_toArray, List.set_cons_zero, List.set_cons_succ])
        refine Pe.Left.take (i := 5) (o := ?oe5) (v := ?ve5) ?hie5 (by kernel_rfl) (by decide) (by kernel_rfl) (by kernel_rfl) ?hQe5 (Or.inl ⟨?wae5, ?hye5⟩) hHeld ?reste5
        case hie5 => simp only [List.getElem?_toArray, List.getElem?_cons_succ, List.getElem?_cons_zero]; rfl
        case hQe5 => exact fun _ _ _ h => h
        case wae5 => rfl
        case hye5 => (intro w hSw; (try dsimp only at hSw); go_simp; (try with_reducible rfl))
        (try simp only [Act.put, List.setIfInBounds_toArray, List.set_cons_zero, List.set_cons_succ])
        refine Pe.Left.take (i := 6) (o := ?oe6) (v := ?ve6) ?hie6 (by kernel_rfl) (by decide) (by kernel_rfl) (by kernel_rfl) ?hQe6 (Or.inl ⟨?wae6, ?hye6⟩) hHeld ?reste6
        case hie6 => simp only [List.getElem?_toArray, List.getElem?_cons_succ, List.getElem?_cons_zero]; rfl
        case hQe6 => exact fun _ _ _ h => h
        case wae6 => rfl
        case hye6 => (intro w hSw; (try dsimp only at hSw); go_simp; (try with_reducible rfl))
        (try simp only [Act.put, List.setIfInBounds_toArray, List.set_cons_zero, List.set_cons_succ])
        refine Pe.Left.take (i := 8) (o := ?oe8) (v := ?ve8) ?hie8 (by kernel_rfl) (by decide) (by kernel_rfl) (by kernel_rfl) ?hQe8 (Or.inl ⟨?wae8, ?hye8⟩) hHeld ?reste8
        case hie8 => simp only [List.getElem?_toArray, List.getElem?_cons_succ, List.getElem?_cons_zero]; rfl
        case hQe8 => exact fun _ _ _ h => h
        case wae8 => rfl
        case hye8 => (intro w hSw; (try dsimp only at hSw); go_simp; (try with_reducible rfl))
        (try simp only [Act.put, List.setIfInBounds_toArray, List.set_cons_zero, List.set_cons_succ])
        refine Pe.Left.take (i := 9) (o := ?oe9) (v := ?ve9) ?hie9 (by kernel_rfl) (by decide) (by kernel_rfl) (by kernel_rfl) ?hQe9 (Or.inl ⟨?wae9, ?hye9⟩) hHeld ?reste9
        case hie9 => simp only [List.getElem?_toArray, List.getElem?_cons_succ, List.getElem?_cons_zero]; rfl
        case hQe9 => exact fun _ _ _ h => h
        case wae9 => rfl
        case hye9 => (intro w hSw; (try dsimp only at hSw); go_simp; (try with_reducible rfl))
        (try simp only [Act.put, List.setIfInBounds_toArray, List.set_cons_zero, List.set_cons_succ])
        refine Pe.Left.one (i := 7) (o := ?oe7) ?hie7 (by kernel_rfl) (by decide) (fun KK hK => ?reste7)
        case hie7 => simp only [List.getElem?_toArray, List.getElem?_cons_succ, List.getElem?_cons_zero]; rfl
        go_simp
        go_at_call 17
        refine (HL1.out _ hHeld.2).mono ?_
        rintro e w5 ⟨rfl, hb⟩
        have Bw5 := Ar.bt hHeld.2 hb
        have hSw5 := HS.out _ Bw5
        have Bw5 := Lib.hid Bw5
        clear hHeld hb
        (try go_wp2_with fail)
        refine hK.out _ _ ?_ (fun hHeld => ?_)
        · exact hSw5
        clear hK KK
        (try simp only [Act.put, List.setIfInBounds_toArray, List.set_cons_zero, List.set_cons_succ])
        refine Pe.Left.one (i := 10) (o := ?oe10) ?hie10 (by kernel_rfl) (by decide) (fun KK hK => ?reste10)
        case hie10 => simp only [List.getElem?_toArray, List.getElem?_cons_succ, List.getElem?_cons_zero]; rfl
        go_simp
        go_at_call 60
        refine (HR1.out _ hHeld.2).mono ?_
        rintro e w6 ⟨rfl, hb⟩
        have Bw6 := Ar.bt hHeld.2 hb
        have hSw6 := HS.out _ Bw6
        have Bw6 := Lib.hid Bw6
        clear hHeld hb
        (try go_wp2_with fail)
        refine hK.out _ _ ?_ (fun hHeld => ?_)
        · exact hSw6
        clear hK KK
        (try simp only [Act.put, List.setIfInBounds_toArray, List.set_cons_zero, List.set_cons_succ])
        refine Pe.Left.take (i := 11) (o := ?oe11) (v := ?ve11) ?hie11 (by kernel_rfl) (by decide) (by kernel_rfl) (by kernel_rfl) ?hQe11 (Or.inl ⟨?wae11, ?hye11⟩) hHeld ?reste11
        case hie11 => simp only [List.getElem?_toArray, List.getElem?_cons_succ, List.getElem?_cons_zero]; rfl
        case hQe11 => exact fun _ _ _ h => h
        case wae11 => rfl
        case hye11 => (intro w hSw; (try dsimp only at hSw); go_simp; (try with_reducible rfl))
        (try simp only [Act.put, List.setIfInBounds_toArray, List.set_cons_zero, List.set_cons_succ])
        refine Pe.Left.take (i := 12) (o := ?oe12) (v := ?ve12) ?hie12 (by kernel_rfl) (by decide) (by kernel_rfl) (by kernel_rfl) ?hQe12 (Or.inl ⟨?wae12, ?hye12⟩) hHeld ?reste12
        case hie12 => simp only [List.getElem?_toArray, List.getElem?_cons_succ, List.getElem?_cons_zero]; rfl
        case hQe12 => exact fun _ _ _ h => h
        case wae12 => rfl
        case hye12 => (intro w hSw; (try dsimp only at hSw); go_simp; (try with_reducible rfl))
        (try simp only [Act.put, List.setIfInBounds_toArray, List.set_cons_zero, List.set_cons_succ])
        refine Pe.Left.take (i := 13) (o := ?oe13) (v := ?ve13) ?hie13 (by kernel_rfl) (by decide) (by kernel_rfl) (by kernel_rfl) ?hQe13 (Or.inl ⟨?wae13, ?hye13⟩) hHeld ?reste13
        case hie13 => simp only [List.getElem?_toArray, List.getElem?_cons_succ, List.getElem?_cons_zero]; rfl
        case hQe13 => exact fun _ _ _ h => h
        case wae13 => rfl
        case hye13 => (intro w hSw; (try dsimp only at hSw); go_simp; (try with_reducible rfl))
        (try simp only [Act.put, List.setIfInBounds_toArray, List.set_cons_zero, List.set_cons_succ])
        refine Pe.Left.take (i := 14) (o := ?oe14) (v := ?ve14) ?hie14 (by kernel_rfl) (by decide) (by kernel_rfl) (by kernel_rfl) ?hQe14 (Or.inl ⟨?wae14, ?hye14⟩) hHeld ?reste14
        case hie14 => simp only [List.getElem?_toArray, List.getElem?_cons_succ, List.getElem?_cons_zero]; rfl
        case hQe14 => exact fun _ _ _ h => h
        case wae14 => rfl
        case hye14 => (intro w hSw; (try dsimp only at hSw); go_simp; (try with_reducible rfl))
        (try simp only [Act.put, List.setIfInBounds_toArray, List.set_cons_zero, List.set_cons_succ])
        refine Pe.Left.take (i := 15) (o := ?oe15) (v := ?ve15) ?hie15 (by kernel_rfl) (by decide) (by kernel_rfl) (by kernel_rfl) ?hQe15 (Or.inl ⟨?wae15, ?hye15⟩) hHeld ?reste15
        case hie15 => simp only [List.getElem?_toArray, List.getElem?_cons_succ, List.getElem?_cons_zero]; rfl
        case hQe15 => exact fun _ _ _ h => h
        case wae15 => rfl
        case hye15 => (intro w hSw; (try dsimp only at hSw); go_simp; (try with_reducible rfl))
        (try simp only [Act.put, List.setIfInBounds_toArray, List.set_cons_zero, List.set_cons_succ])
        refine Pe.Left.take (i := 16) (o := ?oe16) (v := ?ve16) ?hie16 (by kernel_rfl) (by decide) (by kernel_rfl) (by kernel_rfl) ?hQe16 (Or.inl ⟨?wae16, ?hye16⟩) hHeld ?reste16
        case hie16 => simp only [List.getElem?_toArray, List.getElem?_cons_succ, List.getElem?_cons_zero]; rfl
        case hQe16 => exact fun _ _ _ h => h
        case wae16 => rfl
        case hye16 => (intro w hSw; (try dsimp only at hSw); go_simp; (try with_reducible rfl))
        (try simp only [Act.put, List.setIfInBounds_toArray, List.set_cons_zero, List.set_cons_succ])
        refine Pe.Left.take (i := 17) (o := ?oe17) (v := ?ve17) ?hie17 (by kernel_rfl) (by decide) (by kernel_rfl) (by kernel_rfl) ?hQe17 (Or.inl ⟨?wae17, ?hye17⟩) hHeld ?reste17
        case hie17 => simp only [List.getElem?_toArray, List.getElem?_cons_succ, List.getElem?_cons_zero]; rfl
        case hQe17 => exact fun _ _ _ h => h
        case wae17 => rfl
        case hye17 => (intro w hSw; (try dsimp only at hSw); go_simp; (try with_reducible rfl))
        (try simp only [Act.put, List.setIfInBounds_toArray, List.set_cons_zero, List.set_cons_succ])
        refine Pe.Left.take (i := 18) (o := ?oe18) (v := ?ve18) ?hie18 (by kernel_rfl) (by decide) (by kernel_rfl) (by kernel_rfl) ?hQe18 (Or.inl ⟨?wae18, ?hye18⟩) hHeld ?reste18
        case hie18 => simp only [List.getElem?_toArray, List.getElem?_cons_succ, List.getElem?_cons_zero]; rfl
        case hQe18 => exact fun _ _ _ h => h
        case wae18 => rfl
        case hye18 => (intro w hSw; (try dsimp only at hSw); go_simp; (try with_reducible rfl))
        (try simp only [Act.put, List.setIfInBounds_toArray, List.set_cons_zero, List.set_cons_succ])
        refine Pe.Left.take (i := 19) (o := ?oe19) (v := ?ve19) ?hie19 (by kernel_rfl) (by decide) (by kernel_rfl) (by kernel_rfl) ?hQe19 (Or.inl ⟨?wae19, ?hye19⟩) hHeld ?reste19
        case hie19 => simp only [List.getElem?_toArray, List.getElem?_cons_succ, List.getElem?_cons_zero]; rfl
        case hQe19 => exact fun _ _ _ h => h
        case wae19 => rfl
        case hye19 => (intro w hSw; (try dsimp only at hSw); go_simp; (try with_reducible rfl))
        (try simp only [Act.put, List.setIfInBounds_toArray, List.set_cons_zero, List.set_cons_succ])
        refine Pe.Left.take (i := 21) (o := ?oe21) (v := ?ve21) ?hie21 (by kernel_rfl) (by decide) (by kernel_rfl) (by kernel_rfl) ?hQe21 (Or.inl ⟨?wae21, ?hye21⟩) hHeld ?reste21
        case hie21 => simp only [List.getElem?_toArray, List.getElem?_cons_succ, List.getElem?_cons_zero]; rfl
        case hQe21 => exact fun _ _ _ h => h
        case wae21 => rfl
        case hye21 => (intro w hSw; (try dsimp only at hSw); go_simp; (try with_reducible rfl))
        (try simp only [Act.put, List.setIfInBounds_toArray, List.set_cons_zero, List.set_cons_succ])
        refine Pe.Left.take (i := 22) (o := ?oe22) (v := ?ve22) ?hie22 (by kernel_rfl) (by decide) (by kernel_rfl) (by kernel_rfl) ?hQe22 (Or.inl ⟨?wae22, ?hye22⟩) hHeld ?reste22
        case hie22 => simp only [List.getElem?_toArray, List.getElem?_cons_succ, List.getElem?_cons_zero]; rfl
        case hQe22 => exact fun _ _ _ h => h
        case wae22 => rfl
        case hye22 => (intro w hSw; (try dsimp only at hSw); go_simp; (try with_reducible rfl))
        (try simp only [Act.put, List.setIfInBounds_toArray, List.set_cons_zero, List.set_cons_succ])
        refine Pe.Left.take (i := 23) (o := ?oe23) (v := ?ve23) ?hie23 (by kernel_rfl) (by decide) (by kernel_rfl) (by kernel_rfl) ?hQe23 (Or.inl ⟨?wae23, ?hye23⟩) hHeld ?reste23
        case hie23 => simp only [List.getElem?_toArray, List.getElem?_cons_succ, List.getElem?_cons_zero]; rfl
        case hQe23 => exact fun _ _ _ h => h
        case wae23 => rfl
        case hye23 => (intro w hSw; (try dsimp only at hSw); go_simp; (try with_reducible rfl))
        (try simp only [Act.put, List.setIfInBounds_toArray, List.set_cons_zero, List.set_cons_succ])
        refine Pe.Left.take (i := 24) (o := ?oe24) (v := ?ve24) ?hie24 (by kernel_rfl) (by decide) (by kernel_rfl) (by kernel_rfl) ?hQe24 (Or.inl ⟨?wae24, ?hye24⟩) hHeld ?reste24
        case hie24 => simp only [List.getElem?_toArray, List.getElem?_cons_succ, List.getElem?_cons_zero]; rfl
        case hQe24 => exact fun _ _ _ h => h
        case wae24 => rfl
        case hye24 => (intro w hSw; (try dsimp only at hSw); go_simp; (try with_reducible rfl))
        (try simp only [Act.put, List.setIfInBounds_toArray, List.set_cons_zero, List.set_cons_succ])
        refine Pe.Left.take (i := 25) (o := ?oe25) (v := ?ve25) ?hie25 (by kernel_rfl) (by decide) (by kernel_rfl) (by kernel_rfl) ?hQe25 (Or.inl ⟨?wae25, ?hye25⟩) hHeld ?reste25
        case hie25 => simp only [List.getElem?_toArray, List.getElem?_cons_succ, List.getElem?_cons_zero]; rfl
        case hQe25 => exact fun _ _ _ h => h
        case wae25 => rfl
        case hye25 => (intro w hSw; (try dsimp only at hSw); go_simp; (try with_reducible rfl))
        (try simp only [Act.put, List.setIfInBounds_toArray, List.set_cons_zero, List.set_cons_succ])
        refine Pe.Left.take (i := 26) (o := ?oe26) (v := ?ve26) ?hie26 (by kernel_rfl) (by decide) (by kernel_rfl) (by kernel_rfl) ?hQe26 (Or.inl ⟨?wae26, ?hye26⟩) hHeld ?reste26
        case hie26 => simp only [List.getElem?_toArray, List.getElem?_cons_succ, List.getElem?_cons_zero]; rfl
        case hQe26 => exact fun _ _ _ h => h
        case wae26 => rfl
        case hye26 => (intro w hSw; (try dsimp only at hSw); go_simp; (try with_reducible rfl))
        (try simp only [Act.put, List.setIfInBounds_toArray, List.set_cons_zero, List.set_cons_succ])
        refine Pe.Left.one (i := 20) (o := ?oe20) ?hie20 (by kernel_rfl) (by decide) (fun KK hK => ?reste20)
        case hie20 => simp only [List.getElem?_toArray, List.getElem?_cons_succ, List.getElem?_cons_zero]; rfl
        go_simp
        go_at_call 17
        refine (HL2.out _ hHeld.2).mono ?_
        rintro e w7 ⟨rfl, hb⟩
        have Bw7 := Ar.bt hHeld.2 hb
        have hSw7 := HS.out _ Bw7
        have Bw7 := Lib.hid Bw7
        clear hHeld hb
        (try go_wp2_with fail)
        refine hK.out _ _ ?_ (fun hHeld => ?_)
        · exact hSw7
        clear hK KK
        (try simp only [Act.put, List.setIfInBounds_toArray, List.set_cons_zero, List.set_cons_succ])
        refine Pe.Left.one (i := 27) (o := ?oe27) ?hie27 (by kernel_rfl) (by decide) (fun KK hK => ?reste27)
        case hie27 => simp only [List.getElem?_toArray, List.getElem?_cons_succ, List.getElem?_cons_zero]; rfl
        go_simp
        go_at_call 60
        refine (HR2.out _ hHeld.2).mono ?_
        rintro e w8 ⟨rfl, hb⟩
        have Bw8 := Ar.bt hHeld.2 hb
        have hSw8 := HS.out _ Bw8
        have Bw8 := Lib.hid Bw8
        clear hHeld hb
        (try go_wp2_with fail)
        refine hK.out _ _ ?_ (fun hHeld => ?_)
        · exact hSw8
        clear hK KK
        (try simp only [Act.put, List.setIfInBounds_toArray, List.set_cons_zero, List.set_cons_succ])
        refine Pe.Left.take (i := 28) (o := ?oe28) (v := ?ve28) ?hie28 (by kernel_rfl) (by decide) (by kernel_rfl) (by kernel_rfl) ?hQe28 (Or.inl ⟨?wae28, ?hye28⟩) hHeld ?reste28
        case hie28 => simp only [List.getElem?_toArray, List.getElem?_cons_succ, List.getElem?_cons_zero]; rfl
        case hQe28 => exact fun _ _ _ h => h
        case wae28 => rfl
        case hye28 => (intro w hSw; (try dsimp only at hSw); go_simp; (try with_reducible rfl))
        (try simp only [Act.put, List.setIfInBounds_toArray, List.set_cons_zero, List.set_cons_succ])
        refine Pe.Left.last (o := ?oeZ) ?hieZ (by kernel_rfl) (by kernel_rfl) (fun KK hK => ?resteZ)
        case hieZ => simp only [List.getElem?_toArray, List.getElem?_cons_succ, List.getElem?_cons_zero]; rfl
        go_simp
        refine hK.out _ _ ?_
        clear hK KK hHeld
        have T3 := Lib.hid (T2.out.on X Bw8.out)
        clear T2 HS HSm HL1 HR1 HL2 HR2 Bw8 hSw8 Bw4 hSw4 Bw5 hSw5 Bw6 hSw6 Bw7 hSw7 bb1 bb2
        go_wp2
        go_roundw
        case rel => exact ⟨i + 1, a8, all6, by omega, by omega, hX6, by omega, by rfl, ⟨Q8, T3.out⟩⟩
        case measure => simp [intOf]; omega
    · have qq : decide ((i : Int) < (sx.length : Int)) = false ∨ (decide ((i : Int) < (sx.length : Int)) = true ∧ decide ((i : Int) < 50) = false) := by
        by_cases c : i < sx.length
        · exact .inr ⟨decide_eq_true (by omega), decide_eq_false (by omega)⟩
        · exact .inl (decide_eq_false (by omega))
      obtain ⟨Q, hTT⟩ := hT.out
      have BE := Lib.hid hTT.st.below
      clear hT hlt hTT
      rcases qq with q1 | ⟨q1, q2⟩
      all_goals
        (try have z1 : decide (i < sx.length) = false := decide_eq_false (by simpa using q1))
        (try have z2 : decide (i < 50) = false := decide_eq_false (by simpa using q2))
        (try have z3 : decide (i < sx.length) = true := decide_eq_true (by simpa using q1))
        go_wp2_with fail
        refine (HK.out _ BE.out).mono ?_
        rintro e w3 ⟨rfl, hb⟩
        have B3 := Lib.hid hb
        clear hb
        go_wp2
        go_ret
        exact ⟨rfl, B3.out⟩
end
end Go.Proofs.Ytniccjbcchdkoaa
