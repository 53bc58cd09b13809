/- The walk of FreelistPlays. -/
import Derived.Test.YtndpknkdmaojaaaDoorPackFLaw
import Derived.Deep.DeepCutAuto
import Derived.Deep.CutBlock
namespace Go.Proofs.YtndpknkdmaojaaaDoor
open Go.RowKit

set_option maxRecDepth 100000 in
set_option maxHeartbeats 8000000 in
theorem freelistPlays_walk (n g : Int) (sr : FL.Src) (w : World) (_ : -9223372036854775808 ≤ n) (_ : n < 9223372036854775808) (_ : -9223372036854775808 ≤ g) (_ : g < 9223372036854775808) (hs : FL.ArgOk w sr) (hp : H.Pow w.heap.size w) :
    Calls Tryd.prog 3 #[.int .i64 n, .int .i64 g, .slice sr.a sr.x.length sr.c] w fun e w' => e = .returned (.bool true) ∧ Below w.heap.size w w' := by
  have HK : Hid (∀ W, Below w.heap.size w W → Calls Tryd.prog 19 #[] W (fun e w' => e = .returned (.bool true) ∧ Below W.heap.size W w')) := fun W hb => awake11_any W (H.Pow.go hp hb)
  obtain ⟨n1, n2, n3⟩ := FL.nn_bd n
  obtain ⟨g1, g2, g3⟩ := FL.gg_bd g
  have M8 : Hid (∀ W, Calls Tryd.prog 11 #[.int .i64 n, .int .i64 8] W fun x w' => x = .returned (.int .i64 (n % 8)) ∧ W = w') := fun W => mod11_any n 8 (by omega) (by omega) W
  have M4 : Hid (∀ (m : Int) W, Calls Tryd.prog 11 #[.int .i64 m, .int .i64 4] W fun x w' => x = .returned (.int .i64 (m % 4)) ∧ W = w') := fun m W => mod11_any m 4 (by omega) (by omega) W
  have MX : Hid (∀ (m : Int) (l : Nat) W, 1 ≤ l → l ≤ 1000000000 → Calls Tryd.prog 11 #[.int .i64 m, .int .i64 (l : Int)] W fun x w' => x = .returned (.int .i64 (m % (l : Int))) ∧ W = w') := fun m l W h1 h2 => mod11_any m l (by omega) (by omega) W
  have H1 := Lib.hid (new11_ok (FL.nn n) (FL.gg g) (by omega) (by omega) (by omega) (by omega) w)
  have H2 : Hid (∀ W, Calls Tryd.prog 12 #[.int .i64 (FL.nn n : Int), .int .u64 (FL.gg g : Int)] W fun e w' => ∃ p R, e = .returned (.tuple #[FL.ptr p, .int .i64 0]) ∧ FL.ROwn w' p (FL.new (FL.nn n) (FL.gg g)) R ∧ Below W.heap.size W w' ∧ ∀ k, R k → W.heap.size ≤ k) := fun W => refNew11_ok (FL.nn n) (FL.gg g) (by omega) (by omega) (by omega) (by omega) W
  have nb := Int.emod_nonneg n (show (8 : Int) ≠ 0 by omega)
  have nc := Int.emod_lt_of_pos n (show (0 : Int) < 8 by omega)
  have gb := Int.emod_nonneg g (show (4 : Int) ≠ 0 by omega)
  have gc := Int.emod_lt_of_pos g (show (0 : Int) < 4 by omega)
  have hN := FL.stk_len (FL.inv_new (n := FL.nn n) (g := FL.gg g) n1 (by omega) g1 (by omega))
  generalize FL.new (FL.nn n) (FL.gg g) = s0 at *
  obtain ⟨ni, hni⟩ : ∃ ni : Int, ((FL.nn n : Nat) : Int) = ni := ⟨_, rfl⟩
  obtain ⟨gi, hgi⟩ : ∃ gi : Int, ((FL.gg g : Nat) : Int) = gi := ⟨_, rfl⟩
  rw [hni] at H1 H2 n3
  rw [hgi] at H1 H2 g3
  have M4g := Lib.hid (M4.out g)
  have cv : IntKind.u64.wrap gi = gi := by rw [← hgi]; exact H.u64_in _ (by omega)
  clear hp hni hgi hN n1 n2 g1 g2
  generalize n % 8 = nz at *
  generalize g % 4 = gz at *
  obtain ⟨sa, sc, sx⟩ := sr
  have HR : Hid (FL.DRow w sa sx) := hs.row
  have HF : Hid (∀ d ∈ sx, FL.Fit d) := hs.fits
  have hl : sx.length ≤ 1000000000000000 := hs.len
  dsimp only
  clear hs
  go_enter Tryd.func3, Tryd.ntmps3
  go_wp2_with fail
  refine (M8.out _).mono ?_
  rintro e w1 ⟨rfl, rfl⟩
  go_wp2_with fail
  refine (M4g.out _).mono ?_
  rintro e w1 ⟨rfl, rfl⟩
  go_wp2_with fail
  refine H1.out.mono ?_
  rintro e w1 ⟨p, R, rfl, ho, hb, hn⟩
  have A1 := Lib.hid (show FL.Own w1 p s0 R ∧ Below w.heap.size w w1 ∧ ∀ k, R k → w.heap.size ≤ k from ⟨ho, hb, hn⟩)
  clear ho hb hn H1
  go_wp2_with fail
  refine (M8.out _).mono ?_
  rintro e w2 ⟨rfl, rfl⟩
  go_wp2_with fail
  refine (M4g.out _).mono ?_
  rintro e w2 ⟨rfl, rfl⟩
  go_wp2_with fail
  refine (H2.out _).mono ?_
  rintro e w2 ⟨q, Q, rfl, ho, hb, hn⟩
  obtain ⟨B, hB⟩ : ∃ B, w2.heap.size = B := ⟨_, rfl⟩
  have T : Hid (FL.Two w p q R Q s0 s0 B w2) := by
    rw [← hB]; exact FL.Two.make A1.out.1 A1.out.2.1 A1.out.2.2 ho hb hn
  have wB : w.heap.size ≤ B := by rw [← hB]; exact T.out.below.size
  clear ho hb hn A1 hB H2 M8 M4g cv nb nc gb gc n3 g3
  go_wp2
  go_loopw [11, 12] (fun v j wr => ∃ (i : Nat) (s : FL.S) (X : List Nat), i ≤ sx.length ∧ i ≤ 60 ∧ X.length ≤ i ∧ j = .int .i64 i ∧ Hid (FL.Two w p q R Q s s B wr ∧ FL.Al B X v wr)) (fun _ j _ => 60 - (intOf j).toNat)
  case atStart => exact ⟨0, _, _, Nat.zero_le _, Nat.zero_le _, Nat.zero_le _, rfl, T.out, FL.Al.nil _ _⟩
  case round =>
    obtain ⟨i, s, X, hi, hi6, hX, rfl, hT⟩ := hrel
    clear T
    by_cases hlt : i < sx.length ∧ i < 60
    · obtain ⟨h1, h2⟩ := hlt
      have q1 : decide ((i : Int) < (sx.length : Int)) = true := by simp; omega
      have q2 : decide ((i : Int) < 60) = true := by simp; omega
      obtain ⟨d, hd⟩ : ∃ d, sx[i]? = some d := ⟨_, List.getElem?_eq_getElem h1⟩
      have hf := Lib.hid (HF.out d (List.mem_of_getElem? hd))
      obtain ⟨bb, oo, ea, lb, c0, c1, c2⟩ := HR.out i d hd
      have hB := hT.out.1.below
      have c0 := H.cell hB lb c0
      have c1 := H.cell hB lb c1
      have c2 := H.cell hB lb c2
      subst ea
      clear hB lb hd
      obtain ⟨va, vc, hv, _⟩ := hT.out.2.slice
      subst hv
      have hvb : Hid (∀ k, (Value.slice va X.length vc).ownBlock = some k → k < wr.heap.size) := fun k e => (hT.out.2.own.lt k e).2
      have BX : Hid (FL.Bx (wr.alloc (.cells #[.int .i64 d.kind, .int .i64 d.k, .int .u64 d.h] 35)) wr.heap.size d) := by
        have e := fun (j : Nat) (u : Value) (hu : (#[.int .i64 d.kind, .int .i64 d.k, .int .u64 d.h] : Array Value)[j]? = some u) => show (wr.alloc (.cells #[.int .i64 d.kind, .int .i64 d.k, .int .u64 d.h] 35)).cell? ⟨wr.heap.size, j, none⟩ = some u by rw [Lib.cell_of_heap (heap_alloc_new wr _)]; exact hu
        exact ⟨by simp, e 0 _ rfl, e 1 _ rfl, e 2 _ rfl⟩
      have T1 : Hid (FL.Two w p q R Q s s B (wr.alloc (.cells #[.int .i64 d.kind, .int .i64 d.k, .int .u64 d.h] 35)) ∧ FL.Al B X (.slice va X.length vc) (wr.alloc (.cells #[.int .i64 d.kind, .int .i64 d.k, .int .u64 d.h] 35))) :=
        ⟨hT.out.1.on ((Below.refl _ _).alloc (Nat.le_refl _) _), hT.out.2.on ((Below.refl _ _).alloc (Nat.le_refl _) _)⟩
      have hBb := hT.out.1.size
      go_upto_region 10 with (fail)
      generalize wr.alloc (.cells #[.int .i64 d.kind, .int .i64 d.k, .int .u64 d.h] 35) = W1 at BX T1 ⊢
      generalize wr.heap.size = b at *
      clear hT c0 c1 c2
      obtain ⟨hN, hhN⟩ := Int.eq_ofNat_of_zero_le hf.out.h0
      have hN1 : hN ≤ 18446744073709551615 := by have := hf.out.h1; omega
      obtain ⟨e0, e1, e2⟩ : W1.cell? ⟨b, 0, none⟩ = some (.int .i64 d.kind) ∧ W1.cell? ⟨b, 1, none⟩ = some (.int .i64 d.k) ∧ W1.cell? ⟨b, 2, none⟩ = some (.int .u64 (hN : Int)) := ⟨BX.out.c0, BX.out.c1, by rw [BX.out.c2, hhN]⟩
      have MK := Lib.hid (M4.out d.kind)
      have kb := Int.emod_nonneg d.kind (show (4 : Int) ≠ 0 by omega)
      have kc := Int.emod_lt_of_pos d.kind (show (0 : Int) < 4 by omega)
      clear hhN
      go_wp2_with fail
      refine (MK.out _).mono ?_
      rintro e w3 ⟨rfl, rfl⟩
      obtain ⟨m, hm⟩ : ∃ m, d.kind % 4 = m := ⟨_, rfl⟩
      rw [hm] at kb kc ⊢
      clear hm MK e0
      go_upto_block 2 with (fail)
      go_cut [11, 14] (fun v hv wx => ∃ (s' : FL.S) (X' : List Nat) (y : Nat), hv = .int .u64 (y : Int) ∧ Hid (y ≤ 18446744073709551615) ∧ Hid (X'.length ≤ i + 1) ∧ Hid (FL.Two w p q R Q s' s' B wx ∧ FL.Al B X' v wx ∧ FL.Bx wx b d))
      case first =>
        have T0 : Hid (FL.Two w p q R Q s s B W1 ∧ FL.Al B X (.slice va X.length vc) W1 ∧ FL.Bx W1 b d) := ⟨T1.out.1, T1.out.2, BX.out⟩
        have hzl : Hid (s.tkH ≤ 18446744073709551615) := FL.tkH_le T1.out.1.x.inv
        have hE : s.tkE = 0 ∨ s.tkE = 6 := by unfold FL.S.tkE; split <;> simp
        have hN2 := Lib.hid hN1
        clear T1 BX hN1
        rcases (show m = 0 ∨ m = 1 ∨ m = 2 ∨ m = 3 by omega) with rfl | rfl | rfl | rfl
        · clear kb kc e1 e2
          go_wp2_with fail
          refine T0.out.1.takeX.mono ?_
          rintro e w4 ⟨rfl, t, hb⟩
          have T2 : Hid (FL.Two w p q R Q s.tk s B w4 ∧ FL.Al B X (.slice va X.length vc) w4 ∧ FL.Bx w4 b d) := ⟨t, T0.out.2.1.but hb, T0.out.2.2.but hBb hb⟩
          clear t hb T0
          go_wp2_with fail
          refine T2.out.1.takeY.mono ?_
          rintro e w5 ⟨rfl, t, hb⟩
          have T3 : Hid (FL.Two w p q R Q s.tk s.tk B w5 ∧ FL.Al B X (.slice va X.length vc) w5 ∧ FL.Bx w5 b d) := ⟨t, T2.out.2.1.but hb, T2.out.2.2.but hBb hb⟩
          clear t hb T2
          obtain ⟨z, hz⟩ : ∃ z, s.tkH = z := ⟨_, rfl⟩
          rw [hz] at hzl ⊢
          obtain ⟨zi, hzi⟩ : ∃ zi : Int, Hid ((z : Int) = zi) := ⟨_, rfl⟩
          rw [hzi.out]
          have q5 : (zi != zi) = false := by simp
          clear hz
          rcases hE with hE | hE
          · rw [hE]
            have hle : X.length ≤ 1000000000 := by omega
            have hbs := T3.out.1.size
            go_wp2_with (at_builtin; refine H.append_one rfl _ _ rfl B (.slice va X.length vc) X ?hs T3.out.2.1.own zi z hzi.out 1 ?a0 hle hbs ?_)
            case hs => rfl
            case a0 => rfl
            intro Z v' w6 hZ hO hg
            have T4 : Hid (FL.Two w p q R Q s.tk s.tk B w6 ∧ FL.Al B Z v' w6 ∧ FL.Bx w6 b d) := by
              refine ⟨T3.out.1.grown hg (fun k e => (T3.out.2.1.own.lt k e).1) wB, ⟨hO, fun x hx => ?_⟩, T3.out.2.2.grown hg hvb.out⟩
              rw [hZ.out] at hx
              rcases List.mem_append.1 hx with hx | hx
              · exact T3.out.2.1.le x hx
              · rw [List.mem_singleton.1 hx]; exact hzl.out
            have hZl : Hid (Z.length ≤ i + 1) := by show _ ≤ _; rw [hZ.out, List.length_append]; simp; omega
            obtain ⟨vo', vc', hv', _⟩ := T4.out.2.1.slice
            subst hv'
            clear hO hg hZ T3
            go_wp2
            go_meet
            case rel => exact ⟨s.tk, Z, z, by rw [hzi.out], hzl.out, hZl.out, T4.out⟩
          · rw [hE]
            go_wp2
            go_meet
            case rel => exact ⟨s.tk, X, z, by rw [hzi.out], hzl.out, by show _ ≤ _; omega, T3.out⟩
        · clear kb kc e1 e2
          go_wp2_with fail
          refine T0.out.1.takeX.mono ?_
          rintro e w4 ⟨rfl, t, hb⟩
          have T2 : Hid (FL.Two w p q R Q s.tk s B w4 ∧ FL.Al B X (.slice va X.length vc) w4 ∧ FL.Bx w4 b d) := ⟨t, T0.out.2.1.but hb, T0.out.2.2.but hBb hb⟩
          clear t hb T0
          go_wp2_with fail
          refine T2.out.1.takeY.mono ?_
          rintro e w5 ⟨rfl, t, hb⟩
          have T3 : Hid (FL.Two w p q R Q s.tk s.tk B w5 ∧ FL.Al B X (.slice va X.length vc) w5 ∧ FL.Bx w5 b d) := ⟨t, T2.out.2.1.but hb, T2.out.2.2.but hBb hb⟩
          clear t hb T2
          obtain ⟨z, hz⟩ : ∃ z, s.tkH = z := ⟨_, rfl⟩
          rw [hz] at hzl ⊢
          obtain ⟨zi, hzi⟩ : ∃ zi : Int, Hid ((z : Int) = zi) := ⟨_, rfl⟩
          rw [hzi.out]
          have q5 : (zi != zi) = false := by simp
          clear hz
          rcases hE with hE | hE
          · rw [hE]
            have hle : X.length ≤ 1000000000 := by omega
            have hbs := T3.out.1.size
            go_wp2_with (at_builtin; refine H.append_one rfl _ _ rfl B (.slice va X.length vc) X ?hs T3.out.2.1.own zi z hzi.out 1 ?a0 hle hbs ?_)
            case hs => rfl
            case a0 => rfl
            intro Z v' w6 hZ hO hg
            have T4 : Hid (FL.Two w p q R Q s.tk s.tk B w6 ∧ FL.Al B Z v' w6 ∧ FL.Bx w6 b d) := by
              refine ⟨T3.out.1.grown hg (fun k e => (T3.out.2.1.own.lt k e).1) wB, ⟨hO, fun x hx => ?_⟩, T3.out.2.2.grown hg hvb.out⟩
              rw [hZ.out] at hx
              rcases List.mem_append.1 hx with hx | hx
              · exact T3.out.2.1.le x hx
              · rw [List.mem_singleton.1 hx]; exact hzl.out
            have hZl : Hid (Z.length ≤ i + 1) := by show _ ≤ _; rw [hZ.out, List.length_append]; simp; omega
            obtain ⟨vo', vc', hv', _⟩ := T4.out.2.1.slice
            subst hv'
            clear hO hg hZ T3
            go_wp2
            go_meet
            case rel => exact ⟨s.tk, Z, z, by rw [hzi.out], hzl.out, hZl.out, T4.out⟩
          · rw [hE]
            go_wp2
            go_meet
            case rel => exact ⟨s.tk, X, z, by rw [hzi.out], hzl.out, by show _ ≤ _; omega, T3.out⟩
        · clear kb kc hE hzl
          by_cases hX0 : 0 < X.length
          · have q7 : decide ((0 : Int) < (X.length : Int)) = true := by simp; omega
            have HMX := Lib.hid (MX.out d.k X.length W1 hX0 (by omega))
            have j0 := Int.emod_nonneg d.k (show (X.length : Int) ≠ 0 by omega)
            have j1 := Int.emod_lt_of_pos d.k (show (0 : Int) < (X.length : Int) by omega)
            obtain ⟨j, hj⟩ := Int.eq_ofNat_of_zero_le j0
            rw [hj] at HMX j1
            have jl : j < X.length := by omega
            obtain ⟨y, hy⟩ : ∃ y, X[j]? = some y := ⟨_, List.getElem?_eq_getElem jl⟩
            have hyl := Lib.hid (T0.out.2.1.le y (List.mem_of_getElem? hy))
            obtain ⟨va', vc', hv', hr⟩ := T0.out.2.1.slice
            cases hv'
            obtain ⟨b1, o1, ea, l1, cy⟩ := H.row_at hr hy
            subst ea
            clear hj j0 hr hy l1 hvb
            go_wp2_with fail
            refine HMX.out.mono ?_
            rintro e w3 ⟨rfl, rfl⟩
            go_wp2_with fail
            refine (T0.out.1.giveX y hyl.out).mono ?_
            rintro e w4 ⟨rfl, t, hb⟩
            have T2 : Hid (FL.Two w p q R Q (s.gv y) s B w4 ∧ FL.Al B X (.slice (some ⟨b1, o1, none⟩) X.length vc) w4 ∧ FL.Bx w4 b d) := ⟨t, T0.out.2.1.but hb, T0.out.2.2.but hBb hb⟩
            clear t hb T0
            go_wp2_with fail
            refine (T2.out.1.giveY y hyl.out).mono ?_
            rintro e w5 ⟨rfl, t, hb⟩
            have T3 : Hid (FL.Two w p q R Q (s.gv y) (s.gv y) B w5 ∧ FL.Al B X (.slice (some ⟨b1, o1, none⟩) X.length vc) w5 ∧ FL.Bx w5 b d) := ⟨t, T2.out.2.1.but hb, T2.out.2.2.but hBb hb⟩
            clear t hb T2
            generalize s.gvB y = bv at *
            generalize s.gvE y = ev at *
            have q5 : (bv != bv) = false := by simp
            have q6 : (ev != ev) = false := by simp
            go_wp2
            go_meet
            case rel => exact ⟨s.gv y, X, y, rfl, hyl.out, by show _ ≤ _; omega, T3.out⟩
          · have q7 : decide ((0 : Int) < (X.length : Int)) = false := decide_eq_false (by omega)
            go_wp2_with fail
            refine (T0.out.1.giveX hN hN2.out).mono ?_
            rintro e w4 ⟨rfl, t, hb⟩
            have T2 : Hid (FL.Two w p q R Q (s.gv hN) s B w4 ∧ FL.Al B X (.slice va X.length vc) w4 ∧ FL.Bx w4 b d) := ⟨t, T0.out.2.1.but hb, T0.out.2.2.but hBb hb⟩
            clear t hb T0
            go_wp2_with fail
            refine (T2.out.1.giveY hN hN2.out).mono ?_
            rintro e w5 ⟨rfl, t, hb⟩
            have T3 : Hid (FL.Two w p q R Q (s.gv hN) (s.gv hN) B w5 ∧ FL.Al B X (.slice va X.length vc) w5 ∧ FL.Bx w5 b d) := ⟨t, T2.out.2.1.but hb, T2.out.2.2.but hBb hb⟩
            clear t hb T2
            generalize s.gvB hN = bv at *
            generalize s.gvE hN = ev at *
            have q5 : (bv != bv) = false := by simp
            have q6 : (ev != ev) = false := by simp
            go_wp2
            go_meet
            case rel => exact ⟨s.gv hN, X, hN, rfl, hN2.out, by show _ ≤ _; omega, T3.out⟩
        · clear kb kc hE hzl
          go_wp2_with fail
          refine (T0.out.1.giveX hN hN2.out).mono ?_
          rintro e w4 ⟨rfl, t, hb⟩
          have T2 : Hid (FL.Two w p q R Q (s.gv hN) s B w4 ∧ FL.Al B X (.slice va X.length vc) w4 ∧ FL.Bx w4 b d) := ⟨t, T0.out.2.1.but hb, T0.out.2.2.but hBb hb⟩
          clear t hb T0
          go_wp2_with fail
          refine (T2.out.1.giveY hN hN2.out).mono ?_
          rintro e w5 ⟨rfl, t, hb⟩
          have T3 : Hid (FL.Two w p q R Q (s.gv hN) (s.gv hN) B w5 ∧ FL.Al B X (.slice va X.length vc) w5 ∧ FL.Bx w5 b d) := ⟨t, T2.out.2.1.but hb, T2.out.2.2.but hBb hb⟩
          clear t hb T2
          generalize s.gvB hN = bv at *
          generalize s.gvE hN = ev at *
          have q5 : (bv != bv) = false := by simp
          have q6 : (ev != ev) = false := by simp
          go_wp2
          go_meet
          case rel => exact ⟨s.gv hN, X, hN, rfl, hN2.out, by show _ ≤ _; omega, T3.out⟩
      case rest =>
        obtain ⟨s', X', y, rfl, hy, hX', hT⟩ := hcut
        clear T1 BX e1 e2 hvb
        obtain ⟨va', vc', hv, _⟩ := hT.out.2.1.slice
        subst hv
        obtain ⟨e0, e1, _⟩ : wc.cell? ⟨b, 0, none⟩ = some (.int .i64 d.kind) ∧ wc.cell? ⟨b, 1, none⟩ = some (.int .i64 d.k) ∧ True := ⟨hT.out.2.2.c0, hT.out.2.2.c1, trivial⟩
        go_wp2_with fail
        refine (spoil11_any p s' R _ hT.out.1.x).mono ?_
        rintro e w4 ⟨rfl, hb⟩
        have T4 : Hid (FL.Two w p q R Q s' s' B w4 ∧ FL.Al B X' (.slice va' X'.length vc') w4 ∧ FL.Bx w4 b d) := ⟨hT.out.1.on hb, hT.out.2.1.on hb, hT.out.2.2.on hb⟩
        clear hb hT e0 e1
        obtain ⟨e0, e1, _⟩ : w4.cell? ⟨b, 0, none⟩ = some (.int .i64 d.kind) ∧ w4.cell? ⟨b, 1, none⟩ = some (.int .i64 d.k) ∧ True := ⟨T4.out.2.2.c0, T4.out.2.2.c1, trivial⟩
        go_wp2_with fail
        refine (same11_any p q s' R Q y d.k hy.out hf.out.b0 hf.out.b1 _ T4.out.1.x T4.out.1.y).mono ?_
        rintro e w5 ⟨rfl, hb⟩
        have T5 : Hid (FL.Two w p q R Q s' s' B w5 ∧ FL.Al B X' (.slice va' X'.length vc') w5) := ⟨T4.out.1.on hb, T4.out.2.1.on hb⟩
        clear hb T4 e0 e1
        go_wp2
        go_roundw
        case rel => exact ⟨i + 1, s', X', by omega, by omega, hX'.out, by go_num, T5.out⟩
        case measure => simp [intOf]; omega
    · have TB := Lib.hid hT.out.1.below
      have qq : ¬ i < sx.length ∨ (i < sx.length ∧ ¬ (i : Int) < 60) := by
        by_cases c : i < sx.length
        · exact .inr ⟨c, by omega⟩
        · exact .inl c
      clear hT hlt
      rcases qq with q1 | ⟨q1, q2⟩
      all_goals
        go_wp2_with fail
        refine (HK.out _ TB.out).mono ?_
        rintro e w6 ⟨rfl, hb⟩
        have T4 := Lib.hid (TB.out.trans (hb.mono TB.out.size))
        clear hb
        go_wp2
        go_ret
        exact ⟨rfl, T4.out⟩
end Go.Proofs.YtndpknkdmaojaaaDoor
