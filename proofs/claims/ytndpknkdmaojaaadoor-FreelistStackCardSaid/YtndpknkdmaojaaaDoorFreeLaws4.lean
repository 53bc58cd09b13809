/- The walk of FreelistFresh. -/
import Derived.Test.YtndpknkdmaojaaaDoorPackFLaw
import Derived.BigQuiet
namespace Go.Proofs.YtndpknkdmaojaaaDoor
open Go.RowKit

theorem FL.Al.row {B : Nat} {X : List Nat} {ao : Option Addr} {n c : Nat} {W : World} (h : FL.Al B X (.slice ao n c) W) : V.Row W ao (H.row X) := by
  obtain ⟨_, _, e, r⟩ := h.slice
  cases e
  exact r
/-- Two rows of handles that both grow. -/
structure FL.Al2 (B : Nat) (X D : List Nat) (v u : Value) (W : World) : Prop where
  a : FL.Al B X v W
  d : FL.Al B D u W
  ap : FL.apart v u
theorem FL.Al2.on {B : Nat} {X D : List Nat} {v u : Value} {W W' : World} (h : FL.Al2 B X D v u W) (hb : Below W.heap.size W W') : FL.Al2 B X D v u W' := ⟨h.a.on hb, h.d.on hb, h.ap⟩
theorem FL.Al2.but {B : Nat} {X D : List Nat} {v u : Value} {W W' : World} (h : FL.Al2 B X D v u W) (hb : FL.But (fun k => k < B) W W') : FL.Al2 B X D v u W' := ⟨h.a.but hb, h.d.but hb, h.ap⟩
theorem FL.Al.more {B : Nat} {X : List Nat} {v v' : Value} {W W' : World} {z : Nat} (h : FL.Al B X v W) (hz : z ≤ 18446744073709551615) (hO : W'.ownsRow B 33 1 v' ((H.row X).length + 1) (H.row X ++ [.int .u64 (z : Int)])) : FL.Al B (X ++ [z]) v' W' := by
  refine h.push hz ?_
  rw [H.row_snoc, List.length_append]
  exact hO
theorem FL.kept_apart {W W' : World} {base : Nat} {e : TypeId} {v u : Value} {k : Nat} {xs : List Value} (h : W.ownsRow base e 1 u k xs) (hg : W.grownBy W' v.ownBlock) (ha : FL.apart v u) : W'.ownsRow base e 1 u k xs :=
  h.kept hg (by
    cases hu : u.ownBlock with
    | none => exact .inl rfl
    | some b => exact .inr (fun c => ha b c.symm hu))
theorem FL.Al2.pushA {B : Nat} {X D : List Nat} {v v' u : Value} {W W' : World} {z : Nat} (h : FL.Al2 B X D v u W) (hz : z ≤ 18446744073709551615) (hO : W'.ownsRow B 33 1 v' ((H.row X).length + 1) (H.row X ++ [.int .u64 (z : Int)])) (hg : W.grownBy W' v.ownBlock) (hat : v'.ownBlock = v.ownBlock ∨ v'.ownBlock = some (W.heap.size + 1)) : FL.Al2 B (X ++ [z]) D v' u W' :=
  ⟨h.a.more hz hO, ⟨FL.kept_apart h.d.own hg h.ap, h.d.le⟩, FL.apart_new h.d.own h.ap hat⟩
theorem FL.Al2.pushD {B : Nat} {X D : List Nat} {v u u' : Value} {W W' : World} {z : Nat} (h : FL.Al2 B X D v u W) (hz : z ≤ 18446744073709551615) (hO : W'.ownsRow B 33 1 u' ((H.row D).length + 1) (H.row D ++ [.int .u64 (z : Int)])) (hg : W.grownBy W' u.ownBlock) (hat : u'.ownBlock = u.ownBlock ∨ u'.ownBlock = some (W.heap.size + 1)) : FL.Al2 B X (D ++ [z]) v u' W' :=
  ⟨⟨FL.kept_apart h.a.own hg h.ap.symm, h.a.le⟩, h.d.more hz hO, (FL.apart_new h.a.own h.ap.symm hat).symm⟩
set_option maxRecDepth 100000 in
set_option maxHeartbeats 8000000 in
theorem freelistFresh_walk (n g : Int) (sr : FL.Src) (w : World) (_ : -9223372036854775808 ≤ n) (_ : n < 9223372036854775808) (_ : -9223372036854775808 ≤ g) (_ : g < 9223372036854775808) (hs : FL.ArgOk w sr) (hp : H.Pow w.heap.size w) :
    Calls Tryd.prog 7 #[.int .i64 n, .int .i64 g, .slice sr.a sr.x.length sr.c] w fun e w' => e = .returned (.bool true) ∧ Below w.heap.size w w' := by
  have HK : Hid (∀ W, Below w.heap.size w W → Calls Tryd.prog 19 #[] W (fun e w' => e = .returned (.bool true) ∧ Below W.heap.size W w')) := fun W hb => awake11_any W (H.Pow.go hp hb)
  obtain ⟨n1, n2, n3⟩ := FL.nn_bd n
  obtain ⟨g1, g2, g3⟩ := FL.gg_bd g
  have M8 : Hid (∀ W, Calls Tryd.prog 11 #[.int .i64 n, .int .i64 8] W fun x w' => x = .returned (.int .i64 (n % 8)) ∧ W = w') := fun W => mod11_any n 8 (by omega) (by omega) W
  have M4 : Hid (∀ (m : Int) W, Calls Tryd.prog 11 #[.int .i64 m, .int .i64 4] W fun x w' => x = .returned (.int .i64 (m % 4)) ∧ W = w') := fun m W => mod11_any m 4 (by omega) (by omega) W
  have MX : Hid (∀ (m : Int) (l : Nat) W, 1 ≤ l → l ≤ 1000000000 → Calls Tryd.prog 11 #[.int .i64 m, .int .i64 (l : Int)] W fun x w' => x = .returned (.int .i64 (m % (l : Int))) ∧ W = w') := fun m l W h1 h2 => mod11_any m l (by omega) (by omega) W
  have H1 := Lib.hid (new11_ok (FL.nn n) (FL.gg g) (by omega) (by omega) (by omega) (by omega) w)
  have nb := Int.emod_nonneg n (show (8 : Int) ≠ 0 by omega)
  have nc := Int.emod_lt_of_pos n (show (0 : Int) < 8 by omega)
  have gb := Int.emod_nonneg g (show (4 : Int) ≠ 0 by omega)
  have gc := Int.emod_lt_of_pos g (show (0 : Int) < 4 by omega)
  have HI0 : Hid (FL.Hist (FL.new (FL.nn n) (FL.gg g)) [] []) := FL.hist_new
  generalize FL.new (FL.nn n) (FL.gg g) = s0 at *
  obtain ⟨ni, hni⟩ : ∃ ni : Int, ((FL.nn n : Nat) : Int) = ni := ⟨_, rfl⟩
  obtain ⟨gi, hgi⟩ : ∃ gi : Int, ((FL.gg g : Nat) : Int) = gi := ⟨_, rfl⟩
  rw [hni] at H1 n3
  rw [hgi] at H1 g3
  have M4g := Lib.hid (M4.out g)
  have cv : IntKind.u64.wrap gi = gi := by rw [← hgi]; exact H.u64_in _ (by omega)
  clear hni hgi n1 n2 g1 g2 hp
  generalize n % 8 = nz at *
  generalize g % 4 = gz at *
  obtain ⟨sa, sc, sx⟩ := sr
  have HR : Hid (FL.DRow w sa sx) := hs.row
  have hl : sx.length ≤ 1000000000000000 := hs.len
  obtain ⟨ih, hp, hp0, hp1, hp2⟩ := info_parts Tryd.infoHandle
  dsimp only
  clear hs
  go_enter Tryd.func7, Tryd.ntmps7
  go_wp2_with fail
  refine (M8.out _).mono ?_
  rintro e w1 ⟨rfl, rfl⟩
  go_wp2_with fail
  refine (M4g.out _).mono ?_
  rintro e w1 ⟨rfl, rfl⟩
  go_wp2_with fail
  refine H1.out.mono ?_
  rintro e w2 ⟨p, R, rfl, ho, hb, hn⟩
  obtain ⟨B, hB⟩ : ∃ B, w2.heap.size = B := ⟨_, rfl⟩
  have T : Hid (FL.One w p R s0 B w2) := by rw [← hB]; exact FL.One.make ho hb hn
  have wB : w.heap.size ≤ B := by rw [← hB]; exact T.out.below.size
  have A0 : Hid (FL.Al2 B [] [] (.slice none 0 0) (.slice none 0 0) w2) := ⟨FL.Al.nil _ _, FL.Al.nil _ _, fun b h => (by cases h)⟩
  clear ho hb hn hB M8 M4g cv nb nc gb gc n3 g3 H1
  go_wp2
  go_loopw [9, 10, 11] (fun v u j wr => ∃ (i : Nat) (s : FL.S) (X D : List Nat), i ≤ sx.length ∧ i ≤ 60 ∧ X.length ≤ i ∧ D.length ≤ i ∧ j = .int .i64 i ∧ Hid (FL.One w p R s B wr ∧ FL.Al2 B X D v u wr ∧ FL.Hist s X D)) (fun _ _ j _ => 60 - (intOf j).toNat)
  case atStart => exact ⟨0, _, _, _, Nat.zero_le _, Nat.zero_le _, Nat.zero_le _, Nat.zero_le _, rfl, T.out, A0.out, HI0.out⟩
  case round =>
    obtain ⟨i, s, X, D, hi, hi6, hX, hD, rfl, hT⟩ := hrel
    clear T HI0 A0
    obtain ⟨va, vc, hv, _⟩ := hT.out.2.1.a.slice
    subst hv
    obtain ⟨ua, uc, hv, _⟩ := hT.out.2.1.d.slice
    subst hv
    by_cases hlt : i < sx.length ∧ i < 60
    · obtain ⟨h1, h2⟩ := hlt
      have q1 : decide ((i : Int) < (sx.length : Int)) = true := by simp; omega
      have q2 : decide ((i : Int) < 60) = true := by simp; omega
      obtain ⟨d, hd⟩ : ∃ d, sx[i]? = some d := ⟨_, List.getElem?_eq_getElem h1⟩
      obtain ⟨bb, oo, ea, lb, c0, c1, c2⟩ := HR.out i d hd
      have hB := hT.out.1.below
      have c0 := H.cell hB lb c0
      have c1 := H.cell hB lb c1
      subst ea
      clear hB lb hd c2
      have MK := Lib.hid (M4.out d.kind)
      have kb := Int.emod_nonneg d.kind (show (4 : Int) ≠ 0 by omega)
      have kc := Int.emod_lt_of_pos d.kind (show (0 : Int) < 4 by omega)
      have T0 := Lib.hid (show FL.One w p R s B wr ∧ FL.Al2 B X D (.slice va X.length vc) (.slice ua D.length uc) wr from ⟨hT.out.1, hT.out.2.1⟩)
      have HI := Lib.hid hT.out.2.2
      have HV := Lib.hid hT.out.1.x.inv
      have hzl : Hid (s.tkH ≤ 18446744073709551615) := FL.tkH_le HV.out
      clear hT
      go_wp2_with fail
      refine (MK.out _).mono ?_
      rintro e w3 ⟨rfl, rfl⟩
      obtain ⟨m, hm⟩ : ∃ m, d.kind % 4 = m := ⟨_, rfl⟩
      rw [hm] at kb kc ⊢
      clear hm MK c0
      go_upto_if 47 with (fail)
      go_cut [9, 10] (fun v u wx => ∃ (s' : FL.S) (X' D' : List Nat), Hid (X'.length ≤ i + 1) ∧ Hid (D'.length ≤ i + 1) ∧ Hid (FL.One w p R s' B wx ∧ FL.Al2 B X' D' v u wx ∧ FL.Hist s' X' D'))
      case first =>
        by_cases hm2 : m < 2
        · have q3 : decide (m < 2) = true := decide_eq_true hm2
          clear kb kc c1
          go_wp2_with fail
          refine T0.out.1.take.mono ?_
          rintro e w4 ⟨rfl, t, hb⟩
          have T3 : Hid (FL.One w p R s.tk B w4 ∧ FL.Al2 B X D (.slice va X.length vc) (.slice ua D.length uc) w4) := ⟨t, T0.out.2.but hb⟩
          clear t hb T0
          rcases FL.tkE_or s with hE | hE
          · obtain ⟨hno, hli, hh⟩ := FL.hist_take HV.out HI.out hE
            have HH := Lib.hid hh
            obtain ⟨z, hz⟩ : ∃ z, s.tkH = z := ⟨_, rfl⟩
            rw [hz] at hzl HH hno hli ⊢
            have HA := Lib.hid (has11_any va vc X z w4 (FL.Al.row T3.out.2.a) (by unfold maxLen; omega))
            have HB := Lib.hid (FL.On.live T3.out.1.toOn z hzl.out)
            rw [decide_eq_false hno] at HA
            rw [hli] at HB
            obtain ⟨zi, hzi⟩ : ∃ zi : Int, Hid ((z : Int) = zi) := ⟨_, rfl⟩
            rw [hzi.out] at HA HB ⊢
            rw [hE]
            have hle : (H.row X).length ≤ 1000000000 := by rw [H.row_len]; omega
            have hbs := T3.out.1.size
            clear hE hz hno hli hh
            go_wp2_with fail
            refine HA.out.mono ?_
            rintro e w5 ⟨rfl, rfl⟩
            go_wp2_with fail
            refine HB.out.mono ?_
            rintro e w6 ⟨rfl, rfl⟩
            go_wp2_with (at_builtin; refine FL.append_at Tryd.underlying32 hp hp0 hp1 hp2 rfl rfl _ _ rfl B (.slice va X.length vc) (H.row X).length _ ?hsx T3.out.2.a.own (.int .u64 zi) rfl 1 ?ax hle hbs ?_)
            case hsx => rfl
            case ax => rfl
            intro v' w7 hO hg hat
            rw [← hzi.out] at hO
            have T4 : Hid (FL.One w p R s.tk B w7 ∧ FL.Al2 B (X ++ [z]) D v' (.slice ua D.length uc) w7) := ⟨T3.out.1.grown hg (fun k e => (T3.out.2.a.own.lt k e).1) wB, T3.out.2.pushA hzl.out hO hg hat⟩
            have hZl : Hid ((X ++ [z]).length ≤ i + 1) := by show _ ≤ _; rw [List.length_append]; simp; omega
            obtain ⟨Z, hZ⟩ : ∃ Z, X ++ [z] = Z := ⟨_, rfl⟩
            rw [hZ] at HH T4 hZl
            obtain ⟨vo', vc', hv', _⟩ := T4.out.2.a.slice
            subst hv'
            clear hO hg hZ T3 hat
            go_wp2
            go_meet
            case rel => exact ⟨s.tk, Z, D, hZl.out, by show _ ≤ _; omega, T4.out.1, T4.out.2, HH.out⟩
          · have hs := FL.tk_full (s := s) (by rw [hE]; decide)
            rw [hs] at T3
            rw [hE]
            obtain ⟨zi, hzi⟩ : ∃ zi : Int, Hid (((s.tkH : Nat) : Int) = zi) := ⟨_, rfl⟩
            rw [hzi.out]
            clear hE hs
            go_wp2
            go_meet
            case rel => exact ⟨s, X, D, by show _ ≤ _; omega, by show _ ≤ _; omega, T3.out.1, T3.out.2, HI.out⟩
        · have q3 : decide (m < 2) = false := decide_eq_false hm2
          clear kb kc hzl
          by_cases hX0 : 0 < X.length
          · have q7 : decide ((0 : Int) < (X.length : Int)) = true := by simp; omega
            have HMX := Lib.hid (MX.out d.k X.length wr hX0 (by omega))
            have j0 := Int.emod_nonneg d.k (show (X.length : Int) ≠ 0 by omega)
            have j1 := Int.emod_lt_of_pos d.k (show (0 : Int) < (X.length : Int) by omega)
            obtain ⟨j, hj⟩ := Int.eq_ofNat_of_zero_le j0
            rw [hj] at HMX j1
            have jl : j < X.length := by omega
            obtain ⟨y, hy⟩ : ∃ y, X[j]? = some y := ⟨_, List.getElem?_eq_getElem jl⟩
            have hyX := List.mem_of_getElem? hy
            have hyl := Lib.hid (T0.out.2.a.le y hyX)
            obtain ⟨b1, o1, ea, l1, cy⟩ := H.row_at (FL.Al.row T0.out.2.a) hy
            subst ea
            have GV := T0.out.1.give y hyl.out
            have HA : Hid (∀ W, FL.Al2 B X D (.slice (some ⟨b1, o1, none⟩) X.length vc) (.slice ua D.length uc) W → Calls Tryd.prog 30 #[.slice ua D.length uc, .int .u64 (y : Int)] W fun e w' => e = .returned (.bool (decide (y ∈ D))) ∧ w' = W) := fun W a => has11_any ua uc D y W (FL.Al.row a.d) (by unfold maxLen; omega)
            have hle : (H.row D).length ≤ 1000000000 := by rw [H.row_len]; omega
            have hlv := FL.hist_live HI.out hyX
            have hyt : ∃ yi : Int, (y : Int) = yi := ⟨_, rfl⟩
            obtain ⟨yi, hyi⟩ := hyt
            rw [hyi] at cy
            clear hj j0 hy l1
            cases k : s.live y with
            | true =>
              have hh := FL.hist_gv HV.out HI.out k
              have HH := Lib.hid hh.2.2
              have e1 : s.gvE y = 0 := by unfold FL.S.gvE; rw [k]; rfl
              rw [e1, hyi] at GV
              have GV := Lib.hid GV
              rw [decide_eq_false hh.2.1, hyi] at HA
              generalize s.gvB y = gb at *
              clear hh e1 hlv
              go_wp2_with fail
              refine HMX.out.mono ?_
              rintro e w3 ⟨rfl, rfl⟩
              go_wp2_with fail
              refine GV.out.mono ?_
              rintro e w4 ⟨rfl, t, hb⟩
              have T3 : Hid (FL.One w p R (s.gv y) B w4 ∧ FL.Al2 B X D (.slice (some ⟨b1, o1, none⟩) X.length vc) (.slice ua D.length uc) w4) := ⟨t, T0.out.2.but hb⟩
              have hbs := T3.out.1.size
              clear t hb T0 cy GV
              go_wp2_with fail
              refine (HA.out _ T3.out.2).mono ?_
              rintro e w5 ⟨rfl, rfl⟩
              go_wp2_with (at_builtin; refine FL.append_at Tryd.underlying32 hp hp0 hp1 hp2 rfl rfl _ _ rfl B (.slice ua D.length uc) (H.row D).length _ ?hsy T3.out.2.d.own (.int .u64 yi) rfl 1 ?ay hle hbs ?_)
              case hsy => rfl
              case ay => rfl
              intro v' w7 hO hg hat
              rw [← hyi] at hO
              have T4 : Hid (FL.One w p R (s.gv y) B w7 ∧ FL.Al2 B X (D ++ [y]) (.slice (some ⟨b1, o1, none⟩) X.length vc) v' w7) := ⟨T3.out.1.grown hg (fun k e => (T3.out.2.d.own.lt k e).1) wB, T3.out.2.pushD hyl.out hO hg hat⟩
              have hZl : Hid ((D ++ [y]).length ≤ i + 1) := by show _ ≤ _; rw [List.length_append]; simp; omega
              obtain ⟨Z, hZ⟩ : ∃ Z, D ++ [y] = Z := ⟨_, rfl⟩
              rw [hZ] at HH T4 hZl
              obtain ⟨vo', vc', hv', _⟩ := T4.out.2.d.slice
              subst hv'
              clear hO hg hZ T3 hat
              go_wp2
              go_meet
              case rel => exact ⟨s.gv y, X, Z, by show _ ≤ _; omega, hZl.out, T4.out.1, T4.out.2, HH.out⟩
            | false =>
              have e1 : s.gvE y = 10 := by unfold FL.S.gvE; rw [k]; rfl
              have hyD : y ∈ D := by
                rw [k] at hlv
                by_cases c : y ∈ D
                · exact c
                · exact absurd (hlv.2 c) (by simp)
              rw [e1, hyi, FL.gv_no k] at GV
              have GV := Lib.hid GV
              rw [decide_eq_true hyD, hyi] at HA
              generalize s.gvB y = gb at *
              clear e1 hlv hyD
              go_wp2_with fail
              refine HMX.out.mono ?_
              rintro e w3 ⟨rfl, rfl⟩
              go_wp2_with fail
              refine GV.out.mono ?_
              rintro e w4 ⟨rfl, t, hb⟩
              have T3 : Hid (FL.One w p R s B w4 ∧ FL.Al2 B X D (.slice (some ⟨b1, o1, none⟩) X.length vc) (.slice ua D.length uc) w4) := ⟨t, T0.out.2.but hb⟩
              clear t hb T0 cy GV
              go_wp2_with fail
              refine (HA.out _ T3.out.2).mono ?_
              rintro e w5 ⟨rfl, rfl⟩
              go_wp2
              go_meet
              case rel => exact ⟨s, X, D, by show _ ≤ _; omega, by show _ ≤ _; omega, T3.out.1, T3.out.2, HI.out⟩
          · have q7 : decide ((0 : Int) < (X.length : Int)) = false := decide_eq_false (by omega)
            go_wp2
            go_meet
            case rel => exact ⟨s, X, D, by show _ ≤ _; omega, by show _ ≤ _; omega, T0.out.1, T0.out.2, HI.out⟩
      case rest =>
        obtain ⟨s', X', D', hX', hD', hT⟩ := hcut
        clear T0 HI HV hzl c1 kb kc
        obtain ⟨va', vc', hv, _⟩ := hT.out.2.1.a.slice
        subst hv
        obtain ⟨ua', uc', hv, _⟩ := hT.out.2.1.d.slice
        subst hv
        have W0 : Hid (Below wc.heap.size wc wc) := Below.refl _ _
        have hxl : X'.length ≤ 1000 := by have := hX'.out; omega
        have hdl : D'.length ≤ 1000 := by have := hD'.out; omega
        go_wp2
        go_loopw [17] (fun j wr2 => ∃ k : Nat, k ≤ X'.length ∧ j = .int .i64 k ∧ Hid (Below wc.heap.size wc wr2)) (fun j _ => X'.length - (intOf j).toNat)
        case atStart => exact ⟨0, Nat.zero_le _, rfl, W0.out⟩
        case round =>
          obtain ⟨k, hk, rfl, hW⟩ := hrel
          clear W0
          by_cases hlk : k < X'.length
          · obtain ⟨y, hy⟩ : ∃ y, X'[k]? = some y := ⟨_, List.getElem?_eq_getElem hlk⟩
            have hyX := List.mem_of_getElem? hy
            have hyl := hT.out.2.1.a.le y hyX
            have T5 := Lib.hid (show FL.One w p R s' B wr ∧ FL.Al2 B X' D' (.slice va' X'.length vc') (.slice ua' D'.length uc') wr from ⟨hT.out.1.on hW.out, hT.out.2.1.on hW.out⟩)
            obtain ⟨b1, o1, ea, l1, cy⟩ := H.row_at (FL.Al.row T5.out.2.a) hy
            subst ea
            have hlv := FL.hist_live hT.out.2.2 hyX
            have HB : Hid (∀ W, Below wr.heap.size wr W → Calls Tryd.prog 24 #[FL.ptr p, .int .u64 (y : Int)] W fun e w' => e = .returned (.bool (s'.live y)) ∧ w' = W) := fun W hb => (FL.On.live (T5.out.1.on hb).toOn y hyl).mono fun _ _ h => ⟨h.1, h.2.symm⟩
            have HA : Hid (∀ W, Below wr.heap.size wr W → Calls Tryd.prog 30 #[.slice ua' D'.length uc', .int .u64 (y : Int)] W fun e w' => e = .returned (.bool (decide (y ∈ D'))) ∧ w' = W) := fun W hb => has11_any ua' uc' D' y W (FL.Al.row (T5.out.2.on hb).d) (by unfold maxLen; omega)
            have q9 : (s'.live y == decide (y ∈ D')) = false := by
              by_cases c : y ∈ D'
              · have : s'.live y = false := by
                  cases k : s'.live y with
                  | false => rfl
                  | true => exact absurd c (hlv.1 k)
                rw [this, decide_eq_true c]; rfl
              · rw [hlv.2 c, decide_eq_false c]; rfl
            obtain ⟨yi, hyi⟩ : ∃ yi : Int, (y : Int) = yi := ⟨_, rfl⟩
            rw [hyi] at cy HA HB
            generalize s'.live y = lv at *
            generalize decide (y ∈ D') = dv at *
            clear hy hyX hyl l1 hlv hyi T5
            go_wp2_with fail
            go_quiet (first | (go_at_call 24; exact Calls.quiet_of_same (HB.out _ (H.drewN (Below.refl _ _) _))) | (go_at_call 30; exact Calls.quiet_of_same (HA.out _ (H.drewN (Below.refl _ _) _))))
            have W2 : Hid (Below wc.heap.size wc (wr.drewN nq)) := hW.out.trans ((H.drewN (Below.refl _ _) nq).mono hW.out.size)
            generalize wr.drewN nq = wy at W2 ⊢
            clear HA HB cy
            go_wp2
            go_roundw
            case rel => exact ⟨k + 1, by omega, by go_num, W2⟩
            case measure => simp [intOf]; omega
          · obtain rfl : k = X'.length := by omega
            have T6 := Lib.hid (show FL.One w p R s' B wr ∧ FL.Al2 B X' D' (.slice va' X'.length vc') (.slice ua' D'.length uc') wr ∧ FL.Hist s' X' D' from ⟨hT.out.1.on hW.out, hT.out.2.1.on hW.out, hT.out.2.2⟩)
            clear hT hW
            go_wp2
            go_roundw
            case rel => exact ⟨i + 1, s', X', D', by omega, by omega, hX'.out, hD'.out, by go_num, T6.out⟩
            case measure => simp [intOf]; omega
    · have qq : ¬ i < sx.length ∨ (i < sx.length ∧ ¬ (i : Int) < 60) := by
        by_cases c : i < sx.length
        · exact .inr ⟨c, by omega⟩
        · exact .inl c
      have TB := Lib.hid hT.out.1.below
      clear hT hlt
      rcases qq with q1 | ⟨q1, q2⟩
      all_goals
        go_wp2_with fail
        refine (HK.out _ TB.out).mono ?_
        rintro e w6 ⟨rfl, hb⟩
        have T4 := Lib.hid (TB.out.trans (hb.mono TB.out.size))
        clear hb
        go_wp2
        go_ret
        exact ⟨rfl, T4.out⟩
end Go.Proofs.YtndpknkdmaojaaaDoor
