/- The walk of ComposeDoes. -/
import Derived.Test.YteondigaklonpaaComposeLaws5
import Derived.Test.YteondigaklonpaaPackSrc
namespace Go.Proofs.Yteondigaklonpaa
open Go.RowKit

theorem C.wgt_nat (kd : Nat) (k : Nat) (t : ByteArray) : D.wgt ⟨kd, (k : Int), t⟩ = ((1 + t.size + min k 6000 : Nat) : Int) := by
  show 1 + (t.size : Int) + (if 0 < (if 6000 < (k : Int) then 6000 else (k : Int)) then (if 6000 < (k : Int) then 6000 else (k : Int)) else 0) = _
  have e : (if 6000 < (k : Int) then 6000 else (k : Int)) = ((min k 6000 : Nat) : Int) := by split <;> omega
  rw [e]
  split <;> omega
theorem C.large_qs (a : List D.Q) : ∀ n : Nat, D.largeF (n : Int) (a.map D.raw) = false → n + D.inL a ≤ 6000 ∧ n + D.outL a ≤ 6000 := by
  induction a with
  | nil =>
    intro n h
    have : ¬ (6000 : Int) ≤ (n : Int) := by simpa [D.largeF] using h
    have e1 : D.inL [] = 0 := rfl
    have e2 : D.outL [] = 0 := rfl
    omega
  | cons q r ih =>
    intro n h
    have e1 : D.inL (q :: r) = D.in1 q + D.inL r := rfl
    have e2 : D.outL (q :: r) = D.out1 q + D.outL r := rfl
    rw [List.map_cons, D.largeF] at h
    by_cases hn : (n : Int) < 6000
    · rw [if_pos hn] at h
      obtain ⟨m, hm, hi, ho⟩ : ∃ m : Nat, D.wgt (D.raw q) = (m : Int) ∧ (6000 < m ∨ D.in1 q ≤ m) ∧ (6000 < m ∨ D.out1 q ≤ m) := by
        cases q with
        | R k => exact ⟨_, C.wgt_nat 1 k ⟨#[]⟩, by simp only [D.in1]; omega, by simp only [D.out1]; omega⟩
        | I t => exact ⟨_, C.wgt_nat 2 0 ⟨t.toArray⟩, .inr (by simp only [D.in1]; omega), .inr (by simp only [D.out1]; rw [D.size_l]; omega)⟩
        | D k => exact ⟨_, C.wgt_nat 3 k ⟨#[]⟩, by simp only [D.in1]; omega, by simp only [D.out1]; omega⟩
      rw [hm, ← Int.natCast_add] at h
      have := ih (n + m) h
      omega
    · rw [if_neg hn] at h
      cases h
theorem C.large_bd {x : List D.P} (h0 : D.chk x = 0) (h : D.large x = false) : D.inL (D.qs x) ≤ 6000 ∧ D.outL (D.qs x) ≤ 6000 := by
  have e := (D.valid_qs h0).1
  unfold D.large at h
  rw [← e] at h
  have := C.large_qs (D.qs x) 0 h
  omega
theorem C.got_on {ao : Option Addr} {n : Nat} {w W W' : World} (G : D.Got ao n w W) (h : Below W.heap.size W W') : D.Got ao n w W' :=
  ⟨G.below.trans (h.mono G.below.size), fun h0 => by
    obtain ⟨g, cur, e1, e2, e3, e4⟩ := G.row h0
    exact ⟨g, cur, e1, e2, (h.block g (Array.getElem?_eq_some_iff.1 e3).1).trans e3, e4⟩⟩
set_option maxRecDepth 100000 in
set_option maxHeartbeats 4000000 in
theorem composeDoes_walk (s r : D.Src) (w : World) (hs : D.ArgOk w s) (hr : D.ArgOk w r) :
    Calls Try.prog 3 #[.slice s.a s.x.length s.c, .slice r.a r.x.length r.c] w fun e w' => e = .returned (.bool true) ∧ Below w.heap.size w w' := by
  have HA := C.hOwn s.x hs.fit
  have HB := C.hOwn r.x hr.fit
  have HK := C.hKnown
  have K : Hid (D.Kn w w [(s.a, s.x), (r.a, r.x)]) := ⟨Below.refl _ _, fun x hx => by
    simp at hx
    rcases hx with rfl | rfl
    · exact hs.src.row
    · exact hr.src.row⟩
  have nS : Hid ((s.a = none → s.c = 0) ∧ s.x.length ≤ s.c) := ⟨hs.src.nil, hs.cap⟩
  have nR : Hid ((r.a = none → r.c = 0) ∧ r.x.length ≤ r.c) := ⟨hr.src.nil, hr.cap⟩
  have G1 := C.hLarge s.x (C.bd_arg hs) hs.num
  have G2 := C.hLarge r.x (C.bd_arg hr) hr.num
  have bS := C.bd_arg hs
  have bR := C.bd_arg hr
  obtain ⟨oS, cS, S⟩ := s
  obtain ⟨oR, cR, R⟩ := r
  dsimp only at *
  clear hs hr
  cases hg1 : D.large S with
  | true =>
    rw [hg1] at G1
    clear hg1 bS bR
    go_enter Try.func3, Try.ntmps3
    go_wp2_with fail
    refine (G1.out _ _ _ K.out.r0).mono ?_
    rintro e w1 ⟨rfl, hb⟩
    have KB := Lib.hid (K.out.on hb).below
    clear hb K
    go_wp2_with fail
    refine (HK.out _).mono ?_
    rintro e wk ⟨rfl, hb⟩
    have KC := Lib.hid (KB.out.trans (hb.mono KB.out.size))
    clear hb
    go_wp2
    go_ret
    exact ⟨rfl, KC.out⟩
  | false =>
    rw [hg1] at G1
    cases hg2 : D.large R with
    | true =>
      rw [hg2] at G2
      clear hg1 hg2 bS bR
      go_enter Try.func3, Try.ntmps3
      go_wp2_with fail
      refine (G1.out _ _ _ K.out.r0).mono ?_
      rintro e w1 ⟨rfl, hb⟩
      have K1 := Lib.hid (K.out.on hb)
      clear hb K
      go_wp2_with fail
      refine (G2.out _ _ _ K1.out.tl.r0).mono ?_
      rintro e w1 ⟨rfl, hb⟩
      have KB := Lib.hid (K1.out.on hb).below
      clear hb K1
      go_wp2_with fail
      refine (HK.out _).mono ?_
      rintro e wk ⟨rfl, hb⟩
      have KC := Lib.hid (KB.out.trans (hb.mono KB.out.size))
      clear hb
      go_wp2
      go_ret
      exact ⟨rfl, KC.out⟩
    | false =>
      rw [hg2] at G2
      have H1 := C.hCmp S R bS bR
      have H2 := C.hCmp' S R bS bR (fun f => ⟨by have := (C.large_bd f.a hg1).1; omega, by have := (C.large_bd f.b hg2).2; omega⟩)
      have H3 := C.hFits S R bS bR
      have H4 := C.hFits' S R bS bR
      have S1 := C.hSame (D.cmpP S R) (C.cmp_bd S R).1
      have S2 := C.hSame S bS.1
      have S3 := C.hSame R bR.1
      have hnb : (D.cmpP S R).length ≤ 10000000000000 := by have := D.cmpP_len S R; omega
      generalize D.cmpP S R = nm at *
      generalize D.cmpE S R = k at *
      generalize (D.fit2 S R == 0) = b at *
      have q0 : (b != b) = false := by cases b <;> rfl
      clear hg1 hg2 bS bR
      go_enter Try.func3, Try.ntmps3
      go_wp2_with fail
      refine (G1.out _ _ _ K.out.r0).mono ?_
      rintro e w1 ⟨rfl, hb⟩
      have K1 := Lib.hid (K.out.on hb)
      clear hb K
      go_wp2_with fail
      refine (G2.out _ _ _ K1.out.tl.r0).mono ?_
      rintro e w1 ⟨rfl, hb⟩
      have K2 := Lib.hid (K1.out.on hb)
      clear hb K1
      go_wp2_with fail
      refine (HA.out _ _ _ K2.out.r0 nS.out.1).mono ?_
      rintro e w3 ⟨v, rfl, hm⟩
      obtain ⟨xa, xc, hv, nx, K3⟩ := C.made5 K2.out hm
      subst hv
      clear hm K2
      go_wp2_with fail
      refine (HB.out _ _ _ K3.out.tl.tl.r0 nR.out.1).mono ?_
      rintro e w4 ⟨v, rfl, hm⟩
      obtain ⟨ya, yc, hv, ny, K4⟩ := C.made5 K3.out hm
      subst hv
      clear hm K3
      go_wp2_with fail
      refine (H2.out _ _ _ _ _ K4.out.tl.tl.r0 K4.out.tl.tl.tl.r0).mono ?_
      rintro e w5 ⟨v, rfl, hm⟩
      obtain ⟨wa, wc, hv, nw, K5⟩ := C.made5 K4.out hm
      subst hv
      clear hm K4
      go_wp2_with fail
      refine (H3.out _ _ _ _ _ K5.out.tl.tl.r0 K5.out.tl.r0).mono ?_
      rintro e w6 ⟨rfl, hb⟩
      have K6 := Lib.hid (K5.out.on hb)
      clear hb K5
      go_wp2_with fail
      refine (H4.out _ _ _ _ _ K6.out.tl.tl.tl.r0 K6.out.tl.tl.tl.tl.r0).mono ?_
      rintro e w7 ⟨rfl, hb⟩
      have K := Lib.hid (K6.out.on hb)
      clear hb K6
      go_wp2
      go_loopw [9] (fun i wr => ∃ n : Nat, n ≤ 2 ∧ i = .int .i64 n ∧ Hid (D.Kn w wr [(wa, nm), (ya, R), (xa, S), (oS, S), (oR, R)])) (fun i _ => 2 - (intOf i).toNat)
      case atStart => exact ⟨0, by omega, rfl, K.out⟩
      case round =>
        obtain ⟨n, hn, rfl, K⟩ := hrel
        by_cases hlt : n < 2
        · have g1 : (n : Int) < 2 := by omega
          go_wp2_with fail
          refine (H1.out _ _ _ _ _ K.out.tl.tl.r0 K.out.tl.r0 nx.out.2 ny.out.2).mono ?_
          rintro e w8 ⟨v, rfl, hm⟩
          obtain ⟨ga, gc, hv, ng, K8⟩ := C.made5 K.out hm
          subst hv
          have G := Lib.hid (D.got_of_own hm.own hm.below)
          clear hm
          go_wp2_with fail
          refine (S1.out _ _ _ _ _ K8.out.r0 K8.out.tl.r0).mono ?_
          rintro e w9 ⟨rfl, hb⟩
          have K9 := Lib.hid (K8.out.on hb)
          have Ga := Lib.hid (C.got_on G.out hb)
          clear hb K8 G
          go_wp2_with fail
          refine (S2.out _ _ _ _ _ K9.out.tl.tl.tl.r0 K9.out.tl.tl.tl.tl.r0).mono ?_
          rintro e w10 ⟨rfl, hb⟩
          have K10 := Lib.hid (K9.out.on hb)
          have Gb := Lib.hid (C.got_on Ga.out hb)
          clear hb K9 Ga
          go_wp2_with fail
          refine (S3.out _ _ _ _ _ K10.out.tl.tl.r0 K10.out.tl.tl.tl.tl.tl.r0).mono ?_
          rintro e w11 ⟨rfl, hb⟩
          have G6 := Lib.hid (C.got_on Gb.out hb)
          clear hb K10 Gb
          obtain ⟨W0, rfl⟩ : ∃ W0 : World, W0 = wr := ⟨_, rfl⟩
          go_wp2
          go_loopw [12] (fun i wx => ∃ j : Nat, j ≤ nm.length ∧ i = .int .i64 j ∧ Hid (D.Got ga nm.length W0 wx)) (fun i _ => nm.length - (intOf i).toNat)
          case atStart => exact ⟨0, Nat.zero_le _, rfl, G6.out⟩
          case round =>
            obtain ⟨j, hj, rfl, G⟩ := hrel
            clear G6
            by_cases hjl : j < nm.length
            · obtain ⟨g, cur, e1, e2, e3, e4⟩ := G.out.row (by omega)
              subst e1
              obtain ⟨u0, d0⟩ := D.got_cell e3 (i := j * 3) (by omega)
              obtain ⟨u1, d1⟩ := D.got_cell e3 (i := j * 3 + 1) (by omega)
              obtain ⟨u2, d2⟩ := D.got_cell e3 (i := j * 3 + 2) (by omega)
              have f0 := frozen_of_row _ _ (j * 3) _ _ e3
              have f1 := frozen_of_row _ _ (j * 3 + 1) _ _ e3
              have f2 := frozen_of_row _ _ (j * 3 + 2) _ _ e3
              obtain ⟨cur', h5, h6⟩ := D.got_three e3 (j * 3) (j * 3 + 1) (j * 3 + 2) (.int .u8 77) (.int .i64 0) (.string ⟨#[]⟩)
              have R : Hid (D.Got (some ⟨g, 0, none⟩) nm.length W0 (((wr.setCell ⟨g, j * 3, none⟩ (.int .u8 77)).setCell ⟨g, j * 3 + 1, none⟩ (.int .i64 0)).setCell ⟨g, j * 3 + 2, none⟩ (.string ⟨#[]⟩))) :=
                ⟨((G.out.below.setCell (p := ⟨g, _, none⟩) e2 _).setCell (p := ⟨g, _, none⟩) e2 _).setCell (p := ⟨g, _, none⟩) e2 _, fun _ => ⟨g, cur', rfl, e2, h5, by omega⟩⟩
              clear e3 h5 e4 h6 G K
              go_wp2
              go_roundw
              case rel => exact ⟨j + 1, by omega, by go_num, R⟩
              case measure => simp [intOf]; omega
            · obtain rfl : j = nm.length := by omega
              have R := Lib.hid (K.out.on G.out.below)
              clear G K
              go_wp2
              go_roundw
              case rel => exact ⟨n + 1, by omega, by go_num, R⟩
              case measure => simp [intOf]; omega
        · obtain rfl : n = 2 := by omega
          go_wp2_with fail
          refine (S2.out _ _ _ _ _ K.out.tl.tl.r0 K.out.tl.tl.tl.r0).mono ?_
          rintro e w8 ⟨rfl, hb⟩
          have K5 := Lib.hid (K.out.on hb)
          clear hb K
          go_wp2_with fail
          refine (S3.out _ _ _ _ _ K5.out.tl.r0 K5.out.tl.tl.tl.tl.r0).mono ?_
          rintro e w9 ⟨rfl, hb⟩
          have K6 := Lib.hid (K5.out.on hb).below
          clear hb K5
          go_wp2_with fail
          refine (HK.out _).mono ?_
          rintro e wk ⟨rfl, hb⟩
          have KC := Lib.hid (K6.out.trans (hb.mono K6.out.size))
          clear hb
          go_wp2
          go_ret
          exact ⟨rfl, KC.out⟩
end Go.Proofs.Yteondigaklonpaa
