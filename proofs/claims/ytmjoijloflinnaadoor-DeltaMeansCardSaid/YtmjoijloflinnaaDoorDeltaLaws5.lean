/- The walk of DeltaMeans. -/
import Derived.Test.YtmjoijloflinnaaDoorDeltaLaws4
import Derived.Test.YtmjoijloflinnaaDoorDeltaInts
import Derived.Test.YtmjoijloflinnaaDoorDeltaRefLarge
namespace Go.Proofs.YtmjoijloflinnaaDoor
open Go.RowKit

theorem atoms_any (ao : Option Addr) (c : Nat) (l : List D.P) (W : World) (h : D.chk l = 0) (hr : D.Row W ao l) :
    Calls Tryd.prog 37 #[.slice ao l.length c] W (fun e w' => ∃ v, e = .returned v ∧ D.IntsAt (D.atoms 0 (D.qs l)) W v w') := by
  obtain ⟨e, pa, h0, h1, h2, h3⟩ := D.valid_qs h
  have H := refAtoms_any ao c (D.qs l) W (by omega) (by omega) (by omega) (by rw [e]; exact hr)
  rw [h0] at H
  exact H
theorem D.eqv_means {a b : List D.P} (ha : D.chk a = 0) (hb : D.chk b = 0) : D.eqv a b = (decide (D.lenI a = D.lenI b) && decide (D.atoms 0 (D.qs a) = D.atoms 0 (D.qs b))) := by
  obtain ⟨_, pa, _⟩ := D.valid_qs ha
  obtain ⟨_, pb, _⟩ := D.valid_qs hb
  rw [(D.len_qs ha).1, (D.len_qs hb).1]
  unfold D.eqv
  rw [decide_eq_true ha, decide_eq_true hb, Bool.true_and, Bool.true_and, Bool.eq_iff_iff, D.same_iff, Bool.and_eq_true, decide_eq_true_eq, decide_eq_true_eq]
  have key : D.normP a = D.normP b ↔ D.nf (D.qs a) = D.nf (D.qs b) := ⟨fun e => D.map_raw_inj e, fun e => by unfold D.normP; rw [e]⟩
  rw [key, D.nf_iff _ _ pa pb]
  constructor
  · rintro ⟨h1, h2⟩; exact ⟨by rw [h1], h2⟩
  · rintro ⟨h1, h2⟩; exact ⟨by omega, h2⟩
theorem D.eqvE_zero {a b : List D.P} (h : D.eqvE a b = 0) : D.chk a = 0 ∧ D.chk b = 0 := by
  unfold D.eqvE at h
  split at h
  · rename_i ha; exact ⟨ha, h⟩
  · rename_i ha; exact absurd h ha
theorem D.eqv_bad {a b : List D.P} (h : D.eqvE a b ≠ 0) : D.eqv a b = false := by
  unfold D.eqvE at h
  unfold D.eqv
  split at h
  · rw [decide_eq_false h]; simp
  · rename_i ha; rw [decide_eq_false ha]; rfl
theorem D.atoms_norm (l : List D.P) : D.atoms 0 (D.qs (D.normP l)) = D.atoms 0 (D.qs l) := by unfold D.normP; rw [D.qs_raw, D.atoms_nf]
theorem D.atoms_le {l : List D.P} (h : D.chk l = 0) : (D.atoms 0 (D.qs l)).length ≤ 1000000000000 := by
  obtain ⟨_, _, _, _, _, h6⟩ := D.valid_qs h
  rw [D.atoms_length]; omega
set_option maxRecDepth 100000 in
set_option maxHeartbeats 4000000 in
theorem deltaMeans_walk (s t : D.Src) (w : World) (hs : D.ArgOk w s) (ht : D.ArgOk w t) (hp : D.Pow w.heap.size w) :
    Calls Tryd.prog 11 #[.slice s.a s.x.length s.c, .slice t.a t.x.length t.c] w fun e w' => e = .returned (.bool true) ∧ Below w.heap.size w w' := by
  have Hs : Hid (∀ W, D.Row W s.a s.x → Calls Tryd.prog 14 #[.slice s.a s.x.length s.c] W (D.OwnEnd s.x W)) := fun W hr => own_arg s w W hs hr
  have Ht : Hid (∀ W, D.Row W t.a t.x → Calls Tryd.prog 14 #[.slice t.a t.x.length t.c] W (D.OwnEnd t.x W)) := fun W hr => own_arg t w W ht hr
  have hl1 := hs.src.len
  have hl2 := ht.src.len
  have ht1 := hs.src.txt
  have ht2 := ht.src.txt
  have G1 : Hid (∀ W, D.Row W s.a s.x → Calls Tryd.prog 35 #[.slice s.a s.x.length s.c] W fun e w' => e = .returned (.bool (D.large s.x)) ∧ Below W.heap.size W w') := fun W h => refLarge_any s.a s.c s.x W hl1 h ht1 hs.num
  have G2 : Hid (∀ W, D.Row W t.a t.x → Calls Tryd.prog 35 #[.slice t.a t.x.length t.c] W fun e w' => e = .returned (.bool (D.large t.x)) ∧ Below W.heap.size W w') := fun W h => refLarge_any t.a t.c t.x W hl2 h ht2 ht.num
  have H1 : Hid (∀ ao bo c d W, D.Row W ao s.x → D.Row W bo t.x → Calls Tryd.prog 25 #[.slice ao s.x.length c, .slice bo t.x.length d] W (fun e w' => e = .returned (.tuple #[.bool (D.eqv s.x t.x), .int .i64 (D.eqvE s.x t.x)]) ∧ Below W.heap.size W w')) := fun ao bo c d W h g => equivalent_any ao bo c d s.x t.x W hl1 hl2 h g ht1 ht2
  have K : Hid (D.Kn w w [(s.a, s.x), (t.a, t.x)]) := ⟨Below.refl _ _, fun x hx => by
    simp at hx
    rcases hx with rfl | rfl
    · exact hs.src.row
    · exact ht.src.row⟩
  have Hp := Lib.hid hp
  have HK : Hid (∀ W, Below w.heap.size w W → Calls Tryd.prog 22 #[] W (fun e w' => e = .returned (.bool true) ∧ Below w.heap.size w w')) := fun W hb => (dknown_any W ((hp.on hb).mono hb.size)).mono fun _ _ h => ⟨h.1, hb.trans (h.2.mono hb.size)⟩
  cases hg1 : D.large s.x with
  | true =>
    rw [hg1] at G1
    clear H1 Hs Ht G2 hs ht hl1 hl2 ht1 ht2 hp hg1 Hp
    obtain ⟨ao, c, l⟩ := s
    obtain ⟨bo, d, m⟩ := t
    dsimp only at *
    go_enter Tryd.func11, Tryd.ntmps11
    go_wp2_with fail
    refine (G1.out _ K.out.r0).mono ?_
    rintro e w1 ⟨rfl, hb⟩
    have K1 := Lib.hid (K.out.on hb).below
    clear hb K
    go_wp2_with fail
    refine (HK.out _ K1.out).mono ?_
    rintro e w2 ⟨rfl, hb⟩
    have hb := Lib.hid hb
    go_wp2
    go_ret
    exact ⟨rfl, hb.out⟩
  | false =>
    rw [hg1] at G1
    cases hg2 : D.large t.x with
    | true =>
      rw [hg2] at G2
      clear H1 Hs Ht hs ht hl1 hl2 ht1 ht2 hp hg1 hg2 Hp
      obtain ⟨ao, c, l⟩ := s
      obtain ⟨bo, d, m⟩ := t
      dsimp only at *
      go_enter Tryd.func11, Tryd.ntmps11
      go_wp2_with fail
      refine (G1.out _ K.out.r0).mono ?_
      rintro e w1 ⟨rfl, hb⟩
      replace K := Lib.hid (K.out.on hb)
      clear hb
      go_wp2_with fail
      refine (G2.out _ K.out.tl.r0).mono ?_
      rintro e w2 ⟨rfl, hb⟩
      have K1 := Lib.hid (K.out.on hb).below
      clear hb K
      go_wp2_with fail
      refine (HK.out _ K1.out).mono ?_
      rintro e w3 ⟨rfl, hb⟩
      have hb := Lib.hid hb
      go_wp2
      go_ret
      exact ⟨rfl, hb.out⟩
    | false =>
      rw [hg2] at G2
      by_cases h0 : D.eqvE s.x t.x = 0
      · obtain ⟨ca, cb⟩ := D.eqvE_zero h0
        have hmeans := D.eqv_means ca cb
        rw [h0] at H1
        obtain ⟨n1, n2, n3, n4, n5, n6, n7, n8⟩ := D.norm_facts ca
        have L1 : Hid (∀ ao c W, D.Row W ao s.x → Calls Tryd.prog 15 #[.slice ao s.x.length c] W (D.LenEnd s.x W)) := fun ao c W h => lengths_any ao c s.x W hl1 h ht1
        have L2 : Hid (∀ ao c W, D.Row W ao t.x → Calls Tryd.prog 15 #[.slice ao t.x.length c] W (D.LenEnd t.x W)) := fun ao c W h => lengths_any ao c t.x W hl2 h ht2
        unfold D.LenEnd at L1 L2
        rw [ca] at L1
        rw [cb] at L2
        have N1 : Hid (∀ ao c W, D.Row W ao s.x → Calls Tryd.prog 24 #[.slice ao s.x.length c] W (fun e w' => ∃ v, e = .returned (.tuple #[v, .int .i64 0]) ∧ D.Made (D.normP s.x) W v w')) := fun ao c W h => by
          have := normalize_any ao c s.x W hl1 h ht1
          unfold D.NormEnd at this
          rw [ca, if_pos rfl] at this
          exact this
        have A0 : Hid (∀ ao c W, D.Row W ao (D.normP s.x) → Calls Tryd.prog 37 #[.slice ao (D.normP s.x).length c] W (fun e w' => ∃ v, e = .returned v ∧ D.IntsAt (D.atoms 0 (D.qs s.x)) W v w')) := fun ao c W h => by
          have := atoms_any ao c (D.normP s.x) W n1 h
          rwa [D.atoms_norm] at this
        have A1 : Hid (∀ ao c W, D.Row W ao s.x → Calls Tryd.prog 37 #[.slice ao s.x.length c] W (fun e w' => ∃ v, e = .returned v ∧ D.IntsAt (D.atoms 0 (D.qs s.x)) W v w')) := fun ao c W h => atoms_any ao c s.x W ca h
        have A2 : Hid (∀ ao c W, D.Row W ao t.x → Calls Tryd.prog 37 #[.slice ao t.x.length c] W (fun e w' => ∃ v, e = .returned v ∧ D.IntsAt (D.atoms 0 (D.qs t.x)) W v w')) := fun ao c W h => atoms_any ao c t.x W cb h
        have hxl := D.atoms_le ca
        have I1 : Hid (∀ ao bo c d W, D.IRow W ao (D.atoms 0 (D.qs s.x)) → D.IRow W bo (D.atoms 0 (D.qs s.x)) → Calls Tryd.prog 36 #[.slice ao (D.atoms 0 (D.qs s.x)).length c, .slice bo (D.atoms 0 (D.qs s.x)).length d] W fun e w' => e = .returned (.bool true) ∧ Below W.heap.size W w') := fun ao bo c d W h g => by
          have := ints_any ao bo c d _ _ W h g hxl
          rwa [decide_eq_true rfl] at this
        have I2 : Hid (∀ ao bo c d W, D.IRow W ao (D.atoms 0 (D.qs s.x)) → D.IRow W bo (D.atoms 0 (D.qs t.x)) → Calls Tryd.prog 36 #[.slice ao (D.atoms 0 (D.qs s.x)).length c, .slice bo (D.atoms 0 (D.qs t.x)).length d] W fun e w' => e = .returned (.bool (decide (D.atoms 0 (D.qs s.x) = D.atoms 0 (D.qs t.x)))) ∧ Below W.heap.size W w') := fun ao bo c d W h g => ints_any ao bo c d _ _ W h g hxl
        obtain ⟨ao, c, l⟩ := s
        obtain ⟨bo, d, m⟩ := t
        dsimp only at *
        have Hm := Lib.hid hmeans
        clear hs ht hl1 hl2 ht1 ht2 hp hg1 hg2 Hp h0 ca cb hmeans n1 n2 n3 n4 n5 n6 n7 n8 hxl
        generalize D.normP l = nm at *
        generalize D.atoms 0 (D.qs l) = X at *
        generalize D.atoms 0 (D.qs m) = Y at *
        go_enter Tryd.func11, Tryd.ntmps11
        go_wp2_with fail
        refine (G1.out _ K.out.r0).mono ?_
        rintro e w1 ⟨rfl, hb⟩
        replace K := Lib.hid (K.out.on hb)
        clear hb
        go_wp2_with fail
        refine (G2.out _ K.out.tl.r0).mono ?_
        rintro e w2 ⟨rfl, hb⟩
        replace K := Lib.hid (K.out.on hb)
        clear hb
        go_wp2_with fail
        refine (Hs.out _ K.out.r0).mono ?_
        rintro e w3 ⟨v, rfl, hm⟩
        obtain ⟨xa, xc, hv, K1⟩ := K.out.made hm
        subst hv
        clear hm K
        go_wp2_with fail
        refine (Ht.out _ K1.out.tl.tl.r0).mono ?_
        rintro e w4 ⟨v, rfl, hm⟩
        obtain ⟨ya, yc, hv, K⟩ := K1.out.made hm
        subst hv
        clear hm K1
        go_wp2_with fail
        refine (H1.out _ _ _ _ _ K.out.tl.r0 K.out.r0).mono ?_
        rintro e w5 ⟨rfl, hb⟩
        have K1 := Lib.hid (K.out.on hb).tl.tl
        clear hb K
        go_wp2_with fail
        refine (Hs.out _ K1.out.r0).mono ?_
        rintro e w6 ⟨v, rfl, hm⟩
        obtain ⟨xa2, xc2, hv, K⟩ := K1.out.made hm
        subst hv
        clear hm K1
        go_wp2_with fail
        refine (L1.out _ _ _ K.out.r0).mono ?_
        rintro e w7 ⟨rfl, hb⟩
        have K1 := Lib.hid (K.out.on hb).tl
        clear hb K
        go_wp2_with fail
        refine (Ht.out _ K1.out.tl.r0).mono ?_
        rintro e w8 ⟨v, rfl, hm⟩
        obtain ⟨ya2, yc2, hv, K⟩ := K1.out.made hm
        subst hv
        clear hm K1
        go_wp2_with fail
        refine (L2.out _ _ _ K.out.r0).mono ?_
        rintro e w9 ⟨rfl, hb⟩
        have K1 := Lib.hid (K.out.on hb).tl
        clear hb K
        go_wp2_with fail
        refine (Hs.out _ K1.out.r0).mono ?_
        rintro e w10 ⟨v, rfl, hm⟩
        obtain ⟨xa3, xc3, hv, K⟩ := K1.out.made hm
        subst hv
        clear hm K1
        go_wp2_with fail
        refine (N1.out _ _ _ K.out.r0).mono ?_
        rintro e w11 ⟨v, rfl, hm⟩
        obtain ⟨na, nc, hv, K1⟩ := K.out.tl.made hm
        subst hv
        clear hm K
        go_wp2_with fail
        refine (A0.out _ _ _ K1.out.r0).mono ?_
        rintro e w12 ⟨v, rfl, hi⟩
        obtain ⟨ia, ic, hv, hir⟩ := hi.irow
        subst hv
        have K := Lib.hid (K1.out.on hi.below).tl
        have hir := Lib.hid hir
        clear hi K1
        go_wp2_with fail
        refine (A1.out _ _ _ K.out.r0).mono ?_
        rintro e w13 ⟨v, rfl, hi⟩
        obtain ⟨ja, jc, hv, hjr⟩ := hi.irow
        subst hv
        have K1 := Lib.hid (K.out.on hi.below)
        have hir := Lib.hid (hir.out.below hi.below)
        have hjr := Lib.hid hjr
        clear hi K
        go_wp2_with fail
        refine (I1.out _ _ _ _ _ hir.out hjr.out).mono ?_
        rintro e w14 ⟨rfl, hb⟩
        have K := Lib.hid (K1.out.on hb)
        clear hb K1 hir hjr
        by_cases hlen : D.lenI l = D.lenI m
        · have hq1 : (D.lenI l == D.lenI m) = true := by simpa using hlen
          have hm2 : D.eqv l m = decide (X = Y) := by rw [Hm.out, decide_eq_true hlen, Bool.true_and]
          rw [hm2]
          generalize D.lenI l = li at *
          generalize D.lenI m = lj at *
          generalize decide (X = Y) = bb at *
          clear hlen hm2
          go_wp2_with fail
          refine (A1.out _ _ _ K.out.r0).mono ?_
          rintro e w15 ⟨v, rfl, hi⟩
          obtain ⟨ia, ic, hv, hir⟩ := hi.irow
          subst hv
          have K1 := Lib.hid (K.out.on hi.below)
          have hir := Lib.hid hir
          clear hi K
          go_wp2_with fail
          refine (A2.out _ _ _ K1.out.tl.r0).mono ?_
          rintro e w16 ⟨v, rfl, hi⟩
          obtain ⟨ja, jc, hv, hjr⟩ := hi.irow
          subst hv
          have K := Lib.hid (K1.out.on hi.below)
          have hir := Lib.hid (hir.out.below hi.below)
          have hjr := Lib.hid hjr
          clear hi K1
          go_wp2_with fail
          refine (I2.out _ _ _ _ _ hir.out hjr.out).mono ?_
          rintro e w17 ⟨rfl, hb⟩
          have K1 := Lib.hid (K.out.on hb).below
          clear hb K hir hjr
          go_wp2_with fail
          refine (HK.out _ K1.out).mono ?_
          rintro e w18 ⟨rfl, hb⟩
          have hb := Lib.hid hb
          go_wp2
          go_ret
          exact ⟨rfl, hb.out⟩
        · have hq1 : (D.lenI l == D.lenI m) = false := by simpa using hlen
          have hm2 : D.eqv l m = false := by rw [Hm.out, decide_eq_false hlen, Bool.false_and]
          rw [hm2]
          generalize D.lenI l = li at *
          generalize D.lenI m = lj at *
          have K1 := Lib.hid K.out.below
          clear hlen hm2 K
          go_wp2_with fail
          refine (HK.out _ K1.out).mono ?_
          rintro e w18 ⟨rfl, hb⟩
          have hb := Lib.hid hb
          go_wp2
          go_ret
          exact ⟨rfl, hb.out⟩
      · have hbad := D.eqv_bad h0
        have h' : (D.eqvE s.x t.x != 0) = true := by simpa using h0
        rw [hbad] at H1
        generalize D.eqvE s.x t.x = k at *
        clear hs ht hl1 hl2 ht1 ht2 hp hg1 hg2 Hp h0 hbad
        obtain ⟨ao, c, l⟩ := s
        obtain ⟨bo, d, m⟩ := t
        dsimp only at *
        go_enter Tryd.func11, Tryd.ntmps11
        go_wp2_with fail
        refine (G1.out _ K.out.r0).mono ?_
        rintro e w1 ⟨rfl, hb⟩
        replace K := Lib.hid (K.out.on hb)
        clear hb
        go_wp2_with fail
        refine (G2.out _ K.out.tl.r0).mono ?_
        rintro e w2 ⟨rfl, hb⟩
        replace K := Lib.hid (K.out.on hb)
        clear hb
        go_wp2_with fail
        refine (Hs.out _ K.out.r0).mono ?_
        rintro e w3 ⟨v, rfl, hm⟩
        obtain ⟨xa, xc, hv, K1⟩ := K.out.made hm
        subst hv
        clear hm K
        go_wp2_with fail
        refine (Ht.out _ K1.out.tl.tl.r0).mono ?_
        rintro e w4 ⟨v, rfl, hm⟩
        obtain ⟨ya, yc, hv, K⟩ := K1.out.made hm
        subst hv
        clear hm K1
        go_wp2_with fail
        refine (H1.out _ _ _ _ _ K.out.tl.r0 K.out.r0).mono ?_
        rintro e w5 ⟨rfl, hb⟩
        have K1 := Lib.hid (K.out.on hb).below
        clear hb K
        go_wp2_with fail
        refine (HK.out _ K1.out).mono ?_
        rintro e w18 ⟨rfl, hb⟩
        have hb := Lib.hid hb
        go_wp2
        go_ret
        exact ⟨rfl, hb.out⟩
end Go.Proofs.YtmjoijloflinnaaDoor
