/- The walk of DeltaForms. -/
import Derived.Test.YtmjoijloflinnaaDoorDeltaLaws2
namespace Go.Proofs.YtmjoijloflinnaaDoor
open Go.RowKit

theorem D.norm_facts {l : List D.P} (h : D.chk l = 0) : D.chk (D.normP l) = 0 ∧ D.normP (D.normP l) = D.normP l ∧ D.lenI (D.normP l) = D.lenI l ∧ D.lenO (D.normP l) = D.lenO l ∧ D.normal (D.normP l) = true ∧ (D.normP l).length ≤ 4096 ∧ (∀ p ∈ D.normP l, p.t.size ≤ 140737488351232) ∧ D.normal l = D.same (D.normP l) l := by
  have h1 := D.chk_normP h
  obtain ⟨_, _, _, h4, _, h6⟩ := D.valid_qs h
  refine ⟨h1, D.normP_normP l, ?_, ?_, ?_, Nat.le_trans (D.normP_len l) h4, fun p hp => ?_, ?_⟩
  · rw [(D.len_qs h1).1, (D.len_qs h).1]; unfold D.normP; rw [D.qs_raw, D.inL_nf]
  · rw [(D.len_qs h1).2, (D.len_qs h).2]; unfold D.normP; rw [D.qs_raw, D.outL_nf]
  · rw [D.normal_eq _ h1]; unfold D.normP; rw [D.qs_raw]; exact D.isN_nf _
  · have := D.txt_le_outL (D.nf (D.qs l)) p hp
    rw [D.outL_nf] at this
    omega
  · unfold D.normal
    rw [decide_eq_true h, Bool.true_and, Bool.eq_iff_iff, D.same_iff, D.same_iff]
    exact ⟨fun e => e.symm, fun e => e.symm⟩
/-- Two neighbours in a normal form. -/
theorem D.norm_adj {l : List D.P} (h : D.chk l = 0) {k : Nat} {p q : D.P} (hp : (D.normP l)[k]? = some p) (hq : (D.normP l)[k + 1]? = some q) : (p.k == q.k) = false ∧ ((p.k == 3) = false ∨ ((p.k == 3) = true ∧ (q.k == 2) = false)) := by
  have h1 := D.chk_normP h
  have hn : D.isN ((D.qs (D.normP l)).take (k + 2)) = true := by
    have : D.isN (D.qs (D.normP l)) = true := by unfold D.normP; rw [D.qs_raw]; exact D.isN_nf _
    rw [← List.take_append_drop (k + 2) (D.qs (D.normP l))] at this
    exact D.isN_left this
  rw [D.isN_two hp hq, Bool.and_eq_true, D.ok_kinds (D.piece_of_chk h1 hp) (D.piece_of_chk h1 hq)] at hn
  have h2 := hn.2
  cases e1 : (p.k == q.k) <;> cases e2 : (p.k == 3) <;> cases e3 : (q.k == 2) <;> simp_all
set_option maxRecDepth 100000 in
set_option maxHeartbeats 4000000 in
theorem deltaForms_walk (s : D.Src) (w : World) (hs : D.ArgOk w s) (hp : D.Pow w.heap.size w) :
    Calls Tryd.prog 10 #[.slice s.a s.x.length s.c] w fun e w' => e = .returned (.bool true) ∧ Below w.heap.size w w' := by
  have H0 : Hid (∀ W, D.Row W s.a s.x → Calls Tryd.prog 14 #[.slice s.a s.x.length s.c] W (D.OwnEnd s.x W)) := fun W hr => own_arg s w W hs hr
  have hlen := hs.src.len
  have htxt := hs.src.txt
  have H1 : Hid (∀ ao c W, D.Row W ao s.x → Calls Tryd.prog 24 #[.slice ao s.x.length c] W (D.NormEnd s.x W)) := fun ao c W h => normalize_any ao c s.x W hlen h htxt
  have H3 : Hid (∀ ao c W, D.Row W ao s.x → Calls Tryd.prog 17 #[.slice ao s.x.length c] W (fun e w' => e = .returned (.int .i64 (D.chk s.x)) ∧ Below W.heap.size W w')) := fun ao c W h => check_any ao c s.x W hlen h htxt
  have H5 : Hid (∀ ao c W, D.Row W ao s.x → Calls Tryd.prog 19 #[.slice ao s.x.length c] W (fun e w' => e = .returned (.bool (D.normal s.x)) ∧ Below W.heap.size W w')) := fun ao c W h => normal_any ao c s.x W hlen h htxt
  have K : Hid (D.Kn w w [(s.a, s.x)]) := ⟨Below.refl _ _, fun x hx => by simp at hx; subst hx; exact hs.src.row⟩
  have Hp := Lib.hid hp
  unfold D.NormEnd at H1
  by_cases h0 : D.chk s.x = 0
  · obtain ⟨n1, n2, n3, n4, n5, n6, n7, n8⟩ := D.norm_facts h0
    have hadj : Hid (∀ k p q, (D.normP s.x)[k]? = some p → (D.normP s.x)[k + 1]? = some q → (p.k == q.k) = false ∧ ((p.k == 3) = false ∨ ((p.k == 3) = true ∧ (q.k == 2) = false))) := fun k p q hp hq => D.norm_adj h0 hp hq
    have hll := D.normP_len s.x
    have L1 : Hid (∀ ao c W, D.Row W ao s.x → Calls Tryd.prog 15 #[.slice ao s.x.length c] W (D.LenEnd s.x W)) := fun ao c W h => lengths_any ao c s.x W hlen h htxt
    have L2 : Hid (∀ ao c W, D.Row W ao (D.normP s.x) → Calls Tryd.prog 15 #[.slice ao (D.normP s.x).length c] W (D.LenEnd (D.normP s.x) W)) := fun ao c W h => lengths_any ao c (D.normP s.x) W (by unfold maxLen; omega) h n7
    unfold D.LenEnd at L1 L2
    rw [n1, n3, n4] at L2
    rw [h0] at L1
    rw [h0, if_pos rfl] at H1
    have H2 : Hid (∀ ao c W, D.Row W ao (D.normP s.x) → Calls Tryd.prog 24 #[.slice ao (D.normP s.x).length c] W (fun e w' => ∃ v, e = .returned (.tuple #[v, .int .i64 0]) ∧ D.Made (D.normP s.x) W v w')) := fun ao c W h => by
      have := normalize_any ao c (D.normP s.x) W (by unfold maxLen; omega) h n7
      unfold D.NormEnd at this
      rw [n1, if_pos rfl, n2] at this
      exact this
    have O2 : Hid (∀ ao c W, D.Row W ao (D.normP s.x) → (ao = none → c = 0) → Calls Tryd.prog 14 #[.slice ao (D.normP s.x).length c] W (D.OwnEnd (D.normP s.x) W)) := fun ao c W h hc => own_any ao c _ W h hc (by omega)
    have N2 : Hid (∀ ao c W, D.Row W ao (D.normP s.x) → Calls Tryd.prog 19 #[.slice ao (D.normP s.x).length c] W (fun e w' => e = .returned (.bool true) ∧ Below W.heap.size W w')) := fun ao c W h => by
      have := normal_any ao c (D.normP s.x) W (by unfold maxLen; omega) h n7
      rwa [n5] at this
    have S1 : Hid (∀ ao bo c d W, D.Row W ao (D.normP s.x) → D.Row W bo (D.normP s.x) → Calls Tryd.prog 21 #[.slice ao (D.normP s.x).length c, .slice bo (D.normP s.x).length d] W (fun e w' => e = .returned (.bool true) ∧ Below W.heap.size W w')) := fun ao bo c d W h g => same_self W ao bo c d _ h g (by unfold maxLen; omega)
    have S2 : Hid (∀ ao bo c d W, D.Row W ao (D.normP s.x) → D.Row W bo s.x → Calls Tryd.prog 21 #[.slice ao (D.normP s.x).length c, .slice bo s.x.length d] W (fun e w' => e = .returned (.bool (D.normal s.x)) ∧ Below W.heap.size W w')) := fun ao bo c d W h g => by
      have := refSame_any ao bo c d (D.normP s.x) s.x W h g (by unfold maxLen; omega) hlen
      rwa [← n8] at this
    obtain ⟨ao, c, l⟩ := s
    dsimp only at *
    generalize D.normP l = nm at *
    generalize D.lenI l = li at *
    generalize D.lenO l = lo at *
    generalize D.normal l = nb at *
    clear hs hlen htxt hp n1 n2 n3 n4 n5 n7 n8 h0 H3
    go_enter Tryd.func10, Tryd.ntmps10
    go_wp2_with fail
    refine (H0.out _ K.out.r0).mono ?_
    rintro e w1 ⟨v, rfl, hm⟩
    obtain ⟨xa, xc, hv, K1⟩ := K.out.made hm
    subst hv
    clear hm K
    go_wp2_with fail
    refine (H1.out _ _ _ K1.out.r0).mono ?_
    rintro e w2 ⟨v, rfl, hm⟩
    obtain ⟨na, nc, hv, hrn, hnc⟩ := hm.src
    subst hv
    have hnc := Lib.hid hnc
    have K := Lib.hid ((K1.out.on hm.below).add na nm hrn)
    clear hm K1 hrn
    go_wp2_with fail
    refine (O2.out _ _ _ K.out.r0 hnc.out).mono ?_
    rintro e w3 ⟨v, rfl, hm⟩
    obtain ⟨ya, yc, hv, K1⟩ := K.out.made hm
    subst hv
    clear hm K
    go_wp2_with fail
    refine (H2.out _ _ _ K1.out.r0).mono ?_
    rintro e w4 ⟨v, rfl, hm⟩
    obtain ⟨ma, mc, hv, K⟩ := K1.out.made hm
    subst hv
    clear hm K1
    go_wp2_with fail
    refine (H0.out _ K.out.tl.tl.tl.tl.r0).mono ?_
    rintro e w5 ⟨v, rfl, hm⟩
    obtain ⟨za, zc, hv, K1⟩ := K.out.made hm
    subst hv
    clear hm K
    go_wp2_with fail
    refine (L1.out _ _ _ K1.out.r0).mono ?_
    rintro e w6 ⟨rfl, hb⟩
    have K := Lib.hid (K1.out.on hb).tl
    clear hb K1
    go_wp2_with fail
    refine (O2.out _ _ _ K.out.tl.tl.r0 hnc.out).mono ?_
    rintro e w7 ⟨v, rfl, hm⟩
    obtain ⟨ua, uc, hv, K1⟩ := K.out.made hm
    subst hv
    clear hm K
    go_wp2_with fail
    refine (L2.out _ _ _ K1.out.r0).mono ?_
    rintro e w8 ⟨rfl, hb⟩
    have K := Lib.hid (K1.out.on hb).tl
    clear hb K1
    go_wp2
    go_loopw [13] (fun i wr => ∃ j : Nat, j ≤ nm.length ∧ i = .int .i64 j ∧ Hid (D.Kn w wr [(ma, nm), (ya, nm), (na, nm), (xa, l), (ao, l)])) (fun i _ => nm.length - (intOf i).toNat)
    case atStart => exact ⟨0, Nat.zero_le _, rfl, K.out⟩
    case round =>
      obtain ⟨j, hj, rfl, K⟩ := hrel
      by_cases hlt : j + 1 < nm.length
      · obtain ⟨p, hp, _⟩ := D.drop_cons (l := nm) (k := j) (by omega)
        obtain ⟨q, hq, _⟩ := D.drop_cons (l := nm) (k := j + 1) hlt
        obtain ⟨b1, o1, e1, l1, hc1, _, _⟩ := K.out.tl.tl.r0 j p hp
        obtain ⟨b2, o2, e2, l2, hc2, _, _⟩ := K.out.tl.tl.r0 (j + 1) q hq
        rw [e1] at e2
        cases e2
        subst e1
        obtain ⟨a1, a2⟩ := hadj.out j p q hp hq
        have g1 : (j : Int) + 1 < nm.length := by omega
        have g2 : ((j : Int) + 1).toNat = j + 1 := by omega
        have R : Hid (∀ n, D.Kn w (wr.drewN n) [(ma, nm), (ya, nm), (some ⟨b1, o1, none⟩, nm), (xa, l), (ao, l)]) := fun n => K.out.on ⟨rfl, rfl, rfl, Nat.le_refl _, fun _ _ => rfl⟩
        clear hp hq K
        rcases a2 with a2 | ⟨a2, a3⟩
        · go_wp2_with fail
          go_quiet (fail)
          go_wp2
          go_roundw
          case rel => exact ⟨j + 1, by omega, by go_num, R.out _⟩
          case measure => simp [intOf]; omega
        · go_wp2_with fail
          go_quiet (fail)
          go_wp2
          go_roundw
          case rel => exact ⟨j + 1, by omega, by go_num, R.out _⟩
          case measure => simp [intOf]; omega
      · have g1 : ¬ (j : Int) + 1 < nm.length := by omega
        have g3 : (nm.length : Int) ≤ l.length := by omega
        have g4 : decide (nm.length ≤ l.length) = true := by simpa using hll
        go_wp2_with fail
        refine (S1.out _ _ _ _ _ K.out.r0 K.out.tl.tl.r0).mono ?_
        rintro e w9 ⟨rfl, hb⟩
        replace K := Lib.hid (K.out.on hb)
        clear hb
        go_wp2_with fail
        refine (O2.out _ _ _ K.out.tl.tl.r0 hnc.out).mono ?_
        rintro e w10 ⟨v, rfl, hm⟩
        obtain ⟨ua, uc, hv, K1⟩ := K.out.made hm
        subst hv
        clear hm K
        go_wp2_with fail
        refine (N2.out _ _ _ K1.out.r0).mono ?_
        rintro e w11 ⟨rfl, hb⟩
        have K := Lib.hid (K1.out.on hb).tl
        clear hb K1
        go_wp2_with fail
        refine (H0.out _ K.out.tl.tl.tl.tl.r0).mono ?_
        rintro e w12 ⟨v, rfl, hm⟩
        obtain ⟨za, zc, hv, K1⟩ := K.out.made hm
        subst hv
        clear hm K
        go_wp2_with fail
        refine (H5.out _ _ _ K1.out.r0).mono ?_
        rintro e w13 ⟨rfl, hb⟩
        have K := Lib.hid (K1.out.on hb).tl
        clear hb K1
        go_wp2_with fail
        refine (S2.out _ _ _ _ _ K.out.tl.tl.r0 K.out.tl.tl.tl.tl.r0).mono ?_
        rintro e w14 ⟨rfl, hb⟩
        have K1 := Lib.hid (K.out.on hb).below
        clear hb K
        go_wp2_with fail
        refine (dknown_any _ ((Hp.out.on K1.out).mono K1.out.size)).mono ?_
        rintro e w15 ⟨rfl, hb⟩
        have K6 := Lib.hid (K1.out.trans (hb.mono K1.out.size))
        clear hb K1
        go_wp2
        go_ret
        exact ⟨rfl, K6.out⟩
  · have hnb : D.normal s.x = false := by unfold D.normal; rw [decide_eq_false h0]; rfl
    have h' : (D.chk s.x != 0) = true := by simpa using h0
    rw [hnb] at H5
    rw [if_neg h0] at H1
    obtain ⟨ao, c, l⟩ := s
    dsimp only at *
    generalize D.chk l = k at *
    clear hs hlen htxt hp h0 hnb
    go_enter Tryd.func10, Tryd.ntmps10
    go_wp2_with fail
    refine (H0.out _ K.out.r0).mono ?_
    rintro e w1 ⟨v, rfl, hm⟩
    obtain ⟨xa, xc, hv, K1⟩ := K.out.made hm
    subst hv
    clear hm K
    go_wp2_with fail
    refine (H1.out _ _ _ K1.out.r0).mono ?_
    rintro e w2 ⟨v, rfl, hm⟩
    obtain ⟨na, nc, hv, K⟩ := K1.out.made hm
    subst hv
    clear hm K1
    go_wp2_with fail
    refine (H0.out _ K.out.tl.tl.r0).mono ?_
    rintro e w3 ⟨v, rfl, hm⟩
    obtain ⟨ya, yc, hv, K1⟩ := K.out.made hm
    subst hv
    clear hm K
    go_wp2_with fail
    refine (H3.out _ _ _ K1.out.r0).mono ?_
    rintro e w4 ⟨rfl, hb⟩
    have K := Lib.hid (K1.out.on hb).tl
    clear hb K1
    go_wp2_with fail
    refine (H0.out _ K.out.tl.tl.r0).mono ?_
    rintro e w5 ⟨v, rfl, hm⟩
    obtain ⟨za, zc, hv, K1⟩ := K.out.made hm
    subst hv
    clear hm K
    go_wp2_with fail
    refine (H5.out _ _ _ K1.out.r0).mono ?_
    rintro e w6 ⟨rfl, hb⟩
    have K := Lib.hid (K1.out.on hb).below
    clear hb K1
    go_wp2_with fail
    refine (dknown_any _ ((Hp.out.on K.out).mono K.out.size)).mono ?_
    rintro e w7 ⟨rfl, hb⟩
    have K6 := Lib.hid (K.out.trans (hb.mono K.out.size))
    clear hb K
    go_wp2
    go_ret
    exact ⟨rfl, K6.out⟩
end Go.Proofs.YtmjoijloflinnaaDoor
