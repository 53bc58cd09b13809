/- Texts joined: DeltaEqv DeltaNormFacts -/
import Derived.Test.YtmbgcbgbdjiacaaDeltaNorm
/- DeltaEqv -/
namespace Go.Proofs.Ytmbgcbgbdjiacaa
open Go.RowKit

/-- Between two rounds of Join. -/
structure D.JoinC (L : List D.Src) (w : World) (k : Nat) (wr : World) : Prop where
  chk : D.chkAll (L.drop k) = D.chkAll L
  ok : ∀ s ∈ L.take k, D.chk s.x = 0
  below : Below w.heap.size w wr
theorem D.take_bd {L : List D.Src} {k : Nat} (h : ∀ s ∈ L.take k, D.chk s.x = 0) (hk : k ≤ L.length) : D.inL (D.qs (D.flat (L.take k))) ≤ k * 1048576 ∧ D.outL (D.qs (D.flat (L.take k))) ≤ k * 1048576 := by
  have := (D.flat_ok (L.take k) (D.chkAll_ok _ h)).2.2.2
  rw [List.length_take, Nat.min_eq_left hk] at this
  exact this
/-- The check of a normal form. -/
theorem D.chk_flat {L : List D.Src} (h : D.chkAll L = 0) (hi : D.inL (D.qs (D.flat L)) ≤ 1048576) (ho : D.outL (D.qs (D.flat L)) ≤ 1048576) : D.chk (D.normP (D.flat L)) = 0 ∨ D.chk (D.normP (D.flat L)) = 5 := by
  obtain ⟨_, pa, _⟩ := D.flat_ok L h
  by_cases hl : 4096 < (D.normP (D.flat L)).length
  · right; rw [D.chk, if_pos hl]
  · left
    refine (D.chk_iff _).2 ⟨D.nf (D.qs (D.flat L)), D.allPos_nf _ pa, rfl, ?_, by rw [D.inL_nf]; exact hi, by rw [D.outL_nf]; exact ho⟩
    unfold D.normP at hl
    rw [List.length_map] at hl
    omega
theorem D.chk_long {L : List D.Src} (h : 1048576 < D.inL (D.qs (D.flat L)) ∨ 1048576 < D.outL (D.qs (D.flat L))) : D.chk (D.normP (D.flat L)) ≠ 0 := by
  intro hz
  obtain ⟨a, _, e, _, hi, ho⟩ := (D.chk_iff _).1 hz
  have e := D.map_raw_inj e
  subst e
  rw [D.inL_nf] at hi
  rw [D.outL_nf] at ho
  omega
theorem D.len_qs {l : List D.P} (h : D.chk l = 0) : D.lenI l = (D.inL (D.qs l) : Int) ∧ D.lenO l = (D.outL (D.qs l) : Int) := by
  obtain ⟨e, _⟩ := D.valid_qs h
  unfold D.lenI D.lenO
  rw [if_pos h, if_pos h, ← D.inP_raw, ← D.outP_raw, e]
  exact ⟨rfl, rfl⟩
set_option maxRecDepth 100000 in
set_option maxHeartbeats 2000000 in
theorem join_any (lo : Option Addr) (cap : Nat) (L : List D.Src) (w : World) (hl : L.length ≤ 200) (hr : D.Rows w lo L) :
    Calls Try.prog 59 #[.slice lo L.length cap] w (D.JoinEnd L w) := by
  have Hr := Lib.hid hr
  clear hr
  go_enter Try.func59, Try.ntmps59
  go_wp2
  go_loopw [4, 5, 15] (fun a b i wr => ∃ k : Nat, k ≤ L.length ∧ i = .int .i64 k ∧ a = .int .i64 (D.inL (D.qs (D.flat (L.take k))) : Int) ∧ b = .int .i64 (D.outL (D.qs (D.flat (L.take k))) : Int) ∧ Hid (D.JoinC L w k wr)) (fun _ _ i _ => L.length - (intOf i).toNat)
  case atStart => exact ⟨0, Nat.zero_le _, rfl, rfl, rfl, ⟨rfl, fun s hs => by simp at hs, Below.refl _ _⟩⟩
  case round =>
    obtain ⟨k, hk, rfl, rfl, rfl, hj⟩ := hrel
    by_cases hlt : k < L.length
    · obtain ⟨⟨sa, sc, sx⟩, hs, hsd⟩ : ∃ s, L[k]? = some s ∧ L.drop k = s :: L.drop (k + 1) := ⟨L[k], List.getElem?_eq_getElem hlt, List.drop_eq_getElem_cons hlt⟩
      obtain ⟨b, o, e, hbl, hc, hok⟩ := Hr.out k _ hs
      dsimp only at hc
      subst e
      have hok' := Lib.hid (hok.below hj.out.below)
      have hc' := ((D.bcell hj.out.below).1 b (o + k) hbl).trans hc
      have Hc : Hid (Calls Try.prog 28 #[.slice sa sx.length sc] wr (D.LenEnd sx wr)) := lengths_any sa sc sx wr hok'.out.len hok'.out.row hok'.out.txt
      have hst : Hid (D.chkAll L = if D.chk sx = 0 then D.chkAll (L.drop (k + 1)) else D.chk sx) := by show _ = _; rw [← hj.out.chk, hsd]; rfl
      obtain ⟨z1, z2⟩ := D.take_bd hj.out.ok hk
      have htk : Hid (L.take (k + 1) = L.take k ++ [⟨sa, sc, sx⟩]) := by show _ = _; rw [List.take_add_one, hs]; rfl
      have hi1 : Hid (D.inL (D.qs (D.flat (L.take (k + 1)))) = D.inL (D.qs (D.flat (L.take k))) + D.inL (D.qs sx)) := by show _ = _; rw [D.flat_snoc L k _ hs, D.qs_append, D.inL_append]
      have ho1 : Hid (D.outL (D.qs (D.flat (L.take (k + 1)))) = D.outL (D.qs (D.flat (L.take k))) + D.outL (D.qs sx)) := by show _ = _; rw [D.flat_snoc L k _ hs, D.qs_append, D.outL_append]
      unfold D.LenEnd at Hc
      by_cases h0 : D.chk sx = 0
      · obtain ⟨_, _, _, _, y1, y2⟩ := D.valid_qs h0
        obtain ⟨e1, e2⟩ := D.len_qs h0
        rw [h0, e1, e2] at Hc
        obtain ⟨I, hI⟩ : ∃ I, Hid (D.inL (D.qs (D.flat (L.take k))) = I) := ⟨_, rfl⟩
        obtain ⟨O, hO⟩ : ∃ O, Hid (D.outL (D.qs (D.flat (L.take k))) = O) := ⟨_, rfl⟩
        rw [hI.out] at z1 hi1 ⊢
        rw [hO.out] at z2 ho1 ⊢
        obtain ⟨i, hi⟩ : ∃ i, Hid (D.inL (D.qs sx) = i) := ⟨_, rfl⟩
        obtain ⟨o', ho⟩ : ∃ o, Hid (D.outL (D.qs sx) = o) := ⟨_, rfl⟩
        rw [hi.out] at Hc hi1 y1
        rw [ho.out] at Hc ho1 y2
        have h0 := Lib.hid h0
        have z3 : I ≤ 209715200 := by omega
        have z4 : O ≤ 209715200 := by omega
        clear hc hs hsd hok e1 e2 z1 z2
        go_wp2_with fail
        refine Hc.out.mono ?_
        rintro e w1 ⟨rfl, hb1⟩
        have R : Hid (D.JoinC L w (k + 1) w1) := by
          refine ⟨?_, ?_, hj.out.below.trans (hb1.mono hj.out.below.size)⟩
          · rw [hst.out, if_pos h0.out]
          · intro t ht
            rw [htk.out] at ht
            rcases List.mem_append.1 ht with ht | ht
            · exact hj.out.ok t ht
            · simp at ht; subst ht; exact h0.out
        clear hb1
        go_wp2
        go_roundw
        case rel => exact ⟨k + 1, by omega, by go_num, by rw [hi1.out]; go_num, by rw [ho1.out]; go_num, R⟩
        case measure => simp [intOf]; omega
      · have hca : D.chkAll L = D.chk sx := by rw [hst.out, if_neg h0]
        have h' : (D.chk sx != 0) = true := by simpa using h0
        have he : D.joinE L = D.chk sx := by unfold D.joinE; rw [hca, if_neg h0]
        have hp : D.joinP L = [] := by unfold D.joinP; rw [he, if_neg h0]
        have R : Hid (∀ w', Below w.heap.size w w' → D.JoinEnd L w (.returned (.tuple #[.slice none 0 0, .int .i64 (D.chk sx)])) w') := fun w' hb => ⟨_, by rw [he], by rw [hp]; exact D.Made.nil w hb⟩
        clear hca he hp hst h0
        generalize D.chk sx = c at Hc h' R
        generalize D.lenI sx = li at Hc
        generalize D.lenO sx = lo' at Hc
        clear hc hs hsd hok
        go_wp2_with fail
        refine Hc.out.mono ?_
        rintro e w1 ⟨rfl, hb1⟩
        have hbb := Lib.hid (R.out w1 (hj.out.below.trans (hb1.mono hj.out.below.size)))
        clear hb1
        go_wp2
        go_ret2
        exact hbb.out
    · obtain rfl : k = L.length := by omega
      have hca : D.chkAll L = 0 := by have := hj.out.chk; rw [List.drop_length] at this; rw [← this]; rfl
      obtain ⟨z1, z2⟩ := D.take_bd hj.out.ok hk
      have hfl : L.take L.length = L := List.take_length
      rw [hfl] at z1 z2 ⊢
      obtain ⟨fv, pa, f1, f2, f3⟩ := D.flat_ok L hca
      have Hb := Lib.hid hj.out.below
      by_cases hlong : 1048576 < D.inL (D.qs (D.flat L)) ∨ 1048576 < D.outL (D.qs (D.flat L))
      · have h0 := D.chk_long hlong
        have he : D.joinE L = 5 := by unfold D.joinE; rw [if_pos hca, if_neg h0]
        have hp : D.joinP L = [] := by unfold D.joinP; rw [he]; rfl
        have R : Hid (D.JoinEnd L w (.returned (.tuple #[.slice none 0 0, .int .i64 5])) wr) := ⟨_, by rw [he], by rw [hp]; exact D.Made.nil w Hb.out⟩
        generalize D.inL (D.qs (D.flat L)) = I at z1 hlong ⊢
        generalize D.outL (D.qs (D.flat L)) = O at z2 hlong ⊢
        clear h0 he hp hca hfl fv pa f1 f2 f3 hj
        by_cases hI : 1048576 < I
        · have g1 : (1048576 : Int) < I := by omega
          go_wp2
          go_ret2
          exact R.out
        · have g1 : ¬ (1048576 : Int) < I := by omega
          have g2 : (1048576 : Int) < O := by omega
          go_wp2
          go_ret2
          exact R.out
      · have hb1 : D.inL (D.qs (D.flat L)) ≤ 1048576 := by omega
        have hb2 : D.outL (D.qs (D.flat L)) ≤ 1048576 := by omega
        have hchk := D.chk_flat hca hb1 hb2
        have HF : Hid (Calls Try.prog 75 #[.slice lo L.length cap] wr (D.NfEnd (D.normP (D.flat L)) wr)) := by
          refine normalForm_any lo cap L wr ?_ (by omega) fv pa (by omega) (by omega) (by omega) ?_
          · intro i s hs
            obtain ⟨b, o, e, hb, hc, hk⟩ := Hr.out i s hs
            exact ⟨b, o, e, Nat.lt_of_lt_of_le hb Hb.out.size, ((D.bcell Hb.out).1 b (o + i) hb).trans hc, hk.row.below Hb.out⟩
          · intro s hs
            rw [← hfl] at hs
            exact Nat.le_trans (D.valid_qs (hj.out.ok s hs)).2.2.2.1 (by omega)
        unfold D.NfEnd at HF
        have hlen : (D.normP (D.flat L)).length ≤ maxLen := by have := D.normP_len (D.flat L); unfold maxLen; omega
        have htx : ∀ p ∈ D.normP (D.flat L), p.t.size ≤ 140737488351232 := fun p hp => by
          have := D.txt_le_outL (D.nf (D.qs (D.flat L))) p hp
          rw [D.outL_nf] at this
          omega
        have HC : Hid (∀ bo bc V, D.Row V bo (D.normP (D.flat L)) → Calls Try.prog 74 #[.slice bo (D.normP (D.flat L)).length bc] V fun e w' => e = .returned (.int .i64 (D.chk (D.normP (D.flat L)))) ∧ Below V.heap.size V w') := fun bo bc V h => check_any bo bc _ V hlen h htx
        have g1 : ¬ (1048576 : Int) < (D.inL (D.qs (D.flat L)) : Nat) := by omega
        have g2 : ¬ (1048576 : Int) < (D.outL (D.qs (D.flat L)) : Nat) := by omega
        rcases hchk with h0 | h0
        · have he : D.joinE L = 0 := by unfold D.joinE; rw [if_pos hca, if_pos h0]
          have hp : D.joinP L = D.normP (D.flat L) := by unfold D.joinP; rw [he, if_pos rfl]
          have R : Hid (∀ v w' W, D.Made (D.normP (D.flat L)) W v w' → Below w.heap.size w W → D.JoinEnd L w (.returned (.tuple #[v, .int .i64 0])) w') := fun v w' W hm hb => ⟨_, by rw [he], by rw [hp]; exact ⟨D.own_mono hm.own hb.size, hb.trans (hm.below.mono hb.size)⟩⟩
          rw [h0] at HC
          generalize D.inL (D.qs (D.flat L)) = I at z1 g1 ⊢
          generalize D.outL (D.qs (D.flat L)) = O at z2 g2 ⊢
          clear hca hfl fv pa f1 f2 f3 hlen htx he hp h0 hj Hr hb1 hb2 hlong
          go_wp2_with fail
          refine HF.out.mono ?_
          rintro e w1 ⟨v, rfl, hm⟩
          obtain ⟨bo, bc, hv, hr1⟩ := hm.row
          cases hv.out
          have Hm := Lib.hid hm
          have HC := Lib.hid (HC.out bo bc w1 hr1.out)
          clear hm hv
          go_wp2_with fail
          refine HC.out.mono ?_
          rintro e w2 ⟨rfl, hb2⟩
          have R := Lib.hid (R.out _ w2 wr ⟨D.own_below Hm.out.own hb2, Hm.out.below.trans (hb2.mono Hm.out.below.size)⟩ Hb.out)
          clear hb2
          go_wp2
          go_ret2
          exact R.out
        · have h9 : ¬ D.chk (D.normP (D.flat L)) = 0 := by rw [h0]; decide
          have he : D.joinE L = 5 := by unfold D.joinE; rw [if_pos hca, if_neg h9]
          have hp : D.joinP L = [] := by unfold D.joinP; rw [he]; rfl
          have R : Hid (∀ w', Below w.heap.size w w' → D.JoinEnd L w (.returned (.tuple #[.slice none 0 0, .int .i64 5])) w') := fun w' hb => ⟨_, by rw [he], by rw [hp]; exact D.Made.nil w hb⟩
          rw [h0] at HC
          generalize D.inL (D.qs (D.flat L)) = I at z1 g1 ⊢
          generalize D.outL (D.qs (D.flat L)) = O at z2 g2 ⊢
          clear hca hfl fv pa f1 f2 f3 hlen htx he hp h0 h9 hj Hr hb1 hb2 hlong
          go_wp2_with fail
          refine HF.out.mono ?_
          rintro e w1 ⟨v, rfl, hm⟩
          obtain ⟨bo, bc, hv, hr1⟩ := hm.row
          cases hv.out
          have Hm := Lib.hid hm
          have HC := Lib.hid (HC.out bo bc w1 hr1.out)
          clear hm hv
          go_wp2_with fail
          refine HC.out.mono ?_
          rintro e w2 ⟨rfl, hb2⟩
          have R := Lib.hid (R.out w2 (Hb.out.trans ((Hm.out.below.trans (hb2.mono Hm.out.below.size)).mono Hb.out.size)))
          clear hb2
          go_wp2
          go_ret2
          exact R.out
end Go.Proofs.Ytmbgcbgbdjiacaa
/- DeltaNormFacts -/
namespace Go.Proofs.Ytmbgcbgbdjiacaa
open Go.RowKit

theorem D.norm_facts {l : List D.P} (h : D.chk l = 0) : D.chk (D.normP l) = 0 ∧ D.normP (D.normP l) = D.normP l ∧ D.lenI (D.normP l) = D.lenI l ∧ D.lenO (D.normP l) = D.lenO l ∧ D.normal (D.normP l) = true ∧ (D.normP l).length ≤ 4096 ∧ (∀ p ∈ D.normP l, p.t.size ≤ 140737488351232) ∧ D.normal l = D.same (D.normP l) l := by
  have h1 := D.chk_normP h
  obtain ⟨_, _, _, h4, _, h6⟩ := D.valid_qs h
  refine ⟨h1, D.normP_normP l, ?_, ?_, ?_, Nat.le_trans (D.normP_len l) h4, fun p hp => ?_, ?_⟩
  · rw [(D.len_qs h1).1, (D.len_qs h).1]; unfold D.normP; rw [D.qs_raw, D.inL_nf]
  · rw [(D.len_qs h1).2, (D.len_qs h).2]; unfold D.normP; rw [D.qs_raw, D.outL_nf]
  · rw [D.normal_eq _ h1]; unfold D.normP; rw [D.qs_raw]; exact D.isN_nf _
  · have := D.txt_le_outL (D.nf (D.qs l)) p hp
    rw [D.outL_nf] at this
    omega
  · unfold D.normal
    rw [decide_eq_true h, Bool.true_and, Bool.eq_iff_iff, D.same_iff, D.same_iff]
    exact ⟨fun e => e.symm, fun e => e.symm⟩
/-- Two neighbours in a normal form. -/
theorem D.norm_adj {l : List D.P} (h : D.chk l = 0) {k : Nat} {p q : D.P} (hp : (D.normP l)[k]? = some p) (hq : (D.normP l)[k + 1]? = some q) : (p.k == q.k) = false ∧ ((p.k == 3) = false ∨ ((p.k == 3) = true ∧ (q.k == 2) = false)) := by
  have h1 := D.chk_normP h
  have hn : D.isN ((D.qs (D.normP l)).take (k + 2)) = true := by
    have : D.isN (D.qs (D.normP l)) = true := by unfold D.normP; rw [D.qs_raw]; exact D.isN_nf _
    rw [← List.take_append_drop (k + 2) (D.qs (D.normP l))] at this
    exact D.isN_left this
  rw [D.isN_two hp hq, Bool.and_eq_true, D.ok_kinds (D.piece_of_chk h1 hp) (D.piece_of_chk h1 hq)] at hn
  have h2 := hn.2
  cases e1 : (p.k == q.k) <;> cases e2 : (p.k == 3) <;> cases e3 : (q.k == 2) <;> simp_all
end Go.Proofs.Ytmbgcbgbdjiacaa
