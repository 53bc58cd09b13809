/- The contract of the reference's Join. -/
import Derived.Test.YtmjoijloflinnaaDoorDeltaSrc
import Derived.Test.YtmjoijloflinnaaDoorDeltaRef4
namespace Go.Proofs.YtmjoijloflinnaaDoor
open Go.RowKit

def D.JoinEnd (L : List D.Src) (w : World) (e : Ending) (w' : World) : Prop := ∃ v, e = .returned (.tuple #[v, .int .i64 (D.joinE L)]) ∧ D.Made (D.joinP L) w v w'
/-- Form of pieces that are valid one by one. -/
theorem refForm_flat (ao : Option Addr) (cap : Nat) (L : List D.Src) (w : World) (h : D.chkAll L = 0) (hl : L.length ≤ 200) (hr : D.Row w ao (D.flat L)) :
    Calls Tryd.prog 42 #[.slice ao (D.flat L).length cap] w (fun e w' => ∃ v, e = .returned v ∧ D.Made (D.normP (D.flat L)) w v w') := by
  obtain ⟨hv, pa, h1, h2, h3⟩ := D.flat_ok L h
  have e : (D.qs (D.flat L)).length = (D.flat L).length := by unfold D.qs; rw [List.length_map]
  have H := refForm_any ao cap (D.qs (D.flat L)) w pa (by omega) (by omega) (by omega) (by rw [D.raw_qs hv]; exact hr)
  rw [e] at H
  refine H.mono fun e w' hh => ?_
  obtain ⟨v, he, ho, hb⟩ := hh
  exact ⟨v, he, by unfold D.normP; rw [List.length_map]; exact ho, hb⟩
set_option maxHeartbeats 2000000 in
theorem refJoin_any (lo : Option Addr) (cap : Nat) (L : List D.Src) (w : World) (hl : L.length ≤ 200) (hr : D.Rows w lo L) :
    Calls Tryd.prog 28 #[.slice lo L.length cap] w (D.JoinEnd L w) := by
  have Hr := Lib.hid hr
  clear hr
  go_enter Tryd.func28, Tryd.ntmps28
  go_wp2
  go_loopw [4, 5] (fun v i wr => ∃ k : Nat, k ≤ L.length ∧ i = .int .i64 k ∧ Hid (D.JoinAt L w v k wr)) (fun _ i _ => L.length - (intOf i).toNat)
  case atStart => exact ⟨0, Nat.zero_le _, rfl, ⟨World.ownsRow_nil _ _ _ _, rfl, fun s hs => by simp at hs, Below.refl _ _⟩⟩
  case round =>
    obtain ⟨k, hk, rfl, hj⟩ := hrel
    by_cases hlt : k < L.length
    · obtain ⟨s, hs, hsd⟩ : ∃ s, L[k]? = some s ∧ L.drop k = s :: L.drop (k + 1) := ⟨L[k], List.getElem?_eq_getElem hlt, List.drop_eq_getElem_cons hlt⟩
      obtain ⟨b, o, e, hbl, hc, hok⟩ := Hr.out k s hs
      subst e
      have hok' := Lib.hid (hok.below hj.out.below)
      have hc' := ((D.bcell hj.out.below).1 b (o + k) hbl).trans hc
      have Hc := Lib.hid (refCheck_any s.a s.c s.x wr hok'.out.len hok'.out.row hok'.out.txt)
      have hst : Hid (D.chkAll L = if D.chk s.x = 0 then D.chkAll (L.drop (k + 1)) else D.chk s.x) := by show _ = _; rw [← hj.out.chk, hsd]; rfl
      have hfl := Lib.hid (D.flat_snoc L k s hs)
      have hlen := D.flat_len_take hj.out.ok hk
      have htk : Hid (L.take (k + 1) = L.take k ++ [s]) := by show _ = _; rw [List.take_add_one, hs]; rfl
      by_cases h0 : D.chk s.x = 0
      · rw [h0] at Hc
        have hsl := Lib.hid (D.valid_qs h0).2.2.2.1
        have h0 := Lib.hid h0
        have Hcc := Lib.hid hc
        clear hc hs hsd hok
        go_wp2_with fail
        refine Hc.out.mono ?_
        rintro e w1 ⟨rfl, hb1⟩
        have hbb := Lib.hid (hj.out.below.trans (hb1.mono hj.out.below.size))
        have hok2 := Lib.hid (hok'.out.below hb1)
        have hown := Lib.hid (D.own_below hj.out.own hb1)
        clear hb1 hc'
        have hc' := ((D.bcell hbb.out).1 b (o + k) hbl).trans Hcc.out
        go_wp2_with (at_builtin; refine D.append_src rfl _ _ rfl _ _ _ rfl hown.out hbb.out s.a s.c s.x rfl hok2.out.nil hok2.out.row ?q1 ?_)
        case q1 => have := hsl.out; omega
        intro v' w3 hown' hb3
        have R : Hid (D.JoinAt L w v' (k + 1) w3) := by
          refine ⟨?_, ?_, ?_, hb3⟩
          · rw [hfl.out, D.cellsL_append, List.length_append]; exact hown'
          · rw [hst.out, if_pos h0.out]
          · intro t ht
            rw [htk.out] at ht
            rcases List.mem_append.1 ht with ht | ht
            · exact hj.out.ok t ht
            · simp at ht; subst ht; exact h0.out
        clear hown' hb3
        go_wp2
        go_roundw
        case rel => exact ⟨k + 1, by omega, by go_num, R⟩
        case measure => simp [intOf]; omega
      · have hca : D.chkAll L = D.chk s.x := by rw [hst.out, if_neg h0]
        have h' : (D.chk s.x != 0) = true := by simpa using h0
        have he : D.joinE L = D.chk s.x := by unfold D.joinE; rw [hca, if_neg h0]
        have hp : D.joinP L = [] := by unfold D.joinP; rw [he, if_neg h0]
        have R : Hid (∀ w', Below w.heap.size w w' → D.JoinEnd L w (.returned (.tuple #[.slice none 0 0, .int .i64 (D.chk s.x)])) w') := fun w' hb => ⟨_, by rw [he], by rw [hp]; exact D.Made.nil w hb⟩
        clear hca he hp hst h0
        generalize D.chk s.x = c at Hc h' R
        clear hc hs hsd hok
        go_wp2_with fail
        refine Hc.out.mono ?_
        rintro e w1 ⟨rfl, hb1⟩
        have hbb := Lib.hid (R.out w1 (hj.out.below.trans (hb1.mono hj.out.below.size)))
        clear hb1
        go_wp2
        go_ret2
        exact hbb.out
    · obtain rfl : k = L.length := by omega
      have hca : D.chkAll L = 0 := by have := hj.out.chk; rw [List.drop_length] at this; rw [← this]; rfl
      have hfl : L.take L.length = L := List.take_length
      have hown := hj.out.own
      rw [hfl] at hown
      obtain ⟨ao, ac, hv, hrow⟩ := D.row_of_own hown
      cases hv
      have HF := Lib.hid (refForm_flat ao ac L wr hca hl hrow)
      obtain ⟨fv, pa, f1, f2, f3⟩ := D.flat_ok L hca
      have hlen : (D.normP (D.flat L)).length ≤ maxLen := by have := D.normP_len (D.flat L); unfold maxLen; omega
      have htx : ∀ p ∈ D.normP (D.flat L), p.t.size ≤ 140737488351232 := fun p hp => by
        have := D.txt_le_outL (D.nf (D.qs (D.flat L))) p hp
        rw [D.outL_nf] at this
        omega
      have HC : Hid (∀ bo bc V, D.Row V bo (D.normP (D.flat L)) → Calls Tryd.prog 18 #[.slice bo (D.normP (D.flat L)).length bc] V fun e w' => e = .returned (.int .i64 (D.chk (D.normP (D.flat L)))) ∧ Below V.heap.size V w') := fun bo bc V h => refCheck_any bo bc _ V hlen h htx
      have Hb := Lib.hid hj.out.below
      by_cases h0 : D.chk (D.normP (D.flat L)) = 0
      · have he : D.joinE L = 0 := by unfold D.joinE; rw [if_pos hca, if_pos h0]
        have hp : D.joinP L = D.normP (D.flat L) := by unfold D.joinP; rw [he, if_pos rfl]
        have R : Hid (∀ v w' W, D.Made (D.normP (D.flat L)) W v w' → Below w.heap.size w W → D.JoinEnd L w (.returned (.tuple #[v, .int .i64 0])) w') := fun v w' W hm hb => ⟨_, by rw [he], by rw [hp]; exact ⟨D.own_mono hm.own hb.size, hb.trans (hm.below.mono hb.size)⟩⟩
        rw [h0] at HC
        clear hca hfl hown hrow fv pa f1 f2 f3 hlen htx he hp h0 hj Hr
        go_wp2_with fail
        refine HF.out.mono ?_
        rintro e w1 ⟨v, rfl, hm⟩
        obtain ⟨bo, bc, hv, hr1⟩ := hm.row
        cases hv.out
        have Hm := Lib.hid hm
        have HC := Lib.hid (HC.out bo bc w1 hr1.out)
        clear hm hv
        go_wp2_with fail
        refine HC.out.mono ?_
        rintro e w2 ⟨rfl, hb2⟩
        have R := Lib.hid (R.out _ w2 wr ⟨D.own_below Hm.out.own hb2, Hm.out.below.trans (hb2.mono Hm.out.below.size)⟩ Hb.out)
        clear hb2
        go_wp2
        go_ret2
        exact R.out
      · have he : D.joinE L = 5 := by unfold D.joinE; rw [if_pos hca, if_neg h0]
        have hp : D.joinP L = [] := by unfold D.joinP; rw [he]; rfl
        have R : Hid (∀ w', Below w.heap.size w w' → D.JoinEnd L w (.returned (.tuple #[.slice none 0 0, .int .i64 5])) w') := fun w' hb => ⟨_, by rw [he], by rw [hp]; exact D.Made.nil w hb⟩
        have h' : (D.chk (D.normP (D.flat L)) != 0) = true := by simpa using h0
        clear hca hfl hown hrow fv pa f1 f2 f3 hlen htx he hp h0 hj Hr
        go_wp2_with fail
        refine HF.out.mono ?_
        rintro e w1 ⟨v, rfl, hm⟩
        obtain ⟨bo, bc, hv, hr1⟩ := hm.row
        cases hv.out
        have Hm := Lib.hid hm
        have HC := Lib.hid (HC.out bo bc w1 hr1.out)
        clear hm hv
        generalize D.chk (D.normP (D.flat L)) = c at HC h'
        go_wp2_with fail
        refine HC.out.mono ?_
        rintro e w2 ⟨rfl, hb2⟩
        have R := Lib.hid (R.out w2 (Hb.out.trans ((Hm.out.below.trans (hb2.mono Hm.out.below.size)).mono Hb.out.size)))
        clear hb2
        go_wp2
        go_ret2
        exact R.out
end Go.Proofs.YtmjoijloflinnaaDoor
