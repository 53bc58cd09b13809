/- The contract of the reference's Split. -/
import Derived.Test.YteondigaklonpaaComposeSplit
import Derived.Test.YteondigaklonpaaDeltaRefForm
import Derived.Test.YteondigaklonpaaDeltaRefAtoms
namespace Go.Proofs.Yteondigaklonpaa
open Go.RowKit

theorem C.iN_take (N : List D.Q) (k : Nat) (q : D.Q) (h : N[k]? = some q) : D.iN (N.take (k + 1)) = D.iN (N.take k) + (D.txt1 q).length ∧ D.iN (N.take k) + (D.txt1 q).length ≤ D.outL N := by
  have e : D.iN (N.take (k + 1)) = D.iN (N.take k) + (D.txt1 q).length := by
    rw [List.take_add_one, h]
    have key : ∀ (a : List D.Q), D.iN (a ++ [q]) = D.iN a + (D.txt1 q).length := fun a => by
      induction a with
      | nil => cases q <;> simp [D.iN, D.txt1]
      | cons p r ih => cases p <;> simp only [List.cons_append, D.iN, ih]; omega
    exact key _
  refine ⟨e, ?_⟩
  have h1 := D.iN_le (N.take (k + 1))
  have h2 := D.out_take_le N (k + 1)
  omega
set_option maxRecDepth 100000 in
set_option maxHeartbeats 4000000 in
theorem refSplit_any (ao : Option Addr) (cap : Nat) (l : List D.P) (w : World) (hr : D.Row w ao l) (hb : D.Bd l) :
    Calls Try.prog 24 #[.slice ao l.length cap] w (C.SplitEnd l w) := by
  have HL := Lib.hid (refLengths_any ao cap l w hb.1 hr hb.2)
  by_cases h0 : D.chk l = 0
  · rw [if_pos h0, if_pos h0, h0] at HL
    obtain ⟨ea, pa, l1, l2, i1, o1⟩ := D.valid_qs h0
    have HF : Hid (∀ V, Below w.heap.size w V → Calls Try.prog 43 #[.slice ao l.length cap] V (D.FormEnd (D.qs l) V)) := fun V h => by
      have := refForm_any ao cap (D.qs l) V pa (by omega) (by omega) (by omega) (by rw [ea]; exact hr.below h)
      rwa [l1] at this
    unfold D.FormEnd at HF
    have hin : D.inP l = (D.inL (D.qs l) : Int) := D.inP_qs h0
    rw [hin] at HL
    have hle : (D.nf (D.qs l)).length ≤ 4096 := by have := D.nf_length (D.qs l); omega
    have hbq : D.inL (D.nf (D.qs l)) ≤ 1048576 ∧ D.outL (D.nf (D.qs l)) ≤ 1048576 := by rw [D.inL_nf, D.outL_nf]; omega
    have hS : D.spE l = if D.inL (D.qs l) + D.iN (D.nf (D.qs l)) ≤ 1048576 then 0 else 5 := if_pos h0
    have hI : D.spI l = if D.spE l = 0 then D.normP (((D.nf (D.qs l)).map D.insQ).map D.raw) else [] := rfl
    have hD : D.spD l = if D.spE l = 0 then D.normP (((D.nf (D.qs l)).map D.delQ).map D.raw) else [] := rfl
    have hpp := D.ins_pos _ (D.allPos_nf _ pa)
    have HP := Lib.hid (D.allPos_nf _ pa)
    generalize D.outP l = p0 at HL
    generalize D.inL (D.qs l) = n0 at HL hS i1
    generalize D.nf (D.qs l) = N at HF hle hbq hS hI hD hpp HP
    have HS := Lib.hid (And.intro hS (And.intro hI (And.intro hD hpp)))
    clear hS hI hD hpp hr hb h0 ea pa l1 l2 o1 hin
    go_enter Try.func24, Try.ntmps24
    go_wp2_with fail
    refine HL.out.mono ?_
    rintro e w1 ⟨rfl, hb1⟩
    have HF := Lib.hid (HF.out w1 hb1)
    have HB1 := Lib.hid hb1
    clear hb1 HL
    go_wp2_with fail
    refine HF.out.mono ?_
    rintro e w2 ⟨v, rfl, ho, hb2⟩
    have hll : (N.map D.raw).length = N.length := List.length_map _
    have ho' := ho
    rw [← hll] at ho'
    obtain ⟨no, nc, hv, hrow⟩ := D.row_of_own ho'
    rw [hll] at hv
    subst hv
    have Hr := Lib.hid hrow
    have HB2 := Lib.hid (HB1.out.trans (hb2.mono HB1.out.size))
    have H0 : Hid (C.TwoP [] [] w2 (.slice none 0 0) (.slice none 0 0) w2) := ⟨World.ownsRow_nil _ _ _ _, World.ownsRow_nil _ _ _ _, .inl rfl, Below.refl _ _⟩
    clear hrow ho ho' hb2 HF hll HB1
    go_wp2
    go_loopw [5, 9, 10, 11] (fun t v u i wr => ∃ (k : Nat) (X Y : List D.P), k ≤ N.length ∧ i = .int .i64 k ∧ t = .int .i64 ((n0 + D.iN (N.take k) : Nat) : Int) ∧ Hid (X = ((N.take k).map D.insQ).map D.raw) ∧ Hid (Y = ((N.take k).map D.delQ).map D.raw) ∧ Hid (C.TwoP X Y w2 v u wr)) (fun _ _ _ i _ => N.length - (intOf i).toNat)
    case atStart => exact ⟨0, [], [], Nat.zero_le _, rfl, rfl, rfl, rfl, H0⟩
    case round =>
      clear H0
      obtain ⟨k, X, Y, hk, rfl, rfl, hX, hY, hx⟩ := hrel
      by_cases hlt : k < N.length
      · obtain ⟨q, hq⟩ : ∃ q, N[k]? = some q := ⟨N[k], List.getElem?_eq_getElem hlt⟩
        obtain ⟨b, o, e, hbl, hcell⟩ := Hr.out k (D.raw q) (by rw [List.getElem?_map, hq]; rfl)
        subst e
        obtain ⟨c0, c1, c2⟩ := D.cell3 hx.out.below hbl hcell
        have hXl : X.length ≤ 4096 := by rw [hX.out]; simp; omega
        have hYl : Y.length ≤ 4096 := by rw [hY.out]; simp; omega
        have hX2 : Hid (((N.take (k + 1)).map D.insQ).map D.raw = X ++ [D.raw (D.insQ q)]) := by show _ = _; rw [hX.out, List.take_add_one, hq]; simp
        have hY2 : Hid (((N.take (k + 1)).map D.delQ).map D.raw = Y ++ [D.raw (D.delQ q)]) := by show _ = _; rw [hY.out, List.take_add_one, hq]; simp
        obtain ⟨s1, s2⟩ := C.iN_take N k q hq
        have hs1 : Hid (((n0 + D.iN (N.take (k + 1)) : Nat) : Int) = ((n0 + D.iN (N.take k) : Nat) : Int) + ((D.txt1 q).length : Int)) := by show _ = _; rw [s1]; omega
        obtain ⟨m, hm⟩ : ∃ m, Hid (n0 + D.iN (N.take k) = m) := ⟨_, rfl⟩
        have hml : m ≤ 3000000 := by rw [← hm.out]; omega
        rw [hm.out] at hs1 ⊢
        obtain ⟨va, vc, hv⟩ := D.slice_of_own hx.out.own1
        subst hv
        obtain ⟨ua, uc, hv⟩ := D.slice_of_own hx.out.own2
        subst hv
        have hsz2 := hx.out.below.size
        have hs2 : (D.txt1 q).length ≤ 1048576 := by omega
        obtain ⟨k0, k1, k2⟩ := hcell
        clear hX hY hq s1 s2
        cases q with
        | R n =>
          simp only [D.raw] at c0 c1 c2
          simp only [D.insQ, D.delQ, D.raw] at hX2 hY2
          simp only [D.txt1] at hs1
          go_wp2_with (at_builtin; refine A.append_piece rfl _ _ rfl w2.heap.size _ X rfl hx.out.own1 ⟨1, n, ⟨#[]⟩⟩ 1 rfl ?c1x ?c2x ?_)
          try any_goals (first | omega | exact hsz2)
          intro Z v' w3 hZ hO hg ha
          have F3 := Lib.hid (hx.out.fst hO hg ha)
          obtain ⟨za, zc, hv⟩ := D.slice_of_own hO
          subst hv
          have hs3 := F3.out.below.size
          obtain ⟨c0, c1, c2⟩ := D.cell3 (p := ⟨1, n, ⟨#[]⟩⟩) F3.out.below hbl ⟨k0, k1, k2⟩
          have HZ := Lib.hid hZ.out
          clear hO hg ha hx hZ
          go_wp2_with (at_builtin; refine A.append_piece rfl _ _ rfl w2.heap.size _ Y rfl F3.out.own2 ⟨1, n, ⟨#[]⟩⟩ 1 rfl ?d1x ?d2x ?_)
          try any_goals (first | omega | exact hs3)
          intro Z2 v' w4 hZ hO hg ha
          have F4 := Lib.hid (F3.out.snd hO hg ha)
          have HZ2 := Lib.hid hZ.out
          clear hO hg ha hZ F3
          go_wp2
          go_roundw
          case rel => exact ⟨k + 1, Z, Z2, by omega, by go_num, by first | (rw [hs1.out]; done) | (rw [hs1.out]; simp), by show _ = _; rw [hX2.out, HZ.out], by show _ = _; rw [hY2.out, HZ2.out], F4⟩
          case measure => simp [intOf]; omega
        | I t =>
          simp only [D.raw] at c0 c1 c2
          have hsz : (⟨t.toArray⟩ : ByteArray).size = t.length := D.size_l t
          have htl : t.length ≤ 1048576 := by simp only [D.txt1] at hs2; omega
          simp only [D.insQ, D.delQ, D.raw] at hX2 hY2
          simp only [D.txt1] at hs1
          go_wp2_with (at_builtin; refine A.append_piece rfl _ _ rfl w2.heap.size _ X rfl hx.out.own1 ⟨2, 0, ⟨t.toArray⟩⟩ 1 rfl ?c1y ?c2y ?_)
          try any_goals (first | omega | exact hsz2)
          intro Z v' w3 hZ hO hg ha
          have F3 := Lib.hid (hx.out.fst hO hg ha)
          obtain ⟨za, zc, hv⟩ := D.slice_of_own hO
          subst hv
          have hs3 := F3.out.below.size
          obtain ⟨c0, c1, c2⟩ := D.cell3 (p := ⟨2, 0, ⟨t.toArray⟩⟩) F3.out.below hbl ⟨k0, k1, k2⟩
          have HZ := Lib.hid hZ.out
          clear hO hg ha hx hZ
          go_wp2_with (at_builtin; refine A.append_piece rfl _ _ rfl w2.heap.size _ Y rfl F3.out.own2 ⟨1, t.length, ⟨#[]⟩⟩ 1 rfl ?d1y ?d2y ?_)
          try any_goals (first | omega | exact hs3)
          intro Z2 v' w4 hZ hO hg ha
          have F4 := Lib.hid (F3.out.snd hO hg ha)
          have HZ2 := Lib.hid hZ.out
          clear hO hg ha hZ F3
          go_wp2
          go_roundw
          case rel => exact ⟨k + 1, Z, Z2, by omega, by go_num, by first | (rw [hs1.out]; done) | (rw [hs1.out]; simp), by show _ = _; rw [hX2.out, HZ.out], by show _ = _; rw [hY2.out, HZ2.out], F4⟩
          case measure => simp [intOf]; omega
        | D n =>
          simp only [D.raw] at c0 c1 c2
          simp only [D.insQ, D.delQ, D.raw] at hX2 hY2
          simp only [D.txt1] at hs1
          go_wp2_with (at_builtin; refine A.append_piece rfl _ _ rfl w2.heap.size _ X rfl hx.out.own1 ⟨1, n, ⟨#[]⟩⟩ 1 rfl ?c1z ?c2z ?_)
          try any_goals (first | omega | exact hsz2)
          intro Z v' w3 hZ hO hg ha
          have F3 := Lib.hid (hx.out.fst hO hg ha)
          obtain ⟨za, zc, hv⟩ := D.slice_of_own hO
          subst hv
          have hs3 := F3.out.below.size
          obtain ⟨c0, c1, c2⟩ := D.cell3 (p := ⟨3, n, ⟨#[]⟩⟩) F3.out.below hbl ⟨k0, k1, k2⟩
          have HZ := Lib.hid hZ.out
          clear hO hg ha hx hZ
          go_wp2_with (at_builtin; refine A.append_piece rfl _ _ rfl w2.heap.size _ Y rfl F3.out.own2 ⟨3, n, ⟨#[]⟩⟩ 1 rfl ?d1z ?d2z ?_)
          try any_goals (first | omega | exact hs3)
          intro Z2 v' w4 hZ hO hg ha
          have F4 := Lib.hid (F3.out.snd hO hg ha)
          have HZ2 := Lib.hid hZ.out
          clear hO hg ha hZ F3
          go_wp2
          go_roundw
          case rel => exact ⟨k + 1, Z, Z2, by omega, by go_num, by first | (rw [hs1.out]; done) | (rw [hs1.out]; simp), by show _ = _; rw [hX2.out, HZ.out], by show _ = _; rw [hY2.out, HZ2.out], F4⟩
          case measure => simp [intOf]; omega
      · obtain rfl : k = N.length := by omega
        rw [List.take_length] at hX hY ⊢
        obtain ⟨xo, xc, hv, hxr⟩ := D.row_of_own hx.out.own1
        subst hv
        obtain ⟨yo, yc, hv, hyr⟩ := D.row_of_own hx.out.own2
        subst hv
        obtain ⟨s1, s2, s3, s4⟩ := D.ins_sum N
        have hni := D.iN_le N
        have hXn : X.length = (N.map D.insQ).length := by rw [hX.out]; simp
        have hYn : Y.length = (N.map D.delQ).length := by rw [hY.out]; simp
        have hlI : (N.map D.insQ).length ≤ 1000000 := by rw [List.length_map]; omega
        have hlD : (N.map D.delQ).length ≤ 1000000 := by rw [List.length_map]; omega
        have H1 := Lib.hid (refForm_any xo xc (N.map D.insQ) wr HS.out.2.2.2.1 hlI (by omega) (by omega) (by rw [← hX.out]; exact hxr))
        have H2 : Hid (∀ V, Below wr.heap.size wr V → Calls Try.prog 43 #[.slice yo (N.map D.delQ).length yc] V (D.FormEnd (N.map D.delQ) V)) := fun V h => refForm_any yo yc (N.map D.delQ) V HS.out.2.2.2.2 hlD (by omega) (by omega) (by rw [← hY.out]; exact hyr.below h)
        rw [← hXn] at H1
        rw [← hYn] at H2
        unfold D.FormEnd at H1 H2
        have HBw := Lib.hid (HB2.out.trans (hx.out.below.mono HB2.out.size))
        have hi1 : D.normP ((N.map D.insQ).map D.raw) = (D.nf (N.map D.insQ)).map D.raw := D.normP_raw _
        have hd1 : D.normP ((N.map D.delQ).map D.raw) = (D.nf (N.map D.delQ)).map D.raw := D.normP_raw _
        obtain ⟨m, hm⟩ : ∃ m, n0 + D.iN N = m := ⟨_, rfl⟩
        have hml : m ≤ 3000000 := by omega
        have HE := Lib.hid (And.intro HS.out.1 (And.intro HS.out.2.1 HS.out.2.2.1))
        rw [hm] at HE ⊢
        rw [hi1, hd1] at HE
        clear hlI hlD hxr hyr hx hX hY Hr hXn hYn s1 s2 s3 s4 hni hi1 hd1 HS hm
        by_cases hE : m ≤ 1048576
        · have e := HE.out.1
          rw [if_pos hE] at e
          have RR : Hid (∀ va vb w', D.Made ((D.nf (N.map D.insQ)).map D.raw) w va w' → D.Made ((D.nf (N.map D.delQ)).map D.raw) w vb w' → C.SplitEnd l w (.returned (.tuple #[va, vb, .int .i64 0])) w') := fun va vb w' h1 h2 => ⟨va, vb, by rw [e], by rw [HE.out.2.1, if_pos e]; exact h1, by rw [HE.out.2.2, if_pos e]; exact h2⟩
          clear HE e
          go_wp2_with fail
          refine H1.out.mono ?_
          rintro e w3 ⟨v, rfl, ho, hb3⟩
          have H2 := Lib.hid (H2.out w3 hb3)
          have HM : Hid (D.Made ((D.nf (N.map D.insQ)).map D.raw) w v w3) := ⟨by rw [List.length_map]; exact D.own_mono ho HBw.out.size, HBw.out.trans (hb3.mono HBw.out.size)⟩
          obtain ⟨va, vc, hv⟩ := D.slice_of_own ho
          subst hv
          clear ho hb3 H1
          go_wp2_with fail
          refine H2.out.mono ?_
          rintro e w4 ⟨u, rfl, ho, hb4⟩
          have R := Lib.hid (RR.out _ u w4 (show D.Made ((D.nf (N.map D.insQ)).map D.raw) w _ w4 from ⟨D.own_below HM.out.own hb4, HM.out.below.trans (hb4.mono HM.out.below.size)⟩) ⟨by rw [List.length_map]; exact D.own_mono ho HM.out.below.size, HM.out.below.trans (hb4.mono HM.out.below.size)⟩)
          obtain ⟨ua, uc, hv⟩ := D.slice_of_own ho
          subst hv
          clear ho hb4 H2 HM RR
          go_wp2
          go_ret3
          exact R.out
        · have e := HE.out.1
          rw [if_neg hE] at e
          have R : Hid (C.SplitEnd l w (.returned (.tuple #[.slice none 0 0, .slice none 0 0, .int .i64 5])) wr) := ⟨_, _, by rw [e], by rw [HE.out.2.1, if_neg (by rw [e]; decide)]; exact D.Made.nil w HBw.out, by rw [HE.out.2.2, if_neg (by rw [e]; decide)]; exact D.Made.nil w HBw.out⟩
          clear HE e H1 H2
          go_wp2
          go_ret3
          exact R.out
  · obtain ⟨e1, e2, e3⟩ := D.sp_bad h0
    have q : (D.chk l != 0) = true := by simpa using h0
    rw [if_neg h0, if_neg h0] at HL
    have RR : Hid (∀ w', Below w.heap.size w w' → C.SplitEnd l w (.returned (.tuple #[.slice none 0 0, .slice none 0 0, .int .i64 (D.chk l)])) w') := fun w' h => ⟨_, _, by rw [e1], by rw [e2]; exact D.Made.nil w h, by rw [e3]; exact D.Made.nil w h⟩
    clear hr hb h0 e1 e2 e3
    generalize D.chk l = c at HL q RR
    go_enter Try.func24, Try.ntmps24
    go_wp2_with fail
    refine HL.out.mono ?_
    rintro e w2 ⟨rfl, hm⟩
    have R := Lib.hid (RR.out w2 hm)
    clear hm HL RR
    go_wp2
    go_ret3
    exact R.out
end Go.Proofs.Yteondigaklonpaa
