/- The contract of the reference's normal form. -/
import Derived.Test.YtdilkoogjkabfaaDeltaOwn
import Derived.Deep.DeepCutAuto
import Derived.Deep.CutBlock
namespace Go.Proofs.Ytdilkoogjkabfaa
open Go.RowKit

/-- What Form leaves: a row of the call's own with the normal form. -/
def D.FormEnd (a : List D.Q) (w : World) (e : Ending) (w' : World) : Prop := ∃ v, e = .returned v ∧ D.RowAt (D.nf a) w v w'
set_option maxRecDepth 100000 in
set_option maxHeartbeats 4000000 in
theorem refForm_any (ao : Option Addr) (cap : Nat) (a : List D.Q) (w : World) (pa : D.allPos a = true) (hn : a.length ≤ 1000000) (hi : D.inL a ≤ 1000000000) (ho : D.outL a ≤ 1000000000) (hr : D.Row w ao (a.map D.raw)) :
    Calls Try.prog 44 #[.slice ao a.length cap] w (D.FormEnd a w) := by
  obtain ⟨ip, hp, hp0, hp1, hp2⟩ := info_parts Try.infoPiece
  obtain ⟨ib, hb, hb0, hb1, hb2⟩ := info_parts Try.infoByte
  have Hp := Lib.hid (And.intro hp (And.intro hp0 (And.intro hp1 hp2)))
  have Hb := Lib.hid (And.intro hb (And.intro hb0 (And.intro hb1 hb2)))
  clear hp hp0 hp1 hp2 hb hb0 hb1 hb2
  have Hr := Lib.hid hr
  have Pa := Lib.hid pa
  clear hr pa
  go_enter Try.func44, Try.ntmps44
  go_wp2
  go_loopw [3, 4] (fun v i wr => ∃ (k : Nat) (x : List D.Q), k ≤ a.length ∧ i = .int .i64 k ∧ Hid (D.FormAt a w v k wr x)) (fun _ i _ => a.length - (intOf i).toNat)
  case atStart => exact ⟨0, [], Nat.zero_le _, rfl, World.ownsRow_nil _ _ _ _, rfl, Below.refl _ _⟩
  case round =>
    obtain ⟨k, x, hk, rfl, hm⟩ := hrel
    obtain ⟨W0, rfl⟩ : ∃ W0 : World, W0 = wr := ⟨_, rfl⟩
    by_cases hlt : k < a.length
    · go_upto_block 2 with (fail)
      go_cut [4, 5, 6] (fun i tv n wx => ∃ j, k ≤ j ∧ j ≤ a.length ∧ i = .int .i64 j ∧ n = .int .i64 (D.del (D.seg a k j) : Int) ∧ Hid (D.GapAt a x w W0 u3 k j tv wx) ∧ Hid (j = a.length ∨ D.headR (a.drop j) = true))
      case first =>
        go_wp2
        go_loopw [4, 5, 6] (fun i tv n wx => ∃ j, k ≤ j ∧ j ≤ a.length ∧ i = .int .i64 j ∧ n = .int .i64 (D.del (D.seg a k j) : Int) ∧ Hid (D.GapAt a x w W0 u3 k j tv wx)) (fun i _ _ _ => a.length - (intOf i).toNat)
        case atStart =>
          refine ⟨k, Nat.le_refl _, hk, rfl, by rw [D.seg_self]; rfl, hm.out.own, ?_, ?_, Below.refl _ _⟩
          · rw [D.seg_self]; exact World.ownsRow_nil _ _ _ _
          · rw [D.seg_self]; intro q hq; cases hq
        case round =>
          obtain ⟨j, hkj, hj, rfl, rfl, hg⟩ := hrel
          by_cases hjl : j < a.length
          · obtain ⟨q, hq, hqd⟩ : ∃ q, a[j]? = some q ∧ a.drop j = q :: a.drop (j + 1) := ⟨a[j], List.getElem?_eq_getElem hjl, List.drop_eq_getElem_cons hjl⟩
            obtain ⟨b, o, e, hbl, hc⟩ := Hr.out j (D.raw q) (by rw [List.getElem?_map, hq]; rfl)
            subst e
            have hbw := hm.out.below.trans (hg.out.below.mono hm.out.below.size)
            obtain ⟨c0, c1, c2⟩ := D.cell3 hbw hbl hc
            cases q with
            | R n =>
              have hh : Hid (j = a.length ∨ D.headR (a.drop j) = true) := .inr (by rw [hqd]; rfl)
              clear hq hqd hc hbw
              unfold D.raw at c0 c1 c2
              go_wp2
              go_meet
              case rel => exact ⟨j, hkj, hj, rfl, rfl, hg, hh⟩
            | I t =>
              have hsg := Lib.hid (D.seg_snoc a k j _ hq hkj)
              have htx : Hid (D.txt (D.seg a k (j + 1)) = D.txt (D.seg a k j) ++ D.txt1 (.I t)) := by show _ = _; rw [hsg.out, D.txt_snoc]
              have hdl : Hid (D.del (D.seg a k (j + 1)) = D.del (D.seg a k j) + D.del1 (.I t)) := by show _ = _; rw [hsg.out, D.del_snoc]
              obtain ⟨z1, z2, _⟩ := D.seg_bd a k (j + 1)
              rw [htx.out, List.length_append] at z1
              rw [hdl.out] at z2
              simp only [D.txt1, D.del1] at z1 z2
              have hz : (⟨t.toArray⟩ : ByteArray).size = (t : List UInt8).length := D.size_l t
              have hZ := Lib.hid hz
              have Hc := Lib.hid hc
              clear hqd hc hbw hz hq
              unfold D.raw at c0 c1 c2
              go_wp2_with (at_builtin; refine Lib.wpList_append_own_string _ rfl _ _ 56 9 rfl W0.heap.size 5 ib Try.underlying56 Try.underlying9 Hb.out.1 Hb.out.2.1 Hb.out.2.2.1 Hb.out.2.2.2 _ _ _ rfl hg.out.txt ⟨t.toArray⟩ rfl ?p3 ?p4 ?p5 ?_)
              case p3 => unfold maxLen; have := hZ.out; (try simp only [List.length_nil] at this); omega
              case p4 => have := hZ.out; (try simp only [List.length_nil] at this); omega
              case p5 => exact hg.out.below.size
              intro v' w3 hown' hgrow _
              have R : Hid (D.GapAt a x w W0 u3 k (j + 1) v' w3) := by
                have hbl' := hg.out.below.grown hgrow hg.out.below.size (fun k e => (hg.out.txt.lt k e).1)
                refine ⟨D.own_below hm.out.own hbl', ?_, ?_, hbl'⟩
                · rw [htx.out, D.bytesL_append, List.length_append]
                  first
                    | exact hown'
                    | (rw [hZ.out] at hown'; exact hown')
                · rw [hsg.out]
                  intro y hy
                  rcases List.mem_append.1 hy with hy | hy
                  · exact hg.out.gap y hy
                  · simp at hy; subst hy; rfl
              clear hown' hgrow c0 c1 c2
              obtain ⟨c0, c1, c2⟩ := D.cell3 (hm.out.below.trans (R.out.below.mono hm.out.below.size)) hbl Hc.out
              unfold D.raw at c0 c1 c2
              go_wp2
              go_roundw
              case rel => exact ⟨j + 1, by omega, by omega, by go_num, by rw [hdl.out]; simp [D.del1], R⟩
              case measure => simp [intOf]; omega
            | D n =>
              have hsg := Lib.hid (D.seg_snoc a k j _ hq hkj)
              have htx : Hid (D.txt (D.seg a k (j + 1)) = D.txt (D.seg a k j) ++ D.txt1 (.D n)) := by show _ = _; rw [hsg.out, D.txt_snoc]
              have hdl : Hid (D.del (D.seg a k (j + 1)) = D.del (D.seg a k j) + D.del1 (.D n)) := by show _ = _; rw [hsg.out, D.del_snoc]
              obtain ⟨z1, z2, _⟩ := D.seg_bd a k (j + 1)
              rw [htx.out, List.length_append] at z1
              rw [hdl.out] at z2
              simp only [D.txt1, D.del1, List.length_nil] at z1 z2
              have hz : (⟨#[]⟩ : ByteArray).size = ([] : List UInt8).length := rfl
              have hZ := Lib.hid hz
              have Hc := Lib.hid hc
              clear hqd hc hbw hz hq
              unfold D.raw at c0 c1 c2
              go_wp2_with (at_builtin; refine Lib.wpList_append_own_string _ rfl _ _ 56 9 rfl W0.heap.size 5 ib Try.underlying56 Try.underlying9 Hb.out.1 Hb.out.2.1 Hb.out.2.2.1 Hb.out.2.2.2 _ _ _ rfl hg.out.txt ⟨#[]⟩ rfl ?q3 ?q4 ?q5 ?_)
              case q3 => unfold maxLen; have := hZ.out; (try simp only [List.length_nil] at this); omega
              case q4 => have := hZ.out; (try simp only [List.length_nil] at this); omega
              case q5 => exact hg.out.below.size
              intro v' w3 hown' hgrow _
              have R : Hid (D.GapAt a x w W0 u3 k (j + 1) v' w3) := by
                have hbl' := hg.out.below.grown hgrow hg.out.below.size (fun k e => (hg.out.txt.lt k e).1)
                refine ⟨D.own_below hm.out.own hbl', ?_, ?_, hbl'⟩
                · rw [htx.out, D.bytesL_append, List.length_append]
                  first
                    | exact hown'
                    | (rw [hZ.out] at hown'; exact hown')
                · rw [hsg.out]
                  intro y hy
                  rcases List.mem_append.1 hy with hy | hy
                  · exact hg.out.gap y hy
                  · simp at hy; subst hy; rfl
              clear hown' hgrow c0 c1 c2
              obtain ⟨c0, c1, c2⟩ := D.cell3 (hm.out.below.trans (R.out.below.mono hm.out.below.size)) hbl Hc.out
              unfold D.raw at c0 c1 c2
              go_wp2
              go_roundw
              case rel => exact ⟨j + 1, by omega, by omega, by go_num, by rw [hdl.out]; simp only [D.del1]; go_num, R⟩
              case measure => simp [intOf]; omega
          · obtain rfl : j = a.length := by omega
            go_wp2
            go_meet
            case rel => exact ⟨a.length, hkj, hj, rfl, rfl, hg, show _ ∨ _ from .inl rfl⟩
      case rest =>
        obtain ⟨j, hkj, hj, rfl, rfl, hg, hh⟩ := hcut
        have hxl := hm.out.small
        have Hbw := Lib.hid (hm.out.below.trans (hg.out.below.mono hm.out.below.size))
        obtain ⟨T, hT⟩ : ∃ T, Hid (D.txt (D.seg a k j) = T) := ⟨_, rfl⟩
        have hown := hg.out.own
        have htxt := hg.out.txt
        rw [hT.out] at htxt
        have hTl : T.length ≤ 1000000000 := by rw [← hT.out]; have := (D.seg_bd a k j).1; omega
        have hdl : D.del (D.seg a k j) ≤ 1000000000 := by have := (D.seg_bd a k j).2.1; omega
        have Hown := Lib.hid hown
        have Hgap := Lib.hid hg.out.gap
        clear hown
        obtain ⟨tb, tc, rfl⟩ := D.slice_of_own htxt
        have Htxt := Lib.hid htxt
        clear htxt hg
        go_upto_if 41 with (fail)
        go_cut [3] (fun v wx => Hid (D.RowAt (x ++ D.oI T) w v wx))
        case first =>
          by_cases ht : T = []
          · have R : Hid (D.RowAt (x ++ D.oI T) w u3 wc) := by
              show D.RowAt _ _ _ _
              rw [ht, D.oI_nil, List.append_nil]; exact ⟨Hown.out, Hbw.out⟩
            subst ht
            go_wp2
            go_meet
            case rel => exact R
          · obtain ⟨g, c, hv, hby⟩ := D.bytes_of_own Htxt.out ht
            cases hv
            have hpos : 0 < T.length := by cases T with
              | nil => exact absurd rfl ht
              | cons => simp
            have hconv := Lib.run_convert_whole (P := Try.prog) wc 56 5 9 Try.underlying56 Try.underlying5 Try.underlying9 g 0 ⟨T.toArray⟩ hby tc
            rw [D.size_l] at hconv
            have HT := Lib.hid ht
            clear ht hby
            go_wp2_with (at_builtin; refine wpList_append_own _ rfl _ _ 26 rfl w.heap.size 47 ip (.agg #[.int .u8 0, .int .i64 0, .string ⟨#[]⟩]) 3 32 Try.underlying26 Hp.out.1 Hp.out.2.1 Hp.out.2.2.1 Hp.out.2.2.2 rfl (by decide) _ _ _ rfl (Hown.out.alloc _) ⟨wc.heap.size, 0, none⟩ 1 1 [.int .u8 2, .int .i64 0, .string ⟨T.toArray⟩] rfl rfl ?a1 ?a2 ?a3 ?a4 ?a5 ?_)
            case a1 => exact D.news wc _ _
            case a2 => intro u hu; simp at hu; rcases hu with rfl | rfl | rfl <;> rfl
            case a3 => unfold maxLen; omega
            case a4 => omega
            case a5 => have := Hbw.out.size; simp only [World.size_alloc]; omega
            intro v' w3 hown' hgrow _
            have R : Hid (D.RowAt (x ++ [.I T]) w v' w3) := by
              refine ⟨?_, (Hbw.out.alloc Hbw.out.size _).grown hgrow (by have := Hbw.out.size; simp only [World.size_alloc]; omega) (fun k e => (Hown.out.lt k e).1)⟩
              rw [List.map_append, D.cellsL_append, List.length_append]
              exact hown'
            clear hown' hgrow
            go_wp2
            go_meet
            case rel =>
              show D.RowAt _ _ _ _
              rw [D.oI_pos HT.out]; exact R.out
        case rest =>
          obtain ⟨N, hN⟩ : ∃ N, Hid (D.del (D.seg a k j) = N) := ⟨_, rfl⟩
          rw [hN.out] at hdl ⊢
          clear Hown Htxt Hbw
          obtain ⟨x1, hx1⟩ : ∃ y : List D.Q, Hid (x ++ D.oI T = y) := ⟨_, rfl⟩
          rw [hx1.out] at hcut
          have Hown := Lib.hid hcut.out.own
          have Hbw := Lib.hid hcut.out.below
          have hx1l : x1.length ≤ a.length + 1 := by rw [← hx1.out, List.length_append]; have := D.oI_len T; omega
          clear hcut
          go_upto_if 49 with (fail)
          go_cut [3] (fun v wx => Hid (D.RowAt (x1 ++ D.oD N) w v wx))
          case first =>
            rcases Nat.eq_zero_or_pos N with hN0 | hN0
            · subst hN0
              have R : Hid (D.RowAt (x1 ++ D.oD 0) w u3 wc) := by
                show D.RowAt _ _ _ _
                rw [D.oD_zero, List.append_nil]; exact ⟨Hown.out, Hbw.out⟩
              go_wp2
              go_meet
              case rel => exact R
            · have HN := Lib.hid hN0
              go_wp2_with (at_builtin; refine wpList_append_own _ rfl _ _ 26 rfl w.heap.size 47 ip (.agg #[.int .u8 0, .int .i64 0, .string ⟨#[]⟩]) 3 32 Try.underlying26 Hp.out.1 Hp.out.2.1 Hp.out.2.2.1 Hp.out.2.2.2 rfl (by decide) _ _ _ rfl (Hown.out.alloc _) ⟨wc.heap.size, 0, none⟩ 1 1 [.int .u8 3, .int .i64 (N : Int), .string ⟨#[]⟩] rfl rfl ?b1 ?b2 ?b3 ?b4 ?b5 ?_)
              case b1 => exact D.news wc _ _
              case b2 => intro u hu; simp at hu; rcases hu with rfl | rfl | rfl <;> rfl
              case b3 => unfold maxLen; omega
              case b4 => omega
              case b5 => have := Hbw.out.size; simp only [World.size_alloc]; omega
              intro v' w3 hown' hgrow _
              have R : Hid (D.RowAt (x1 ++ [D.Q.D N]) w v' w3) := by
                refine ⟨?_, (Hbw.out.alloc Hbw.out.size _).grown hgrow (by have := Hbw.out.size; simp only [World.size_alloc]; omega) (fun k e => (Hown.out.lt k e).1)⟩
                rw [List.map_append, D.cellsL_append, List.length_append]
                exact hown'
              clear hown' hgrow
              go_wp2
              go_meet
              case rel =>
                show D.RowAt _ _ _ _
                rw [D.oD_pos HN.out]; exact R.out
          case rest =>
            clear Hown Hbw
            obtain ⟨x2, hx2⟩ : ∃ y : List D.Q, Hid (x1 ++ D.oD N = y) := ⟨_, rfl⟩
            rw [hx2.out] at hcut
            have Hown := Lib.hid hcut.out.own
            have Hbw := Lib.hid hcut.out.below
            have hx2l : x2.length ≤ a.length + 2 := by rw [← hx2.out, List.length_append]; have := D.oD_len N; omega
            clear hcut
            clear hdl
            go_upto_block 4 with (fail)
            go_cut [4, 6] (fun i n wx => ∃ m, j ≤ m ∧ m ≤ a.length ∧ i = .int .i64 m ∧ n = .int .i64 (D.ret (D.seg a j m) : Int) ∧ Hid (∀ q ∈ D.seg a j m, D.isR q = true) ∧ Hid (D.headR (a.drop m) = false) ∧ wx = wc)
            case first =>
              go_wp2
              go_loop [4, 6] (fun i n => ∃ m, j ≤ m ∧ m ≤ a.length ∧ i = .int .i64 m ∧ n = .int .i64 (D.ret (D.seg a j m) : Int) ∧ Hid (∀ q ∈ D.seg a j m, D.isR q = true)) (fun i _ => a.length - (intOf i).toNat)
              case atStart => exact ⟨j, Nat.le_refl _, hj, rfl, by rw [D.seg_self]; rfl, fun q hq => by rw [D.seg_self] at hq; cases hq⟩
              case round =>
                obtain ⟨m, hjm, hml, rfl, rfl, hrun⟩ := hrel
                by_cases hmlt : m < a.length
                · obtain ⟨q, hq, hqd⟩ : ∃ q, a[m]? = some q ∧ a.drop m = q :: a.drop (m + 1) := ⟨a[m], List.getElem?_eq_getElem hmlt, List.drop_eq_getElem_cons hmlt⟩
                  obtain ⟨b, o, e, hbl, hc⟩ := Hr.out m (D.raw q) (by rw [List.getElem?_map, hq]; rfl)
                  subst e
                  obtain ⟨c0, c1, c2⟩ := D.cell3 Hbw.out hbl hc
                  clear hc
                  cases q with
                  | R n =>
                    have hsg := Lib.hid (D.seg_snoc a j m _ hq hjm)
                    have hrt : Hid (D.ret (D.seg a j (m + 1)) = D.ret (D.seg a j m) + D.ret1 (.R n)) := by show _ = _; rw [hsg.out, D.ret_snoc]
                    obtain ⟨_, _, z3⟩ := D.seg_bd a j (m + 1)
                    rw [hrt.out] at z3
                    simp only [D.ret1] at z3
                    have hrun' : Hid (∀ q ∈ D.seg a j (m + 1), D.isR q = true) := by
                      intro y hy
                      rw [hsg.out] at hy
                      rcases List.mem_append.1 hy with hy | hy
                      · exact hrun.out y hy
                      · simp at hy; subst hy; rfl
                    clear hq hqd
                    unfold D.raw at c0 c1 c2
                    go_wp2
                    go_round
                    case rel => exact ⟨m + 1, by omega, by omega, by go_num, by rw [hrt.out]; simp only [D.ret1]; go_num, hrun'⟩
                    case measure => simp [intOf]; omega
                  | I t =>
                    have hh2 : Hid (D.headR (a.drop m) = false) := by show _ = _; rw [hqd]; rfl
                    clear hq hqd
                    unfold D.raw at c0 c1 c2
                    go_wp2
                    go_meet
                    case rel => exact ⟨m, hjm, hml, rfl, rfl, hrun, hh2, rfl⟩
                  | D n =>
                    have hh2 : Hid (D.headR (a.drop m) = false) := by show _ = _; rw [hqd]; rfl
                    clear hq hqd
                    unfold D.raw at c0 c1 c2
                    go_wp2
                    go_meet
                    case rel => exact ⟨m, hjm, hml, rfl, rfl, hrun, hh2, rfl⟩
                · obtain rfl : m = a.length := by omega
                  have hh2 : Hid (D.headR (a.drop a.length) = false) := by show _ = _; rw [List.drop_length]; rfl
                  go_wp2
                  go_meet
                  case rel => exact ⟨a.length, hjm, hml, rfl, rfl, hrun, hh2, rfl⟩
            case rest =>
              obtain ⟨m, hjm, hml, rfl, rfl, hrun, hh2, rfl⟩ := hcut
              have hkm : k < m := by
                rcases Nat.lt_or_ge k m with h | h
                · exact h
                · exfalso
                  have e1 : j = k := by omega
                  have e2 : m = k := by omega
                  subst e1
                  rcases hh.out with h1 | h1
                  · omega
                  · have := hh2.out; rw [e2, h1] at this; cases this
              have hst := D.form_step a Pa.out k j m hkj hjm hml Hgap.out hrun.out hh.out hh2.out x hm.out.nf
              rw [hT.out, hx1.out, hN.out, hx2.out] at hst
              have Hst := Lib.hid hst
              obtain ⟨M, hM⟩ : ∃ M, Hid (D.ret (D.seg a j m) = M) := ⟨_, rfl⟩
              rw [hM.out] at Hst
              rw [hM.out]
              have hMl : M ≤ 1000000000 := by rw [← hM.out]; have := (D.seg_bd a j m).2.2; omega
              clear hst hrun hM hm
              rcases Nat.eq_zero_or_pos M with hM0 | hM0
              · subst hM0
                have R : Hid (D.FormAt a w u3 m wc x2) := ⟨Hown.out, by have := Hst.out; rwa [D.oR_zero, List.append_nil] at this, Hbw.out⟩
                go_wp2
                go_roundw
                case rel => exact ⟨m, x2, hml, rfl, R⟩
                case measure => simp [intOf]; omega
              · have HM := Lib.hid hM0
                go_wp2_with (at_builtin; refine wpList_append_own _ rfl _ _ 26 rfl w.heap.size 47 ip (.agg #[.int .u8 0, .int .i64 0, .string ⟨#[]⟩]) 3 32 Try.underlying26 Hp.out.1 Hp.out.2.1 Hp.out.2.2.1 Hp.out.2.2.2 rfl (by decide) _ _ _ rfl (Hown.out.alloc _) ⟨wc.heap.size, 0, none⟩ 1 1 [.int .u8 1, .int .i64 (M : Int), .string ⟨#[]⟩] rfl rfl ?d1 ?d2 ?d3 ?d4 ?d5 ?_)
                case d1 => exact D.news wc _ _
                case d2 => intro u hu; simp at hu; rcases hu with rfl | rfl | rfl <;> rfl
                case d3 => unfold maxLen; omega
                case d4 => omega
                case d5 => have := Hbw.out.size; simp only [World.size_alloc]; omega
                intro v' w3 hown' hgrow _
                have R : Hid (D.RowAt (x2 ++ [D.Q.R M]) w v' w3) := by
                  refine ⟨?_, (Hbw.out.alloc Hbw.out.size _).grown hgrow (by have := Hbw.out.size; simp only [World.size_alloc]; omega) (fun k e => (Hown.out.lt k e).1)⟩
                  rw [List.map_append, D.cellsL_append, List.length_append]
                  exact hown'
                clear hown' hgrow
                have R2 : Hid (D.FormAt a w v' m w3 (x2 ++ [D.Q.R M])) := ⟨R.out.own, by have := Hst.out; rwa [D.oR_pos HM.out] at this, R.out.below⟩
                go_wp2
                go_roundw
                case rel => exact ⟨m, _, hml, rfl, R2⟩
                case measure => simp [intOf]; omega
    · obtain rfl : k = a.length := by omega
      have R : Hid (D.RowAt (D.nf a) w u3 W0) := by
        have h := hm.out.nf
        rw [List.drop_length] at h
        have e : x = D.nf a := by rw [← h]; exact (List.append_nil x).symm
        show D.RowAt _ _ _ _
        rw [← e]; exact ⟨hm.out.own, hm.out.below⟩
      go_wp2
      go_ret
      exact ⟨_, rfl, R.out⟩
end Go.Proofs.Ytdilkoogjkabfaa
