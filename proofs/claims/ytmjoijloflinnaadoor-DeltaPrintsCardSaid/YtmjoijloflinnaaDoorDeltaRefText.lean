/- The contract of the reference's Text. -/
import Derived.Test.YtmjoijloflinnaaDoorDeltaTextKit
import Derived.Test.YtmjoijloflinnaaDoorDeltaText
import Derived.Test.YtmjoijloflinnaaDoorDeltaRef4
import Derived.Test.YtmjoijloflinnaaDoorDeltaAdd
import Derived.Test.YtmjoijloflinnaaDoorDeltaPieceI
import Derived.Deep.AppendLies
import Derived.Deep.RegionLaw
import Derived.Deep.DeepCutAuto
import Derived.Deep.CutBlock
import Derived.Laws.BytesArg
namespace Go.Proofs.YtmjoijloflinnaaDoor
open Go.RowKit

set_option maxRecDepth 100000 in
set_option maxHeartbeats 2000000 in
theorem refText_any (ao : Option Addr) (cap : Nat) (l : List D.P) (w : World) (hn : l.length ≤ maxLen) (hr : D.Row w ao l) (ht : ∀ p ∈ l, p.t.size ≤ 140737488351232) :
    Calls Tryd.prog 32 #[.slice ao l.length cap] w (D.TextEnd l w) := by
  have Hc := Lib.hid (refCheck_any ao cap l w hn hr ht)
  by_cases h : D.chk l = 0
  · obtain ⟨a, ha⟩ : ∃ a, Hid (D.qs l = a) := ⟨_, rfl⟩
    obtain ⟨hraw, pa, hl, hle, hi, ho⟩ := D.valid_qs h
    have R : Hid (∀ w', Below w.heap.size w w' → D.TextEnd l w (.returned (.tuple #[.string ⟨(D.text a).toArray⟩, .int .i64 0])) w') := fun w' hb => ⟨by unfold D.txtP; rw [if_pos h, h, ha.out], hb⟩
    rw [h] at Hc
    rw [ha.out] at hraw pa hi ho hl
    rw [← hraw] at hr
    have Hr := Lib.hid hr
    have Tl := Lib.hid (D.text_take_len a hi ho (by omega))
    clear hr hraw ht h ha hn
    rw [← hl] at Hc ⊢
    rw [← hl] at hle
    clear hl
    obtain ⟨ib, hb, hb0, hb1, hb2⟩ := info_parts Tryd.infoByte
    have Hb := Lib.hid (And.intro hb (And.intro hb0 (And.intro hb1 hb2)))
    clear hb hb0 hb1 hb2
    go_enter Tryd.func32, Tryd.ntmps32
    go_wp2_with fail
    refine Hc.out.mono ?_
    rintro e w1 ⟨rfl, hbw⟩
    have Hbw := Lib.hid hbw
    clear hbw
    go_wp2
    go_loopw [5, 6] (fun v i wr => ∃ k : Nat, k ≤ a.length ∧ i = .int .i64 k ∧ Hid (D.BytesAt (D.text (a.take k)) w v wr)) (fun _ i _ => a.length - (intOf i).toNat)
    case atStart => exact ⟨0, Nat.zero_le _, rfl, ⟨World.ownsRow_nil _ _ _ _, Hbw.out⟩⟩
    case round =>
      obtain ⟨k, hk, rfl, hj⟩ := hrel
      by_cases hlt : k < a.length
      · obtain ⟨q, hq⟩ : ∃ q, a[k]? = some q := ⟨a[k], List.getElem?_eq_getElem hlt⟩
        have htk := Lib.hid (D.text_take a k q hq)
        have hlen := Tl.out k
        obtain ⟨W0, rfl⟩ : ∃ W0 : World, W0 = wr := ⟨_, rfl⟩
        obtain ⟨T, hT⟩ : ∃ T, Hid (D.text (a.take k) = T) := ⟨_, rfl⟩
        rw [hT.out] at htk hj hlen
        have Hown := Lib.hid hj.out.own
        have Hbw := Lib.hid hj.out.below
        clear hj
        obtain ⟨tb, tc, rfl⟩ := D.slice_of_own Hown.out
        have hsl := D.sep_len k
        go_upto_if 20 with (fail)
        go_cut [5] (fun v wx => Hid (D.BytesAt (T ++ D.sep k) w v wx))
        case first =>
          by_cases hk0 : k = 0
          · subst hk0
            have R2 : Hid (D.BytesAt (T ++ D.sep 0) w (.slice tb T.length tc) W0) := by
              show D.BytesAt _ _ _ _
              have : T ++ D.sep 0 = T := List.append_nil T
              rw [this]; exact ⟨Hown.out, Hbw.out⟩
            go_wp2
            go_meet
            case rel => exact R2
          · have hk0' : (0 : Int) < k := by omega
            have hsep : Hid (D.sep k = [32]) := by show _ = _; unfold D.sep; rw [if_neg hk0]
            go_wp2_with (at_builtin; refine wpList_append_own _ rfl _ _ 62 rfl w.heap.size 5 ib (.int .u8 0) 1 1 Tryd.underlying62 Hb.out.1 Hb.out.2.1 Hb.out.2.2.1 Hb.out.2.2.2 rfl (by decide) _ _ _ rfl (Hown.out.alloc _) ⟨W0.heap.size, 0, none⟩ 1 1 [.int .u8 32] rfl rfl ?a1 ?a2 ?a3 ?a4 ?a5 ?_)
            case a1 => exact D.news W0 _ _
            case a2 => intro u hu; simp at hu; rcases hu with rfl; rfl
            case a3 => unfold maxLen; omega
            case a4 => omega
            case a5 => have := Hbw.out.size; simp only [World.size_alloc]; omega
            intro v' w3 hown' hgrow _
            have R2 : Hid (D.BytesAt (T ++ D.sep k) w v' w3) := by
              refine ⟨?_, (Hbw.out.alloc Hbw.out.size _).grown hgrow (by have := Hbw.out.size; simp only [World.size_alloc]; omega) (fun k e => (Hown.out.lt k e).1)⟩
              rw [hsep.out, D.bytesL_append, List.length_append]
              exact hown'
            clear hown' hgrow
            go_wp2
            go_meet
            case rel => exact R2
        case rest =>
          obtain ⟨T2, hT2⟩ : ∃ T2, Hid (T ++ D.sep k = T2) := ⟨_, rfl⟩
          have hl2 : T2.length ≤ 3000001 := by rw [← hT2.out, List.length_append]; omega
          rw [hT2.out] at hcut htk
          obtain ⟨b, o, e, hbl, hcell⟩ := Hr.out k (D.raw q) (by rw [List.getElem?_map, hq]; rfl)
          subst e
          have hqi : D.in1 q ≤ 1048576 := by have h1 := D.inL_snoc a k q hq; have h2 := D.inL_le a (k + 1); omega
          have hqo : D.out1 q ≤ 1048576 := by have h1 := D.outL_snoc a k q hq; have h2 := D.outL_le a (k + 1); omega
          have Hown2 := Lib.hid hcut.out.own
          have Hbw2 := Lib.hid hcut.out.below
          clear hcut Hown Hbw
          obtain ⟨tb2, tc2, rfl⟩ := D.slice_of_own Hown2.out
          obtain ⟨c0, c1, c2⟩ := D.cell3 Hbw2.out hbl hcell
          cases q with
          | R n =>
            simp only [D.in1] at hqi
            unfold D.raw at c0 c1 c2
            have hO := Hown2.out
            have hL := Hbw2.out
            have hbc : b < wc.heap.size := Nat.lt_of_lt_of_le hbl hL.size
            have ca : ∀ ob, (wc.alloc ob).cell? ⟨b, o + k * 3 + 1, none⟩ = some (.int .i64 n) := fun ob => ((D.bcell ((Below.refl wc.heap.size wc).alloc (Nat.le_refl _) ob)).1 b _ hbc).trans c1
            have hdl := D.digs_len 6 n (by omega)
            have hdz : (⟨(D.digs n).toArray⟩ : ByteArray).size = (D.digs n).length := D.size_l _
            have hdg : Hid (∀ V : World, Calls Tryd.prog 46 #[.int .i64 n] V (D.DigEnd n V)) := fun V => refDigits_any n (by omega) V
            have Hf : Hid (D.text (a.take (k + 1)) = (T2 ++ [61]) ++ D.digs n) := by show _ = _; rw [htk.out, D.form1, List.append_assoc]; rfl
            have hds := Lib.hid hdz
            have hdls := Lib.hid hdl
            unfold D.DigEnd at hdg
            generalize D.digs n = ds at hdz hdl hdg Hf hds hdls
            go_wp2_with fail
            go_region_law (first
              | (refine D.step_append_string rfl (.tmp 67) (.tmp 73) 62 9 rfl w.heap.size 5 ib Tryd.underlying62 Tryd.underlying9 Hb.out.1 Hb.out.2.1 Hb.out.2.2.1 Hb.out.2.2.2 _ (T2.length + 1) (D.bytesL T2 ++ [.int .u8 61]) rfl ?own ⟨ds.toArray⟩ rfl (by unfold maxLen; omega) (by omega) ?base ?_
                 case own => repeat (first | exact hO1 | refine World.ownsRow.drew ?_)
                 case base => have := hL1.size; first | omega | (simp; omega)
                 intro v3 w3 hO3 hg3
                 have hR : Hid (D.BytesAt (D.text (a.take (k + 1))) w v3 w3) := by
                   refine ⟨?_, Below.grown ?_ hg3 ?_ (fun k e => (hO1.lt k e).1)⟩
                   · rw [Hf.out, D.bytesL_append, D.bytesL_append, List.length_append, List.length_append]
                     rw [hds.out] at hO3
                     exact hO3
                   · repeat (first | exact hL1 | refine Below.drew ?_)
                   · have := hL1.size; first | omega | (simp; omega)
                 clear hg3 hO3)
              | (refine step_append_lies _ rfl (.tmp 65) (.tmp 66) 62 rfl w.heap.size 5 ib (.int .u8 0) 1 1 Tryd.underlying62 Hb.out.1 Hb.out.2.1 Hb.out.2.2.1 Hb.out.2.2.2 rfl (by decide) (.slice tb2 T2.length tc2) T2.length (D.bytesL T2) rfl ?own _ 1 1 [.int .u8 61] rfl rfl ?news (fun u hu => by simp at hu; rw [hu]; rfl) (by decide) (by unfold maxLen; omega) (by omega) ?base _ rfl ?_
                 case own => repeat (first | exact hO | refine World.ownsRow.drew ?_ | refine World.ownsRow.alloc ?_ _)
                 case news => first | exact D.news _ _ _ | exact hnw
                 case base => have := hL.size; first | omega | (simp; omega)
                 intro g cp w1 hO1 hg1 hat1 hlt1
                 have hL1 : Below w.heap.size w w1 := by
                   refine Below.grown ?_ hg1 ?_ (fun k e => (hO.lt k e).1)
                   · repeat (first | exact hL | refine Below.drew ?_ | refine Below.alloc ?_ (by have := hL.size; first | omega | (simp; omega)) _)
                   · have := hL.size; first | omega | (simp; omega)
                 have c1 : w1.cell? ⟨b, o + k * 3 + 1, none⟩ = some (.int .i64 n) := (D.cell3 (p := ⟨1, (n : Int), ⟨#[]⟩⟩) hL1 hbl hcell).2.1
                 clear hg1 hat1 hlt1)
              | (go_simp; go_at_call 46; refine (hdg.out _).mono ?_; rintro e w2 ⟨rfl, hb2⟩
                 (first
                   | (have hO2 := D.own_below (World.ownsRow.drew hO1) hb2; have hL2 := hL1.drew.trans (hb2.mono hL1.size); clear hO1 hL1; have hO1 := hO2; have hL1 := hL2; clear hO2 hL2)
                   | (have hO2 := D.own_below hO1 hb2; have hL2 := hL1.trans (hb2.mono hL1.size); clear hO1 hL1; have hO1 := hO2; have hL1 := hL2; clear hO2 hL2)
                   | (have hO2 : w2.ownsRow w.heap.size 5 1 (.slice tb2 T2.length tc2) T2.length (D.bytesL T2) := by
                        refine D.own_below ?_ hb2
                        repeat (first | exact hO | refine World.ownsRow.drew ?_ | refine World.ownsRow.alloc ?_ _)
                      have hL2 : Below w.heap.size w w2 := by
                        refine Below.trans ?_ (hb2.mono ?_)
                        · repeat (first | exact hL | refine Below.drew ?_ | refine Below.alloc ?_ (by have := hL.size; first | omega | (simp; omega)) _)
                        · have := hL.size; first | omega | (simp; omega)
                      try (have hnw : ∀ j u, [Value.int .u8 61][j]? = some u → w2.cell? ((⟨wc.heap.size, 0, none⟩ : Addr).add j) = some u := fun j u hu => (hb2.cell (p := (⟨wc.heap.size, 0, none⟩ : Addr).add j) (by unfold Addr.add; split <;> simp_all)).trans (D.news wc [.int .u8 61] 5 j u hu))
                      clear hO hL
                      have hO := hO2
                      have hL := hL2
                      clear hO2 hL2))
                 clear hb2))
            all_goals
              go_wp2
              go_roundw
              case rel => exact ⟨k + 1, by omega, by go_num, hR⟩
              case measure => simp [intOf]; omega
          | I t =>
            simp only [D.out1] at hqo
            unfold D.raw at c0 c1 c2
            have hhl : ∀ m, (D.hexL (t.take m)).length ≤ 2 * t.length := fun m => by rw [D.hexL_len, List.length_take]; have := Nat.min_le_right m t.length; omega
            have hfm : Hid (D.form1 (.I t) = 43 :: D.hexL t) := rfl
            go_wp2_with (at_builtin; refine wpList_append_own _ rfl _ _ 62 rfl w.heap.size 5 ib (.int .u8 0) 1 1 Tryd.underlying62 Hb.out.1 Hb.out.2.1 Hb.out.2.2.1 Hb.out.2.2.2 rfl (by decide) _ _ _ rfl (Hown2.out.alloc _) ⟨wc.heap.size, 0, none⟩ 1 1 [.int .u8 43] rfl rfl ?d1 ?d2 ?d3 ?d4 ?d5 ?_)
            case d2 => rfl
            case d3 => unfold maxLen; omega
            case d4 => omega
            case d5 => have := Hbw2.out.size; (try simp only [World.size_alloc]); omega
            intro v' w3 hown' hgrow _
            have R2 : Hid (D.BytesAt (T2 ++ [43]) w v' w3) := by
              refine ⟨?_, (Hbw2.out.alloc Hbw2.out.size _).grown hgrow (by have := Hbw2.out.size; simp only [World.size_alloc]; omega) (fun k e => (Hown2.out.lt k e).1)⟩
              rw [D.bytesL_append, List.length_append]
              exact hown'
            clear hown' hgrow
            go_wp2
            go_loopw [5, 7] (fun v i wx => ∃ m : Nat, m ≤ t.length ∧ i = .int .i64 m ∧ Hid (D.BytesAt ((T2 ++ [43]) ++ D.hexL (t.take m)) w v wx)) (fun _ i _ => t.length - (intOf i).toNat)
            case atStart => exact ⟨0, Nat.zero_le _, rfl, by show D.BytesAt _ _ _ _; exact (List.append_nil (T2 ++ [43])).symm ▸ R2.out⟩
            case round =>
              obtain ⟨m, hm, rfl, hy⟩ := hrel
              have hsz : (⟨t.toArray⟩ : ByteArray).size = t.length := D.size_l t
              obtain ⟨c0, c1, c2⟩ := D.cell3 (p := ⟨2, 0, ⟨t.toArray⟩⟩) hy.out.below hbl hcell
              by_cases hmt : m < t.length
              · obtain ⟨Z, hZ⟩ : ∃ Z, Hid ((T2 ++ [43]) ++ D.hexL (t.take m) = Z) := ⟨_, show _ = _ from rfl⟩
                have hZl : Z.length ≤ 6000000 := by rw [← hZ.out, List.length_append, List.length_append]; have := hhl m; simp only [List.length_cons, List.length_nil]; omega
                rw [hZ.out] at hy
                obtain ⟨tb3, tc3, rfl⟩ := D.slice_of_own hy.out.own
                have hmz : m < (⟨t.toArray⟩ : ByteArray).size := by omega
                have hb8 : ((⟨t.toArray⟩ : ByteArray)[m]).toNat < 256 := UInt8.toNat_lt _
                obtain ⟨B, hB⟩ : ∃ B : Nat, ((⟨t.toArray⟩ : ByteArray)[m]).toNat = B := ⟨_, rfl⟩
                have hB' : Hid ((t[m]'hmt).toNat = B) := hB
                rw [hB] at hb8
                have q1 : (B : Int).tdiv 16 = ((B / 16 : Nat) : Int) := by rw [Int.tdiv_eq_ediv_of_nonneg (by omega)]; omega
                have q2 : (B : Int).tmod 16 = ((B % 16 : Nat) : Int) := by rw [Int.tmod_eq_emod_of_nonneg (by omega)]; omega
                have hO := hy.out.own
                have hL := hy.out.below
                have e1 : IntKind.u8.wrap ((B : Int) / 16) = ((B / 16 : Nat) : Int) := by simp only [IntKind.wrap, IntKind.bits, IntKind.signed]; simp; omega
                have h1 : Hid (∀ V, Calls Tryd.prog 47 #[.int .u8 (IntKind.u8.wrap ((B : Int) / 16))] V (fun e w' => e = .returned (.int .u8 (D.hexN (B / 16)).toNat) ∧ V = w')) := fun V => by rw [e1]; exact refHex_any _ (by omega) V
                have h2 : Hid (∀ V, Calls Tryd.prog 47 #[.int .u8 ((B : Int).tmod 16)] V (fun e w' => e = .returned (.int .u8 (D.hexN (B % 16)).toNat) ∧ V = w')) := fun V => by rw [q2]; exact refHex_any _ (by omega) V
                clear q1 q2 e1
                go_wp2_with fail
                go_region_law (first
                  | (go_simp; go_at_call 47; (with_reducible refine (h1.out _).mono ?_); rintro e w2 ⟨rfl, rfl⟩)
                  | (go_simp; go_at_call 47; (with_reducible refine (h2.out _).mono ?_); rintro e w2 ⟨rfl, rfl⟩)
                  | (refine step_append_lies _ rfl (.tmp 42) (.tmp 61) 62 rfl w.heap.size 5 ib (.int .u8 0) 1 1 Tryd.underlying62 Hb.out.1 Hb.out.2.1 Hb.out.2.2.1 Hb.out.2.2.2 rfl (by decide) (.slice tb3 Z.length tc3) Z.length (D.bytesL Z) rfl ?own _ 2 2 [.int .u8 (D.hexN (B / 16)).toNat, .int .u8 (D.hexN (B % 16)).toNat] rfl rfl ?news (fun u hu => by simp at hu; rcases hu with rfl | rfl <;> rfl) (by decide) (by unfold maxLen; omega) (by omega) ?base _ rfl ?_
                     case own => repeat (first | exact hO | refine World.ownsRow.drew ?_ | refine World.ownsRow.alloc ?_ _)
                     case news => exact D.news _ _ _
                     case base => have := hL.size; first | omega | (simp; omega)
                     intro g cp w3 hO3 hg3 hat3 hlt3
                     have R : Hid (D.BytesAt ((T2 ++ [43]) ++ D.hexL (t.take (m + 1))) w (.slice (some ⟨g, 0, none⟩) (Z.length + 2) cp) w3) := by
                       refine ⟨?_, Below.grown ?_ hg3 ?_ (fun k e => (hO.lt k e).1)⟩
                       · have e : (T2 ++ [43]) ++ D.hexL (t.take (m + 1)) = Z ++ [D.hexN (B / 16), D.hexN (B % 16)] := by
                           rw [← hZ.out, D.hexL_snoc t m hmt, hB'.out]
                           simp only [List.append_assoc]
                         rw [e, D.bytesL_append, List.length_append]
                         exact hO3
                       · repeat (first | exact hL | refine Below.drew ?_ | refine Below.alloc ?_ (by have := hL.size; first | omega | (simp; omega)) _)
                       · have := hL.size; first | omega | (simp; omega)
                     clear hO3 hg3 hat3 hlt3))
                all_goals
                  have c3 := (D.cell3 (p := ⟨2, 0, ⟨t.toArray⟩⟩) R.out.below hbl hcell).2.2
                  go_wp2
                  go_roundw
                  case rel => exact ⟨m + 1, by omega, by go_num, R⟩
                  case measure => simp [intOf]; omega
              · obtain rfl : m = t.length := by omega
                have R3 : Hid (D.BytesAt (D.text (a.take (k + 1))) w u5 wr) := by
                  have := hy.out
                  rw [List.take_length] at this
                  show D.BytesAt _ _ _ _
                  rw [htk.out, hfm.out]
                  rw [List.append_assoc] at this
                  exact this
                go_wp2
                go_roundw
                case rel => exact ⟨k + 1, by omega, by go_num, R3⟩
                case measure => simp [intOf]; omega
          | D n =>
            simp only [D.in1] at hqi
            unfold D.raw at c0 c1 c2
            have hO := Hown2.out
            have hL := Hbw2.out
            have hbc : b < wc.heap.size := Nat.lt_of_lt_of_le hbl hL.size
            have ca : ∀ ob, (wc.alloc ob).cell? ⟨b, o + k * 3 + 1, none⟩ = some (.int .i64 n) := fun ob => ((D.bcell ((Below.refl wc.heap.size wc).alloc (Nat.le_refl _) ob)).1 b _ hbc).trans c1
            have hdl := D.digs_len 6 n (by omega)
            have hdz : (⟨(D.digs n).toArray⟩ : ByteArray).size = (D.digs n).length := D.size_l _
            have hdg : Hid (∀ V : World, Calls Tryd.prog 46 #[.int .i64 n] V (D.DigEnd n V)) := fun V => refDigits_any n (by omega) V
            have Hf : Hid (D.text (a.take (k + 1)) = (T2 ++ [45]) ++ D.digs n) := by show _ = _; rw [htk.out, D.form1, List.append_assoc]; rfl
            have hds := Lib.hid hdz
            have hdls := Lib.hid hdl
            unfold D.DigEnd at hdg
            generalize D.digs n = ds at hdz hdl hdg Hf hds hdls
            go_wp2_with fail
            go_region_law (first
              | (refine D.step_append_string rfl (.tmp 79) (.tmp 85) 62 9 rfl w.heap.size 5 ib Tryd.underlying62 Tryd.underlying9 Hb.out.1 Hb.out.2.1 Hb.out.2.2.1 Hb.out.2.2.2 _ (T2.length + 1) (D.bytesL T2 ++ [.int .u8 45]) rfl ?own ⟨ds.toArray⟩ rfl (by unfold maxLen; omega) (by omega) ?base ?_
                 case own => repeat (first | exact hO1 | refine World.ownsRow.drew ?_)
                 case base => have := hL1.size; first | omega | (simp; omega)
                 intro v3 w3 hO3 hg3
                 have hR : Hid (D.BytesAt (D.text (a.take (k + 1))) w v3 w3) := by
                   refine ⟨?_, Below.grown ?_ hg3 ?_ (fun k e => (hO1.lt k e).1)⟩
                   · rw [Hf.out, D.bytesL_append, D.bytesL_append, List.length_append, List.length_append]
                     rw [hds.out] at hO3
                     exact hO3
                   · repeat (first | exact hL1 | refine Below.drew ?_)
                   · have := hL1.size; first | omega | (simp; omega)
                 clear hg3 hO3)
              | (refine step_append_lies _ rfl (.tmp 77) (.tmp 78) 62 rfl w.heap.size 5 ib (.int .u8 0) 1 1 Tryd.underlying62 Hb.out.1 Hb.out.2.1 Hb.out.2.2.1 Hb.out.2.2.2 rfl (by decide) (.slice tb2 T2.length tc2) T2.length (D.bytesL T2) rfl ?own _ 1 1 [.int .u8 45] rfl rfl ?news (fun u hu => by simp at hu; rw [hu]; rfl) (by decide) (by unfold maxLen; omega) (by omega) ?base _ rfl ?_
                 case own => repeat (first | exact hO | refine World.ownsRow.drew ?_ | refine World.ownsRow.alloc ?_ _)
                 case news => first | exact D.news _ _ _ | exact hnw
                 case base => have := hL.size; first | omega | (simp; omega)
                 intro g cp w1 hO1 hg1 hat1 hlt1
                 have hL1 : Below w.heap.size w w1 := by
                   refine Below.grown ?_ hg1 ?_ (fun k e => (hO.lt k e).1)
                   · repeat (first | exact hL | refine Below.drew ?_ | refine Below.alloc ?_ (by have := hL.size; first | omega | (simp; omega)) _)
                   · have := hL.size; first | omega | (simp; omega)
                 have c1 : w1.cell? ⟨b, o + k * 3 + 1, none⟩ = some (.int .i64 n) := (D.cell3 (p := ⟨3, (n : Int), ⟨#[]⟩⟩) hL1 hbl hcell).2.1
                 clear hg1 hat1 hlt1)
              | (go_simp; go_at_call 46; refine (hdg.out _).mono ?_; rintro e w2 ⟨rfl, hb2⟩
                 (first
                   | (have hO2 := D.own_below (World.ownsRow.drew hO1) hb2; have hL2 := hL1.drew.trans (hb2.mono hL1.size); clear hO1 hL1; have hO1 := hO2; have hL1 := hL2; clear hO2 hL2)
                   | (have hO2 := D.own_below hO1 hb2; have hL2 := hL1.trans (hb2.mono hL1.size); clear hO1 hL1; have hO1 := hO2; have hL1 := hL2; clear hO2 hL2)
                   | (have hO2 : w2.ownsRow w.heap.size 5 1 (.slice tb2 T2.length tc2) T2.length (D.bytesL T2) := by
                        refine D.own_below ?_ hb2
                        repeat (first | exact hO | refine World.ownsRow.drew ?_ | refine World.ownsRow.alloc ?_ _)
                      have hL2 : Below w.heap.size w w2 := by
                        refine Below.trans ?_ (hb2.mono ?_)
                        · repeat (first | exact hL | refine Below.drew ?_ | refine Below.alloc ?_ (by have := hL.size; first | omega | (simp; omega)) _)
                        · have := hL.size; first | omega | (simp; omega)
                      try (have hnw : ∀ j u, [Value.int .u8 45][j]? = some u → w2.cell? ((⟨wc.heap.size, 0, none⟩ : Addr).add j) = some u := fun j u hu => (hb2.cell (p := (⟨wc.heap.size, 0, none⟩ : Addr).add j) (by unfold Addr.add; split <;> simp_all)).trans (D.news wc [.int .u8 45] 5 j u hu))
                      clear hO hL
                      have hO := hO2
                      have hL := hL2
                      clear hO2 hL2))
                 clear hb2))
            all_goals
              go_wp2
              go_roundw
              case rel => exact ⟨k + 1, by omega, by go_num, hR⟩
              case measure => simp [intOf]; omega
      · obtain rfl : k = a.length := by omega
        have hx := hj.out
        rw [List.take_length] at hx
        have htl := Tl.out a.length
        rw [List.take_length] at htl
        generalize D.text a = T at hx htl R
        have hb := hx.below
        have hown := hx.own
        clear hx hj
        by_cases hT0 : T = []
        · subst hT0
          have R := Lib.hid (R.out wr hb)
          obtain ⟨hl0, ⟨rfl, _⟩ | ⟨g, cp, cur, rfl, _⟩⟩ := hown
          · have hconv : (convert 62 9 (.slice none 0 0)).run Tryd.prog wr = .ok (.string ⟨#[]⟩) wr := run_convert_bytes_nil (P := Tryd.prog) wr 62 5 Tryd.underlying62 Tryd.underlying5 0 0 9 Tryd.underlying9
            go_wp2
            go_ret2
            exact R.out
          · have hconv : (convert 62 9 (.slice (some ⟨g, 0, none⟩) 0 cp)).run Tryd.prog wr = .ok (.string ⟨#[]⟩) wr := Lib.run_convert_whole (P := Tryd.prog) wr 62 5 9 Tryd.underlying62 Tryd.underlying5 Tryd.underlying9 g 0 ⟨#[]⟩ (fun i hi => absurd hi (Nat.not_lt_zero i)) cp
            go_wp2
            go_ret2
            exact R.out
        · obtain ⟨g, c, hv, hby⟩ := D.bytes_of_own hown hT0
          cases hv
          have hconv := Lib.run_convert_whole (P := Tryd.prog) wr 62 5 9 Tryd.underlying62 Tryd.underlying5 Tryd.underlying9 g 0 ⟨T.toArray⟩ hby c
          rw [D.size_l] at hconv
          have R := Lib.hid (R.out wr hb)
          clear hby hown hb hT0
          go_wp2
          go_ret2
          exact R.out
  · have h' : (D.chk l != 0) = true := by simpa using h
    have R : Hid (∀ w', Below w.heap.size w w' → D.TextEnd l w (.returned (.tuple #[.string ⟨#[]⟩, .int .i64 (D.chk l)])) w') := fun w' hb => ⟨by unfold D.txtP; rw [if_neg h], hb⟩
    generalize D.chk l = c at Hc h' R
    clear h hr ht hn
    go_enter Tryd.func32, Tryd.ntmps32
    go_wp2_with fail
    refine Hc.out.mono ?_
    rintro e w1 ⟨rfl, hb⟩
    have R := Lib.hid (R.out w1 hb)
    go_wp2
    go_ret2
    exact R.out
end Go.Proofs.YtmjoijloflinnaaDoor
