/- The contract of package delta's Text. -/
import Derived.Test.YtmjoijloflinnaaDoorDeltaTextKit
import Derived.Test.YtmjoijloflinnaaDoorDeltaPieceI
import Derived.Test.YtmjoijloflinnaaDoorDeltaLen
import Derived.Deep.DeepCutAuto
import Derived.Deep.CutBlock
namespace Go.Proofs.YtmjoijloflinnaaDoor
open Go.RowKit

/-- Within a round of Text: what has been written, and the piece in its box. -/
structure D.BtAt (T : List UInt8) (H : Nat) (p : D.P) (w : World) (v : Value) (wr : World) : Prop where
  own : wr.ownsRow w.heap.size 5 1 v T.length (D.bytesL T)
  below : Below w.heap.size w wr
  box : wr.heap[H]? = some (.cells #[.int .u8 p.k, .int .i64 p.n, .string p.t] 38)
theorem D.box_cells {w : World} {H : Nat} {p : D.P} (h : w.heap[H]? = some (.cells #[.int .u8 p.k, .int .i64 p.n, .string p.t] 38)) :
    w.cell? ⟨H, 0, none⟩ = some (.int .u8 p.k) ∧ w.cell? ⟨H, 1, none⟩ = some (.int .i64 p.n) ∧ w.cell? ⟨H, 2, none⟩ = some (.string p.t) := by
  refine ⟨?_, ?_, ?_⟩ <;> (rw [cell_of_row w H _ _ _ _ h]; rfl)
set_option maxRecDepth 100000 in
set_option maxHeartbeats 2000000 in
theorem delText_any (ao : Option Addr) (cap : Nat) (l : List D.P) (w : World) (hn : l.length ≤ maxLen) (hr : D.Row w ao l) (ht : ∀ p ∈ l, p.t.size ≤ 140737488351232) (hpow : D.Pow w.heap.size w) :
    Calls Tryd.prog 31 #[.slice ao l.length cap] w (D.TextEnd l w) := by
  have Hc := Lib.hid (check_any ao cap l w hn hr ht)
  by_cases h : D.chk l = 0
  · obtain ⟨a, ha⟩ : ∃ a, Hid (D.qs l = a) := ⟨_, rfl⟩
    obtain ⟨hraw, pa, hl, hle, hi, ho⟩ := D.valid_qs h
    have R : Hid (∀ w', Below w.heap.size w w' → D.TextEnd l w (.returned (.tuple #[.string ⟨(D.text a).toArray⟩, .int .i64 0])) w') := fun w' hb => ⟨by unfold D.txtP; rw [if_pos h, h, ha.out], hb⟩
    rw [h] at Hc
    rw [ha.out] at hraw pa hi ho hl
    rw [← hraw] at hr
    have Hr := Lib.hid hr
    have Tl := Lib.hid (D.text_take_len a hi ho (by omega))
    have Hpow := Lib.hid hpow
    clear hr hraw ht h ha hn hpow
    rw [← hl] at Hc ⊢
    rw [← hl] at hle
    clear hl
    obtain ⟨ib, hb, hb0, hb1, hb2⟩ := info_parts Tryd.infoByte
    have Hb := Lib.hid (And.intro hb (And.intro hb0 (And.intro hb1 hb2)))
    clear hb hb0 hb1 hb2
    go_enter Tryd.func31, Tryd.ntmps31
    go_wp2_with fail
    refine Hc.out.mono ?_
    rintro e w1 ⟨rfl, hbw⟩
    have Hbw := Lib.hid hbw
    clear hbw
    go_wp2
    go_loopw [5, 15] (fun v i wr => ∃ k : Nat, k ≤ a.length ∧ i = .int .i64 k ∧ Hid (D.BytesAt (D.text (a.take k)) w v wr)) (fun _ i _ => a.length - (intOf i).toNat)
    case atStart => exact ⟨0, Nat.zero_le _, rfl, ⟨World.ownsRow_nil _ _ _ _, Hbw.out⟩⟩
    case round =>
      obtain ⟨k, hk, rfl, hj⟩ := hrel
      by_cases hlt : k < a.length
      · obtain ⟨q, hq⟩ : ∃ q, a[k]? = some q := ⟨a[k], List.getElem?_eq_getElem hlt⟩
        have htk := Lib.hid (D.text_take a k q hq)
        have hlen := Tl.out k
        obtain ⟨W0, rfl⟩ : ∃ W0 : World, W0 = wr := ⟨_, rfl⟩
        obtain ⟨T, hT⟩ : ∃ T, Hid (D.text (a.take k) = T) := ⟨_, rfl⟩
        rw [hT.out] at htk hj hlen
        obtain ⟨b, o, e, hbl, hcell⟩ := Hr.out k (D.raw q) (by rw [List.getElem?_map, hq]; rfl)
        subst e
        have hqi : D.in1 q ≤ 1048576 := by have h1 := D.inL_snoc a k q hq; have h2 := D.inL_le a (k + 1); omega
        have hqo : D.out1 q ≤ 1048576 := by have h1 := D.outL_snoc a k q hq; have h2 := D.outL_le a (k + 1); omega
        obtain ⟨c0, c1, c2⟩ := D.cell3 hj.out.below hbl hcell
        have Hown := Lib.hid (hj.out.own.alloc (.cells #[.int .u8 (D.raw q).k, .int .i64 (D.raw q).n, .string (D.raw q).t] 38))
        have Hbw := Lib.hid (hj.out.below.alloc hj.out.below.size (.cells #[.int .u8 (D.raw q).k, .int .i64 (D.raw q).n, .string (D.raw q).t] 38))
        have Hbox := Lib.hid (heap_alloc_new W0 (.cells #[.int .u8 (D.raw q).k, .int .i64 (D.raw q).n, .string (D.raw q).t] 38))
        have Hne := Lib.hid (D.own_ne hj.out.own)
        obtain ⟨tb, tc, hv⟩ := D.slice_of_own hj.out.own
        subst hv
        have hsl := D.sep_len k
        clear hj hcell
        go_upto_if 21 with (fail)
        obtain ⟨H, hH⟩ : ∃ H, Hid (W0.heap.size = H) := ⟨_, rfl⟩
        generalize W0.alloc (.cells #[.int .u8 (D.raw q).k, .int .i64 (D.raw q).n, .string (D.raw q).t] 38) = W1 at Hown Hbw Hbox ⊢
        rw [hH.out] at Hbox Hne ⊢
        have hB1 : w.heap.size ≤ W1.heap.size := Hbw.out.size
        have hHl : H < W1.heap.size := (Array.getElem?_eq_some_iff.1 Hbox.out).1
        clear c0 c1 c2
        go_cut [5] (fun v wx => Hid (D.BtAt (T ++ D.sep k) H (D.raw q) w v wx))
        case first =>
          by_cases hk0 : k = 0
          · subst hk0
            have R2 : Hid (D.BtAt (T ++ D.sep 0) H (D.raw q) w (.slice tb T.length tc) W1) := by
              show D.BtAt _ _ _ _ _ _
              have : T ++ D.sep 0 = T := List.append_nil T
              rw [this]; exact ⟨Hown.out, Hbw.out, Hbox.out⟩
            go_wp2
            go_meet
            case rel => exact R2
          · have hk0' : (0 : Int) < k := by omega
            have hsep : Hid (D.sep k = [32]) := by show _ = _; unfold D.sep; rw [if_neg hk0]
            go_wp2_with (at_builtin; refine wpList_append_own _ rfl _ _ 62 rfl w.heap.size 5 ib (.int .u8 0) 1 1 Tryd.underlying62 Hb.out.1 Hb.out.2.1 Hb.out.2.2.1 Hb.out.2.2.2 rfl (by decide) _ _ _ rfl (Hown.out.alloc _) ⟨W1.heap.size, 0, none⟩ 1 1 [.int .u8 32] rfl rfl ?a1 ?a2 ?a3 ?a4 ?a5 ?_)
            case a1 => exact D.news W1 _ _
            case a2 => intro u hu; simp at hu; rcases hu with rfl; rfl
            case a3 => unfold maxLen; omega
            case a4 => omega
            case a5 => simp only [World.size_alloc]; omega
            intro v' w3 hown' hgrow _
            have R2 : Hid (D.BtAt (T ++ D.sep k) H (D.raw q) w v' w3) := by
              refine ⟨?_, (Hbw.out.alloc hB1 _).grown hgrow (by simp only [World.size_alloc]; omega) (fun k e => (Hown.out.lt k e).1), ?_⟩
              · rw [hsep.out, D.bytesL_append, List.length_append]
                exact hown'
              · exact (hgrow.block H (by simp only [World.size_alloc]; omega) Hne.out).trans ((heap_alloc_old W1 _ hHl).trans Hbox.out)
            clear hown' hgrow
            go_wp2
            go_meet
            case rel => exact R2
        case rest =>
          obtain ⟨T2, hT2⟩ : ∃ T2, Hid (T ++ D.sep k = T2) := ⟨_, rfl⟩
          have hl2 : T2.length ≤ 3000001 := by rw [← hT2.out, List.length_append]; omega
          rw [hT2.out] at hcut htk
          have HP := Lib.hid (appendPiece_any w.heap.size T2 q _ wc (by omega) (by omega) hcut.out.own hcut.out.below.size (by omega) (Hpow.out.on hcut.out.below))
          obtain ⟨d0, d1, d2⟩ := D.box_cells hcut.out.box
          have Hbw2 := Lib.hid hcut.out.below
          obtain ⟨tb2, tc2, hv2⟩ := D.slice_of_own hcut.out.own
          subst hv2
          clear hcut
          unfold D.PieceEnd at HP
          go_wp2_with fail
          refine HP.out.mono ?_
          rintro e w4 ⟨v4, rfl, hO4, hb4⟩
          have R3 : Hid (D.BytesAt (D.text (a.take (k + 1))) w v4 w4) := by
            show D.BytesAt _ _ _ _
            rw [htk.out]
            exact ⟨hO4, Hbw2.out.trans hb4⟩
          clear hO4 hb4 HP
          go_wp2
          go_roundw
          case rel => exact ⟨k + 1, by omega, by go_num, R3⟩
          case measure => simp [intOf]; omega
      · obtain rfl : k = a.length := by omega
        have hx := hj.out
        rw [List.take_length] at hx
        have htl := Tl.out a.length
        rw [List.take_length] at htl
        generalize D.text a = T at hx htl R
        have hb := hx.below
        have hown := hx.own
        clear hx hj
        by_cases hT0 : T = []
        · subst hT0
          have R := Lib.hid (R.out wr hb)
          obtain ⟨hl0, ⟨rfl, _⟩ | ⟨g, cp, cur, rfl, _⟩⟩ := hown
          · have hconv : (convert 62 9 (.slice none 0 0)).run Tryd.prog wr = .ok (.string ⟨#[]⟩) wr := run_convert_bytes_nil (P := Tryd.prog) wr 62 5 Tryd.underlying62 Tryd.underlying5 0 0 9 Tryd.underlying9
            go_wp2
            go_ret2
            exact R.out
          · have hconv : (convert 62 9 (.slice (some ⟨g, 0, none⟩) 0 cp)).run Tryd.prog wr = .ok (.string ⟨#[]⟩) wr := Lib.run_convert_whole (P := Tryd.prog) wr 62 5 9 Tryd.underlying62 Tryd.underlying5 Tryd.underlying9 g 0 ⟨#[]⟩ (fun i hi => absurd hi (Nat.not_lt_zero i)) cp
            go_wp2
            go_ret2
            exact R.out
        · obtain ⟨g, c, hv, hby⟩ := D.bytes_of_own hown hT0
          cases hv
          have hconv := Lib.run_convert_whole (P := Tryd.prog) wr 62 5 9 Tryd.underlying62 Tryd.underlying5 Tryd.underlying9 g 0 ⟨T.toArray⟩ hby c
          rw [D.size_l] at hconv
          have R := Lib.hid (R.out wr hb)
          clear hby hown hb hT0
          go_wp2
          go_ret2
          exact R.out
  · have h' : (D.chk l != 0) = true := by simpa using h
    have R : Hid (∀ w', Below w.heap.size w w' → D.TextEnd l w (.returned (.tuple #[.string ⟨#[]⟩, .int .i64 (D.chk l)])) w') := fun w' hb => ⟨by unfold D.txtP; rw [if_neg h], hb⟩
    generalize D.chk l = c at Hc h' R
    clear h hr ht hn
    go_enter Tryd.func31, Tryd.ntmps31
    go_wp2_with fail
    refine Hc.out.mono ?_
    rintro e w1 ⟨rfl, hb⟩
    have R := Lib.hid (R.out w1 hb)
    go_wp2
    go_ret2
    exact R.out
end Go.Proofs.YtmjoijloflinnaaDoor
