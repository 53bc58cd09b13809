/- The contract of apply: Inserted. -/
import Derived.Test.YtdpjnhmnmpmkmaaApplyDo
namespace Go.Proofs.Ytdpjnhmnmpmkmaa
open Go.RowKit

set_option maxRecDepth 100000 in
set_option maxHeartbeats 2000000 in
theorem inserted_any (ao : Option Addr) (cap : Nat) (l : List D.P) (w : World) (hn : l.length ≤ maxLen) (hr : D.Row w ao l) (ht : ∀ p ∈ l, p.t.size ≤ 140737488351232) :
    Calls Try.prog 19 #[.slice ao l.length cap] w (fun e w' => e = .returned (.tuple #[.string ⟨(D.insP l).toArray⟩, .int .i64 (D.chk l)]) ∧ Below w.heap.size w w') := by
  have H := check_any ao cap l w hn hr ht
  by_cases h : D.chk l = 0
  · obtain ⟨hraw, pa, hl, hle, hi, ho⟩ := D.valid_qs h
    rw [D.insP_eq h]
    rw [h] at H ⊢
    rw [← hraw] at hr
    generalize D.qs l = a at hr hl ho ⊢
    rw [← hl] at H ⊢
    rw [← hl] at hle
    have H := Lib.hid H
    have Hr := Lib.hid hr
    have Hx := Lib.hid (fun k => D.insd_take_len a k)
    clear hr hraw ht h hn hl pa hi
    go_enter Try.func19, Try.ntmps19
    go_wp2_with fail
    refine H.out.mono ?_
    rintro e w1 ⟨rfl, hbw⟩
    have hbw := Lib.hid hbw
    have h0 : Hid (A.BS w1 (fun k => D.insd (a.take k)) 0 (w1.alloc (.cells #[.pointer none, .slice none 0 0] 58))) :=
      ⟨Lib.IsBuilderF.of (Lib.fresh_isBuilder _ _ w1), (Below.refl _ _).alloc (Nat.le_refl _) _⟩
    obtain ⟨W0, hW0⟩ : ∃ W0, Hid (w1.alloc (.cells #[.pointer none, .slice none 0 0] 58) = W0) := ⟨_, rfl⟩
    go_wp2
    rw [hW0.out] at h0 ⊢
    go_loopw [15] (fun i wr => ∃ k : Nat, k ≤ a.length ∧ i = .int .i64 k ∧ Hid (A.BS w1 (fun k => D.insd (a.take k)) k wr)) (fun i _ => a.length - (intOf i).toNat)
    case atStart => exact ⟨0, Nat.zero_le _, rfl, h0⟩
    case round =>
      obtain ⟨k, hk, rfl, hx⟩ := hrel
      by_cases hlt : k < a.length
      · obtain ⟨q, hq⟩ : ∃ q, a[k]? = some q := ⟨a[k], List.getElem?_eq_getElem hlt⟩
        have e1 := Lib.hid (D.insd_snoc a k q hq)
        have hX := Hx.out k
        have hT := D.txt1_out q
        have hO := D.out1_le a k q hq
        obtain ⟨b, o, e, hbl, hcell⟩ := Hr.out k (D.raw q) (by rw [List.getElem?_map, hq]; rfl)
        subst e
        rw [D.raw_t, D.raw_n1] at hcell
        obtain ⟨t, hTT⟩ : ∃ t, Hid (D.txt1 q = t) := ⟨_, rfl⟩
        rw [hTT.out] at hcell e1 hT
        have hsz : (⟨t.toArray⟩ : ByteArray).size = t.length := D.size_l t
        have hbel : Below w.heap.size w wr := hbw.out.trans (hx.out.2.mono hbw.out.size)
        obtain ⟨c0, c1, c2⟩ := D.cell3 (p := ⟨(D.raw q).k, (D.in1 q : Int), ⟨t.toArray⟩⟩) hbel hbl hcell
        dsimp only at c0 c1 c2
        have hx1 := (A.BS.on w1 _ k wr _ hx.out ((Below.refl _ _).alloc (Nat.le_refl _) (.cells #[.int .u8 (D.raw q).k, .int .i64 (D.in1 q), .string ⟨t.toArray⟩] 38))).1
        have HW := Lib.hid (writeString_any w1.heap.size w1.heap.size _ ⟨t.toArray⟩ _ hx1.1 (by rw [A.bytes_len]; dsimp only; omega) hx1.2.size)
        have hx1 := Lib.hid hx1
        have hsz := Lib.hid hsz
        clear hcell hq hbel
        go_wp2_with fail
        refine HW.out.mono ?_
        rintro e w3 ⟨rfl, h1, h2, h3, h4⟩
        have hx2 : Hid (A.BS w1 (fun k => D.insd (a.take k)) (k + 1) w3) := (hx1.out.wrote ⟨t.toArray⟩ (by dsimp only; rw [e1.out]) h1 h2 h3 h4).2.1
        clear h1 h2 h3 h4
        go_wp2
        go_roundw
        case rel => exact ⟨k + 1, by omega, by go_num, hx2⟩
        case measure => simp [intOf]; omega
      · obtain rfl : k = a.length := by omega
        have hx' := hx.out
        unfold A.BS at hx'
        dsimp only at hx'
        rw [List.take_length] at hx'
        have HS := Lib.hid (A.string_k w1.heap.size w1.heap.size (D.insd a) wr hx'.1 hx'.2.size)
        have hb := Lib.hid hx'.2
        clear hx hx'
        go_wp2_with fail
        refine HS.out.mono ?_
        rintro e w2 ⟨rfl, _, hb2, _⟩
        have R : Hid (Below w.heap.size w w2) := hbw.out.trans ((hb.out.trans hb2).mono hbw.out.size)
        clear hb2
        go_wp2
        go_ret2
        exact ⟨rfl, R.out⟩
  · have h' : (D.chk l != 0) = true := by simpa using h
    have hX : D.insP l = [] := if_neg h
    rw [hX]
    generalize D.chk l = c at H h'
    have H := Lib.hid H
    clear h hr ht hn hX
    go_enter Try.func19, Try.ntmps19
    go_wp2_with fail
    refine H.out.mono ?_
    rintro e w1 ⟨rfl, hb⟩
    go_wp2
    go_ret2
    exact ⟨rfl, hb⟩
end Go.Proofs.Ytdpjnhmnmpmkmaa
