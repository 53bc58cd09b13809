/- The contract of the laws' ints: are two rows of numbers the same? -/
import Derived.Test.YtmjoijloflinnaaDoorDeltaRefAtoms
namespace Go.Proofs.YtmjoijloflinnaaDoor
open Go.RowKit

def D.IRow (W : World) (ao : Option Addr) (x : List Int) : Prop := ∀ (i : Nat) (n : Int), x[i]? = some n → ∃ b o, ao = some ⟨b, o, none⟩ ∧ b < W.heap.size ∧ W.cell? ⟨b, o + i, none⟩ = some (.int .i64 n)
theorem D.IRow.below {W W' : World} {ao : Option Addr} {x : List Int} (h : D.IRow W ao x) (hb : Below W.heap.size W W') : D.IRow W' ao x := fun i n hn => by
  obtain ⟨b, o, e, hl, hc⟩ := h i n hn
  exact ⟨b, o, e, Nat.lt_of_lt_of_le hl hb.size, ((D.bcell hb).1 b (o + i) hl).trans hc⟩
theorem D.IntsAt.irow {x : List Int} {w : World} {v : Value} {wr : World} (h : D.IntsAt x w v wr) : ∃ ao c, v = .slice ao x.length c ∧ D.IRow wr ao x := by
  obtain ⟨_, ⟨rfl, h0⟩ | ⟨g, cap, cur, rfl, _, hg, _, _, _, ht⟩⟩ := h.own
  · exact ⟨none, 0, by rw [h0], fun i n hn => by have := (List.getElem?_eq_some_iff.1 hn).1; omega⟩
  · refine ⟨some ⟨g, 0, none⟩, cap, rfl, fun i n hn => ⟨g, 0, rfl, (Array.getElem?_eq_some_iff.1 hg).1, ?_⟩⟩
    have hi := (List.getElem?_eq_some_iff.1 hn).1
    have h1 : (D.intsL x)[i]? = some (.int .i64 n) := by unfold D.intsL; rw [List.getElem?_map, hn]; rfl
    rw [← ht, List.getElem?_take, if_pos (by omega)] at h1
    rw [Nat.zero_add, cell_of_row wr g _ cur _ _ hg]
    simpa using h1
theorem D.at_int {x : List Int} {k : Nat} (h : k < x.length) : ∃ n, x[k]? = some n ∧ x.take (k + 1) = x.take k ++ [n] := ⟨x[k], List.getElem?_eq_getElem h, by rw [List.take_add_one, List.getElem?_eq_getElem h]; rfl⟩
set_option maxHeartbeats 1000000 in
theorem ints_any (ao bo : Option Addr) (ca cb : Nat) (x y : List Int) (w : World) (hx : D.IRow w ao x) (hy : D.IRow w bo y) (lx : x.length ≤ 1000000000000) :
    Calls Tryd.prog 36 #[.slice ao x.length ca, .slice bo y.length cb] w fun e w' => e = .returned (.bool (decide (x = y))) ∧ Below w.heap.size w w' := by
  by_cases hl : x.length = y.length
  · have Hx := Lib.hid hx
    have Hy := Lib.hid hy
    have Hl := Lib.hid hl
    have hq : ((x.length : Int) != (y.length : Int)) = false := by simp [hl]
    clear hx hy hl
    go_enter Tryd.func36, Tryd.ntmps36
    go_wp2
    go_loopw [5] (fun j wr => ∃ k : Nat, k ≤ x.length ∧ j = .int .i64 k ∧ Hid (x.take k = y.take k) ∧ Hid (Below w.heap.size w wr)) (fun j _ => x.length - (intOf j).toNat)
    case atStart => exact ⟨0, Nat.zero_le _, rfl, rfl, Below.refl _ _⟩
    case round =>
      obtain ⟨k, hk, rfl, hs, hw⟩ := hrel
      by_cases hlt : k < x.length
      · have hkb : k < y.length := by have := Hl.out; omega
        obtain ⟨n, hn, hnt⟩ := D.at_int hlt
        obtain ⟨m, hm, hmt⟩ := D.at_int hkb
        obtain ⟨b1, o1, e1, l1, hc⟩ := Hx.out k n hn
        obtain ⟨b2, o2, e2, l2, hd⟩ := Hy.out k m hm
        have hc := ((D.bcell hw.out).1 b1 (o1 + k) l1).trans hc
        have hd := ((D.bcell hw.out).1 b2 (o2 + k) l2).trans hd
        subst e1
        subst e2
        by_cases hnm : n = m
        · have hnx : Hid (x.take (k + 1) = y.take (k + 1)) := by show _ = _; rw [hnt, hmt, hs.out, hnm]
          subst hnm
          clear hn hm hnt hmt hs
          go_wp2_with fail
          go_quiet (fail)
          go_wp2
          go_roundw
          case rel => exact ⟨k + 1, by omega, by go_num, hnx, below_drewN hw.out _⟩
          case measure => simp [intOf]; omega
        · have hne : Hid (decide (x = y) = false) := by
            show _ = _
            refine decide_eq_false fun e => ?_
            subst e
            rw [hn] at hm
            cases hm
            exact hnm rfl
          have hq1 : (n != m) = true := by simpa using hnm
          clear hn hm hnt hmt hs hnm
          go_wp2_with fail
          go_quiet (fail)
          go_wp2
          go_ret
          exact ⟨by rw [hne.out]; rfl, below_drewN hw.out _⟩
      · obtain rfl : k = x.length := by omega
        have hne : Hid (decide (x = y) = true) := by
          show _ = _
          refine decide_eq_true ?_
          have := hs.out
          rw [List.take_length, Hl.out, List.take_length] at this
          exact this
        clear hs
        go_wp2
        go_ret
        exact ⟨by rw [hne.out]; rfl, hw.out⟩
  · have hne : Hid (decide (x = y) = false) := decide_eq_false fun e => hl (by rw [e])
    have hq : ((x.length : Int) != (y.length : Int)) = true := by simp; omega
    clear hx hy hl
    go_enter Tryd.func36, Tryd.ntmps36
    go_wp2
    go_ret
    exact ⟨by rw [hne.out]; rfl, Below.refl _ _⟩
end Go.Proofs.YtmjoijloflinnaaDoor
