/- The contracts of Cost, and of the reference's Cost. -/
import Derived.Test.YtdilkoogjkabfaaDoorDeltaLen
import Derived.Test.YtdilkoogjkabfaaDoorPackEqv
import Derived.Test.YtdilkoogjkabfaaDoorPackDMath
namespace Go.Proofs.YtdilkoogjkabfaaDoor
open Go.RowKit

def F.CsEnd (l : List D.P) (w : World) (e : Ending) (w' : World) : Prop := e = .returned (.tuple #[.int .i64 (F.costP l), .int .i64 (D.chk l)]) ∧ Below w.heap.size w w'
theorem F.cs_end {l : List D.P} {w w' : World} (h : D.chk l = 0) (hb : Below w.heap.size w w') {c : Int} (hc : c = F.cs l) : F.CsEnd l w (.returned (.tuple #[.int .i64 c, .int .i64 0])) w' := by
  refine ⟨?_, hb⟩
  unfold F.costP; rw [if_pos h, hc, h]
theorem F.cs_bad {l : List D.P} {w w' : World} (h : D.chk l ≠ 0) (hb : Below w.heap.size w w') : F.CsEnd l w (.returned (.tuple #[.int .i64 0, .int .i64 (D.chk l)])) w' := by
  refine ⟨?_, hb⟩
  unfold F.costP; rw [if_neg h]
theorem F.cs_q {a : List D.Q} {k : Nat} {q : D.Q} (h : a[k]? = some q) : F.cs ((a.map D.raw).take (k + 1)) = F.cs ((a.map D.raw).take k) + (F.cst1 q : Int) := by
  rw [List.take_add_one, List.getElem?_map, h, F.cs_append]
  show _ + (F.cs1 (D.raw q) + 0) = _
  rw [F.cs1_raw]; omega
set_option maxRecDepth 100000 in
set_option maxHeartbeats 4000000 in
theorem cost_any (ao : Option Addr) (cap : Nat) (l : List D.P) (w : World) (hn : l.length ≤ maxLen) (hr : D.Row w ao l) (ht : ∀ p ∈ l, p.t.size ≤ 140737488351232) :
    Calls Tryd.prog 14 #[.slice ao l.length cap] w (F.CsEnd l w) := by
  have HC := Lib.hid (check_any ao cap l w hn hr ht)
  by_cases h : D.chk l = 0
  · obtain ⟨hraw, pa, hl, hle, hiL, hoL⟩ := D.valid_qs h
    have BD := Lib.hid (F.cs_bd h)
    have ED : Hid (∀ w' c, Below w.heap.size w w' → c = F.cs l → F.CsEnd l w (.returned (.tuple #[.int .i64 c, .int .i64 0])) w') := fun w' c hb hc => F.cs_end h hb hc
    rw [h] at HC
    have Hr := Lib.hid hr
    have hln : l.length = (D.qs l).length := hl.symm
    obtain ⟨n, hnn⟩ : ∃ n, Hid (l.length = n) := ⟨_, rfl⟩
    have hn4 : n ≤ 4096 := by rw [← hnn.out]; omega
    rw [hnn.out] at HC ⊢
    have HQ : Hid (∀ k, k < n → ∃ q, (D.qs l)[k]? = some q ∧ l[k]? = some (D.raw q) ∧ F.cs (l.take (k + 1)) = F.cs (l.take k) + (F.cst1 q : Int)) := fun k hk => by
      obtain ⟨q, hq⟩ : ∃ q, (D.qs l)[k]? = some q := ⟨_, List.getElem?_eq_getElem (by rw [← hln, hnn.out]; exact hk)⟩
      refine ⟨q, hq, by conv => lhs; rw [← hraw]
                        rw [List.getElem?_map, hq]; rfl, ?_⟩
      have := F.cs_q hq
      rwa [hraw] at this
    clear hr hl hln hraw pa hle hiL hoL hn ht h
    go_enter Tryd.func14, Tryd.ntmps14
    go_wp2_with fail
    refine HC.out.mono ?_
    rintro e w1 ⟨rfl, hb⟩
    have HB := Lib.hid hb
    clear hb HC
    go_wp2
    go_loopw [5, 15] (fun c i wr => ∃ k : Nat, k ≤ n ∧ i = .int .i64 (k : Int) ∧ c = .int .i64 (F.cs (l.take k)) ∧ Hid (Below w.heap.size w wr)) (fun _ i _ => n - (intOf i).toNat)
    case atStart => exact ⟨0, Nat.zero_le _, rfl, rfl, HB⟩
    case round =>
      obtain ⟨k, hk, rfl, rfl, hw⟩ := hrel
      by_cases hlt : k < n
      · obtain ⟨q, _, hp, hcs⟩ := HQ.out k hlt
        obtain ⟨b, o, e, hbl, c0, c1, c2⟩ := (Hr.out.below hw.out) k _ hp
        subst e
        have bd := BD.out k
        have bd2 := BD.out (k + 1)
        have HS := Lib.hid hcs
        rw [hcs] at bd2
        clear hp hcs
        generalize F.cs (l.take k) = z at *
        cases q with
        | R m =>
          simp only [D.raw] at c0 c1 c2
          go_wp2
          go_roundw
          case rel => exact ⟨k + 1, by omega, by go_num, by rw [HS.out]; simp [F.cst1], hw.out.alloc hw.out.size _⟩
          case measure => simp [intOf]; omega
        | I t =>
          simp only [D.raw] at c0 c1 c2
          have hz : (⟨t.toArray⟩ : ByteArray).size = t.length := D.size_l t
          simp only [F.cst1] at bd2 HS
          rw [← hz] at bd2 HS
          generalize (⟨t.toArray⟩ : ByteArray) = T at *
          clear hz
          go_wp2
          go_roundw
          case rel => exact ⟨k + 1, by omega, by go_num, by rw [HS.out], hw.out.alloc hw.out.size _⟩
          case measure => simp [intOf]; omega
        | D m =>
          simp only [D.raw] at c0 c1 c2
          simp only [F.cst1] at bd2 HS
          go_wp2
          go_roundw
          case rel => exact ⟨k + 1, by omega, by go_num, by rw [HS.out], hw.out.alloc hw.out.size _⟩
          case measure => simp [intOf]; omega
      · obtain rfl : k = n := by omega
        have R := Lib.hid (ED.out wr (F.cs (l.take k)) hw.out (by rw [← hnn.out, List.take_length]))
        go_wp2
        go_ret2
        exact R.out
  · have R : Hid (∀ w', Below w.heap.size w w' → F.CsEnd l w (.returned (.tuple #[.int .i64 0, .int .i64 (D.chk l)])) w') := fun w' hb => F.cs_bad h hb
    have q9 : (D.chk l != 0) = true := by simpa using h
    generalize D.chk l = k at *
    clear h hr hn ht
    go_enter Tryd.func14, Tryd.ntmps14
    go_wp2_with fail
    refine HC.out.mono ?_
    rintro e w1 ⟨rfl, hb⟩
    have HB := Lib.hid (R.out w1 hb)
    clear hb HC R
    go_wp2
    go_ret2
    exact HB.out
end Go.Proofs.YtdilkoogjkabfaaDoor
