/- The contract of the reference's Large. -/
import Derived.Test.YtmljagkndnobdaaDeltaRef2
namespace Go.Proofs.Ytmljagkndnobdaa
open Go.RowKit

def D.wgt (p : D.P) : Int := 1 + (p.t.size : Int) + (if 0 < (if 6000 < p.n then 6000 else p.n) then (if 6000 < p.n then 6000 else p.n) else 0)
theorem D.wgt_bd (p : D.P) : 1 + (p.t.size : Int) ≤ D.wgt p ∧ D.wgt p ≤ 6001 + (p.t.size : Int) := by unfold D.wgt; split <;> split <;> omega
def D.largeF : Int → List D.P → Bool
  | n, [] => decide (6000 ≤ n)
  | n, p :: r => if n < 6000 then D.largeF (n + D.wgt p) r else true
def D.large (l : List D.P) : Bool := D.largeF 0 l
theorem D.largeF_ge {n : Int} (h : 6000 ≤ n) (l : List D.P) : D.largeF n l = true := by
  cases l with
  | nil => simp [D.largeF, h]
  | cons p r => rw [D.largeF, if_neg (by omega)]
set_option maxHeartbeats 1000000 in
theorem refLarge_any (ao : Option Addr) (cap : Nat) (l : List D.P) (w : World) (hn : l.length ≤ maxLen) (hr : D.Row w ao l) (ht : ∀ p ∈ l, p.t.size ≤ 140737488351232) (hN : ∀ p ∈ l, -9223372036854775808 ≤ p.n ∧ p.n ≤ 9223372036854775807) :
    Calls Try.prog 12 #[.slice ao l.length cap] w fun e w' => e = .returned (.bool (D.large l)) ∧ Below w.heap.size w w' := by
  unfold maxLen at hn
  have Hr := Lib.hid hr
  have Ht := Lib.hid ht
  have HN := Lib.hid hN
  clear hr ht hN
  go_enter Try.func12, Try.ntmps12
  go_wp2
  go_loopw [3, 4] (fun s j wr => ∃ (k : Nat) (n : Int), k ≤ l.length ∧ 0 ≤ n ∧ n ≤ 150000000000000 ∧ j = .int .i64 k ∧ s = .int .i64 n ∧ Hid (D.largeF n (l.drop k) = D.large l) ∧ Hid (Below w.heap.size w wr)) (fun _ j _ => l.length - (intOf j).toNat)
  case atStart => exact ⟨0, 0, Nat.zero_le _, by omega, by omega, rfl, rfl, rfl, Below.refl _ _⟩
  case round =>
    obtain ⟨k, n, hk, h0, h1, rfl, rfl, hF, hw⟩ := hrel
    by_cases hlt : k < l.length
    · obtain ⟨p, hp, hpd⟩ := D.drop_cons hlt
      by_cases hn6 : n < 6000
      · obtain ⟨b, o, e, hbl, hc⟩ := Hr.out k p hp
        subst e
        obtain ⟨c0, c1, c2⟩ := D.cell3 hw.out hbl hc
        clear hc
        have hts := Ht.out p (List.mem_of_getElem? hp)
        obtain ⟨hN0, hN1⟩ := HN.out p (List.mem_of_getElem? hp)
        have hF' : Hid (D.largeF (n + D.wgt p) (l.drop (k + 1)) = D.large l) := by
          show _ = _
          rw [← hF.out, hpd]
          show _ = D.largeF n (p :: _)
          rw [D.largeF, if_pos hn6]
        obtain ⟨hw0, hw1⟩ := D.wgt_bd p
        clear hpd hp hF
        go_wp2_with fail
        go_quiet (fail)
        go_wp2
        go_roundw
        case rel => exact ⟨k + 1, n + D.wgt p, by omega, by omega, by omega, by go_num, by unfold D.wgt; congr 1; omega, hF', below_drewN hw.out _⟩
        case measure => simp [intOf]; omega
      · have hL : Hid (D.large l = true) := by show _ = _; rw [← hF.out, D.largeF_ge (by omega)]
        clear hF hp hpd
        have hd : decide (6000 ≤ n) = true := by simp; omega
        go_wp2
        go_ret
        exact ⟨by rw [hL.out]; rfl, hw.out⟩
    · obtain rfl : k = l.length := by omega
      have hL : Hid (decide (6000 ≤ n) = D.large l) := by show _ = _; rw [← hF.out, List.drop_length]; rfl
      go_wp2
      go_ret
      exact ⟨by rw [← hL.out]; rfl, hw.out⟩
end Go.Proofs.Ytmljagkndnobdaa
