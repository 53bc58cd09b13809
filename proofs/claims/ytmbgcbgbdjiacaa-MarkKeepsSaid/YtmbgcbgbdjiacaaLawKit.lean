/- The contracts of layers 3 to 5 as laws of later layers meet them: said over lists of pieces, whatever rows they lie in. -/
import Derived.Test.YtmbgcbgbdjiacaaPackRef
import Derived.Test.YtmbgcbgbdjiacaaDeltaArgs
import Derived.Test.YtmbgcbgbdjiacaaDeltaJoinKit
import Derived.Test.YtmbgcbgbdjiacaaPackOwn
import Derived.Test.YtmbgcbgbdjiacaaPackEqv
import Derived.Test.YtmbgcbgbdjiacaaDeltaNorm
import Derived.Test.YtmbgcbgbdjiacaaDeltaLen
import Derived.Test.YtmbgcbgbdjiacaaPackRefLA
import Derived.Test.YtmbgcbgbdjiacaaApplyDo
import Derived.Test.YtmbgcbgbdjiacaaApplyInv
import Derived.Test.YtmbgcbgbdjiacaaPackCDo
namespace Go.Proofs.Ytmbgcbgbdjiacaa
open Go.RowKit

theorem L.made5 {w wr w' : World} {L : List (Option Addr × List D.P)} (h : D.Kn w wr L) {l : List D.P} {v : Value} (hm : D.Made l wr v w') : ∃ ao c, v = .slice ao l.length c ∧ Hid ((ao = none → c = 0) ∧ l.length ≤ c) ∧ Hid (D.Kn w w' ((ao, l) :: L)) := by
  obtain ⟨ao, c, hv, hr, hc⟩ := hm.src
  obtain ⟨ao', c', hv', _, hc', _⟩ := C.made_src hm
  rw [hv] at hv'
  simp only [Value.slice.injEq, true_and] at hv'
  exact ⟨ao, c, hv, ⟨hc, by omega⟩, (h.on hm.below).add ao l hr⟩
theorem L.bd_arg {w : World} {s : D.Src} (h : D.ArgOk w s) : D.Bd s.x := ⟨h.src.len, h.src.txt⟩
theorem L.hOwn (x : List D.P) (hf : x.length * 32 ≤ 140737488351232) : Hid (∀ ao c W, D.Row W ao x → (ao = none → c = 0) → Calls Try.prog 22 #[.slice ao x.length c] W (fun e w' => ∃ v, e = .returned v ∧ D.Made x W v w')) := fun ao c W h n => own_any ao c x W h n hf
theorem L.hCmp (x y : List D.P) (hx : D.Bd x) (hy : D.Bd y) : Hid (∀ ao bo c d W, D.Row W ao x → D.Row W bo y → x.length ≤ c → y.length ≤ d → Calls Try.prog 30 #[.slice ao x.length c, .slice bo y.length d] W (fun e w' => ∃ v, e = .returned (.tuple #[v, .int .i64 (D.cmpE x y)]) ∧ D.Made (D.cmpP x y) W v w')) := fun ao bo c d W h g m n => compose_any ao bo c d x y W h g hx hy m n
theorem L.hSame (x : List D.P) (hl : x.length ≤ maxLen) : Hid (∀ ao bo c d W, D.Row W ao x → D.Row W bo x → Calls Try.prog 25 #[.slice ao x.length c, .slice bo x.length d] W (fun e w' => e = .returned (.bool true) ∧ Below W.heap.size W w')) := fun ao bo c d W h g => by
  have := refSame_any ao bo c d x x W h g hl hl
  rwa [(D.same_iff x x).2 rfl] at this
theorem L.hSame2 (x y : List D.P) (hl : x.length ≤ maxLen) (hy : y.length ≤ maxLen) : Hid (∀ ao bo c d W, D.Row W ao x → D.Row W bo y → Calls Try.prog 25 #[.slice ao x.length c, .slice bo y.length d] W (fun e w' => e = .returned (.bool (D.same x y)) ∧ Below W.heap.size W w')) := fun ao bo c d W h g => refSame_any ao bo c d x y W h g hl hy
theorem L.hInv (z : ByteArray) (x : List D.P) (hz : z.size ≤ 140737488351232) (hx : D.Bd x) : Hid (∀ ao c W, D.Row W ao x → Calls Try.prog 29 #[.string z, .slice ao x.length c] W (fun e w' => ∃ v, e = .returned (.tuple #[v, .int .i64 (D.fitE z.data.toList x)]) ∧ D.Made (D.invP z.data.toList x) W v w')) := fun ao c W h => invert_any z ao c x W hz hx.1 h hx.2
theorem L.hNorm (x : List D.P) (h0 : D.chk x = 0) : Hid (∀ ao c W, D.Row W ao x → Calls Try.prog 54 #[.slice ao x.length c] W (fun e w' => ∃ v, e = .returned (.tuple #[v, .int .i64 0]) ∧ D.Made (D.normP x) W v w')) := fun ao c W h => by
  have := normalize_any ao c x W (D.bd_of h0).1 h (D.bd_of h0).2
  unfold D.NormEnd at this
  rw [h0, if_pos rfl] at this
  exact this
theorem L.hLen (x : List D.P) (hx : D.Bd x) : Hid (∀ ao c W, D.Row W ao x → Calls Try.prog 28 #[.slice ao x.length c] W (fun e w' => e = .returned (.tuple #[.int .i64 (D.lenI x), .int .i64 (D.lenO x), .int .i64 (D.chk x)]) ∧ Below W.heap.size W w')) := fun ao c W h => lengths_any ao c x W hx.1 h hx.2
theorem L.invP_len (S : List UInt8) (x : List D.P) : (D.invP S x).length ≤ 4096 := by
  by_cases h : D.fitE S x = 0
  · rw [D.invP_eq h, List.length_map]
    have := D.nf_length (D.inv S (D.qs x))
    rw [D.inv_length] at this
    have := (D.valid_qs (D.fitE_zero h).1).2.2
    omega
  · unfold D.invP; rw [if_neg h]; simp
theorem L.cmp_bd (x y : List D.P) : D.Bd (D.cmpP x y) := by
  by_cases h : D.cmpE x y = 0
  · exact D.bd_of (D.cmp_of h).ok
  · unfold D.cmpP; rw [if_neg h]; exact ⟨Nat.zero_le _, fun p hp => by cases hp⟩
theorem L.num_of {x : List D.P} (h0 : D.chk x = 0) : ∀ p ∈ x, -9223372036854775808 ≤ p.n ∧ p.n ≤ 9223372036854775807 := fun p hp => by
  obtain ⟨e, _, _, _, i1, _⟩ := D.valid_qs h0
  rw [← e] at hp
  obtain ⟨q, hq, rfl⟩ := List.mem_map.1 hp
  have := (D.in1_le hq).1
  rw [D.raw_n1]
  omega
theorem L.wgt_nat (kd : Nat) (k : Nat) (t : ByteArray) : D.wgt ⟨kd, (k : Int), t⟩ = ((1 + t.size + min k 6000 : Nat) : Int) := by
  show 1 + (t.size : Int) + (if 0 < (if 6000 < (k : Int) then 6000 else (k : Int)) then (if 6000 < (k : Int) then 6000 else (k : Int)) else 0) = _
  have e : (if 6000 < (k : Int) then 6000 else (k : Int)) = ((min k 6000 : Nat) : Int) := by split <;> omega
  rw [e]
  split <;> omega
theorem L.large_qs (a : List D.Q) : ∀ n : Nat, D.largeF (n : Int) (a.map D.raw) = false → n + D.inL a ≤ 6000 ∧ n + D.outL a ≤ 6000 := by
  induction a with
  | nil =>
    intro n h
    have : ¬ (6000 : Int) ≤ (n : Int) := by simpa [D.largeF] using h
    have e1 : D.inL [] = 0 := rfl
    have e2 : D.outL [] = 0 := rfl
    omega
  | cons q r ih =>
    intro n h
    have e1 : D.inL (q :: r) = D.in1 q + D.inL r := rfl
    have e2 : D.outL (q :: r) = D.out1 q + D.outL r := rfl
    rw [List.map_cons, D.largeF] at h
    by_cases hn : (n : Int) < 6000
    · rw [if_pos hn] at h
      obtain ⟨m, hm, hi, ho⟩ : ∃ m : Nat, D.wgt (D.raw q) = (m : Int) ∧ (6000 < m ∨ D.in1 q ≤ m) ∧ (6000 < m ∨ D.out1 q ≤ m) := by
        cases q with
        | R k => exact ⟨_, L.wgt_nat 1 k ⟨#[]⟩, by simp only [D.in1]; omega, by simp only [D.out1]; omega⟩
        | I t => exact ⟨_, L.wgt_nat 2 0 ⟨t.toArray⟩, .inr (by simp only [D.in1]; omega), .inr (by simp only [D.out1]; rw [D.size_l]; omega)⟩
        | D k => exact ⟨_, L.wgt_nat 3 k ⟨#[]⟩, by simp only [D.in1]; omega, by simp only [D.out1]; omega⟩
      rw [hm, ← Int.natCast_add] at h
      have := ih (n + m) h
      omega
    · rw [if_neg hn] at h
      cases h
theorem L.large_bd {x : List D.P} (h0 : D.chk x = 0) (h : D.large x = false) : D.inL (D.qs x) ≤ 6000 ∧ D.outL (D.qs x) ≤ 6000 := by
  have e := (D.valid_qs h0).1
  unfold D.large at h
  rw [← e] at h
  have := L.large_qs (D.qs x) 0 h
  omega
end Go.Proofs.Ytmbgcbgbdjiacaa
