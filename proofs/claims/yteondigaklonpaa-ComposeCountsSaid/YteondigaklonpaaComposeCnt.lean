/- The contract of the laws' own counts. -/
import Derived.Test.YteondigaklonpaaComposeLawKit
import Derived.Test.YteondigaklonpaaDeltaRefAtoms
namespace Go.Proofs.Yteondigaklonpaa
open Go.RowKit

theorem C.kN_app (l m : List D.Q) : D.kN (l ++ m) = D.kN l + D.kN m := by
  induction l with
  | nil => simp [D.kN]
  | cons p r ih => cases p <;> simp only [List.cons_append, D.kN, ih]; omega
theorem C.iN_app (l m : List D.Q) : D.iN (l ++ m) = D.iN l + D.iN m := by
  induction l with
  | nil => simp [D.iN]
  | cons p r ih => cases p <;> simp only [List.cons_append, D.iN, ih]; omega
theorem C.dN_app (l m : List D.Q) : D.dN (l ++ m) = D.dN l + D.dN m := by
  induction l with
  | nil => simp [D.dN]
  | cons p r ih => cases p <;> simp only [List.cons_append, D.dN, ih]; omega
theorem C.cnt_take (a : List D.Q) (k : Nat) (q : D.Q) (h : a[k]? = some q) : D.kN (a.take (k + 1)) = D.kN (a.take k) + D.kN [q] ∧ D.iN (a.take (k + 1)) = D.iN (a.take k) + D.iN [q] ∧ D.dN (a.take (k + 1)) = D.dN (a.take k) + D.dN [q] := by
  rw [List.take_add_one, h]
  exact ⟨C.kN_app _ _, C.iN_app _ _, C.dN_app _ _⟩
theorem C.cnt_bd (a : List D.Q) (k : Nat) : D.kN (a.take k) ≤ D.inL a ∧ D.iN (a.take k) ≤ D.outL a ∧ D.dN (a.take k) ≤ D.inL a := by
  have h1 := D.inL_kd (a.take k)
  have h2 := D.outL_ki (a.take k)
  have h3 := D.in_take_le a k
  have h4 := D.out_take_le a k
  omega
set_option maxRecDepth 100000 in
set_option maxHeartbeats 2000000 in
theorem counts_any (ao : Option Addr) (cap : Nat) (x : List D.P) (w : World) (h0 : D.chk x = 0) (hr : D.Row w ao x) :
    Calls Try.prog 33 #[.slice ao x.length cap] w fun e w' => e = .returned (.tuple #[.int .i64 (D.kN (D.qs x) : Int), .int .i64 (D.iN (D.qs x) : Int), .int .i64 (D.dN (D.qs x) : Int)]) ∧ Below w.heap.size w w' := by
  obtain ⟨e, pa, l1, l2, i1, o1⟩ := D.valid_qs h0
  rw [← e] at hr
  rw [← l1]
  rw [← l1] at l2
  clear e l1 h0
  generalize D.qs x = a at *
  have Hr := Lib.hid hr
  have Pa := Lib.hid pa
  clear hr pa
  go_enter Try.func33, Try.ntmps33
  go_wp2
  go_loop [5, 6, 7, 8] (fun s t u i => ∃ k : Nat, k ≤ a.length ∧ i = .int .i64 k ∧ s = .int .i64 (D.kN (a.take k) : Int) ∧ t = .int .i64 (D.iN (a.take k) : Int) ∧ u = .int .i64 (D.dN (a.take k) : Int)) (fun _ _ _ i => a.length - (intOf i).toNat)
  case atStart => exact ⟨0, Nat.zero_le _, rfl, rfl, rfl, rfl⟩
  case round =>
    obtain ⟨k, hk, rfl, rfl, rfl, rfl⟩ := hrel
    obtain ⟨b1, b2, b3⟩ := C.cnt_bd a k
    by_cases hlt : k < a.length
    · obtain ⟨q, hq⟩ : ∃ q, a[k]? = some q := ⟨a[k], List.getElem?_eq_getElem hlt⟩
      obtain ⟨b, o, e, hbl, c0, c1, c2⟩ := Hr.out k (D.raw q) (by rw [List.getElem?_map, hq]; rfl)
      subst e
      obtain ⟨s1, s2, s3⟩ := C.cnt_take a k q hq
      obtain ⟨t1, t2, t3⟩ := C.cnt_bd a (k + 1)
      have HS := Lib.hid (And.intro s1 (And.intro s2 s3))
      rw [s1] at t1
      rw [s2] at t2
      rw [s3] at t3
      clear s1 s2 s3 hq
      generalize D.kN (a.take k) = p1 at *
      generalize D.iN (a.take k) = p2 at *
      generalize D.dN (a.take k) = p3 at *
      cases q with
      | R n =>
        simp only [D.raw] at c0 c1 c2
        simp only [D.kN, D.iN, D.dN, Nat.add_zero] at HS t1 t2 t3
        go_wp2
        go_round
        case rel => exact ⟨k + 1, by omega, by go_num, by rw [HS.out.1]; go_num, by rw [HS.out.2.1], by rw [HS.out.2.2]⟩
        case measure => simp [intOf]; omega
      | I t =>
        have hsz : (⟨t.toArray⟩ : ByteArray).size = t.length := D.size_l t
        simp only [D.raw] at c0 c1 c2
        simp only [D.kN, D.iN, D.dN, Nat.add_zero] at HS t1 t2 t3
        go_wp2
        go_round
        case rel => exact ⟨k + 1, by omega, by go_num, by rw [HS.out.1], by rw [HS.out.2.1]; go_num, by rw [HS.out.2.2]⟩
        case measure => simp [intOf]; omega
      | D n =>
        simp only [D.raw] at c0 c1 c2
        simp only [D.kN, D.iN, D.dN, Nat.add_zero] at HS t1 t2 t3
        go_wp2
        go_round
        case rel => exact ⟨k + 1, by omega, by go_num, by rw [HS.out.1], by rw [HS.out.2.1], by rw [HS.out.2.2]; go_num⟩
        case measure => simp [intOf]; omega
    · obtain rfl : k = a.length := by omega
      rw [List.take_length] at *
      go_wp2
      go_ret3
      exact ⟨rfl, Below.refl _ _⟩
theorem C.hCnt (x : List D.P) (h0 : D.chk x = 0) : Hid (∀ ao c W, D.Row W ao x → Calls Try.prog 33 #[.slice ao x.length c] W (fun e w' => e = .returned (.tuple #[.int .i64 (D.kN (D.qs x) : Int), .int .i64 (D.iN (D.qs x) : Int), .int .i64 (D.dN (D.qs x) : Int)]) ∧ Below W.heap.size W w')) := fun ao c W h => counts_any ao c x W h0 h
end Go.Proofs.Yteondigaklonpaa
