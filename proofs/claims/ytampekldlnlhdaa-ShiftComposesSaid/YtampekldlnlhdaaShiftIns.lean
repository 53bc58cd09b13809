/- What the laws of stage 6 ask of a delta: does it insert, does it remove? -/
import Derived.Test.YtampekldlnlhdaaShiftLawKit
namespace Go.Proofs.Ytampekldlnlhdaa
open Go.RowKit

def S.anyK (k : Int) (l : List D.P) : Bool := l.any fun p => p.k == k
theorem S.any_isI (a : List D.Q) : S.anyK 2 (a.map D.raw) = a.any D.isI := by
  induction a with
  | nil => rfl
  | cons q r ih => unfold S.anyK at ih ⊢; rw [List.map_cons, List.any_cons, List.any_cons, ih]; cases q <;> rfl
theorem S.any_isD (a : List D.Q) : S.anyK 3 (a.map D.raw) = a.any D.isD := by
  induction a with
  | nil => rfl
  | cons q r ih => unfold S.anyK at ih ⊢; rw [List.map_cons, List.any_cons, List.any_cons, ih]; cases q <;> rfl
set_option maxRecDepth 100000 in
set_option maxHeartbeats 1000000 in
theorem inserts_any (ao : Option Addr) (c : Nat) (x : List D.P) (w : World) (hl : x.length ≤ 1000000) (hr : D.Row w ao x) : Calls Try.prog 31 #[.slice ao x.length c] w fun e w' => e = .returned (.bool (S.anyK 2 x)) ∧ w = w' := by
  have Hr := Lib.hid hr
  obtain ⟨m, hm⟩ : ∃ m, Hid (x.length = m) := ⟨_, rfl⟩
  obtain ⟨z, hz⟩ : ∃ z, Hid (S.anyK 2 x = z) := ⟨_, rfl⟩
  rw [hm.out] at hl ⊢
  rw [hz.out]
  clear hr
  go_enter Try.func31, Try.ntmps31
  go_wp2
  go_loop [3] (fun v => ∃ j : Nat, j ≤ m ∧ v = .int .i64 j ∧ Hid (S.anyK 2 (x.drop j) = z)) (fun v => m - (intOf v).toNat)
  case atStart => exact ⟨0, Nat.zero_le _, rfl, hz⟩
  case round =>
    obtain ⟨j, hj, rfl, hf⟩ := hrel
    by_cases hlt : j < m
    · obtain ⟨y, hy, hdr⟩ : ∃ y, x[j]? = some y ∧ x.drop j = y :: x.drop (j + 1) := by
        have hkl : j < x.length := by rw [hm.out]; exact hlt
        exact ⟨x[j], List.getElem?_eq_getElem hkl, List.drop_eq_getElem_cons hkl⟩
      obtain ⟨b, o, e, hbl, c0, c1, c2⟩ := Hr.out j y hy
      subst e
      have hf2 : Hid (((y.k == 2) || S.anyK 2 (x.drop (j + 1))) = z) := by have := hf.out; rw [hdr] at this; exact this
      have hm' : Hid (m - (j + 1) < m - j) := by show _ < _; omega
      obtain ⟨yk, yn, yt⟩ := y
      dsimp only at c0 c1 c2 hf2
      clear hy hdr hf
      cases hk : (yk == 2) with
      | true =>
        have hz1 : Hid (z = true) := by have := hf2.out; rw [hk] at this; exact this.symm
        go_wp2
        go_ret
        exact ⟨by rw [hz1.out]; rfl, rfl⟩
      | false =>
        rw [hk, Bool.false_or] at hf2
        go_wp2
        go_round
        case rel => exact ⟨j + 1, by omega, by go_num, hf2⟩
        case measure => simp [intOf]; exact hm'.out
    · have e1 : Hid (z = false) := by
        have := hf.out
        rw [List.drop_of_length_le (by rw [hm.out]; omega)] at this
        exact this.symm
      go_wp2
      go_ret
      exact ⟨by rw [e1.out]; rfl, rfl⟩
theorem L.hIns (x : List D.P) (h : D.chk x = 0) : Hid (∀ ao c W, D.Row W ao x → Calls Try.prog 31 #[.slice ao x.length c] W (fun e w' => e = .returned (.bool ((D.qs x).any D.isI)) ∧ Below W.heap.size W w')) := fun ao c W hr => by
  obtain ⟨e, _, _, l, _⟩ := D.valid_qs h
  have H := inserts_any ao c x W (by omega) hr
  have e2 : S.anyK 2 x = (D.qs x).any D.isI := by rw [← S.any_isI, e]
  rw [e2] at H
  exact Calls.mono H fun _ _ ⟨h1, h2⟩ => ⟨h1, h2 ▸ Below.refl _ _⟩
set_option maxRecDepth 100000 in
set_option maxHeartbeats 1000000 in
theorem removes_any (ao : Option Addr) (c : Nat) (x : List D.P) (w : World) (hl : x.length ≤ 1000000) (hr : D.Row w ao x) : Calls Try.prog 32 #[.slice ao x.length c] w fun e w' => e = .returned (.bool (S.anyK 3 x)) ∧ w = w' := by
  have Hr := Lib.hid hr
  obtain ⟨m, hm⟩ : ∃ m, Hid (x.length = m) := ⟨_, rfl⟩
  obtain ⟨z, hz⟩ : ∃ z, Hid (S.anyK 3 x = z) := ⟨_, rfl⟩
  rw [hm.out] at hl ⊢
  rw [hz.out]
  clear hr
  go_enter Try.func32, Try.ntmps32
  go_wp2
  go_loop [3] (fun v => ∃ j : Nat, j ≤ m ∧ v = .int .i64 j ∧ Hid (S.anyK 3 (x.drop j) = z)) (fun v => m - (intOf v).toNat)
  case atStart => exact ⟨0, Nat.zero_le _, rfl, hz⟩
  case round =>
    obtain ⟨j, hj, rfl, hf⟩ := hrel
    by_cases hlt : j < m
    · obtain ⟨y, hy, hdr⟩ : ∃ y, x[j]? = some y ∧ x.drop j = y :: x.drop (j + 1) := by
        have hkl : j < x.length := by rw [hm.out]; exact hlt
        exact ⟨x[j], List.getElem?_eq_getElem hkl, List.drop_eq_getElem_cons hkl⟩
      obtain ⟨b, o, e, hbl, c0, c1, c2⟩ := Hr.out j y hy
      subst e
      have hf2 : Hid (((y.k == 3) || S.anyK 3 (x.drop (j + 1))) = z) := by have := hf.out; rw [hdr] at this; exact this
      have hm' : Hid (m - (j + 1) < m - j) := by show _ < _; omega
      obtain ⟨yk, yn, yt⟩ := y
      dsimp only at c0 c1 c2 hf2
      clear hy hdr hf
      cases hk : (yk == 3) with
      | true =>
        have hz1 : Hid (z = true) := by have := hf2.out; rw [hk] at this; exact this.symm
        go_wp2
        go_ret
        exact ⟨by rw [hz1.out]; rfl, rfl⟩
      | false =>
        rw [hk, Bool.false_or] at hf2
        go_wp2
        go_round
        case rel => exact ⟨j + 1, by omega, by go_num, hf2⟩
        case measure => simp [intOf]; exact hm'.out
    · have e1 : Hid (z = false) := by
        have := hf.out
        rw [List.drop_of_length_le (by rw [hm.out]; omega)] at this
        exact this.symm
      go_wp2
      go_ret
      exact ⟨by rw [e1.out]; rfl, rfl⟩
theorem L.hRem6 (x : List D.P) (h : D.chk x = 0) : Hid (∀ ao c W, D.Row W ao x → Calls Try.prog 32 #[.slice ao x.length c] W (fun e w' => e = .returned (.bool ((D.qs x).any D.isD)) ∧ Below W.heap.size W w')) := fun ao c W hr => by
  obtain ⟨e, _, _, l, _⟩ := D.valid_qs h
  have H := removes_any ao c x W (by omega) hr
  have e2 : S.anyK 3 x = (D.qs x).any D.isD := by rw [← S.any_isD, e]
  rw [e2] at H
  exact Calls.mono H fun _ _ ⟨h1, h2⟩ => ⟨h1, h2 ▸ Below.refl _ _⟩
end Go.Proofs.Ytampekldlnlhdaa
