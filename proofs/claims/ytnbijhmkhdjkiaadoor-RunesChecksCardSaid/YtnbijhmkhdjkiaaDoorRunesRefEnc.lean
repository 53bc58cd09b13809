/- Encode of the reference: its contract. -/
import Derived.Test.YtnbijhmkhdjkiaaDoorRunesEnc
namespace Go.Proofs.YtnbijhmkhdjkiaaDoor
open Go.RowKit

set_option maxHeartbeats 400000 in
theorem refEncode_no (r : Int) (w : World) (h : U.isR r = false) :
    Calls Tryd.prog 22 #[.int .i64 r] w fun e w' => e = .returned (.tuple #[.string (U.encB r), .int .i64 (U.encE r)]) ∧ Below w.heap.size w w' := by
  have H := Lib.hid (U.encB_no h)
  go_enter Tryd.func22, Tryd.ntmps22
  go_wp2_with (first | (go_at_call 35; refine (refRune_any _ _).mono ?_; rintro e w' ⟨rfl, rfl⟩))
  go_ret2
  exact ⟨U.ret2e ⟨H.out.1.symm, H.out.2.symm⟩, Below.refl _ _⟩
set_option maxHeartbeats 400000 in
theorem refEncode1 (r : Int) (w : World) (h : U.isR r = true) (h0 : 0 ≤ r) (h1 : r < 128) :
    Calls Tryd.prog 22 #[.int .i64 r] w fun e w' => e = .returned (.tuple #[.string (U.encB r), .int .i64 (U.encE r)]) ∧ Below w.heap.size w w' := by
  have H := Lib.hid (U.enc_of h [r] (by unfold U.encN; rw [if_pos (by omega)]; simp))
  have e0 : (r) % 256 = r := by omega
  have hcv := conv_new [r] 1 rfl 1 w
  simp only [List.map_cons, List.map_nil] at hcv
  go_enter Tryd.func22, Tryd.ntmps22
  go_wp2_with (first | (go_at_call 35; refine (refRune_any _ _).mono ?_; rintro e w' ⟨rfl, rfl⟩))
  go_ret2
  exact ⟨U.ret2e H.out, (Below.refl _ _).alloc (Nat.le_refl _) _⟩
set_option maxHeartbeats 400000 in
theorem refEncode2 (r : Int) (w : World) (h : U.isR r = true) (h0 : 128 ≤ r) (h1 : r < 2048) :
    Calls Tryd.prog 22 #[.int .i64 r] w fun e w' => e = .returned (.tuple #[.string (U.encB r), .int .i64 (U.encE r)]) ∧ Below w.heap.size w w' := by
  have H := Lib.hid (U.enc_of h [192 + r / 64, 128 + r % 64] (by unfold U.encN; rw [if_neg (by omega), if_pos (by omega)]; simp; omega))
  have e0 : (192 + r / 64) % 256 = 192 + r / 64 := by omega
  have e1 : (128 + r % 64) % 256 = 128 + r % 64 := by omega
  have hcv := conv_new [192 + r / 64, 128 + r % 64] 2 rfl 2 w
  simp only [List.map_cons, List.map_nil] at hcv
  go_enter Tryd.func22, Tryd.ntmps22
  go_wp2_with (first | (go_at_call 35; refine (refRune_any _ _).mono ?_; rintro e w' ⟨rfl, rfl⟩))
  go_ret2
  exact ⟨U.ret2e H.out, (Below.refl _ _).alloc (Nat.le_refl _) _⟩
set_option maxHeartbeats 400000 in
theorem refEncode3 (r : Int) (w : World) (h : U.isR r = true) (h0 : 2048 ≤ r) (h1 : r < 65536) :
    Calls Tryd.prog 22 #[.int .i64 r] w fun e w' => e = .returned (.tuple #[.string (U.encB r), .int .i64 (U.encE r)]) ∧ Below w.heap.size w w' := by
  have H := Lib.hid (U.enc_of h [224 + r / 4096, 128 + r / 64 % 64, 128 + r % 64] (by unfold U.encN; rw [if_neg (by omega), if_neg (by omega), if_pos (by omega)]; simp; omega))
  have e0 : (224 + r / 4096) % 256 = 224 + r / 4096 := by omega
  have e1 : (128 + r / 64 % 64) % 256 = 128 + r / 64 % 64 := by omega
  have e2 : (128 + r % 64) % 256 = 128 + r % 64 := by omega
  have hcv := conv_new [224 + r / 4096, 128 + r / 64 % 64, 128 + r % 64] 3 rfl 3 w
  simp only [List.map_cons, List.map_nil] at hcv
  go_enter Tryd.func22, Tryd.ntmps22
  go_wp2_with (first | (go_at_call 35; refine (refRune_any _ _).mono ?_; rintro e w' ⟨rfl, rfl⟩))
  go_ret2
  exact ⟨U.ret2e H.out, (Below.refl _ _).alloc (Nat.le_refl _) _⟩
set_option maxHeartbeats 400000 in
theorem refEncode4 (r : Int) (w : World) (h : U.isR r = true) (h0 : 65536 ≤ r) (h1 : r ≤ 1114111) :
    Calls Tryd.prog 22 #[.int .i64 r] w fun e w' => e = .returned (.tuple #[.string (U.encB r), .int .i64 (U.encE r)]) ∧ Below w.heap.size w w' := by
  have H := Lib.hid (U.enc_of h [240 + r / 262144, 128 + r / 4096 % 64, 128 + r / 64 % 64, 128 + r % 64] (by unfold U.encN; rw [if_neg (by omega), if_neg (by omega), if_neg (by omega)]; simp; omega))
  have e0 : (240 + r / 262144) % 256 = 240 + r / 262144 := by omega
  have e1 : (128 + r / 4096 % 64) % 256 = 128 + r / 4096 % 64 := by omega
  have e2 : (128 + r / 64 % 64) % 256 = 128 + r / 64 % 64 := by omega
  have e3 : (128 + r % 64) % 256 = 128 + r % 64 := by omega
  have hcv := conv_new [240 + r / 262144, 128 + r / 4096 % 64, 128 + r / 64 % 64, 128 + r % 64] 4 rfl 4 w
  simp only [List.map_cons, List.map_nil] at hcv
  go_enter Tryd.func22, Tryd.ntmps22
  go_wp2_with (first | (go_at_call 35; refine (refRune_any _ _).mono ?_; rintro e w' ⟨rfl, rfl⟩))
  go_ret2
  exact ⟨U.ret2e H.out, (Below.refl _ _).alloc (Nat.le_refl _) _⟩
theorem refEncode_any (r : Int) (w : World) :
    Calls Tryd.prog 22 #[.int .i64 r] w fun e w' => e = .returned (.tuple #[.string (U.encB r), .int .i64 (U.encE r)]) ∧ Below w.heap.size w w' := by
  cases h : U.isR r with
  | false => exact refEncode_no r w h
  | true =>
    have hb := U.isR_bd h
    by_cases h1 : r < 128
    · exact refEncode1 r w h hb.1 h1
    · by_cases h2 : r < 2048
      · exact refEncode2 r w h (by omega) h2
      · by_cases h3 : r < 65536
        · exact refEncode3 r w h (by omega) h3
        · exact refEncode4 r w h (by omega) hb.2
end Go.Proofs.YtnbijhmkhdjkiaaDoor
