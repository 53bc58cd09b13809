/- The order of encodings is that of the runes. -/
import GoSem.Op.String
import Derived.Test.YtnbijhmkhdjkiaaDoorRunesMath3
namespace Go.Proofs.YtnbijhmkhdjkiaaDoor.U
open Go

theorem less_step (m n : Nat) (hm : m < 256) (hn : n < 256) (s t : List UInt8) (h : m < n ∨ (m = n ∧ Op.bytesLess s t = true)) : Op.bytesLess (UInt8.ofNat m :: s) (UInt8.ofNat n :: t) = true := by
  rw [Op.bytesLess]
  rcases h with h | ⟨rfl, h⟩
  · have : UInt8.ofNat m < UInt8.ofNat n := by
      rw [UInt8.lt_iff_toNat_lt, ofNat_toNat hm, ofNat_toNat hn]; exact h
    rw [decide_eq_true this]; rfl
  · rw [h]; simp
theorem less_asymm : ∀ (a b : List UInt8), Op.bytesLess a b = true → Op.bytesLess b a = false
  | [], [], h => by simp [Op.bytesLess] at h
  | _ :: _, [], h => by simp [Op.bytesLess] at h
  | [], _ :: _, _ => by simp [Op.bytesLess]
  | x :: s, y :: t, h => by
    rw [Op.bytesLess] at h ⊢
    simp only [Bool.or_eq_true, decide_eq_true_eq, Bool.and_eq_true, beq_iff_eq, Bool.or_eq_false_iff, decide_eq_false_iff_not, Bool.and_eq_false_iff] at h ⊢
    rcases h with h | ⟨rfl, h⟩
    · rw [UInt8.lt_iff_toNat_lt] at h
      refine ⟨by rw [UInt8.lt_iff_toNat_lt]; omega, .inl ?_⟩
      rw [beq_eq_false_iff_ne]
      rintro rfl
      omega
    · refine ⟨by rw [UInt8.lt_iff_toNat_lt]; omega, .inr (less_asymm s t h)⟩
theorem encN_less (a b : Nat) (h : a < b) (hb : b ≤ 1114111) : Op.bytesLess ((encN a).map UInt8.ofNat) ((encN b).map UInt8.ofNat) = true := by
  have first : ∀ (m n : Nat) (s t : List Nat), m < n → n < 256 → Op.bytesLess ((m :: s).map UInt8.ofNat) ((n :: t).map UInt8.ofNat) = true := fun m n s t h1 h2 =>
    less_step m n (by omega) h2 _ _ (.inl h1)
  have next : ∀ (m n : Nat) (s t : List Nat), m ≤ n → n < 256 → (m = n → Op.bytesLess (s.map UInt8.ofNat) (t.map UInt8.ofNat) = true) → Op.bytesLess ((m :: s).map UInt8.ofNat) ((n :: t).map UInt8.ofNat) = true := fun m n s t h1 h2 h3 =>
    less_step m n (by omega) h2 _ _ (by
      rcases Nat.lt_or_ge m n with h | h
      · exact .inl h
      · exact .inr ⟨by omega, h3 (by omega)⟩)
  unfold encN
  by_cases a1 : a < 128
  · rw [if_pos a1]
    (repeat' split) <;> exact first _ _ _ _ (by omega) (by omega)
  · rw [if_neg a1]
    by_cases a2 : a < 2048
    · rw [if_pos a2, if_neg (show ¬ b < 128 by omega)]
      split
      · exact next _ _ _ _ (by omega) (by omega) fun e => first _ _ _ _ (by omega) (by omega)
      · split <;> exact first _ _ _ _ (by omega) (by omega)
    · rw [if_neg a2, if_neg (show ¬ b < 128 by omega), if_neg (show ¬ b < 2048 by omega)]
      by_cases a3 : a < 65536
      · rw [if_pos a3]
        split
        · exact next _ _ _ _ (by omega) (by omega) fun e => next _ _ _ _ (by omega) (by omega) fun e2 => first _ _ _ _ (by omega) (by omega)
        · exact first _ _ _ _ (by omega) (by omega)
      · rw [if_neg a3, if_neg (show ¬ b < 65536 by omega)]
        exact next _ _ _ _ (by omega) (by omega) fun e => next _ _ _ _ (by omega) (by omega) fun e2 => next _ _ _ _ (by omega) (by omega) fun e3 => first _ _ _ _ (by omega) (by omega)
theorem enc_less (a b : Int) (ha : isR a = true) (hb : isR b = true) (h : a < b) : Op.bytesLess (encL a) (encL b) = true := by
  have h1 := (isR_iff a).1 ha
  have h2 := (isR_iff b).1 hb
  rw [encL, if_pos ha, encL, if_pos hb]
  exact encN_less _ _ (by omega) (by omega)
theorem enc_order (a b : Int) (ha : isR a = true) (hb : isR b = true) (h : a ≠ b) : Op.bytesLess (encL a) (encL b) = decide (a < b) := by
  by_cases hlt : a < b
  · rw [enc_less a b ha hb hlt, decide_eq_true hlt]
  · rw [less_asymm _ _ (enc_less b a hb ha (by omega)), decide_eq_false hlt]
end Go.Proofs.YtnbijhmkhdjkiaaDoor.U
