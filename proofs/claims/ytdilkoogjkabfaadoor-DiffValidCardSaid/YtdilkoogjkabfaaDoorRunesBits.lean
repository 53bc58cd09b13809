/- The bit operations of package runes, as sums and remainders. -/
import Derived.WalkKit
import Derived.IntWalk
namespace Go.Proofs.YtdilkoogjkabfaaDoor.U
open Go Go.RowKit

theorem or_i64 (a b : Nat) (ha : a < 4611686018427387904) (hb : b < 4611686018427387904) : bits .or .i64 (a : Int) (b : Int) = ((a ||| b : Nat) : Int) := by
  have hx : a ||| b < 2 ^ 62 := Nat.or_lt_two_pow (by omega) (by omega)
  have h1 : (BitVec.ofInt 64 (a : Int)).toNat = a := by
    rw [BitVec.ofInt_natCast, BitVec.toNat_ofNat]; exact Nat.mod_eq_of_lt (by omega)
  have h2 : (BitVec.ofInt 64 (b : Int)).toNat = b := by
    rw [BitVec.ofInt_natCast, BitVec.toNat_ofNat]; exact Nat.mod_eq_of_lt (by omega)
  show IntKind.i64.wrap ((BitVec.ofInt 64 (a : Int) ||| BitVec.ofInt 64 (b : Int)).toNat : Int) = _
  rw [BitVec.toNat_or, h1, h2]
  exact IntWalk.i64_in _ (by omega)
theorem and_i64 (a b : Nat) (ha : a < 4611686018427387904) (hb : b < 4611686018427387904) : bits .and .i64 (a : Int) (b : Int) = ((a &&& b : Nat) : Int) := by
  have hx : a &&& b < 2 ^ 62 := Nat.and_lt_two_pow _ (by omega)
  have h1 : (BitVec.ofInt 64 (a : Int)).toNat = a := by
    rw [BitVec.ofInt_natCast, BitVec.toNat_ofNat]; exact Nat.mod_eq_of_lt (by omega)
  have h2 : (BitVec.ofInt 64 (b : Int)).toNat = b := by
    rw [BitVec.ofInt_natCast, BitVec.toNat_ofNat]; exact Nat.mod_eq_of_lt (by omega)
  show IntKind.i64.wrap ((BitVec.ofInt 64 (a : Int) &&& BitVec.ofInt 64 (b : Int)).toNat : Int) = _
  rw [BitVec.toNat_and, h1, h2]
  exact IntWalk.i64_in _ (by omega)
/-- 'r & 63'. -/
theorem and63 (r : Int) (h0 : 0 ≤ r) (h1 : r < 4611686018427387904) : bits .and .i64 r 63 = r % 64 := by
  obtain ⟨a, rfl⟩ := Int.eq_ofNat_of_zero_le h0
  have := and_i64 a 63 (by omega) (by omega)
  rw [show ((63 : Nat) : Int) = 63 from rfl] at this
  rw [this, show 63 = 2 ^ 6 - 1 from rfl, Nat.and_two_pow_sub_one_eq_mod]
  rfl
/-- 'hi | lo', where hi is a multiple of 2^k that is at least lo's own power. -/
theorem or_add (k h lo : Nat) (hl : lo < 2 ^ k) (h1 : 2 ^ k * h < 4611686018427387904) (h2 : lo < 4611686018427387904) : bits .or .i64 ((2 ^ k * h : Nat) : Int) (lo : Int) = ((2 ^ k * h + lo : Nat) : Int) := by
  rw [or_i64 _ _ h1 h2, ← Nat.two_pow_add_eq_or_of_lt hl]
theorem or_shl6 (r x : Int) (h0 : 0 ≤ r) (h1 : r < 67108864) (hx : 0 ≤ x) (hx1 : x < 64) : bits .or .i64 (r * 64) x = 64 * r + x := by
  obtain ⟨a, rfl⟩ := Int.eq_ofNat_of_zero_le h0
  obtain ⟨b, rfl⟩ := Int.eq_ofNat_of_zero_le hx
  have := or_add 6 a b (by omega) (by omega) (by omega)
  rw [show (((2 ^ 6 * a : Nat)) : Int) = (a : Int) * 64 by omega] at this
  rw [this]
  omega
theorem or128 (x : Int) (h0 : 0 ≤ x) (h1 : x < 128) : bits .or .i64 128 x = 128 + x := by
  obtain ⟨b, rfl⟩ := Int.eq_ofNat_of_zero_le h0
  have := or_add 7 1 b (by omega) (by omega) (by omega)
  simpa using this
theorem or192 (x : Int) (h0 : 0 ≤ x) (h1 : x < 64) : bits .or .i64 192 x = 192 + x := by
  obtain ⟨b, rfl⟩ := Int.eq_ofNat_of_zero_le h0
  have := or_add 6 3 b (by omega) (by omega) (by omega)
  simpa using this
theorem or224 (x : Int) (h0 : 0 ≤ x) (h1 : x < 32) : bits .or .i64 224 x = 224 + x := by
  obtain ⟨b, rfl⟩ := Int.eq_ofNat_of_zero_le h0
  have := or_add 5 7 b (by omega) (by omega) (by omega)
  simpa using this
theorem or240 (x : Int) (h0 : 0 ≤ x) (h1 : x < 16) : bits .or .i64 240 x = 240 + x := by
  obtain ⟨b, rfl⟩ := Int.eq_ofNat_of_zero_le h0
  have := or_add 4 15 b (by omega) (by omega) (by omega)
  simpa using this
theorem or0 (x : Int) (h0 : 0 ≤ x) (h1 : x < 4611686018427387904) : bits .or .i64 0 x = x := by
  obtain ⟨b, rfl⟩ := Int.eq_ofNat_of_zero_le h0
  have := or_i64 0 b (by omega) (by omega)
  simpa using this
end Go.Proofs.YtdilkoogjkabfaaDoor.U
