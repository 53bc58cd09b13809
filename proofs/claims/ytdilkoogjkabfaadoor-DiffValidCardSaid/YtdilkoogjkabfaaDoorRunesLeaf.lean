/- Contracts of the small functions of package runes, and of their likes in the reference. -/
import Derived.Test.YtdilkoogjkabfaaDoorProg
import Derived.Test.YtdilkoogjkabfaaDoorRunesMath
import Derived.WalkKit
import Derived.WalkSpells
import Derived.WalkLawsBesides
namespace Go.Proofs.YtdilkoogjkabfaaDoor
open Go.RowKit

theorem U.ret_bool {a b : Bool} (h : a = b) : Ending.returned (.bool a) = .returned (.bool b) := by rw [h]
theorem U.ret_int {k : IntKind} {a b : Int} (h : a = b) : Ending.returned (.int k a) = .returned (.int k b) := by rw [h]

theorem U.ret_str {a b : ByteArray} (h : a = b) : Ending.returned (.string a) = .returned (.string b) := by rw [h]

theorem continues_any (b : UInt8) (w : World) :
    Calls Tryd.prog 25 #[.int .u8 b.toNat] w fun e w' => e = .returned (.bool (U.cont b)) ∧ w = w' := by
  go_enter Tryd.func25, Tryd.ntmps25
  go_wp2
  all_goals
    go_ret
    refine ⟨U.ret_bool ?_, rfl⟩
    rw [Bool.eq_iff_iff]; simp [U.cont]; omega
theorem isRune_any (r : Int) (w : World) :
    Calls Tryd.prog 26 #[.int .i64 r] w fun e w' => e = .returned (.bool (U.isR r)) ∧ w = w' := by
  go_enter Tryd.func26, Tryd.ntmps26
  go_wp2
  all_goals
    go_ret
    refine ⟨U.ret_bool ?_, rfl⟩
    rw [Bool.eq_iff_iff]; simp [U.isR]; omega
theorem width_any (r : Int) (w : World) :
    Calls Tryd.prog 27 #[.int .i64 r] w fun e w' => e = .returned (.int .i64 (U.wid r)) ∧ w = w' := by
  go_enter Tryd.func27, Tryd.ntmps27
  go_wp2
  all_goals
    go_ret
    refine ⟨U.ret_int ?_, rfl⟩
    unfold U.wid; (repeat' split) <;> omega
set_option maxRecDepth 100000 in
theorem extent_any (b : UInt8) (w : World) :
    Calls Tryd.prog 24 #[.int .u8 b.toNat] w fun e w' => e = .returned (.int .i64 (U.ext b)) ∧ w = w' := by
  go_enter Tryd.func24, Tryd.ntmps24
  go_wp2
  all_goals
    go_ret
    refine ⟨U.ret_int ?_, rfl⟩
    unfold U.ext; (repeat' split) <;> omega
theorem U.at_lt (s : ByteArray) (k : Nat) (h : k < s.size) : s.data.toList.getD k 0 = s[k] := by
  have h' : k < s.data.toList.length := by simpa using h
  rw [List.getD_eq_getElem?_getD, List.getElem?_eq_getElem h']; rfl
theorem U.len (s : ByteArray) : s.data.toList.length = s.size := by simp
theorem U.bnd_lo (l : List UInt8) {i : Int} (h : i < 0) : false = U.bnd l i := by
  have : ¬ 0 ≤ i := by omega
  simp [U.bnd, this]
theorem U.bnd_hi (l : List UInt8) {i : Int} (h : (l.length : Int) < i) : false = U.bnd l i := by
  have : ¬ i.toNat ≤ l.length := by omega
  simp [U.bnd, U.bndN, this]
theorem U.bnd_end (l : List UInt8) {i : Int} (h : i = l.length) : true = U.bnd l i := by
  subst h; simp [U.bnd, U.bndN]
theorem U.bnd_mid (s : ByteArray) {i : Int} (h0 : 0 ≤ i) (h : i.toNat < s.size) : (i == (s.size : Int) || !U.cont s[i.toNat]) = U.bnd s.data.toList i := by
  have h3 : (i == (s.size : Int)) = false := by simp; omega
  have h1 : (i.toNat == s.data.toList.length) = false := by simp; omega
  have h2 : i.toNat ≤ s.data.toList.length := by rw [U.len]; omega
  rw [U.bnd, U.bndN, U.at_lt s _ h, h1, decide_eq_true h0, decide_eq_true h2, h3]
  rfl

theorem boundary_any (s : ByteArray) (i : Int) (w : World) :
    Calls Tryd.prog 18 #[.string s, .int .i64 i] w fun e w' => e = .returned (.bool (U.bnd s.data.toList i)) ∧ w = w' := by
  go_enter Tryd.func18, Tryd.ntmps18
  go_wp2_with (go_at_call 25; refine (continues_any _ _).mono ?_; rintro e w' ⟨rfl, rfl⟩)
  all_goals
    go_ret
    refine ⟨U.ret_bool ?_, rfl⟩
    first
      | exact U.bnd_lo _ ‹_›
      | exact U.bnd_end _ (by rw [U.len]; assumption)
      | exact U.bnd_mid s ‹_› _
      | (refine U.bnd_hi _ ?_; rw [U.len]; omega)
end Go.Proofs.YtdilkoogjkabfaaDoor
