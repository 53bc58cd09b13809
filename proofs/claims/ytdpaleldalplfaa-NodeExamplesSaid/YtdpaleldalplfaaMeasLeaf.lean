/- Contracts of the small functions that stage 2 reaches: bytes, boundaries, the three units, and the reference's count of runes. -/
import Derived.Test.YtdpaleldalplfaaProg
import Derived.Test.YtdpaleldalplfaaMeasMath
import Derived.WalkKit
import Derived.WalkSpells
import Derived.WalkLawsBesides
import Derived.LoopTactic
import Derived.Lib.Hide
namespace Go.Proofs.Ytdpaleldalplfaa
open Go.RowKit

theorem U.ret_bool {a b : Bool} (h : a = b) : Ending.returned (.bool a) = .returned (.bool b) := by rw [h]
theorem U.ret_int {k : IntKind} {a b : Int} (h : a = b) : Ending.returned (.int k a) = .returned (.int k b) := by rw [h]
theorem U.ret_str {a b : ByteArray} (h : a = b) : Ending.returned (.string a) = .returned (.string b) := by rw [h]
theorem continues_any (b : UInt8) (w : World) :
    Calls Try.prog 83 #[.int .u8 b.toNat] w fun e w' => e = .returned (.bool (U.cont b)) ∧ w = w' := by
  go_enter Try.func83, Try.ntmps83
  go_wp2
  all_goals
    go_ret
    refine ⟨U.ret_bool ?_, rfl⟩
    rw [Bool.eq_iff_iff]; simp [U.cont]; omega
theorem refCont_any (b : UInt8) (w : World) :
    Calls Try.prog 85 #[.int .u8 b.toNat] w fun e w' => e = .returned (.bool (U.cont b)) ∧ w = w' := by
  go_enter Try.func85, Try.ntmps85
  go_wp2
  all_goals
    go_ret
    refine ⟨U.ret_bool ?_, rfl⟩
    rw [Bool.eq_iff_iff]; simp [U.cont]; omega
theorem U.at_lt (s : ByteArray) (k : Nat) (h : k < s.size) : s.data.toList.getD k 0 = s[k] := by
  have h' : k < s.data.toList.length := by simpa using h
  rw [List.getD_eq_getElem?_getD, List.getElem?_eq_getElem h']; rfl
theorem U.len (s : ByteArray) : s.data.toList.length = s.size := by simp
theorem U.bnd_lo (l : List UInt8) {i : Int} (h : i < 0) : false = U.bnd l i := by
  have : ¬ 0 ≤ i := by omega
  simp [U.bnd, this]
theorem U.bnd_hi (l : List UInt8) {i : Int} (h : (l.length : Int) < i) : false = U.bnd l i := by
  have : ¬ i.toNat ≤ l.length := by omega
  simp [U.bnd, U.bndN, this]
theorem U.bnd_end (l : List UInt8) {i : Int} (h : i = l.length) : true = U.bnd l i := by
  subst h; simp [U.bnd, U.bndN]
theorem U.bnd_mid (s : ByteArray) {i : Int} (h0 : 0 ≤ i) (h : i.toNat < s.size) : (i == (s.size : Int) || !U.cont s[i.toNat]) = U.bnd s.data.toList i := by
  have h3 : (i == (s.size : Int)) = false := by simp; omega
  have h1 : (i.toNat == s.data.toList.length) = false := by simp; omega
  have h2 : i.toNat ≤ s.data.toList.length := by rw [U.len]; omega
  rw [U.bnd, U.bndN, U.at_lt s _ h, h1, decide_eq_true h0, decide_eq_true h2, h3]
  rfl
theorem boundary_any (s : ByteArray) (i : Int) (w : World) :
    Calls Try.prog 66 #[.string s, .int .i64 i] w fun e w' => e = .returned (.bool (U.bnd s.data.toList i)) ∧ w = w' := by
  go_enter Try.func66, Try.ntmps66
  go_wp2_with (go_at_call 83; refine (continues_any _ _).mono ?_; rintro e w' ⟨rfl, rfl⟩)
  all_goals
    go_ret
    refine ⟨U.ret_bool ?_, rfl⟩
    first
      | exact U.bnd_lo _ ‹_›
      | exact U.bnd_end _ (by rw [U.len]; assumption)
      | exact U.bnd_mid s ‹_› _
      | (refine U.bnd_hi _ ?_; rw [U.len]; omega)
set_option maxHeartbeats 1000000 in
theorem refCount_any (s : ByteArray) (w : World) (hs : s.size < 4611686018427387904) :
    Calls Try.prog 79 #[.string s] w fun e w' => e = .returned (.int .i64 (U.cnt s.data.toList)) ∧ w = w' := by
  go_enter Try.func79, Try.ntmps79
  go_wp2
  go_loop [3, 4] (fun n p => ∃ k : Nat, k ≤ s.size ∧ p = .int .i64 k ∧ n = .int .i64 (U.cntTo s.data.toList k)) (fun _ p => s.size - (intOf p).toNat)
  case atStart => exact ⟨0, Nat.zero_le _, rfl, rfl⟩
  case round =>
    obtain ⟨k, hk, rfl, rfl⟩ := hrel
    have hle := U.cntTo_le s.data.toList k
    by_cases hlt : k < s.size
    · have hstep : Hid (U.cntTo s.data.toList (k + 1) = U.cntTo s.data.toList k + if U.cont s[k] then 0 else 1) := by
        show _ = _; rw [U.cntTo_succ, U.at_lt s k hlt]
      cases hb : U.cont s[k] with
      | true =>
        have hs1 : Hid (U.cntTo s.data.toList (k + 1) = U.cntTo s.data.toList k) := by show _ = _; rw [hstep.out, hb]; rfl
        go_wp2_with (go_at_call 85; refine (refCont_any _ _).mono ?_; rintro e w' ⟨rfl, rfl⟩)
        go_round
        case rel => exact ⟨k + 1, by omega, by go_num, by rw [hs1.out]⟩
        case measure => simp [intOf]; omega
      | false =>
        have hs1 : Hid (U.cntTo s.data.toList (k + 1) = U.cntTo s.data.toList k + 1) := by show _ = _; rw [hstep.out, hb]; rfl
        go_wp2_with (go_at_call 85; refine (refCont_any _ _).mono ?_; rintro e w' ⟨rfl, rfl⟩)
        go_round
        case rel => exact ⟨k + 1, by omega, by go_num, by rw [hs1.out]; go_num⟩
        case measure => simp [intOf]; omega
    · obtain rfl : k = s.size := by omega
      have he : Hid (U.cnt s.data.toList = U.cntTo s.data.toList s.size) := by show _ = _; rw [U.cnt, U.len]
      go_wp2
      go_ret
      exact ⟨U.ret_int (by rw [he.out]), rfl⟩

theorem anywhere_any (s : ByteArray) (i : Int) (w : World) :
    Calls Try.prog 65 #[.string s, .int .i64 i] w fun e w' => e = .returned (.bool true) ∧ w = w' := by
  go_enter Try.func65, Try.ntmps65
  go_wp2
  go_ret
  exact ⟨rfl, rfl⟩
theorem M.lb_zero' (l : List UInt8) {k : Nat} (h : (k : Int) = 0) : true = M.lb l k := by
  have : k = 0 := by omega
  subst this; rfl
theorem M.lb_at (s : ByteArray) (k : Nat) (h : k < s.size) : ((k : Int) + 1 == 0 || (s[k].toNat : Int) == 10) = M.lb s.data.toList (k + 1) := by
  rw [M.lb_succ, M.isLf, U.at_lt s k h, Bool.eq_iff_iff]
  have h1 : ((k : Int) + 1 == 0) = false := by simp; omega
  rw [h1]
  simp only [Bool.false_or, beq_iff_eq]
  constructor
  · intro e; exact UInt8.toNat_inj.1 (by rw [show (10 : UInt8).toNat = 10 from rfl]; omega)
  · intro e; rw [e]; rfl
theorem lineBegins_any (s : ByteArray) (k : Nat) (w : World) (hk : k ≤ s.size) (hs : s.size < 4611686018427387904) :
    Calls Try.prog 67 #[.string s, .int .i64 k] w fun e w' => e = .returned (.bool (M.lb s.data.toList k)) ∧ w = w' := by
  cases k with
  | zero =>
    go_enter Try.func67, Try.ntmps67
    go_wp2
    go_ret
    exact ⟨rfl, rfl⟩
  | succ k =>
    go_enter Try.func67, Try.ntmps67
    go_wp2
    go_ret
    exact ⟨U.ret_bool (M.lb_at s k (by omega)), rfl⟩
end Go.Proofs.Ytdpaleldalplfaa
