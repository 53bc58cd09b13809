/- Valid of package runes: its contract. -/
import Derived.Test.YtdilkoogjkabfaaDoorRunesDec
import Derived.Test.YtdilkoogjkabfaaDoorRunesMath2
import Derived.Lib.Strings
namespace Go.Proofs.YtdilkoogjkabfaaDoor
open Go.RowKit

def U.strLen : Value → Nat | .string s => s.size | _ => 0
theorem U.drop_data (t : ByteArray) (n : Nat) : (t.extract n t.size).data.toList = t.data.toList.drop n := by
  rw [Lib.extract_data]
  exact List.take_of_length_le (by rw [List.length_drop, U.len]; exact Nat.le_refl _)
theorem U.nil_of_empty (t : ByteArray) (h : t.size = 0) : t.data.toList = [] ∧ t.toList.isEmpty = true := by
  have hn : t.data.toList = [] := List.length_eq_zero_iff.1 (by rw [U.len]; exact h)
  exact ⟨hn, by rw [ByteArray.toList_eq, hn]; rfl⟩

set_option maxHeartbeats 1000000 in
theorem runesValid_any (s : ByteArray) (w : World) (hs : s.size ≤ maxLen) (ht : U.Tab w) :
    Calls Tryd.prog 5 #[.string s] w fun e w' => e = .returned (.bool (U.valid s.data.toList)) ∧ Below w.heap.size w w' := by
  unfold maxLen at hs
  go_enter Tryd.func5, Tryd.ntmps5
  go_wp2
  go_loopw [0] (fun v wr => ∃ t : ByteArray, v = .string t ∧ t.size ≤ s.size ∧ Hid (U.valid t.data.toList = U.valid s.data.toList) ∧ Below w.heap.size w wr) (fun v _ => U.strLen v)
  case atStart => exact ⟨s, rfl, Nat.le_refl _, rfl, Below.refl _ _⟩
  case round =>
    obtain ⟨t, rfl, hts, hv, hb⟩ := hrel
    have htab := ht.below hb
    by_cases hpos : 0 < t.size
    · have hne := U.toList_isEmpty t hpos
      have hnn := U.ne_nil t hpos
      cases hd : U.decB t.data.toList with
      | false =>
        have HV : Hid (false = U.valid s.data.toList) := by show _ = _; rw [← hv.out, U.valid_no _ hnn hd]
        have he : U.decE t.data.toList = 11 := by rw [U.decE, if_neg hnn, hd]; rfl
        clear hnn hd
        go_wp2_with (go_at_call 12; refine (decode_any _ _ (by unfold maxLen; omega) htab).mono ?_; rintro e w' ⟨rfl, hb'⟩)
        go_ret
        exact ⟨U.ret_bool HV.out, hb.trans (‹Below wr.heap.size wr _›.mono hb.size)⟩
      | true =>
        have hl := U.decB_len _ hd
        rw [U.len] at hl
        have hle : U.decN t.data.toList ≤ t.size := hl.2.1
        have HV : Hid (U.valid (t.extract (U.decN t.data.toList) t.size).data.toList = U.valid s.data.toList) := by
          show _ = _; rw [U.drop_data, ← U.valid_yes _ hnn hd]; exact hv.out
        have he : U.decE t.data.toList = 0 := by rw [U.decE, if_neg hnn, hd]; rfl
        clear hnn hd
        go_wp2_with (go_at_call 12; refine (decode_any _ _ (by unfold maxLen; omega) htab).mono ?_; rintro e w' ⟨rfl, hb'⟩)
        go_roundw
        case rel => exact ⟨_, rfl, by simp; omega, HV, hb.trans (‹Below wr.heap.size wr _›.mono hb.size)⟩
        case measure => simp [U.strLen]; omega
    · obtain ⟨hn, hemp⟩ := U.nil_of_empty t (by omega)
      have HV : Hid (true = U.valid s.data.toList) := by show _ = _; rw [← hv.out, hn, U.valid_nil]
      clear hn
      go_wp2
      go_ret
      exact ⟨U.ret_bool HV.out, hb⟩
end Go.Proofs.YtdilkoogjkabfaaDoor
