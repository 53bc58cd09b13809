/- Decode of package runes: its contract. -/
import Derived.Test.YtdilkoogjkabfaaDoorRunesLeaf
import Derived.Test.YtdilkoogjkabfaaDoorRunesBits
import Derived.BigQuiet
import Derived.Deep.QuietTactic
import Derived.LoopTactic
import Derived.Lib.Hide
import Derived.IntWalk
namespace Go.Proofs.YtdilkoogjkabfaaDoor
open Go.RowKit

/-- The table of runes, as it lies in memory. -/
structure U.Tab (w : World) : Prop where
  c0 : w.cell? ⟨0, 0, none⟩ = some (.int .i64 0)
  c1 : w.cell? ⟨0, 1, none⟩ = some (.int .i64 0)
  c2 : w.cell? ⟨0, 2, none⟩ = some (.int .i64 192)
  c3 : w.cell? ⟨0, 3, none⟩ = some (.int .i64 224)
  c4 : w.cell? ⟨0, 4, none⟩ = some (.int .i64 240)
  sz : 0 < w.heap.size
theorem U.Tab.at_ {w : World} (h : U.Tab w) {n : Nat} (hn : n ≤ 4) : w.cell? ⟨0, n, none⟩ = some (.int .i64 (U.base n)) := by
  have : n = 0 ∨ n = 1 ∨ n = 2 ∨ n = 3 ∨ n = 4 := by omega
  rcases this with rfl | rfl | rfl | rfl | rfl
  · exact h.c0
  · exact h.c1
  · exact h.c2
  · exact h.c3
  · exact h.c4
theorem U.Tab.below {w w' : World} (h : U.Tab w) (hb : Below w.heap.size w w') : U.Tab w' :=
  ⟨(hb.cell (p := ⟨_, _, none⟩) h.sz).trans h.c0, (hb.cell (p := ⟨_, _, none⟩) h.sz).trans h.c1, (hb.cell (p := ⟨_, _, none⟩) h.sz).trans h.c2,
    (hb.cell (p := ⟨_, _, none⟩) h.sz).trans h.c3, (hb.cell (p := ⟨_, _, none⟩) h.sz).trans h.c4, Nat.lt_of_lt_of_le h.sz hb.size⟩

theorem U.toList_isEmpty (s : ByteArray) (h : 0 < s.size) : s.toList.isEmpty = false := by
  rw [ByteArray.toList_eq]
  cases hl : s.data.toList with
  | nil => rw [← U.len s, hl] at h; simp at h
  | cons _ _ => rfl
theorem U.acc_step (s : ByteArray) (k : Nat) (h1 : 1 ≤ k) (h : k < s.size) (hc : U.cont s[k] = true) (hb : 0 ≤ U.accK s.data.toList k ∧ U.accK s.data.toList k < 67108864) :
    bits BinOp.or IntKind.i64 (U.accK s.data.toList k * 64) (bits BinOp.and IntKind.i64 (wrap64 (s[k].toNat : Int)) 63) = U.accK s.data.toList (k + 1) := by
  have hx := (U.cont_iff _).1 hc
  have e : (s[k].toNat : Int) % 64 = (s[k].toNat : Int) - 128 := by omega
  rw [IntWalk.wrap64_in _ ⟨by omega, by omega⟩, U.and63 _ (by omega) (by omega), e, U.or_shl6 _ _ hb.1 hb.2 (by omega) (by omega), U.accK_succ _ k h1 (by rw [U.len]; exact h), U.at_lt s k h]
theorem U.con_step (s : ByteArray) (k : Nat) (h1 : 1 ≤ k) (h : k < s.size) : U.conK s.data.toList (k + 1) = (U.conK s.data.toList k && U.cont s[k]) := by
  rw [U.conK_succ _ k h1 (by rw [U.len]; exact h), U.at_lt s k h]
theorem U.dec_no (l : List UInt8) (h : U.decB l = false) (hl : l ≠ []) : (0 : Int) = U.decR l ∧ (0 : Int) = (U.decN l : Int) ∧ (11 : Int) = U.decE l := by
  simp [U.decR, U.decN, U.decE, h, hl]
theorem U.dec_yes (l : List UInt8) (h : U.decB l = true) (hl : l ≠ []) : U.raw l = U.decR l ∧ U.ext (l.getD 0 0) = U.decN l ∧ (0 : Int) = U.decE l := by
  simp [U.decR, U.decN, U.decE, h, hl]
theorem U.ne_nil (s : ByteArray) (h : 0 < s.size) : s.data.toList ≠ [] := fun e => by
  rw [← U.len s, e] at h; simp at h
theorem U.ret3 {a b c a' b' c' : Int} (h : a = a' ∧ b = b' ∧ c = c') : Ending.returned (.tuple #[.int .i64 a, .int .i64 b, .int .i64 c]) = .returned (.tuple #[.int .i64 a', .int .i64 b', .int .i64 c']) := by
  obtain ⟨rfl, rfl, rfl⟩ := h; rfl

theorem U.end_width {d : Bool} {a : Int} {n : Nat} (h : d = (U.isR a && (U.wid a == n))) (h2 : ((U.wid a : Int) != (n : Int)) = true) : d = false := by
  have : (U.wid a == n) = false := by simp at h2 ⊢; omega
  rw [h, this]; simp
theorem U.end_good {d : Bool} {a : Int} {n : Nat} (h : d = (U.isR a && (U.wid a == n))) (h1 : U.isR a = true) (h2 : ((U.wid a : Int) != (n : Int)) = false) : d = true := by
  have : (U.wid a == n) = true := by simp at h2 ⊢; omega
  rw [h, this, h1]; rfl
theorem U.end_rune {d : Bool} {a : Int} {n : Nat} (h : d = (U.isR a && (U.wid a == n))) (h1 : ¬ U.isR a = true) : d = false := by
  rw [h, Bool.eq_false_iff.2 h1]; rfl
set_option maxHeartbeats 400000 in
theorem decode_walk (s : ByteArray) (w : World) (hs : s.size ≤ maxLen) (h0 : 0 < s.size) (hn : 0 < U.ext s[0]) (hl : U.ext s[0] ≤ s.size) (hne : s.toList.isEmpty = false) (ht : U.Tab w) :
    Calls Tryd.prog 12 #[.string s] w fun e w' => e = .returned (.tuple #[.int .i64 (U.decR s.data.toList), .int .i64 (U.decN s.data.toList), .int .i64 (U.decE s.data.toList)]) ∧ Below w.heap.size w w' := by
  unfold maxLen at hs
  have h4 := U.ext_le s[0]
  have hc := ht.at_ h4
  have hz : (((U.ext s[0] : Nat) : Int) == 0) = false := by simp; omega
  have hnl : ¬ s.size < U.ext s[0] := by omega
  have hb := U.base_le s[0]
  go_enter Tryd.func12, Tryd.ntmps12
  go_wp2_with (first | (go_at_call 24; refine (extent_any _ _).mono ?_; rintro e w' ⟨rfl, rfl⟩))
  go_quiet (fail)
  have hw : wrap64 (wrap64 (s[0].toNat : Int) - (U.base (U.ext s[0]) : Int)) = U.accK s.data.toList 1 := by
    have h256 := U.lt256 s[0]
    rw [U.accK_one, U.at_lt s 0 h0, IntWalk.wrap64_in (s[0].toNat : Int) ⟨by omega, by omega⟩, IntWalk.wrap64_in _ ⟨by omega, by omega⟩]
  rw [hw]
  clear hw
  go_wp2
  go_loop [2, 3, 5] (fun r n i => ∃ k : Nat, 1 ≤ k ∧ k ≤ U.ext s[0] ∧ i = .int .i64 k ∧ n = .int .i64 (U.ext s[0]) ∧ r = .int .i64 (U.accK s.data.toList k) ∧ U.conK s.data.toList k = true) (fun _ _ i => U.ext s[0] - (intOf i).toNat)
  case atStart => exact ⟨1, by omega, by omega, rfl, rfl, rfl, U.conK_one _⟩
  case round =>
    obtain ⟨k, hk1, hk2, rfl, rfl, rfl, hcon⟩ := hrel
    have hbd := U.accK_bd s.data.toList k hk1 (by rw [U.len]; omega) (by omega) hcon
    have Hcon := Lib.hid hcon
    clear hcon
    have h0' : s.data.toList.getD 0 0 = s[0] := U.at_lt s 0 h0
    have H0 := Lib.hid h0'
    clear h0'
    by_cases hlt : k < U.ext s[0]
    · by_cases hk : U.cont s[k] = true
      · go_wp2_with (go_at_call 25; refine (continues_any _ _).mono ?_; rintro e w' ⟨rfl, rfl⟩)
        go_round
        case rel => exact ⟨k + 1, by omega, by omega, by go_num, rfl, by rw [U.acc_step s k hk1 (by omega) hk hbd], by rw [U.con_step s k hk1 (by omega), Hcon.out, hk]; rfl⟩
        case measure => simp [intOf]; omega
      · have hk : U.cont s[k] = false := by simpa using hk
        go_wp2_with (go_at_call 25; refine (continues_any _ _).mono ?_; rintro e w' ⟨rfl, rfl⟩)
        go_ret3
        refine ⟨U.ret3 (U.dec_no _ (U.decB_conK _ (k := k + 1) (by rw [H0.out]; omega) ?_) (U.ne_nil s h0)), below_drewN (Below.refl _ _) _⟩
        rw [U.con_step s k hk1 (by omega), Hcon.out, hk]; rfl
    · obtain rfl : k = U.ext s[0] := by omega
      have hend : U.decB s.data.toList = (U.isR (U.accK s.data.toList (U.ext s[0])) && (U.wid (U.accK s.data.toList (U.ext s[0])) == U.ext s[0])) := by
        have := U.decB_end s.data.toList (by rw [H0.out]; exact hn) (by rw [H0.out, U.len]; exact hl) (by rw [H0.out]; exact Hcon.out)
        rwa [H0.out] at this
      have Hend := Lib.hid hend
      clear hend
      go_wp2_with (first | (go_at_call 26; refine (isRune_any _ _).mono ?_; rintro e w' ⟨rfl, rfl⟩) | (go_at_call 27; refine (width_any _ _).mono ?_; rintro e w' ⟨rfl, rfl⟩))
      · go_ret3
        exact ⟨U.ret3 (U.dec_no _ (U.end_width Hend.out ‹_›) (U.ne_nil s h0)), below_drewN (Below.refl _ _) _⟩
      · go_ret3
        have := U.dec_yes _ (U.end_good Hend.out ‹_› ‹_›) (U.ne_nil s h0)
        refine ⟨U.ret3 ⟨?_, ?_, this.2.2⟩, below_drewN (Below.refl _ _) _⟩
        · rw [← this.1, U.raw_eq, H0.out]
        · rw [← this.2.1, H0.out]
      · go_ret3
        exact ⟨U.ret3 (U.dec_no _ (U.end_rune Hend.out ‹_›) (U.ne_nil s h0)), below_drewN (Below.refl _ _) _⟩

theorem decode_any (s : ByteArray) (w : World) (hs : s.size ≤ maxLen) (ht : U.Tab w) :
    Calls Tryd.prog 12 #[.string s] w fun e w' => e = .returned (.tuple #[.int .i64 (U.decR s.data.toList), .int .i64 (U.decN s.data.toList), .int .i64 (U.decE s.data.toList)]) ∧ Below w.heap.size w w' := by
  by_cases h0 : 0 < s.size
  · have hne := U.toList_isEmpty s h0
    by_cases hn : 0 < U.ext s[0] ∧ U.ext s[0] ≤ s.size
    · exact decode_walk s w hs h0 hn.1 hn.2 hne ht
    · have h4 := U.ext_le s[0]
      have h0' : s.data.toList.getD 0 0 = s[0] := U.at_lt s 0 h0
      have hd := Lib.hid (U.dec_no s.data.toList (U.decB_size _ (by rw [h0', U.len]; omega)) (U.ne_nil s h0))
      clear h0'
      unfold maxLen at hs
      go_enter Tryd.func12, Tryd.ntmps12
      by_cases hz : U.ext s[0] = 0
      · have hz' : (((U.ext s[0] : Nat) : Int) == 0) = true := by simp; omega
        clear hz hn
        go_wp2_with (first | (go_at_call 24; refine (extent_any _ _).mono ?_; rintro e w' ⟨rfl, rfl⟩))
        go_ret3
        exact ⟨U.ret3 hd.out, Below.refl _ _⟩
      · have hz' : (((U.ext s[0] : Nat) : Int) == 0) = false := by simp; omega
        have hnl : s.size < U.ext s[0] := by omega
        clear hz hn
        go_wp2_with (first | (go_at_call 24; refine (extent_any _ _).mono ?_; rintro e w' ⟨rfl, rfl⟩))
        go_ret3
        exact ⟨U.ret3 hd.out, Below.refl _ _⟩
  · have hne : s.toList.isEmpty = true := by
      rw [ByteArray.toList_eq]
      cases hl : s.data.toList with
      | nil => rfl
      | cons _ _ => have := U.len s; rw [hl] at this; simp at this; omega
    have hnil : s.data.toList = [] := by
      cases hl : s.data.toList with
      | nil => rfl
      | cons _ _ => have := U.len s; rw [hl] at this; simp at this; omega
    have hd : Hid ((0 : Int) = U.decR s.data.toList ∧ (0 : Int) = U.decN s.data.toList ∧ (3 : Int) = U.decE s.data.toList) := by rw [hnil]; exact ⟨rfl, rfl, rfl⟩
    clear hnil h0
    go_enter Tryd.func12, Tryd.ntmps12
    go_wp2
    go_ret3
    exact ⟨U.ret3 hd.out, Below.refl _ _⟩
end Go.Proofs.YtdilkoogjkabfaaDoor
