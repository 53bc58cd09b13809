/- The walk of the statement of stage 1 on parts. -/
import Derived.Test.YtnbijhmkhdjkiaaDoorRunesKnown
import Derived.Test.YtnbijhmkhdjkiaaDoorRunesMath3
import Derived.Lib.Strings
namespace Go.Proofs.YtnbijhmkhdjkiaaDoor
open Go.RowKit

/-- Valid, with its answer known. -/
theorem valid_is (s : ByteArray) (v : Bool) (hs : s.size ≤ maxLen) (h : U.valid s.data.toList = v) : Hid (∀ W, U.Tab W → Calls Tryd.prog 13 #[.string s] W fun e w' => e = .returned (.bool v) ∧ Below W.heap.size W w') :=
  fun W ht => (valid_any s W hs ht).mono fun e w' hh => by rw [h] at hh; exact hh
theorem U.take_data (s : ByteArray) (k : Nat) : (s.extract 0 k).data.toList = s.data.toList.take k := by
  rw [Lib.extract_data]; rfl
set_option maxHeartbeats 1000000 in
theorem runesParts_walk (a b : ByteArray) (i : Int) (w : World) (hs1 : a.size ≤ 140737488351232) (hs2 : b.size ≤ 140737488351232) (ht : U.Tab w) :
    Calls Tryd.prog 9 #[.string a, .string b, .int .i64 i] w fun e w' => e = .returned (.bool true) ∧ Below w.heap.size w w' := by
  go_enter Tryd.func9, Tryd.ntmps9
  have hB := Below.refl w.heap.size w
  have ha : Hid (a.size ≤ maxLen) := by show _ ≤ _; unfold maxLen; omega
  have hb : Hid (b.size ≤ maxLen) := by show _ ≤ _; unfold maxLen; omega
  have hab : Hid ((a ++ b).size ≤ maxLen) := by show _ ≤ _; rw [ByteArray.size_append]; unfold maxLen; omega
  cases hva : U.valid a.data.toList with
  | false =>
    have Ha := valid_is a false ha.out hva
    clear hva
    go_wp2_with fail
    refine (Ha.out _ ht).mono ?_
    rintro e w1 ⟨rfl, hb1⟩
    replace ht := ht.below hb1
    replace hB := hB.trans (hb1.mono hB.size)
    clear hb1
    go_wp2_with fail
    refine (Ha.out _ ht).mono ?_
    rintro e w2 ⟨rfl, hb1⟩
    replace ht := ht.below hb1
    replace hB := hB.trans (hb1.mono hB.size)
    clear hb1
    go_wp2_with fail
    refine (known_any _ ht).mono ?_
    rintro e w3 ⟨rfl, hb1⟩
    replace hB := hB.trans (hb1.mono hB.size)
    clear hb1
    go_wp2
    go_ret
    exact ⟨rfl, hB⟩
  | true =>
    have Ha := valid_is a true ha.out hva
    have Hva := Lib.hid hva
    clear hva
    go_wp2_with fail
    refine (Ha.out _ ht).mono ?_
    rintro e w1 ⟨rfl, hb1⟩
    replace ht := ht.below hb1
    replace hB := hB.trans (hb1.mono hB.size)
    clear hb1
    go_wp2_with fail
    cases hvb : U.valid b.data.toList with
    | false =>
      have Hb := valid_is b false hb.out hvb
      clear hvb
      refine (Hb.out _ ht).mono ?_
      rintro e w2 ⟨rfl, hb1⟩
      replace ht := ht.below hb1
      replace hB := hB.trans (hb1.mono hB.size)
      clear hb1
      go_wp2_with fail
      refine (Ha.out _ ht).mono ?_
      rintro e w3 ⟨rfl, hb1⟩
      replace ht := ht.below hb1
      replace hB := hB.trans (hb1.mono hB.size)
      clear hb1
      by_cases hin : 0 ≤ i ∧ i ≤ a.size
      · obtain ⟨k, rfl⟩ := Int.eq_ofNat_of_zero_le hin.1
        have hk : k ≤ a.size := by omega
        clear hin
        have hcut := U.valid_cut a.data.toList k Hva.out (by rw [U.len]; exact hk)
        obtain ⟨v, hv⟩ : ∃ v, v = U.bndN a.data.toList k := ⟨_, rfl⟩
        rw [← hv] at hcut
        have H1 := valid_is (a.extract 0 k) v (by rw [← U.len, U.take_data, List.length_take, U.len]; have := ha.out; omega) (by rw [U.take_data]; exact hcut.1)
        have H2 := valid_is (a.extract k a.size) v (by rw [← U.len, U.drop_data, List.length_drop, U.len]; have := ha.out; omega) (by rw [U.drop_data]; exact hcut.2)
        have hbd : U.bnd a.data.toList (k : Int) = v := by rw [U.bnd_natCast, hv]
        clear hcut hv
        go_wp2_with (go_at_call 17; refine (boundary_any _ _ _).mono ?_; rintro e w' ⟨rfl, rfl⟩)
        refine (H1.out _ ht).mono ?_
        rintro e w5 ⟨rfl, hb1⟩
        replace ht := ht.below hb1
        replace hB := hB.trans (hb1.mono hB.size)
        clear hb1
        go_wp2_with fail
        refine (H2.out _ ht).mono ?_
        rintro e w6 ⟨rfl, hb1⟩
        replace ht := ht.below hb1
        replace hB := hB.trans (hb1.mono hB.size)
        clear hb1
        go_wp2_with fail
        refine (known_any _ ht).mono ?_
        rintro e w7 ⟨rfl, hb1⟩
        replace hB := hB.trans (hb1.mono hB.size)
        clear hb1
        go_wp2
        go_ret
        exact ⟨rfl, hB⟩
      · have hout : i < 0 ∨ (a.size : Int) < i := by omega
        clear hin
        rcases hout with hout | hout
        all_goals
          go_wp2_with fail
          refine (known_any _ ht).mono ?_
          rintro e w5 ⟨rfl, hb1⟩
          replace hB := hB.trans (hb1.mono hB.size)
          clear hb1
          go_wp2
          go_ret
          exact ⟨rfl, hB⟩
    | true =>
      have Hb := valid_is b true hb.out hvb
      have Hab := valid_is (a ++ b) true hab.out (by rw [ByteArray.toList_data_append]; exact U.valid_both _ _ Hva.out hvb)
      clear hvb
      refine (Hb.out _ ht).mono ?_
      rintro e w2 ⟨rfl, hb1⟩
      replace ht := ht.below hb1
      replace hB := hB.trans (hb1.mono hB.size)
      clear hb1
      go_wp2_with fail
      refine (Hab.out _ ht).mono ?_
      rintro e w3 ⟨rfl, hb1⟩
      replace ht := ht.below hb1
      replace hB := hB.trans (hb1.mono hB.size)
      clear hb1
      go_wp2_with fail
      refine (Ha.out _ ht).mono ?_
      rintro e w4 ⟨rfl, hb1⟩
      replace ht := ht.below hb1
      replace hB := hB.trans (hb1.mono hB.size)
      clear hb1
      by_cases hin : 0 ≤ i ∧ i ≤ a.size
      · obtain ⟨k, rfl⟩ := Int.eq_ofNat_of_zero_le hin.1
        have hk : k ≤ a.size := by omega
        clear hin
        have hcut := U.valid_cut a.data.toList k Hva.out (by rw [U.len]; exact hk)
        obtain ⟨v, hv⟩ : ∃ v, v = U.bndN a.data.toList k := ⟨_, rfl⟩
        rw [← hv] at hcut
        have H1 := valid_is (a.extract 0 k) v (by rw [← U.len, U.take_data, List.length_take, U.len]; have := ha.out; omega) (by rw [U.take_data]; exact hcut.1)
        have H2 := valid_is (a.extract k a.size) v (by rw [← U.len, U.drop_data, List.length_drop, U.len]; have := ha.out; omega) (by rw [U.drop_data]; exact hcut.2)
        have hbd : U.bnd a.data.toList (k : Int) = v := by rw [U.bnd_natCast, hv]
        clear hcut hv
        go_wp2_with (go_at_call 17; refine (boundary_any _ _ _).mono ?_; rintro e w' ⟨rfl, rfl⟩)
        refine (H1.out _ ht).mono ?_
        rintro e w5 ⟨rfl, hb1⟩
        replace ht := ht.below hb1
        replace hB := hB.trans (hb1.mono hB.size)
        clear hb1
        go_wp2_with fail
        refine (H2.out _ ht).mono ?_
        rintro e w6 ⟨rfl, hb1⟩
        replace ht := ht.below hb1
        replace hB := hB.trans (hb1.mono hB.size)
        clear hb1
        go_wp2_with fail
        refine (known_any _ ht).mono ?_
        rintro e w7 ⟨rfl, hb1⟩
        replace hB := hB.trans (hb1.mono hB.size)
        clear hb1
        go_wp2
        go_ret
        exact ⟨rfl, hB⟩
      · have hout : i < 0 ∨ (a.size : Int) < i := by omega
        clear hin
        rcases hout with hout | hout
        all_goals
          go_wp2_with fail
          refine (known_any _ ht).mono ?_
          rintro e w5 ⟨rfl, hb1⟩
          replace hB := hB.trans (hb1.mono hB.size)
          clear hb1
          go_wp2
          go_ret
          exact ⟨rfl, hB⟩
end Go.Proofs.YtnbijhmkhdjkiaaDoor
