/- The walk of the statement of stage 1 on the order of encodings. -/
import Derived.Test.YtnbijhmkhdjkiaaDoorRunesKnown
import Derived.Test.YtnbijhmkhdjkiaaDoorRunesOrderMath
import Derived.Test.YtnbijhmkhdjkiaaDoorRunesRefDec
import Derived.Deep.RegionWith
import Derived.StillTailTactics
namespace Go.Proofs.YtnbijhmkhdjkiaaDoor
open Go.RowKit

theorem slice_to (s : ByteArray) (n : Nat) (h : n ≤ s.size) (w : World) : (Instr.slice 9 (.string s) none (some (.int .i64 (n : Int))) none).run Tryd.prog w = .ok (.string (s.extract 0 n)) w :=
  run_slice_string_h w 9 s Tryd.underlying9 .i64 (n : Int) (by omega) (by omega)
theorem U.take_ne (x y : ByteArray) (h : y.size ≤ x.size) (hne : x.data.toList.take (min x.data.toList.length y.data.toList.length) ≠ y.data.toList.take (min x.data.toList.length y.data.toList.length)) :
    ((x.extract 0 y.size).toList == y.toList) = false ∧ (y.toList == (x.extract 0 y.size).toList) = false := by
  rw [Nat.min_eq_right (by rw [U.len, U.len]; exact h), List.take_length, U.len] at hne
  rw [beq_eq_false_iff_ne, beq_eq_false_iff_ne, ne_eq, ne_eq, U.toList_eq, U.toList_eq, Lib.extract_data, List.drop_zero, Nat.sub_zero]
  exact ⟨hne, fun e => hne e.symm⟩
set_option maxHeartbeats 1000000 in
theorem runesOrder_walk (a b : Int) (w : World) (ht : U.Tab w) :
    Calls Tryd.prog 10 #[.int .i64 a, .int .i64 b] w fun e w' => e = .returned (.bool true) ∧ Below w.heap.size w w' := by
  go_enter Tryd.func10, Tryd.ntmps10
  have hB := Below.refl w.heap.size w
  go_wp2_with fail
  refine (encode_any _ _ ht).mono ?_
  rintro e w1 ⟨rfl, hb1⟩
  replace ht := ht.below hb1
  replace hB := hB.trans (hb1.mono hB.size)
  clear hb1
  go_wp2_with fail
  refine (encode_any _ _ ht).mono ?_
  rintro e w2 ⟨rfl, hb1⟩
  replace ht := ht.below hb1
  replace hB := hB.trans (hb1.mono hB.size)
  clear hb1
  cases ha : U.isR a with
  | false =>
    have ea : U.encE a = 2 := by rw [U.encE, ha]; rfl
    clear ha
    by_cases hab : a = b
    · subst hab
      go_wp2_with fail
      refine (known_any _ ht).mono ?_
      rintro e w3 ⟨rfl, hb1⟩
      replace hB := hB.trans (hb1.mono hB.size)
      clear hb1
      go_wp2
      go_ret
      exact ⟨rfl, hB⟩
    · have hne : (a == b) = false := by simpa using hab
      have hne' : (a != b) = true := by simpa using hab
      clear hab
      go_wp2_with fail
      refine (known_any _ ht).mono ?_
      rintro e w3 ⟨rfl, hb1⟩
      replace hB := hB.trans (hb1.mono hB.size)
      clear hb1
      go_wp2
      go_ret
      exact ⟨rfl, hB⟩
  | true =>
    have ea : U.encE a = 0 := by rw [U.encE, ha]; rfl
    cases hb : U.isR b with
    | false =>
      have eb : U.encE b = 2 := by rw [U.encE, hb]; rfl
      have hab : a ≠ b := by rintro rfl; rw [ha] at hb; cases hb
      have hne : (a == b) = false := by simpa using hab
      have hne' : (a != b) = true := by simpa using hab
      clear ha hb hab
      go_wp2_with fail
      refine (known_any _ ht).mono ?_
      rintro e w3 ⟨rfl, hb1⟩
      replace hB := hB.trans (hb1.mono hB.size)
      clear hb1
      go_wp2
      go_ret
      exact ⟨rfl, hB⟩
    | true =>
      by_cases hab : a = b
      · subst hab
        clear ha hb
        go_wp2_with fail
        refine (known_any _ ht).mono ?_
        rintro e w3 ⟨rfl, hb1⟩
        replace hB := hB.trans (hb1.mono hB.size)
        clear hb1
        go_wp2
        go_ret
        exact ⟨rfl, hB⟩
      · have eb : U.encE b = 0 := by rw [U.encE, hb]; rfl
        have hne : (a == b) = false := by simpa using hab
        have hord : (decide (a < b) == Op.bytesLess (U.encB a).toList (U.encB b).toList) = true := by
          rw [ByteArray.toList_eq, ByteArray.toList_eq, U.encB_data, U.encB_data, U.enc_order a b ha hb hab]; simp
        have hap := U.enc_apart a b ha hb hab
        rw [← U.encB_data a, ← U.encB_data b] at hap
        rcases Nat.lt_or_ge (U.encB b).size (U.encB a).size with hsz | hsz
        · have hq := (U.take_ne _ _ (Nat.le_of_lt hsz) hap).1
          clear ha hb hab hap
          have hs1 := slice_to (U.encB a) (U.encB b).size (by omega)
          have hs2 := slice_to (U.encB b) (U.encB b).size (by omega)
          go_wp2_with fail
          go_still_tail 17, (by kernel_rfl)
          change wpList _ _ _ _ _ w2.drew
          have hB' : Below w.heap.size w w2.drew := hB.drew
          have ht' : U.Tab w2.drew := ht.below (Below.refl _ _).drew
          generalize w2.drew = w3 at hB' ht' ⊢
          go_wp2_with fail
          refine (known_any _ ht').mono ?_
          rintro e w4 ⟨rfl, hb1⟩
          replace hB' := hB'.trans (hb1.mono hB'.size)
          clear hb1
          go_wp2
          go_ret
          exact ⟨rfl, hB'⟩
        · have hq : ((U.encB a).toList == ((U.encB b).extract 0 (U.encB a).size).toList) = false := by
            refine (U.take_ne _ _ hsz ?_).2
            rw [Nat.min_comm]
            exact fun e => hap e.symm
          clear ha hb hab hap
          have hs1 := slice_to (U.encB a) (U.encB a).size (by omega)
          have hs2 := slice_to (U.encB b) (U.encB a).size (by omega)
          go_wp2_with fail
          go_still_tail 17, (by kernel_rfl)
          change wpList _ _ _ _ _ w2.drew
          have hB' : Below w.heap.size w w2.drew := hB.drew
          have ht' : U.Tab w2.drew := ht.below (Below.refl _ _).drew
          generalize w2.drew = w3 at hB' ht' ⊢
          go_wp2_with fail
          refine (known_any _ ht').mono ?_
          rintro e w4 ⟨rfl, hb1⟩
          replace hB' := hB'.trans (hb1.mono hB'.size)
          clear hb1
          go_wp2
          go_ret
          exact ⟨rfl, hB'⟩
end Go.Proofs.YtnbijhmkhdjkiaaDoor
