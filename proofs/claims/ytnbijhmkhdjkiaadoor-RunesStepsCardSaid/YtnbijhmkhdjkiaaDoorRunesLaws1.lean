/- The walks of the statements of stage 1 that compare with the reference. -/
import Derived.Test.YtnbijhmkhdjkiaaDoorRunesKnown
import Derived.Test.YtnbijhmkhdjkiaaDoorRunesRef
import Derived.Test.YtnbijhmkhdjkiaaDoorRunesRefDec
namespace Go.Proofs.YtnbijhmkhdjkiaaDoor
open Go.RowKit

set_option maxHeartbeats 1000000 in
theorem runesDecodes_walk (s : ByteArray) (w : World) (hs : s.size ≤ 140737488351232) (ht : U.Tab w) :
    Calls Tryd.prog 4 #[.string s] w fun e w' => e = .returned (.bool true) ∧ Below w.heap.size w w' := by
  go_enter Tryd.func4, Tryd.ntmps4
  have hB := Below.refl w.heap.size w
  have Hs : Hid (s.size ≤ maxLen) := by show _ ≤ _; unfold maxLen; omega
  clear hs
  go_wp2_with fail
  refine (decode_any _ _ Hs.out ht).mono ?_
  rintro e w1 ⟨rfl, hb1⟩
  replace ht := ht.below hb1
  replace hB := hB.trans (hb1.mono hB.size)
  clear hb1
  go_wp2_with fail
  refine (refDecode_any _ _ Hs.out).mono ?_
  rintro e w1 ⟨rfl, hb1⟩
  replace ht := ht.below hb1
  replace hB := hB.trans (hb1.mono hB.size)
  clear hb1
  go_wp2_with fail
  refine (known_any _ ht).mono ?_
  rintro e w1 ⟨rfl, hb1⟩
  replace hB := hB.trans (hb1.mono hB.size)
  clear hb1
  go_wp2
  go_ret
  exact ⟨rfl, hB⟩
set_option maxHeartbeats 1000000 in
theorem runesEncodes_walk (r : Int) (w : World) (ht : U.Tab w) :
    Calls Tryd.prog 5 #[.int .i64 r] w fun e w' => e = .returned (.bool true) ∧ Below w.heap.size w w' := by
  go_enter Tryd.func5, Tryd.ntmps5
  have hB := Below.refl w.heap.size w
  go_wp2_with fail
  refine (encode_any _ _ ht).mono ?_
  rintro e w1 ⟨rfl, hb1⟩
  replace ht := ht.below hb1
  replace hB := hB.trans (hb1.mono hB.size)
  clear hb1
  go_wp2_with fail
  refine (refEncode_any _ _).mono ?_
  rintro e w1 ⟨rfl, hb1⟩
  replace ht := ht.below hb1
  replace hB := hB.trans (hb1.mono hB.size)
  clear hb1
  go_wp2_with fail
  refine (known_any _ ht).mono ?_
  rintro e w1 ⟨rfl, hb1⟩
  replace hB := hB.trans (hb1.mono hB.size)
  clear hb1
  go_wp2
  go_ret
  exact ⟨rfl, hB⟩
set_option maxHeartbeats 1000000 in
theorem runesSteps_walk (s : ByteArray) (i : Int) (w : World) (hs : s.size ≤ 140737488351232) (ht : U.Tab w) :
    Calls Tryd.prog 6 #[.string s, .int .i64 i] w fun e w' => e = .returned (.bool true) ∧ Below w.heap.size w w' := by
  go_enter Tryd.func6, Tryd.ntmps6
  have hB := Below.refl w.heap.size w
  by_cases hsz : 4096 < s.size
  · go_wp2_with fail
    refine (known_any _ ht).mono ?_
    rintro e w1 ⟨rfl, hb1⟩
    go_wp2
    go_ret
    exact ⟨rfl, hb1⟩
  · have Hs : Hid (s.size < 4611686018427387904) := by show _ < _; omega
    go_wp2_with fail
    refine (next_any _ _ _ Hs.out).mono ?_
    rintro e w1 ⟨rfl, hb1⟩
    replace ht := ht.below hb1
    replace hB := hB.trans (hb1.mono hB.size)
    clear hb1
    go_wp2_with fail
    refine (refNext_any _ _ _ Hs.out).mono ?_
    rintro e w1 ⟨rfl, rfl⟩
    go_wp2_with fail
    refine (prev_any _ _ _ Hs.out).mono ?_
    rintro e w1 ⟨rfl, hb1⟩
    replace ht := ht.below hb1
    replace hB := hB.trans (hb1.mono hB.size)
    clear hb1
    go_wp2_with fail
    refine (refPrev_any _ _ _ Hs.out).mono ?_
    rintro e w1 ⟨rfl, rfl⟩
    go_wp2_with fail
    refine (clip_any _ _ _ Hs.out).mono ?_
    rintro e w1 ⟨rfl, hb1⟩
    replace ht := ht.below hb1
    replace hB := hB.trans (hb1.mono hB.size)
    clear hb1
    go_wp2_with fail
    refine (refClip_any _ _ _ Hs.out).mono ?_
    rintro e w1 ⟨rfl, rfl⟩
    go_wp2_with fail
    refine (known_any _ ht).mono ?_
    rintro e w1 ⟨rfl, hb1⟩
    replace hB := hB.trans (hb1.mono hB.size)
    clear hb1
    go_wp2
    go_ret
    exact ⟨rfl, hB⟩
end Go.Proofs.YtnbijhmkhdjkiaaDoor
