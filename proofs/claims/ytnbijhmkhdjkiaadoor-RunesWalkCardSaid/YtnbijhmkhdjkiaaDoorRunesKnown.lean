/- The examples that every statement of stage 1 asks: they are met. -/
import Derived.Test.YtnbijhmkhdjkiaaDoorRunesRange
import Derived.Test.YtnbijhmkhdjkiaaDoorRunesEnc
import Derived.Test.YtnbijhmkhdjkiaaDoorRunesValid
namespace Go.Proofs.YtnbijhmkhdjkiaaDoor
open Go.RowKit

theorem U.app1 : (⟨#[226, 130, 172]⟩ ++ ⟨#[97]⟩ : ByteArray) = ⟨#[226, 130, 172, 97]⟩ := by kernel_rfl
theorem U.app2 : (⟨#[97]⟩ ++ ⟨#[226, 130, 172]⟩ : ByteArray) = ⟨#[97, 226, 130, 172]⟩ := by kernel_rfl
theorem known1 (W : World) (h : U.Tab W) : Calls Tryd.prog 19 #[.string (⟨#[226, 130, 172]⟩ ++ ⟨#[97]⟩)] W fun e w' => e = .returned (.tuple #[.int .i64 8364, .int .i64 3, .int .i64 0]) ∧ Below W.heap.size W w' :=
  by rw [U.app1]; exact (decode_any ⟨#[226, 130, 172, 97]⟩ W (by decide) h).mono fun _ _ h => ⟨h.1.trans (by rfl), h.2⟩
theorem known2 (W : World) (h : U.Tab W) : Calls Tryd.prog 19 #[.string ⟨#[237, 160, 128]⟩] W fun e w' => e = .returned (.tuple #[.int .i64 0, .int .i64 0, .int .i64 11]) ∧ Below W.heap.size W w' :=
  (decode_any ⟨#[237, 160, 128]⟩ W (by decide) h).mono fun _ _ h => ⟨h.1.trans (by rfl), h.2⟩
theorem known3 (W : World) (h : U.Tab W) : Calls Tryd.prog 21 #[.int .i64 8364] W fun e w' => e = .returned (.tuple #[.string ⟨#[226, 130, 172]⟩, .int .i64 0]) ∧ Below W.heap.size W w' :=
  (encode_any 8364 W h).mono fun _ _ h => ⟨h.1.trans (by rfl), h.2⟩
theorem known4 (W : World) (h : U.Tab W) : Calls Tryd.prog 21 #[.int .i64 55296] W fun e w' => e = .returned (.tuple #[.string ⟨#[]⟩, .int .i64 2]) ∧ Below W.heap.size W w' :=
  (encode_any 55296 W h).mono fun _ _ h => ⟨h.1.trans (by rfl), h.2⟩
theorem known5 (W : World) : Calls Tryd.prog 23 #[.string (⟨#[97]⟩ ++ ⟨#[226, 130, 172]⟩), .int .i64 1] W fun e w' => e = .returned (.tuple #[.int .i64 4, .bool true]) ∧ Below W.heap.size W w' :=
  by rw [U.app2]; exact (next_any ⟨#[97, 226, 130, 172]⟩ 1 W (by decide)).mono fun _ _ h => ⟨h.1.trans (by rfl), h.2⟩
theorem known6 (W : World) : Calls Tryd.prog 25 #[.string ⟨#[130, 97]⟩, .int .i64 9] W fun e w' => e = .returned (.tuple #[.int .i64 2, .bool true]) ∧ Below W.heap.size W w' :=
  (prev_any ⟨#[130, 97]⟩ 9 W (by decide)).mono fun _ _ h => ⟨h.1.trans (by rfl), h.2⟩
theorem known7 (W : World) : Calls Tryd.prog 27 #[.string (⟨#[97]⟩ ++ ⟨#[226, 130, 172]⟩), .int .i64 3] W fun e w' => e = .returned (.string ⟨#[97]⟩) ∧ Below W.heap.size W w' :=
  by rw [U.app2]; exact (clip_any ⟨#[97, 226, 130, 172]⟩ 3 W (by decide)).mono fun _ _ h => ⟨h.1.trans (by rfl), h.2⟩
theorem known8 (W : World) : Calls Tryd.prog 15 #[.string ⟨#[130, 97, 226, 130]⟩] W fun e w' => e = .returned (.int .i64 2) ∧ Below W.heap.size W w' :=
  (count_any ⟨#[130, 97, 226, 130]⟩ W (by decide)).mono fun _ _ h => ⟨h.1.trans (by rfl), h.2⟩
theorem known9 (W : World) (h : U.Tab W) : Calls Tryd.prog 13 #[.string ⟨#[226, 130, 172]⟩] W fun e w' => e = .returned (.bool true) ∧ Below W.heap.size W w' :=
  (valid_any ⟨#[226, 130, 172]⟩ W (by decide) h).mono fun _ _ h => ⟨h.1.trans (by rfl), h.2⟩
theorem known10 (W : World) : Calls Tryd.prog 17 #[.string (⟨#[97]⟩ ++ ⟨#[226, 130, 172]⟩), .int .i64 2] W fun e w' => e = .returned (.bool false) ∧ W = w' :=
  by rw [U.app2]; exact (boundary_any ⟨#[97, 226, 130, 172]⟩ 2 W).mono fun _ _ h => ⟨h.1.trans (by rfl), h.2⟩
set_option maxHeartbeats 1000000 in
theorem known_any (w : World) (ht : U.Tab w) :
    Calls Tryd.prog 12 #[] w fun e w' => e = .returned (.bool true) ∧ Below w.heap.size w w' := by
  go_enter Tryd.func12, Tryd.ntmps12
  have hB := Below.refl w.heap.size w
  go_wp2_with fail
  refine (known1 _ ht).mono ?_
  rintro e w1 ⟨rfl, hb1⟩
  replace ht := ht.below hb1
  replace hB := hB.trans (hb1.mono hB.size)
  clear hb1
  go_wp2_with fail
  refine (known2 _ ht).mono ?_
  rintro e w1 ⟨rfl, hb1⟩
  replace ht := ht.below hb1
  replace hB := hB.trans (hb1.mono hB.size)
  clear hb1
  go_wp2_with fail
  refine (known3 _ ht).mono ?_
  rintro e w1 ⟨rfl, hb1⟩
  replace ht := ht.below hb1
  replace hB := hB.trans (hb1.mono hB.size)
  clear hb1
  go_wp2_with fail
  refine (known4 _ ht).mono ?_
  rintro e w1 ⟨rfl, hb1⟩
  replace ht := ht.below hb1
  replace hB := hB.trans (hb1.mono hB.size)
  clear hb1
  go_wp2_with fail
  refine (known5 _).mono ?_
  rintro e w1 ⟨rfl, hb1⟩
  replace ht := ht.below hb1
  replace hB := hB.trans (hb1.mono hB.size)
  clear hb1
  go_wp2_with fail
  refine (known6 _).mono ?_
  rintro e w1 ⟨rfl, hb1⟩
  replace ht := ht.below hb1
  replace hB := hB.trans (hb1.mono hB.size)
  clear hb1
  go_wp2_with fail
  refine (known7 _).mono ?_
  rintro e w1 ⟨rfl, hb1⟩
  replace ht := ht.below hb1
  replace hB := hB.trans (hb1.mono hB.size)
  clear hb1
  go_wp2_with fail
  refine (known8 _).mono ?_
  rintro e w1 ⟨rfl, hb1⟩
  replace ht := ht.below hb1
  replace hB := hB.trans (hb1.mono hB.size)
  clear hb1
  go_wp2_with fail
  refine (known9 _ ht).mono ?_
  rintro e w1 ⟨rfl, hb1⟩
  replace ht := ht.below hb1
  replace hB := hB.trans (hb1.mono hB.size)
  clear hb1
  go_wp2_with fail
  refine (known10 _).mono ?_
  rintro e w1 ⟨rfl, rfl⟩
  go_wp2
  go_ret
  exact ⟨rfl, hB⟩
end Go.Proofs.YtnbijhmkhdjkiaaDoor
