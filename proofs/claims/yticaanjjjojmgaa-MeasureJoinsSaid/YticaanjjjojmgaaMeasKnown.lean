/- The examples that every statement of stage 2 asks: they are met. -/
import Derived.Test.YticaanjjjojmgaaMeasOf
import Derived.Test.YticaanjjjojmgaaMeasSub
namespace Go.Proofs.Yticaanjjjojmgaa
open Go.RowKit Go.Shelf

theorem mknown1 (W : World) : Calls Try.prog 18 #[.string ⟨#[97, 10, 226, 130, 172, 10]⟩, .int .i64 3] W fun e w' => e = .returned (.tuple #[.int .i64 5, .int .i64 0]) ∧ W = w' :=
  (rune_any ⟨#[97, 10, 226, 130, 172, 10]⟩ 3 W (by decide)).mono fun _ _ h => ⟨h.1.trans (by rfl), h.2⟩
theorem mknown2 (W : World) : Calls Try.prog 18 #[.string ⟨#[97, 10, 226, 130, 172, 10]⟩, .int .i64 5] W fun e w' => e = .returned (.tuple #[.int .i64 0, .int .i64 3]) ∧ W = w' :=
  (rune_any ⟨#[97, 10, 226, 130, 172, 10]⟩ 5 W (by decide)).mono fun _ _ h => ⟨h.1.trans (by rfl), h.2⟩
theorem mknown3 (W : World) : Calls Try.prog 20 #[.string ⟨#[97, 10, 226, 130, 172, 10]⟩, .int .i64 3] W fun e w' => e = .returned (.tuple #[.int .i64 3, .int .i64 0]) ∧ W = w' :=
  (runesBefore_any ⟨#[97, 10, 226, 130, 172, 10]⟩ 3 W (by decide)).mono fun _ _ h => ⟨h.1.trans (by rfl), h.2⟩
theorem mknown4 (W : World) : Calls Try.prog 22 #[.string ⟨#[97, 10, 226, 130, 172, 10]⟩, .int .i64 1] W fun e w' => e = .returned (.tuple #[.int .i64 2, .int .i64 0]) ∧ W = w' :=
  (line_any ⟨#[97, 10, 226, 130, 172, 10]⟩ 1 W (by decide)).mono fun _ _ h => ⟨h.1.trans (by rfl), h.2⟩
theorem mknown5 (W : World) : Calls Try.prog 24 #[.string ⟨#[97, 10, 226, 130, 172, 10]⟩, .int .i64 6] W fun e w' => e = .returned (.tuple #[.int .i64 2, .int .i64 0]) ∧ W = w' :=
  (lineOf_any ⟨#[97, 10, 226, 130, 172, 10]⟩ 6 W (by decide)).mono fun _ _ h => ⟨h.1.trans (by rfl), h.2⟩
theorem mknown6 (W : World) : Calls Try.prog 16 #[.agg #[.int .i64 3, .int .i64 2, .int .i64 1], .agg #[.int .i64 1, .int .i64 1, .int .i64 2]] W fun e w' => e = .returned (.tuple #[.agg #[.int .i64 0, .int .i64 0, .int .i64 0], .int .i64 3]) ∧ Below W.heap.size W w' :=
  (sub_any 3 2 1 1 1 2 W).mono fun _ _ h => ⟨h.1.trans (by rfl), h.2⟩
theorem mknown7 (W : World) : Calls Try.prog 11 #[.string ⟨#[97, 10, 226, 130, 172, 10]⟩] W fun e w' => e = .returned (.agg #[.int .i64 6, .int .i64 4, .int .i64 2]) ∧ Below W.heap.size W w' :=
  (of_any ⟨#[97, 10, 226, 130, 172, 10]⟩ W (by decide)).mono fun _ _ h => ⟨h.1.trans (by rfl), h.2⟩
set_option maxRecDepth 100000 in
set_option maxHeartbeats 1000000 in
theorem mknown_any (w : World) : Calls Try.prog 13 #[] w fun e w' => e = .returned (.bool true) ∧ Below w.heap.size w w' := by
  go_enter Try.func13, Try.ntmps13
  have hB := Below.refl w.heap.size w
  go_wp2_with (first
    | (go_at_call 20; refine (mknown3 _).mono ?_; rintro e w' ⟨rfl, rfl⟩)
    | (go_at_call 22; refine (mknown4 _).mono ?_; rintro e w' ⟨rfl, rfl⟩)
    | (go_at_call 24; refine (mknown5 _).mono ?_; rintro e w' ⟨rfl, rfl⟩)
    | (go_at_call 18; first | ((with_reducible refine (mknown1 _).mono ?_); rintro e w' ⟨rfl, rfl⟩) | ((with_reducible refine (mknown2 _).mono ?_); rintro e w' ⟨rfl, rfl⟩)))
  refine (mknown6 _).mono ?_
  rintro e w1 ⟨rfl, hb1⟩
  replace hB := (hB.trans (hb1.mono hB.size)).alloc (Nat.le_trans hB.size hb1.size) (.cells #[.int .i64 0, .int .i64 0, .int .i64 0] 23)
  go_wp2_with fail
  refine (mknown7 _).mono ?_
  rintro e w2 ⟨rfl, hb2⟩
  replace hB := hB.trans (hb2.mono hB.size)
  clear hb1 hb2
  go_wp2
  go_ret
  exact ⟨rfl, hB⟩
end Go.Proofs.Yticaanjjjojmgaa
