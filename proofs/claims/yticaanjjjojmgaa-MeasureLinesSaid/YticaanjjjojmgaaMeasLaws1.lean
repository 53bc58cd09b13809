/- The walks of the statements of stage 2 on Of, on runes, on lines. -/
import Derived.Test.YticaanjjjojmgaaMeasKnown
import Derived.Test.YticaanjjjojmgaaMeasRef
import Derived.Deep.RegionHeld3
namespace Go.Proofs.Yticaanjjjojmgaa
open Go.RowKit Go.Shelf

theorem M.keep3 {W V : World} {p : Nat} {a b c : Int} (A : M.Own W p a b c) (h : Below W.heap.size W V) :
    V.cell? ⟨p, 0, none⟩ = some (.int .i64 a) ∧ V.cell? ⟨p, 1, none⟩ = some (.int .i64 b) ∧ V.cell? ⟨p, 2, none⟩ = some (.int .i64 c) ∧ Below W.heap.size W V :=
  ⟨(A.below h).c0, (A.below h).c1, (A.below h).c2, h⟩
set_option maxHeartbeats 4000000 in
theorem measureOf_walk (s : ByteArray) (w : World) (hs : s.size ≤ 140737488351232) :
    Calls Try.prog 3 #[.string s] w fun e w' => e = .returned (.bool true) ∧ Below w.heap.size w w' := by
  have Hs : Hid (s.size < 4611686018427387904) := by show _ < _; omega
  have hl := M.lf_le s.data.toList
  have hc := M.cnt_le s.data.toList
  rw [U.len] at hc
  have hB := Below.refl w.heap.size w
  go_enter Try.func3, Try.ntmps3
  go_wp2_with fail
  refine (of_any _ _ Hs.out).mono ?_
  rintro e w1 ⟨rfl, hb1⟩
  replace hB := hB.trans (hb1.mono hB.size)
  have A := Lib.hid (M.Own.new w1 (s.size : Int) (U.cnt s.data.toList : Int) (M.lf s.data.toList : Int) 23)
  have hB2 := Lib.hid (hB.alloc hB.size (.cells #[.int .i64 (s.size : Int), .int .i64 (U.cnt s.data.toList : Int), .int .i64 (M.lf s.data.toList : Int)] 23))
  clear hb1 hB
  go_wp2_with fail
  generalize w1.alloc (.cells #[.int .i64 (s.size : Int), .int .i64 (U.cnt s.data.toList : Int), .int .i64 (M.lf s.data.toList : Int)] 23) = W at A hB2 ⊢
  go_region_held3 (fun V => V.cell? ⟨w1.heap.size, 0, none⟩ = some (.int .i64 (s.size : Int)) ∧ V.cell? ⟨w1.heap.size, 1, none⟩ = some (.int .i64 (U.cnt s.data.toList : Int)) ∧ V.cell? ⟨w1.heap.size, 2, none⟩ = some (.int .i64 (M.lf s.data.toList : Int)) ∧ Below W.heap.size W V)
    ((refine M.keep3 A.out ?_; first
      | (with_reducible exact (Below.refl _ _).drew)
      | (with_reducible assumption)
      | (go_split_ands; with_reducible assumption)))
    (first
      | (go_at_call 12; refine (refOf_any _ _ Hs.out).mono ?_; rintro e w2 ⟨rfl, hb2⟩; have hQ := M.trans_held (W := W) (by go_split_ands; assumption) hb2)
      | (go_at_call 13; refine (mknown_any _).mono ?_; rintro e w2 ⟨rfl, hb2⟩; have hQ := M.trans_held (W := W) (by go_split_ands; assumption) hb2))
  all_goals
    go_wp2
    go_ret
    exact ⟨rfl, hB2.out.trans (Below.mono (by assumption) hB2.out.size)⟩
theorem M.errOf_cases (o : Option Nat) : M.errOf o = 0 ∨ M.errOf o = 3 := by cases o <;> simp [M.errOf]
theorem M.told_form (s : ByteArray) (i : Int) (c : Nat → Nat) : ∃ a b : Int, M.told s i c = .returned (.tuple #[.int .i64 a, .int .i64 b]) := by
  unfold M.told; split <;> exact ⟨_, _, rfl⟩
set_option maxHeartbeats 1000000 in
theorem measureRunes_walk (s : ByteArray) (n i : Int) (w : World) (hs : s.size ≤ 140737488351232) :
    Calls Try.prog 5 #[.string s, .int .i64 n, .int .i64 i] w fun e w' => e = .returned (.bool true) ∧ Below w.heap.size w w' := by
  have Hs : Hid (s.size < 4611686018427387904) := by show _ < _; omega
  have h1 := rune_any s n w Hs.out
  have h2 := refRune_any s n w Hs.out
  have h3 := runesBefore_any s i w Hs.out
  have h4 := refRunesBefore_any s i w Hs.out
  unfold M.found at h1 h2
  generalize M.nth (U.bndN s.data.toList) n (s.size + 1) = o at h1 h2
  obtain ⟨a, b, he⟩ := M.told_form s i (U.cntTo s.data.toList)
  rw [he] at h3 h4
  clear he
  go_enter Try.func5, Try.ntmps5
  go_wp2_with (first
    | (go_at_call 18; refine h1.mono ?_; rintro e w' ⟨rfl, rfl⟩)
    | (go_at_call 19; refine h2.mono ?_; rintro e w' ⟨rfl, rfl⟩)
    | (go_at_call 20; refine h3.mono ?_; rintro e w' ⟨rfl, rfl⟩)
    | (go_at_call 21; refine h4.mono ?_; rintro e w' ⟨rfl, rfl⟩)
    | (go_at_call 13; refine (mknown_any _).mono ?_; rintro e w3 ⟨rfl, hb3⟩))
  go_ret
  exact ⟨rfl, ‹_›⟩
set_option maxHeartbeats 1000000 in
theorem measureLines_walk (s : ByteArray) (n i : Int) (w : World) (hs : s.size ≤ 140737488351232) :
    Calls Try.prog 6 #[.string s, .int .i64 n, .int .i64 i] w fun e w' => e = .returned (.bool true) ∧ Below w.heap.size w w' := by
  have Hs : Hid (s.size < 4611686018427387904) := by show _ < _; omega
  have h1 := line_any s n w Hs.out
  have h2 := refLine_any s n w Hs.out
  have h3 : Hid (∀ w, _) := fun w => lineOf_any s i w Hs.out
  have h4 : Hid (∀ w, _) := fun w => refLineOf_any s i w Hs.out
  unfold M.found at h1 h2
  generalize M.nth (M.lb s.data.toList) n (s.size + 1) = o at h1 h2
  obtain ⟨a, b, he⟩ := M.told_form s i (M.lfTo s.data.toList)
  rw [he] at h3 h4
  clear he
  have hB := Below.refl w.heap.size w
  go_enter Try.func6, Try.ntmps6
  go_wp2_with fail
  refine h1.mono ?_
  rintro e w' ⟨rfl, rfl⟩
  go_wp2_with fail
  refine h2.mono ?_
  rintro e w1 ⟨rfl, hb1⟩
  replace hB := hB.trans (hb1.mono hB.size)
  clear hb1 h1 h2
  go_wp2_with fail
  refine (h3.out _).mono ?_
  rintro e w' ⟨rfl, rfl⟩
  go_wp2_with fail
  refine (h4.out _).mono ?_
  rintro e w2 ⟨rfl, hb2⟩
  replace hB := hB.trans (hb2.mono hB.size)
  clear hb2 h3 h4
  go_wp2_with (go_at_call 13; refine (mknown_any _).mono ?_; rintro e w3 ⟨rfl, hb3⟩)
  go_ret
  have hb3 : Below w2.heap.size w2 w3 := by assumption
  exact ⟨rfl, hB.trans (hb3.mono hB.size)⟩
end Go.Proofs.Yticaanjjjojmgaa
