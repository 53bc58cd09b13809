/- The walk of the statement of stage 2 on concatenations. -/
import Derived.Test.YticaanjjjojmgaaMeasKnown
import Derived.Deep.DeepCutAuto
import Derived.Deep.CutBlock
import Derived.Outline
namespace Go.Proofs.Yticaanjjjojmgaa
open Go.RowKit Go.Shelf

theorem M.app_data (a b : ByteArray) : (a ++ b).data.toList = a.data.toList ++ b.data.toList := by simp
/-- What was found in the parts agrees with what was found in the whole, if the index is one. -/
def M.agree (n : Int) (o : Option Nat) (y f : Value) : Prop := ∃ Y F : Int, y = .int .i64 Y ∧ f = .int .i64 F ∧ (0 ≤ n → F = M.errOf o ∧ (M.errOf o = 0 → ((o.getD 0 : Nat) : Int) = Y))
theorem M.agree_neg {n : Int} (h : n < 0) (o : Option Nat) (Y F : Int) : M.agree n o (.int .i64 Y) (.int .i64 F) := ⟨Y, F, rfl, rfl, fun h' => by omega⟩
theorem M.agree_same (n : Int) (o : Option Nat) : M.agree n o (.int .i64 (o.getD 0 : Nat)) (.int .i64 (M.errOf o)) := ⟨_, _, rfl, rfl, fun _ => ⟨rfl, fun _ => rfl⟩⟩
theorem M.agree_map (n : Int) (o : Option Nat) (c : Nat) : M.agree n (o.map (c + ·)) (.int .i64 ((o.getD 0 : Nat) + (c : Int))) (.int .i64 (M.errOf o)) := by
  refine ⟨_, _, rfl, rfl, fun _ => ?_⟩
  cases o with
  | none => exact ⟨rfl, fun h => by simp [M.errOf] at h⟩
  | some k => exact ⟨rfl, fun _ => by simp; omega⟩
theorem M.no_fault {n : Int} {o : Option Nat} {Y F : Int} (h : 0 ≤ n → F = M.errOf o ∧ (M.errOf o = 0 → ((o.getD 0 : Nat) : Int) = Y)) :
    (decide (0 ≤ n) && (M.errOf o != F || M.errOf o == 0 && ((o.getD 0 : Nat) : Int) != Y)) = false := by
  by_cases hn : 0 ≤ n
  · obtain ⟨rfl, h2⟩ := h hn
    rcases (show M.errOf o = 0 ∨ M.errOf o = 3 by cases o <;> simp [M.errOf]) with e | e
    · simp [e, h2 e]
    · simp [e]
  · simp [hn]
set_option maxRecDepth 100000 in
set_option maxHeartbeats 2000000 in
theorem measureJoins_walk (a b : ByteArray) (n : Int) (w : World) (ha : a.size ≤ 140737488351232) (hb : b.size ≤ 140737488351232) (_hn0 : -9223372036854775808 ≤ n) (hn : n ≤ 9223372036854775807) :
    Calls Try.prog 10 #[.string a, .string b, .int .i64 n] w fun e w' => e = .returned (.bool true) ∧ Below w.heap.size w w' := by
  have Hb : Hid (b.size < 4611686018427387904) := by show _ < _; omega
  have Ha : Hid (a.size < 4611686018427387904) := by show _ < _; omega
  have Hab : Hid ((a ++ b).size < 4611686018427387904) := by show _ < _; rw [ByteArray.size_append]; omega
  have hl := M.lf_le a.data.toList
  have hc := M.cnt_le a.data.toList
  rw [U.len] at hc
  have hB := Below.refl w.heap.size w
  go_enter Try.func10, Try.ntmps10
  go_wp2_with fail
  refine (of_any _ _ Ha.out).mono ?_
  rintro e w1 ⟨rfl, hb1⟩
  replace hB := hB.trans (hb1.mono hB.size)
  have A := Lib.hid (M.Own.new w1 (a.size : Int) (U.cnt a.data.toList : Int) (M.lf a.data.toList : Int) 23)
  have hB2 := Lib.hid (hB.alloc hB.size (.cells #[.int .i64 (a.size : Int), .int .i64 (U.cnt a.data.toList : Int), .int .i64 (M.lf a.data.toList : Int)] 23))
  clear hb1 hB
  have Hx : Hid ((a ++ b).size = (a.data.toList ++ b.data.toList).length) := by show _ = _; simp
  obtain ⟨o1, ho1⟩ : ∃ o, Hid (M.nth (U.bndN (a.data.toList ++ b.data.toList)) n ((a ++ b).size + 1) = o) := ⟨_, rfl⟩
  obtain ⟨o2, ho2⟩ : ∃ o, Hid (M.nth (U.bndN a.data.toList) n (a.size + 1) = o) := ⟨_, rfl⟩
  obtain ⟨o3, ho3⟩ : ∃ o, Hid (M.nth (U.bndN b.data.toList) (n - (U.cnt a.data.toList : Int)) (b.size + 1) = o) := ⟨_, rfl⟩
  obtain ⟨o4, ho4⟩ : ∃ o, Hid (M.nth (M.lb (a.data.toList ++ b.data.toList)) n ((a ++ b).size + 1) = o) := ⟨_, rfl⟩
  obtain ⟨o5, ho5⟩ : ∃ o, Hid (M.nth (M.lb a.data.toList) n (a.size + 1) = o) := ⟨_, rfl⟩
  obtain ⟨o6, ho6⟩ : ∃ o, Hid (M.nth (M.lb b.data.toList) (n - (M.lf a.data.toList : Int)) (b.size + 1) = o) := ⟨_, rfl⟩
  have H1 : Hid (∀ W, Calls Try.prog 18 #[.string (a ++ b), .int .i64 n] W fun e w' => e = .returned (.tuple #[.int .i64 (o1.getD 0 : Nat), .int .i64 (M.errOf o1)]) ∧ W = w') := fun W => by
    have h := rune_any (a ++ b) n W Hab.out
    rwa [M.app_data, ho1.out] at h
  have H2 : Hid (∀ W, Calls Try.prog 18 #[.string a, .int .i64 n] W fun e w' => e = .returned (.tuple #[.int .i64 (o2.getD 0 : Nat), .int .i64 (M.errOf o2)]) ∧ W = w') := fun W => by
    have h := rune_any a n W Ha.out
    rwa [ho2.out] at h
  have H3 : Hid (∀ W, Calls Try.prog 18 #[.string b, .int .i64 (n - (U.cnt a.data.toList : Int))] W fun e w' => e = .returned (.tuple #[.int .i64 (o3.getD 0 : Nat), .int .i64 (M.errOf o3)]) ∧ W = w') := fun W => by
    have h := rune_any b (n - (U.cnt a.data.toList : Int)) W Hb.out
    rwa [ho3.out] at h
  have H4 : Hid (∀ W, Calls Try.prog 22 #[.string (a ++ b), .int .i64 n] W fun e w' => e = .returned (.tuple #[.int .i64 (o4.getD 0 : Nat), .int .i64 (M.errOf o4)]) ∧ W = w') := fun W => by
    have h := line_any (a ++ b) n W Hab.out
    rwa [M.app_data, ho4.out] at h
  have H5 : Hid (∀ W, Calls Try.prog 22 #[.string a, .int .i64 n] W fun e w' => e = .returned (.tuple #[.int .i64 (o5.getD 0 : Nat), .int .i64 (M.errOf o5)]) ∧ W = w') := fun W => by
    have h := line_any a n W Ha.out
    rwa [ho5.out] at h
  have H6 : Hid (∀ W, Calls Try.prog 22 #[.string b, .int .i64 (n - (M.lf a.data.toList : Int))] W fun e w' => e = .returned (.tuple #[.int .i64 (o6.getD 0 : Nat), .int .i64 (M.errOf o6)]) ∧ W = w') := fun W => by
    have h := line_any b (n - (M.lf a.data.toList : Int)) W Hb.out
    rwa [ho6.out] at h
  have E12 : Hid (0 ≤ n → n < U.cnt a.data.toList → o1 = o2) := fun h0 h1 => by
    rw [← ho1.out, ← ho2.out, Hx.out, ← U.len a]; exact (M.runeAt_app_l _ _ n h0 h1).1
  have E13 : Hid ((U.cnt a.data.toList : Int) ≤ n → o1 = o3.map (a.size + ·)) := fun h => by
    rw [← ho1.out, ← ho3.out, Hx.out, ← U.len a, ← U.len b]; exact M.runeAt_app_r _ _ n h
  have E45 : Hid (0 ≤ n → n ≤ M.lf a.data.toList → o4 = o5) := fun h0 h1 => by
    rw [← ho4.out, ← ho5.out, Hx.out, ← U.len a]; exact (M.lineAt_app_l _ _ n h0 h1).1
  have E46 : Hid ((M.lf a.data.toList : Int) < n → o4 = o6.map (a.size + ·)) := fun h => by
    rw [← ho4.out, ← ho6.out, Hx.out, ← U.len a, ← U.len b]; exact M.lineAt_app_r _ _ n h
  have B3 : o3.getD 0 ≤ b.size := by rw [← ho3.out]; exact M.nth_getD_le _ _ _
  have B6 : o6.getD 0 ≤ b.size := by rw [← ho6.out]; exact M.nth_getD_le _ _ _
  clear ho1 ho2 ho3 ho4 ho5 ho6 Hx Hab Ha Hb
  have a1 := A.out.c1
  have a2 := A.out.c2
  go_wp2_with fail
  generalize w1.alloc (.cells #[.int .i64 (a.size : Int), .int .i64 (U.cnt a.data.toList : Int), .int .i64 (M.lf a.data.toList : Int)] 23) = W at A hB2 a1 a2 ⊢
  refine (H1.out _).mono ?_
  rintro e w' ⟨rfl, rfl⟩
  go_wp2_with fail
  refine (H2.out _).mono ?_
  rintro e w' ⟨rfl, rfl⟩
  go_upto_if 31 with (fail)
  go_cut [10, 11] (fun y f wx => M.agree n o1 y f ∧ wx = W)
  case first =>
    by_cases hc1 : (U.cnt a.data.toList : Int) ≤ n
    · have R := Lib.hid (M.agree_map n o3 a.size)
      rw [← E13.out hc1] at R
      go_wp2_with (go_at_call 18; refine (H3.out _).mono ?_; rintro e w' ⟨rfl, rfl⟩)
      go_meet
      case rel => exact ⟨R.out, rfl⟩
    · go_wp2
      go_meet
      case rel =>
        refine ⟨?_, rfl⟩
        by_cases h0 : n < 0
        · exact M.agree_neg h0 _ _ _
        · rw [E12.out (by omega) (by omega)]; exact M.agree_same n o2
  case rest =>
    obtain ⟨⟨Y, F, rfl, rfl, hag⟩, rfl⟩ := hcut
    have Hag := Lib.hid hag
    clear hag
    go_upto_region 7 with (fail)
    go_cut [8, 9, 10, 11, 60] (fun _ _ _ _ t wx => t = .bool false ∧ wx = wc)
    case first =>
      go_wp2
      all_goals
        go_meet
        case rel =>
          first
            | exact ⟨rfl, rfl⟩
            | (obtain ⟨g1, g2⟩ := Hag.out (by assumption)
               exact absurd g1.symm (by assumption))
            | (obtain ⟨g1, g2⟩ := Hag.out (by assumption)
               have g3 := g2 (by omega)
               refine ⟨?_, rfl⟩
               rw [g3]
               simp)
    case rest =>
      obtain ⟨rfl, rfl⟩ := hcut
      go_wp2_with fail
      refine (H4.out _).mono ?_
      rintro e w' ⟨rfl, rfl⟩
      go_wp2_with fail
      refine (H5.out _).mono ?_
      rintro e w' ⟨rfl, rfl⟩
      go_upto_if 78 with (fail)
      go_cut [10, 11] (fun y f wx => M.agree n o4 y f ∧ wx = wc)
      case first =>
        by_cases hc1 : (M.lf a.data.toList : Int) < n
        · have R := Lib.hid (M.agree_map n o6 a.size)
          rw [← E46.out hc1] at R
          go_wp2_with (go_at_call 22; refine (H6.out _).mono ?_; rintro e w' ⟨rfl, rfl⟩)
          go_meet
          case rel => exact ⟨R.out, rfl⟩
        · go_wp2
          go_meet
          case rel =>
            refine ⟨?_, rfl⟩
            by_cases h0 : n < 0
            · exact M.agree_neg h0 _ _ _
            · rw [E45.out (by omega) (by omega)]; exact M.agree_same n o5
      case rest =>
        obtain ⟨⟨Y', F', rfl, rfl, hag⟩, rfl⟩ := hcut
        have Hag := Lib.hid hag
        clear hag
        go_upto_region 14 with (fail)
        go_cut [8, 9, 10, 11, 107] (fun _ _ _ _ t wx => t = .bool false ∧ wx = wc)
        case first =>
          go_wp2
          all_goals
            go_meet
            case rel =>
              first
                | exact ⟨rfl, rfl⟩
                | (obtain ⟨g1, g2⟩ := Hag.out (by assumption)
                   exact absurd g1.symm (by assumption))
                | (obtain ⟨g1, g2⟩ := Hag.out (by assumption)
                   have g3 := g2 (by omega)
                   refine ⟨?_, rfl⟩
                   rw [g3]
                   simp)
        case rest =>
          obtain ⟨rfl, rfl⟩ := hcut
          go_wp2_with fail
          refine (mknown_any _).mono ?_
          rintro e w3 ⟨rfl, hb3⟩
          go_wp2
          go_ret
          exact ⟨rfl, hB2.out.trans (hb3.mono hB2.out.size)⟩
end Go.Proofs.Yticaanjjjojmgaa
