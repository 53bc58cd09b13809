/- The contracts of the reference's functions on measures (but Add). -/
import Derived.Test.YticaanjjjojmgaaMeasRefAdd
import Derived.Test.YticaanjjjojmgaaMeasUnit
import Derived.Test.YticaanjjjojmgaaMeasSub
namespace Go.Proofs.Yticaanjjjojmgaa
open Go.RowKit Go.Shelf

theorem M.lf_at (s : ByteArray) (k : Nat) (h : k < s.size) : ((s[k].toNat : Int) == 10) = M.isLf s.data.toList k := by
  rw [M.isLf, U.at_lt s k h, Bool.eq_iff_iff]
  simp only [beq_iff_eq]
  constructor
  · intro e; exact UInt8.toNat_inj.1 (by rw [show (10 : UInt8).toNat = 10 from rfl]; omega)
  · intro e; rw [e]; rfl
set_option maxHeartbeats 1000000 in
theorem refOf_any (s : ByteArray) (w : World) (hs : s.size < 4611686018427387904) :
    Calls Try.prog 12 #[.string s] w fun e w' => e = .returned (.agg #[.int .i64 (s.size : Int), .int .i64 (U.cnt s.data.toList : Int), .int .i64 (M.lf s.data.toList : Int)]) ∧ Below w.heap.size w w' := by
  have Hs := Lib.hid hs
  go_enter Try.func12, Try.ntmps12
  go_wp2_with (go_at_call 31; refine (refCount_any _ _ Hs.out).mono ?_; rintro e w' ⟨rfl, rfl⟩)
  go_loopw [4] (fun i wr => ∃ k : Nat, k ≤ s.size ∧ i = .int .i64 k ∧ Hid (M.Adds w (s.size : Int) (U.cnt s.data.toList : Int) (M.lfTo s.data.toList k : Int) wr)) (fun i _ => s.size - (intOf i).toNat)
  case atStart =>
    refine ⟨0, Nat.zero_le _, rfl, (M.Own.new w 0 0 0 _).alloc _, ?_, ((Below.refl _ _).alloc (Nat.le_refl _) _).alloc (by simp) _⟩
    have := M.Own.new (w.alloc (.cells #[.int .i64 0, .int .i64 0, .int .i64 0] 23)) (s.size : Int) (U.cnt s.data.toList : Int) 0 23
    rw [World.size_alloc] at this
    exact this
  case round =>
    obtain ⟨k, hk, rfl, hm⟩ := hrel
    have hle := M.lfTo_le s.data.toList k
    by_cases hlt : k < s.size
    · have hat := M.lf_at s k hlt
      cases hb : M.isLf s.data.toList k with
      | true =>
        rw [hb] at hat
        have a2 := hm.out.acc.c2
        have g2 := hm.out.acc.f2
        have Hn : Hid (M.lfTo s.data.toList (k + 1) = M.lfTo s.data.toList k + 1) := M.num_t hb
        have R := Lib.hid (hm.out.set2 ((M.lfTo s.data.toList k : Int) + 1))
        clear hb
        go_wp2
        go_roundw
        case rel => exact ⟨k + 1, by omega, by go_num, by rw [Hn.out]; exact R⟩
        case measure => simp [intOf]; omega
      | false =>
        rw [hb] at hat
        have Hn : Hid (M.lfTo s.data.toList (k + 1) = M.lfTo s.data.toList k) := M.num_f hb
        clear hb
        go_wp2
        go_roundw
        case rel => exact ⟨k + 1, by omega, by go_num, by rw [Hn.out]; exact hm⟩
        case measure => simp [intOf]; omega
    · obtain rfl : k = s.size := by omega
      have Hl : Hid (M.lfTo s.data.toList s.size = M.lf s.data.toList) := by show _ = _; rw [M.lf, U.len]
      rw [Hl.out] at hm
      clear hle
      have a0 := hm.out.acc.c0
      have a1 := hm.out.acc.c1
      have a2 := hm.out.acc.c2
      have r0 := hm.out.res.c0
      have r1 := hm.out.res.c1
      have r2 := hm.out.res.c2
      have s0 := hm.out.res.f0
      have s1 := hm.out.res.f1
      have s2 := hm.out.res.f2
      go_wp2
      have hP := hm.out.res.put (s.size : Int) (U.cnt s.data.toList : Int) (M.lf s.data.toList : Int)
      have p0 := hP.c0
      have p1 := hP.c1
      have p2 := hP.c2
      refine bodyPost_ret (v := .agg #[.int .i64 (s.size : Int), .int .i64 (U.cnt s.data.toList : Int), .int .i64 (M.lf s.data.toList : Int)]) ?_ rfl ⟨rfl, M.put3_below hm.out.below (Nat.le_refl _) _ _ _⟩
      simp [results, Try.results12, go_sem, p0, p1, p2]
theorem M.boxed2 (w : World) (a b c x y z u v r : Int) (t : TypeId) : Below w.heap.size w (((w.alloc (.cells #[.int .i64 a, .int .i64 b, .int .i64 c] t)).alloc (.cells #[.int .i64 x, .int .i64 y, .int .i64 z] t)).alloc (.cells #[.int .i64 u, .int .i64 v, .int .i64 r] t)) :=
  ((((Below.refl w.heap.size w).alloc (Nat.le_refl _) _).alloc (by simp) _).alloc (by simp; omega) _)
set_option maxHeartbeats 1000000 in
theorem refSub_any (a b c x y z : Int) (w : World) :
    Calls Try.prog 17 #[.agg #[.int .i64 a, .int .i64 b, .int .i64 c], .agg #[.int .i64 x, .int .i64 y, .int .i64 z]] w fun e w' =>
      e = M.subEnd a b c x y z ∧ Below w.heap.size w w' := by
  by_cases h : x ≤ a ∧ y ≤ b ∧ z ≤ c
  · have He := Lib.hid (show M.subEnd a b c x y z = _ by rw [M.subEnd, if_pos h])
    obtain ⟨h0, h1, h2⟩ := h
    go_enter Try.func17, Try.ntmps17
    go_wp2
    refine bodyPost_ret (v := .tuple #[.agg #[.int .i64 (wrap64 (a - x)), .int .i64 (wrap64 (b - y)), .int .i64 (wrap64 (c - z))], .int .i64 0]) ?_ rfl ⟨He.out.symm, M.boxed2 ..⟩
    simp [results, Try.results17, go_sem]
  · have He := Lib.hid (show M.subEnd a b c x y z = _ by rw [M.subEnd, if_neg h])
    have hb : (decide (a < x) || decide (b < y) || decide (c < z)) = true := by
      simp only [Bool.or_eq_true, decide_eq_true_eq]; omega
    clear h
    go_enter Try.func17, Try.ntmps17
    go_wp2
    all_goals first
      | (refine bodyPost_ret (v := .tuple #[.agg #[.int .i64 0, .int .i64 0, .int .i64 0], .int .i64 3]) ?_ rfl ⟨He.out.symm, M.boxed2 ..⟩
         simp [results, Try.results17, go_sem]
         done)
      | (exfalso; simp only [Bool.or_eq_true, decide_eq_true_eq] at hb; omega)
theorem M.nth_end (s : ByteArray) (n : Int) (h0 : 0 ≤ n) (h : n ≤ U.cnt s.data.toList) (hno : M.nth (U.bndN s.data.toList) n s.size = none) : n = U.cnt s.data.toList ∧ M.nth (U.bndN s.data.toList) n (s.size + 1) = some s.size := by
  have e : M.num (U.bndN s.data.toList) s.size = U.cnt s.data.toList := by rw [← U.len, M.num_bnd _ _ (Nat.le_refl _)]; rfl
  have hn : n = U.cnt s.data.toList := by
    rcases M.nth_none_imp hno with h1 | h1 <;> omega
  refine ⟨hn, M.nth_eq (by omega) ?_ (by rw [e, hn])⟩
  rw [← U.len]; exact U.bndN_len _
set_option maxHeartbeats 1000000 in
theorem refRune_any (s : ByteArray) (n : Int) (w : World) (hs : s.size < 4611686018427387904) :
    Calls Try.prog 19 #[.string s, .int .i64 n] w fun e w' => e = M.found (M.nth (U.bndN s.data.toList) n (s.size + 1)) ∧ w = w' := by
  have Hs := Lib.hid hs
  have hcl := M.cnt_le s.data.toList
  rw [U.len] at hcl
  by_cases hn : n < 0 ∨ (U.cnt s.data.toList : Int) < n
  · have HR := Lib.hid (M.nth_none (U.bndN s.data.toList) n (s.size + 1) (by rw [← U.len, M.num_bnd_all]; omega))
    have he : Hid (M.found (M.nth (U.bndN s.data.toList) n (s.size + 1)) = .returned (.tuple #[.int .i64 0, .int .i64 3])) := by show _ = _; rw [HR.out]; rfl
    rcases hn with hn | hn
    · go_enter Try.func19, Try.ntmps19
      go_wp2_with (go_at_call 31; refine (refCount_any _ _ Hs.out).mono ?_; rintro e w' ⟨rfl, rfl⟩)
      go_ret2
      exact ⟨he.out.symm, rfl⟩
    · by_cases h0 : n < 0
      · omega
      go_enter Try.func19, Try.ntmps19
      go_wp2_with (go_at_call 31; refine (refCount_any _ _ Hs.out).mono ?_; rintro e w' ⟨rfl, rfl⟩)
      go_ret2
      exact ⟨he.out.symm, rfl⟩
  · have h0 : 0 ≤ n := by omega
    have h1 : n ≤ U.cnt s.data.toList := by omega
    clear hn
    have d1 : decide ((U.cnt s.data.toList : Int) < n) = false := by simp; omega
    go_enter Try.func19, Try.ntmps19
    go_wp2_with (go_at_call 31; refine (refCount_any _ _ Hs.out).mono ?_; rintro e w' ⟨rfl, rfl⟩)
    go_loop [1, 6] (fun m i => ∃ k : Nat, k ≤ s.size ∧ i = .int .i64 k ∧ m = .int .i64 (n - U.cntTo s.data.toList k) ∧ (U.cntTo s.data.toList k : Int) ≤ n ∧ Hid (M.nth (U.bndN s.data.toList) n k = none)) (fun _ i => s.size - (intOf i).toNat)
    case atStart => exact ⟨0, Nat.zero_le _, rfl, by rw [show n - (U.cntTo s.data.toList 0 : Int) = n from Int.sub_zero n], h0, rfl⟩
    case round =>
      obtain ⟨k, hk, rfl, rfl, hkn, hno⟩ := hrel
      have hle := U.cntTo_le s.data.toList k
      by_cases hlt : k < s.size
      · have hst : Hid (U.cntTo s.data.toList (k + 1) = U.cntTo s.data.toList k + if U.cont s[k] then 0 else 1) := by
          show _ = _; rw [U.cntTo_succ, U.at_lt s k hlt]
        have hbn : Hid (U.bndN s.data.toList k = !U.cont s[k]) := by show _ = _; rw [U.bndN_lt _ (by rw [U.len]; exact hlt), U.at_lt s k hlt]
        have hnum : Hid (M.num (U.bndN s.data.toList) k = U.cntTo s.data.toList k) := M.num_bnd _ _ (by rw [U.len]; omega)
        cases hb : U.cont s[k] with
        | true =>
          have h1' : Hid (U.cntTo s.data.toList (k + 1) = U.cntTo s.data.toList k) := by show _ = _; rw [hst.out, hb]; rfl
          have h2' : Hid (M.nth (U.bndN s.data.toList) n (k + 1) = none) := M.nth_step hno.out (.inl (by rw [hbn.out, hb]; rfl))
          go_wp2_with (go_at_call 38; refine (refCont_any _ _).mono ?_; rintro e w' ⟨rfl, rfl⟩)
          go_round
          case rel => exact ⟨k + 1, by omega, by go_num, by rw [h1'.out], by rw [h1'.out]; exact hkn, h2'⟩
          case measure => simp [intOf]; omega
        | false =>
          have h1' : Hid (U.cntTo s.data.toList (k + 1) = U.cntTo s.data.toList k + 1) := by show _ = _; rw [hst.out, hb]; rfl
          have hbt : Hid (U.bndN s.data.toList k = true) := by show _ = _; rw [hbn.out, hb]; rfl
          by_cases he : (U.cntTo s.data.toList k : Int) = n
          · have hq : (n - (U.cntTo s.data.toList k : Int) == 0) = true := by simp; omega
            have HR : Hid (M.nth (U.bndN s.data.toList) n (s.size + 1) = some k) := M.nth_eq (by omega) hbt.out (by rw [hnum.out]; exact he)
            clear he
            go_wp2_with (go_at_call 38; refine (refCont_any _ _).mono ?_; rintro e w' ⟨rfl, rfl⟩)
            go_ret2
            exact ⟨by rw [HR.out]; rfl, rfl⟩
          · have hq : (n - (U.cntTo s.data.toList k : Int) == 0) = false := by simp; omega
            have h2' : Hid (M.nth (U.bndN s.data.toList) n (k + 1) = none) := M.nth_step hno.out (.inr (by rw [hnum.out]; exact he))
            go_wp2_with (go_at_call 38; refine (refCont_any _ _).mono ?_; rintro e w' ⟨rfl, rfl⟩)
            go_round
            case rel => exact ⟨k + 1, by omega, by go_num, by rw [h1'.out]; go_num, by rw [h1'.out]; omega, h2'⟩
            case measure => simp [intOf]; omega
      · obtain rfl : k = s.size := by omega
        have HR := Lib.hid (M.nth_end s n h0 h1 hno.out).2
        go_wp2
        go_ret2
        exact ⟨by rw [HR.out]; rfl, rfl⟩
theorem refRunesBefore_any (s : ByteArray) (i : Int) (w : World) (hs : s.size < 4611686018427387904) :
    Calls Try.prog 21 #[.string s, .int .i64 i] w fun e w' => e = M.told s i (U.cntTo s.data.toList) ∧ w = w' := by
  by_cases hi : 0 ≤ i ∧ i ≤ s.size
  · obtain ⟨k, rfl⟩ := Int.eq_ofNat_of_zero_le hi.1
    have hk : k ≤ s.size := by omega
    have Hc := refCount_any (s.extract 0 k) w (by rw [M.size_take s k hk]; omega)
    rw [M.data_take, M.cnt_take _ _ (by rw [U.len]; exact hk)] at Hc
    rw [M.told_in hk]
    clear hi
    go_enter Try.func21, Try.ntmps21
    go_wp2_with (go_at_call 31; refine Hc.mono ?_; rintro e w' ⟨rfl, rfl⟩)
    go_ret2
    exact ⟨rfl, rfl⟩
  · rw [M.told_out hi]
    rcases (show i < 0 ∨ (0 ≤ i ∧ (s.size : Int) < i) by omega) with h | ⟨h, h'⟩
    all_goals
      clear hi
      go_enter Try.func21, Try.ntmps21
      go_wp2
      go_ret2
      exact ⟨rfl, rfl⟩
theorem refLineOf_any (s : ByteArray) (i : Int) (w : World) (hs : s.size < 4611686018427387904) :
    Calls Try.prog 25 #[.string s, .int .i64 i] w fun e w' => e = M.told s i (M.lfTo s.data.toList) ∧ Below w.heap.size w w' := by
  by_cases hi : 0 ≤ i ∧ i ≤ s.size
  · obtain ⟨k, rfl⟩ := Int.eq_ofNat_of_zero_le hi.1
    have hk : k ≤ s.size := by omega
    have Hc := refOf_any (s.extract 0 k) w (by rw [M.size_take s k hk]; omega)
    rw [M.data_take, M.lf_take _ _ (by rw [U.len]; exact hk)] at Hc
    rw [M.told_in hk]
    clear hi
    go_enter Try.func25, Try.ntmps25
    go_wp2_with fail
    refine Hc.mono ?_
    rintro e w' ⟨rfl, hb⟩
    go_wp2
    go_ret2
    exact ⟨rfl, hb⟩
  · rw [M.told_out hi]
    have hB := Below.refl w.heap.size w
    rcases (show i < 0 ∨ (0 ≤ i ∧ (s.size : Int) < i) by omega) with h | ⟨h, h'⟩
    all_goals
      clear hi
      go_enter Try.func25, Try.ntmps25
      go_wp2
      go_ret2
      exact ⟨rfl, hB⟩
/-- The reference's line: what the search has found when it ends. -/
theorem M.line_end (s : ByteArray) (n : Int) (k : Nat) (hk : k ≤ s.size) (h : (M.lfTo s.data.toList k : Int) = n) (hl : M.lb s.data.toList k = true) : M.nth (M.lb s.data.toList) n (s.size + 1) = some k :=
  M.nth_eq (by omega) hl (by rw [← M.lfTo_of_lb hl]; exact h)
set_option maxHeartbeats 1000000 in
theorem refLine_any (s : ByteArray) (n : Int) (w : World) (hs : s.size < 4611686018427387904) :
    Calls Try.prog 23 #[.string s, .int .i64 n] w fun e w' => e = M.found (M.nth (M.lb s.data.toList) n (s.size + 1)) ∧ Below w.heap.size w w' := by
  have Hs := Lib.hid hs
  have hll := M.lf_le s.data.toList
  have hcl := M.cnt_le s.data.toList
  rw [U.len] at hcl
  have hB := Below.refl w.heap.size w
  by_cases hn : n < 0 ∨ (M.lf s.data.toList : Int) < n
  · have HR := Lib.hid (M.nth_none (M.lb s.data.toList) n (s.size + 1) (by rw [← U.len, M.num_lb_all]; omega))
    have he : Hid (M.found (M.nth (M.lb s.data.toList) n (s.size + 1)) = .returned (.tuple #[.int .i64 0, .int .i64 3])) := by show _ = _; rw [HR.out]; rfl
    rcases hn with hn | hn
    · go_enter Try.func23, Try.ntmps23
      go_wp2
      go_ret2
      exact ⟨he.out.symm, hB⟩
    · by_cases h0 : n < 0
      · omega
      go_enter Try.func23, Try.ntmps23
      go_wp2_with fail
      refine (refOf_any _ _ Hs.out).mono ?_
      rintro e w' ⟨rfl, hb⟩
      go_wp2
      go_ret2
      exact ⟨he.out.symm, hb⟩
  · have h0 : 0 ≤ n := by omega
    have h1 : n ≤ M.lf s.data.toList := by omega
    clear hn
    have d1 : decide ((M.lf s.data.toList : Int) < n) = false := by simp; omega
    have d0 : decide (n < 0) = false := by simp; omega
    go_enter Try.func23, Try.ntmps23
    go_wp2_with fail
    refine (refOf_any _ _ Hs.out).mono ?_
    rintro e w' ⟨rfl, hb⟩
    go_wp2
    go_loop [1, 6] (fun m i => ∃ k : Nat, k ≤ s.size ∧ i = .int .i64 k ∧ m = .int .i64 (n - M.lfTo s.data.toList k) ∧ (M.lfTo s.data.toList k : Int) ≤ n ∧ Hid ((M.lfTo s.data.toList k : Int) = n → M.lb s.data.toList k = true)) (fun _ i => s.size - (intOf i).toNat)
    case atStart => exact ⟨0, Nat.zero_le _, rfl, by rw [show n - (M.lfTo s.data.toList 0 : Int) = n from Int.sub_zero n], h0, fun _ => rfl⟩
    case round =>
      obtain ⟨k, hk, rfl, rfl, hkn, hlb⟩ := hrel
      have hle := M.lfTo_le s.data.toList k
      by_cases he : (M.lfTo s.data.toList k : Int) = n
      · have HR := Lib.hid (M.line_end s n k hk he (hlb.out he))
        go_wp2
        go_ret2
        exact ⟨by rw [HR.out]; rfl, hb⟩
      · have hlt : k < s.size := by
          rcases Nat.lt_or_ge k s.size with h | h
          · exact h
          · exfalso
            have : k = s.data.toList.length := by rw [U.len]; omega
            have h2 : M.lfTo s.data.toList k = M.lf s.data.toList := by rw [this]; rfl
            omega
        have hat := M.lf_at s k hlt
        have hpos : 0 < n - (M.lfTo s.data.toList k : Int) := by omega
        cases hb' : M.isLf s.data.toList k with
        | true =>
          rw [hb'] at hat
          have Hn : Hid (M.lfTo s.data.toList (k + 1) = M.lfTo s.data.toList k + 1) := M.num_t hb'
          have Hl : Hid (M.lb s.data.toList (k + 1) = true) := by show _ = _; rw [M.lb_succ, hb']
          clear hb' he
          go_wp2
          go_round
          case rel => exact ⟨k + 1, by omega, by go_num, by rw [Hn.out]; go_num, by rw [Hn.out]; omega, fun _ => Hl.out⟩
          case measure => simp [intOf]; omega
        | false =>
          rw [hb'] at hat
          have Hn : Hid (M.lfTo s.data.toList (k + 1) = M.lfTo s.data.toList k) := M.num_f hb'
          have He := Lib.hid he
          clear hb' he
          go_wp2
          go_round
          case rel => exact ⟨k + 1, by omega, by go_num, by rw [Hn.out], by rw [Hn.out]; omega, fun h => absurd (by rw [← Hn.out]; exact h) He.out⟩
          case measure => simp [intOf]; omega
end Go.Proofs.Yticaanjjjojmgaa
