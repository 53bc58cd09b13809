/- The contracts of the reference's functions on measures (but Add). -/
import Derived.Test.YtdpaleldalplfaaMeasRefAdd
import Derived.Test.YtdpaleldalplfaaMeasUnit
import Derived.Test.YtdpaleldalplfaaMeasSub
namespace Go.Proofs.Ytdpaleldalplfaa
open Go.RowKit Go.Shelf

theorem M.lf_at (s : ByteArray) (k : Nat) (h : k < s.size) : ((s[k].toNat : Int) == 10) = M.isLf s.data.toList k := by
  rw [M.isLf, U.at_lt s k h, Bool.eq_iff_iff]
  simp only [beq_iff_eq]
  constructor
  · intro e; exact UInt8.toNat_inj.1 (by rw [show (10 : UInt8).toNat = 10 from rfl]; omega)
  · intro e; rw [e]; rfl
set_option maxHeartbeats 1000000 in
theorem refOf_any (s : ByteArray) (w : World) (hs : s.size < 4611686018427387904) :
    Calls Try.prog 47 #[.string s] w fun e w' => e = .returned (.agg #[.int .i64 (s.size : Int), .int .i64 (U.cnt s.data.toList : Int), .int .i64 (M.lf s.data.toList : Int)]) ∧ Below w.heap.size w w' := by
  have Hs := Lib.hid hs
  go_enter Try.func47, Try.ntmps47
  go_wp2_with (go_at_call 79; refine (refCount_any _ _ Hs.out).mono ?_; rintro e w' ⟨rfl, rfl⟩)
  go_loopw [4] (fun i wr => ∃ k : Nat, k ≤ s.size ∧ i = .int .i64 k ∧ Hid (M.Adds w (s.size : Int) (U.cnt s.data.toList : Int) (M.lfTo s.data.toList k : Int) wr)) (fun i _ => s.size - (intOf i).toNat)
  case atStart =>
    refine ⟨0, Nat.zero_le _, rfl, (M.Own.new w 0 0 0 _).alloc _, ?_, ((Below.refl _ _).alloc (Nat.le_refl _) _).alloc (by simp) _⟩
    have := M.Own.new (w.alloc (.cells #[.int .i64 0, .int .i64 0, .int .i64 0] 27)) (s.size : Int) (U.cnt s.data.toList : Int) 0 27
    rw [World.size_alloc] at this
    exact this
  case round =>
    obtain ⟨k, hk, rfl, hm⟩ := hrel
    have hle := M.lfTo_le s.data.toList k
    by_cases hlt : k < s.size
    · have hat := M.lf_at s k hlt
      cases hb : M.isLf s.data.toList k with
      | true =>
        rw [hb] at hat
        have a2 := hm.out.acc.c2
        have g2 := hm.out.acc.f2
        have Hn : Hid (M.lfTo s.data.toList (k + 1) = M.lfTo s.data.toList k + 1) := M.num_t hb
        have R := Lib.hid (hm.out.set2 ((M.lfTo s.data.toList k : Int) + 1))
        clear hb
        go_wp2
        go_roundw
        case rel => exact ⟨k + 1, by omega, by go_num, by rw [Hn.out]; exact R⟩
        case measure => simp [intOf]; omega
      | false =>
        rw [hb] at hat
        have Hn : Hid (M.lfTo s.data.toList (k + 1) = M.lfTo s.data.toList k) := M.num_f hb
        clear hb
        go_wp2
        go_roundw
        case rel => exact ⟨k + 1, by omega, by go_num, by rw [Hn.out]; exact hm⟩
        case measure => simp [intOf]; omega
    · obtain rfl : k = s.size := by omega
      have Hl : Hid (M.lfTo s.data.toList s.size = M.lf s.data.toList) := by show _ = _; rw [M.lf, U.len]
      rw [Hl.out] at hm
      clear hle
      have a0 := hm.out.acc.c0
      have a1 := hm.out.acc.c1
      have a2 := hm.out.acc.c2
      have r0 := hm.out.res.c0
      have r1 := hm.out.res.c1
      have r2 := hm.out.res.c2
      have s0 := hm.out.res.f0
      have s1 := hm.out.res.f1
      have s2 := hm.out.res.f2
      go_wp2
      have hP := hm.out.res.put (s.size : Int) (U.cnt s.data.toList : Int) (M.lf s.data.toList : Int)
      have p0 := hP.c0
      have p1 := hP.c1
      have p2 := hP.c2
      refine bodyPost_ret (v := .agg #[.int .i64 (s.size : Int), .int .i64 (U.cnt s.data.toList : Int), .int .i64 (M.lf s.data.toList : Int)]) ?_ rfl ⟨rfl, M.put3_below hm.out.below (Nat.le_refl _) _ _ _⟩
      simp [results, Try.results47, go_sem, p0, p1, p2]
theorem M.boxed2 (w : World) (a b c x y z u v r : Int) (t : TypeId) : Below w.heap.size w (((w.alloc (.cells #[.int .i64 a, .int .i64 b, .int .i64 c] t)).alloc (.cells #[.int .i64 x, .int .i64 y, .int .i64 z] t)).alloc (.cells #[.int .i64 u, .int .i64 v, .int .i64 r] t)) :=
  ((((Below.refl w.heap.size w).alloc (Nat.le_refl _) _).alloc (by simp) _).alloc (by simp; omega) _)
theorem M.nth_end (s : ByteArray) (n : Int) (h0 : 0 ≤ n) (h : n ≤ U.cnt s.data.toList) (hno : M.nth (U.bndN s.data.toList) n s.size = none) : n = U.cnt s.data.toList ∧ M.nth (U.bndN s.data.toList) n (s.size + 1) = some s.size := by
  have e : M.num (U.bndN s.data.toList) s.size = U.cnt s.data.toList := by rw [← U.len, M.num_bnd _ _ (Nat.le_refl _)]; rfl
  have hn : n = U.cnt s.data.toList := by
    rcases M.nth_none_imp hno with h1 | h1 <;> omega
  refine ⟨hn, M.nth_eq (by omega) ?_ (by rw [e, hn])⟩
  rw [← U.len]; exact U.bndN_len _
/-- The reference's line: what the search has found when it ends. -/
theorem M.line_end (s : ByteArray) (n : Int) (k : Nat) (hk : k ≤ s.size) (h : (M.lfTo s.data.toList k : Int) = n) (hl : M.lb s.data.toList k = true) : M.nth (M.lb s.data.toList) n (s.size + 1) = some k :=
  M.nth_eq (by omega) hl (by rw [← M.lfTo_of_lb hl]; exact h)
end Go.Proofs.Ytdpaleldalplfaa
