/- Texts joined: MeasRefAdd MeasEq MeasSub MeasRef -/
import Derived.Test.YtniccjbcchdkoaaPackMeas
import Derived.StillTailTactics
import Derived.Outline
import Derived.Test.YtniccjbcchdkoaaProg
import Derived.WalkKit
import Derived.Laws.StructEq
import Derived.Deep.RegionHeld3
import Derived.Deep.DeepCutAuto
import Derived.Deep.CutBlock
/- MeasRefAdd -/
namespace Go.Proofs.Ytniccjbcchdkoaa
open Go.RowKit Go.Shelf

theorem M.Own.set0 {W : World} {b x y z} (h : M.Own W b x y z) (v : Int) : M.Own (W.setCell ⟨b, 0, none⟩ (.int .i64 v)) b v y z := by
  refine ⟨by simpa using h.lt, ?_, ?_, ?_, by simp only [World.frozen?_setCell]; exact h.f0, by simp only [World.frozen?_setCell]; exact h.f1, by simp only [World.frozen?_setCell]; exact h.f2⟩
  · rw [World.cell?_setCell_same' _ _ _ (by rw [h.c0]; rfl)]
  · rw [World.cell?_setCell_other _ _ _ _ (by simp)]; exact h.c1
  · rw [World.cell?_setCell_other _ _ _ _ (by simp)]; exact h.c2
theorem M.Own.set1 {W : World} {b x y z} (h : M.Own W b x y z) (v : Int) : M.Own (W.setCell ⟨b, 1, none⟩ (.int .i64 v)) b x v z := by
  refine ⟨by simpa using h.lt, ?_, ?_, ?_, by simp only [World.frozen?_setCell]; exact h.f0, by simp only [World.frozen?_setCell]; exact h.f1, by simp only [World.frozen?_setCell]; exact h.f2⟩
  · rw [World.cell?_setCell_other _ _ _ _ (by simp)]; exact h.c0
  · rw [World.cell?_setCell_same' _ _ _ (by rw [h.c1]; rfl)]
  · rw [World.cell?_setCell_other _ _ _ _ (by simp)]; exact h.c2
theorem M.Own.set2 {W : World} {b x y z} (h : M.Own W b x y z) (v : Int) : M.Own (W.setCell ⟨b, 2, none⟩ (.int .i64 v)) b x y v := by
  refine ⟨by simpa using h.lt, ?_, ?_, ?_, by simp only [World.frozen?_setCell]; exact h.f0, by simp only [World.frozen?_setCell]; exact h.f1, by simp only [World.frozen?_setCell]; exact h.f2⟩
  · rw [World.cell?_setCell_other _ _ _ _ (by simp)]; exact h.c0
  · rw [World.cell?_setCell_other _ _ _ _ (by simp)]; exact h.c1
  · rw [World.cell?_setCell_same' _ _ _ (by rw [h.c2]; rfl)]
theorem M.Own.far {W : World} {b x y z} (h : M.Own W b x y z) (c o : Nat) (hc : c ≠ b) (v : Value) : M.Own (W.setCell ⟨c, o, none⟩ v) b x y z :=
  ⟨by simpa using h.lt, by rw [World.cell?_setCell_other _ _ _ _ (by simp)]; exact h.c0, by rw [World.cell?_setCell_other _ _ _ _ (by simp)]; exact h.c1, by rw [World.cell?_setCell_other _ _ _ _ (by simp)]; exact h.c2,
    by rw [World.frozen?_setCell]; exact h.f0, by rw [World.frozen?_setCell]; exact h.f1, by rw [World.frozen?_setCell]; exact h.f2⟩
/-- The state of the reference's sum: the sum in its block, the result's block, what lies below. -/
structure M.Adds (w : World) (x y z : Int) (W : World) : Prop where
  res : M.Own W w.heap.size 0 0 0
  acc : M.Own W (w.heap.size + 1) x y z
  below : Below w.heap.size w W
theorem M.Adds.drew {w x y z W} (h : M.Adds w x y z W) : M.Adds w x y z W.drew := ⟨h.res.drew, h.acc.drew, h.below.drew⟩
theorem M.Adds.set0 {w x y z W} (h : M.Adds w x y z W) (v : Int) : M.Adds w v y z (W.setCell ⟨w.heap.size + 1, 0, none⟩ (.int .i64 v)) := ⟨h.res.far _ _ (by omega) _, h.acc.set0 v, h.below.setCell (p := ⟨w.heap.size + 1, 0, none⟩) (by simp) _⟩
theorem M.Adds.set1 {w x y z W} (h : M.Adds w x y z W) (v : Int) : M.Adds w x v z (W.setCell ⟨w.heap.size + 1, 1, none⟩ (.int .i64 v)) := ⟨h.res.far _ _ (by omega) _, h.acc.set1 v, h.below.setCell (p := ⟨w.heap.size + 1, 1, none⟩) (by simp) _⟩
theorem M.Adds.set2 {w x y z W} (h : M.Adds w x y z W) (v : Int) : M.Adds w x y v (W.setCell ⟨w.heap.size + 1, 2, none⟩ (.int .i64 v)) := ⟨h.res.far _ _ (by omega) _, h.acc.set2 v, h.below.setCell (p := ⟨w.heap.size + 1, 2, none⟩) (by simp) _⟩

end Go.Proofs.Ytniccjbcchdkoaa
/- MeasEq -/
namespace Go.Proofs.Ytniccjbcchdkoaa
open Go.RowKit
@[go_sem] theorem U.eqCounts (a b c x y z : Int) (w : World) : (Op.equalIn 10000 160 (.agg #[.int .i64 a, .int .i64 b, .int .i64 c]) (.agg #[.int .i64 x, .int .i64 y, .int .i64 z])).run Try.prog w = .ok (a == x && b == y && c == z) w := by
  have u3 := Try.underlying3
  have a3 := Try.isAgg3
  have z3 := Try.sizeOf3
  rw [show (10000 : Nat) = 9999 + 1 from rfl, Op.equalIn]
  simp only [Sem.run_bind, run_underlying Try.underlying160, Result.andThen_ok]
  simp only [Std.Legacy.Range.forIn_eq_forIn_range', Std.Legacy.Range.size, Nat.sub_zero, Nat.add_sub_cancel, Nat.div_one, List.range'_succ, List.range'_zero, List.forIn_cons, List.forIn_nil]
  go_simp
  by_cases h1 : a = x <;> by_cases h2 : b = y <;> by_cases h3 : c = z <;> simp [h1, h2, h3]
@[go_sem] theorem U.eqMeasure (a b c x y z : Int) (w : World) : (Op.equalIn 10000 48 (.agg #[.int .i64 a, .int .i64 b, .int .i64 c]) (.agg #[.int .i64 x, .int .i64 y, .int .i64 z])).run Try.prog w = .ok (a == x && b == y && c == z) w := by
  have u3 := Try.underlying3
  have a3 := Try.isAgg3
  have z3 := Try.sizeOf3
  have hS : Try.prog.underlying 48 = some (.struct (Try.prog.fieldsOf 48)) := by kernel_rfl
  rw [show (10000 : Nat) = 9999 + 1 from rfl, run_equalIn_agg w 9999 48 _ _ hS (by kernel_rfl)]
  simp only [Program.fieldsOf, Try.underlying48]
  go_simp
  by_cases h1 : a = x <;> by_cases h2 : b = y <;> by_cases h3 : c = z <;> simp [h1, h2, h3]
@[go_sem] theorem M.field2 (a b c : Int) (w : World) : (Instr.field 48 (.agg #[.int .i64 a, .int .i64 b, .int .i64 c]) 2).run Try.prog w = .ok (.int .i64 c) w := by kernel_rfl
@[go_sem] theorem M.field1 (a b c : Int) (w : World) : (Instr.field 48 (.agg #[.int .i64 a, .int .i64 b, .int .i64 c]) 1).run Try.prog w = .ok (.int .i64 b) w := by kernel_rfl
end Go.Proofs.Ytniccjbcchdkoaa
/- MeasSub -/
namespace Go.Proofs.Ytniccjbcchdkoaa
open Go.RowKit Go.Shelf
/-- Both arguments' counts lie in blocks of their own, behind what lay before. -/
def M.Two (w : World) (a b c x y z : Int) (p q : Value) (W : World) : Prop :=
  ∃ P Q : Nat, p = .pointer (some ⟨P, 0, none⟩) ∧ q = .pointer (some ⟨Q, 0, none⟩) ∧ w.heap.size + 3 ≤ P ∧ w.heap.size + 3 ≤ Q ∧ P ≠ Q ∧ M.Own W P a b c ∧ M.Own W Q x y z ∧ M.Own W (w.heap.size + 2) 0 0 0 ∧ Below w.heap.size w W
def M.Mark (V V' : World) : Prop := Below V.heap.size V V'
theorem M.Own.mark {W V : World} {b : Nat} {x y z : Int} (h : M.Own W b x y z) (m : M.Mark W V) : M.Own V b x y z := h.below m
theorem M.Own.new' (W : World) (b : Nat) (x y z : Int) (t : TypeId) (e : b = W.heap.size) : M.Own (W.alloc (.cells #[.int .i64 x, .int .i64 y, .int .i64 z] t)) b x y z := by subst e; exact M.Own.new W x y z t
/-- What Sub answers. -/
def M.subEnd (a b c x y z : Int) : Ending :=
  if x ≤ a ∧ y ≤ b ∧ z ≤ c then .returned (.tuple #[.agg #[.int .i64 (wrap64 (a - x)), .int .i64 (wrap64 (b - y)), .int .i64 (wrap64 (c - z))], .int .i64 0]) else .returned (.tuple #[.agg #[.int .i64 0, .int .i64 0, .int .i64 0], .int .i64 3])
theorem M.trans_held {W V V' : World} (h : Below W.heap.size W V) (hb : Below V.heap.size V V') : Below W.heap.size W V' := h.trans (hb.mono h.size)
theorem M.sub_keep {W V : World} {p q : Nat} {a b c x y z : Int} (A : M.Own W p a b c) (B : M.Own W q x y z) (h : Below W.heap.size W V) :
    V.cell? ⟨p, 0, none⟩ = some (.int .i64 a) ∧ V.cell? ⟨p, 1, none⟩ = some (.int .i64 b) ∧ V.cell? ⟨p, 2, none⟩ = some (.int .i64 c) ∧ V.cell? ⟨q, 0, none⟩ = some (.int .i64 x) ∧ V.cell? ⟨q, 1, none⟩ = some (.int .i64 y) ∧ V.cell? ⟨q, 2, none⟩ = some (.int .i64 z) ∧ Below W.heap.size W V :=
  ⟨(A.below h).c0, (A.below h).c1, (A.below h).c2, (B.below h).c0, (B.below h).c1, (B.below h).c2, h⟩
end Go.Proofs.Ytniccjbcchdkoaa
/- MeasRef -/
namespace Go.Proofs.Ytniccjbcchdkoaa
open Go.RowKit Go.Shelf

theorem M.lf_at (s : ByteArray) (k : Nat) (h : k < s.size) : ((s[k].toNat : Int) == 10) = M.isLf s.data.toList k := by
  rw [M.isLf, U.at_lt s k h, Bool.eq_iff_iff]
  simp only [beq_iff_eq]
  constructor
  · intro e; exact UInt8.toNat_inj.1 (by rw [show (10 : UInt8).toNat = 10 from rfl]; omega)
  · intro e; rw [e]; rfl
set_option maxHeartbeats 1000000 in
theorem refOf_any (s : ByteArray) (w : World) (hs : s.size < 4611686018427387904) :
    Calls Try.prog 98 #[.string s] w fun e w' => e = .returned (.agg #[.int .i64 (s.size : Int), .int .i64 (U.cnt s.data.toList : Int), .int .i64 (M.lf s.data.toList : Int)]) ∧ Below w.heap.size w w' := by
  have Hs := Lib.hid hs
  go_enter Try.func98, Try.ntmps98
  go_wp2_with (go_at_call 122; refine (refCount_any _ _ Hs.out).mono ?_; rintro e w' ⟨rfl, rfl⟩)
  go_loopw [4] (fun i wr => ∃ k : Nat, k ≤ s.size ∧ i = .int .i64 k ∧ Hid (M.Adds w (s.size : Int) (U.cnt s.data.toList : Int) (M.lfTo s.data.toList k : Int) wr)) (fun i _ => s.size - (intOf i).toNat)
  case atStart =>
    refine ⟨0, Nat.zero_le _, rfl, (M.Own.new w 0 0 0 _).alloc _, ?_, ((Below.refl _ _).alloc (Nat.le_refl _) _).alloc (by simp) _⟩
    have := M.Own.new (w.alloc (.cells #[.int .i64 0, .int .i64 0, .int .i64 0] 48)) (s.size : Int) (U.cnt s.data.toList : Int) 0 48
    rw [World.size_alloc] at this
    exact this
  case round =>
    obtain ⟨k, hk, rfl, hm⟩ := hrel
    have hle := M.lfTo_le s.data.toList k
    by_cases hlt : k < s.size
    · have hat := M.lf_at s k hlt
      cases hb : M.isLf s.data.toList k with
      | true =>
        rw [hb] at hat
        have a2 := hm.out.acc.c2
        have g2 := hm.out.acc.f2
        have Hn : Hid (M.lfTo s.data.toList (k + 1) = M.lfTo s.data.toList k + 1) := M.num_t hb
        have R := Lib.hid (hm.out.set2 ((M.lfTo s.data.toList k : Int) + 1))
        clear hb
        go_wp2
        go_roundw
        case rel => exact ⟨k + 1, by omega, by go_num, by rw [Hn.out]; exact R⟩
        case measure => simp [intOf]; omega
      | false =>
        rw [hb] at hat
        have Hn : Hid (M.lfTo s.data.toList (k + 1) = M.lfTo s.data.toList k) := M.num_f hb
        clear hb
        go_wp2
        go_roundw
        case rel => exact ⟨k + 1, by omega, by go_num, by rw [Hn.out]; exact hm⟩
        case measure => simp [intOf]; omega
    · obtain rfl : k = s.size := by omega
      have Hl : Hid (M.lfTo s.data.toList s.size = M.lf s.data.toList) := by show _ = _; rw [M.lf, U.len]
      rw [Hl.out] at hm
      clear hle
      have a0 := hm.out.acc.c0
      have a1 := hm.out.acc.c1
      have a2 := hm.out.acc.c2
      have r0 := hm.out.res.c0
      have r1 := hm.out.res.c1
      have r2 := hm.out.res.c2
      have s0 := hm.out.res.f0
      have s1 := hm.out.res.f1
      have s2 := hm.out.res.f2
      go_wp2
      have hP := hm.out.res.put (s.size : Int) (U.cnt s.data.toList : Int) (M.lf s.data.toList : Int)
      have p0 := hP.c0
      have p1 := hP.c1
      have p2 := hP.c2
      refine bodyPost_ret (v := .agg #[.int .i64 (s.size : Int), .int .i64 (U.cnt s.data.toList : Int), .int .i64 (M.lf s.data.toList : Int)]) ?_ rfl ⟨rfl, M.put3_below hm.out.below (Nat.le_refl _) _ _ _⟩
      simp [results, Try.results98, go_sem, p0, p1, p2]
theorem M.boxed2 (w : World) (a b c x y z u v r : Int) (t : TypeId) : Below w.heap.size w (((w.alloc (.cells #[.int .i64 a, .int .i64 b, .int .i64 c] t)).alloc (.cells #[.int .i64 x, .int .i64 y, .int .i64 z] t)).alloc (.cells #[.int .i64 u, .int .i64 v, .int .i64 r] t)) :=
  ((((Below.refl w.heap.size w).alloc (Nat.le_refl _) _).alloc (by simp) _).alloc (by simp; omega) _)
theorem M.nth_end (s : ByteArray) (n : Int) (h0 : 0 ≤ n) (h : n ≤ U.cnt s.data.toList) (hno : M.nth (U.bndN s.data.toList) n s.size = none) : n = U.cnt s.data.toList ∧ M.nth (U.bndN s.data.toList) n (s.size + 1) = some s.size := by
  have e : M.num (U.bndN s.data.toList) s.size = U.cnt s.data.toList := by rw [← U.len, M.num_bnd _ _ (Nat.le_refl _)]; rfl
  have hn : n = U.cnt s.data.toList := by
    rcases M.nth_none_imp hno with h1 | h1 <;> omega
  refine ⟨hn, M.nth_eq (by omega) ?_ (by rw [e, hn])⟩
  rw [← U.len]; exact U.bndN_len _
/-- The reference's line: what the search has found when it ends. -/
theorem M.line_end (s : ByteArray) (n : Int) (k : Nat) (hk : k ≤ s.size) (h : (M.lfTo s.data.toList k : Int) = n) (hl : M.lb s.data.toList k = true) : M.nth (M.lb s.data.toList) n (s.size + 1) = some k :=
  M.nth_eq (by omega) hl (by rw [← M.lfTo_of_lb hl]; exact h)
end Go.Proofs.Ytniccjbcchdkoaa
