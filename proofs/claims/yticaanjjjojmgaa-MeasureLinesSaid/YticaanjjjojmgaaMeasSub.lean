/- The contract of measure.Sub. -/
import Derived.Test.YticaanjjjojmgaaMeasRefAdd
import Derived.Test.YticaanjjjojmgaaMeasEq
import Derived.Deep.RegionHeld3
import Derived.Deep.DeepCutAuto
import Derived.Deep.CutBlock
namespace Go.Proofs.Yticaanjjjojmgaa
open Go.RowKit Go.Shelf
/-- Both arguments' counts lie in blocks of their own, behind what lay before. -/
def M.Two (w : World) (a b c x y z : Int) (p q : Value) (W : World) : Prop :=
  ∃ P Q : Nat, p = .pointer (some ⟨P, 0, none⟩) ∧ q = .pointer (some ⟨Q, 0, none⟩) ∧ w.heap.size + 3 ≤ P ∧ w.heap.size + 3 ≤ Q ∧ P ≠ Q ∧ M.Own W P a b c ∧ M.Own W Q x y z ∧ M.Own W (w.heap.size + 2) 0 0 0 ∧ Below w.heap.size w W
def M.Mark (V V' : World) : Prop := Below V.heap.size V V'
theorem M.Own.mark {W V : World} {b : Nat} {x y z : Int} (h : M.Own W b x y z) (m : M.Mark W V) : M.Own V b x y z := h.below m
theorem M.Own.new' (W : World) (b : Nat) (x y z : Int) (t : TypeId) (e : b = W.heap.size) : M.Own (W.alloc (.cells #[.int .i64 x, .int .i64 y, .int .i64 z] t)) b x y z := by subst e; exact M.Own.new W x y z t
/-- What Sub answers. -/
def M.subEnd (a b c x y z : Int) : Ending :=
  if x ≤ a ∧ y ≤ b ∧ z ≤ c then .returned (.tuple #[.agg #[.int .i64 (wrap64 (a - x)), .int .i64 (wrap64 (b - y)), .int .i64 (wrap64 (c - z))], .int .i64 0]) else .returned (.tuple #[.agg #[.int .i64 0, .int .i64 0, .int .i64 0], .int .i64 3])
theorem M.trans_held {W V V' : World} (h : Below W.heap.size W V) (hb : Below V.heap.size V V') : Below W.heap.size W V' := h.trans (hb.mono h.size)
theorem M.sub_keep {W V : World} {p q : Nat} {a b c x y z : Int} (A : M.Own W p a b c) (B : M.Own W q x y z) (h : Below W.heap.size W V) :
    V.cell? ⟨p, 0, none⟩ = some (.int .i64 a) ∧ V.cell? ⟨p, 1, none⟩ = some (.int .i64 b) ∧ V.cell? ⟨p, 2, none⟩ = some (.int .i64 c) ∧ V.cell? ⟨q, 0, none⟩ = some (.int .i64 x) ∧ V.cell? ⟨q, 1, none⟩ = some (.int .i64 y) ∧ V.cell? ⟨q, 2, none⟩ = some (.int .i64 z) ∧ Below W.heap.size W V :=
  ⟨(A.below h).c0, (A.below h).c1, (A.below h).c2, (B.below h).c0, (B.below h).c1, (B.below h).c2, h⟩
set_option maxHeartbeats 4000000 in
theorem sub_any (a b c x y z : Int) (w : World) :
    Calls Try.prog 16 #[.agg #[.int .i64 a, .int .i64 b, .int .i64 c], .agg #[.int .i64 x, .int .i64 y, .int .i64 z]] w fun e w' =>
      e = M.subEnd a b c x y z ∧ Below w.heap.size w w' := by
  go_enter Try.func16, Try.ntmps16
  go_upto_region 1 with (fail)
  go_cut [6, 7] (fun p q wx => M.Two w a b c x y z p q wx)
  case first =>
    have A := Lib.hid (((M.Own.new w a b c 23).alloc (.cells #[.int .i64 x, .int .i64 y, .int .i64 z] 23)).alloc (.cells #[.int .i64 0, .int .i64 0, .int .i64 0] 23))
    have B := Lib.hid ((M.Own.new (w.alloc (.cells #[.int .i64 a, .int .i64 b, .int .i64 c] 23)) x y z 23).alloc (.cells #[.int .i64 0, .int .i64 0, .int .i64 0] 23))
    have C := Lib.hid (M.Own.new ((w.alloc (.cells #[.int .i64 a, .int .i64 b, .int .i64 c] 23)).alloc (.cells #[.int .i64 x, .int .i64 y, .int .i64 z] 23)) 0 0 0 23)
    have D := Lib.hid ((((Below.refl w.heap.size w).alloc (Nat.le_refl _) (.cells #[.int .i64 a, .int .i64 b, .int .i64 c] 23)).alloc (by simp) (.cells #[.int .i64 x, .int .i64 y, .int .i64 z] 23)).alloc (by simp; omega) (.cells #[.int .i64 0, .int .i64 0, .int .i64 0] 23))
    rw [World.size_alloc] at B
    have C' := C.out
    rw [World.size_alloc, World.size_alloc] at C'
    clear C
    have C := Lib.hid C'
    clear C'
    have HW : Hid (w.heap.size + 3 ≤ (((w.alloc (.cells #[.int .i64 a, .int .i64 b, .int .i64 c] 23)).alloc (.cells #[.int .i64 x, .int .i64 y, .int .i64 z] 23)).alloc (.cells #[.int .i64 0, .int .i64 0, .int .i64 0] 23)).heap.size) := by
      simp only [World.size_alloc]; exact Nat.le_refl _
    generalize ((w.alloc (.cells #[.int .i64 a, .int .i64 b, .int .i64 c] 23)).alloc (.cells #[.int .i64 x, .int .i64 y, .int .i64 z] 23)).alloc (.cells #[.int .i64 0, .int .i64 0, .int .i64 0] 23) = W at A B C D HW ⊢
    go_region_held3 (fun V => V.cell? ⟨w.heap.size, 0, none⟩ = some (.int .i64 a) ∧ V.cell? ⟨w.heap.size, 1, none⟩ = some (.int .i64 b) ∧ V.cell? ⟨w.heap.size, 2, none⟩ = some (.int .i64 c) ∧ V.cell? ⟨w.heap.size + 1, 0, none⟩ = some (.int .i64 x) ∧ V.cell? ⟨w.heap.size + 1, 1, none⟩ = some (.int .i64 y) ∧ V.cell? ⟨w.heap.size + 1, 2, none⟩ = some (.int .i64 z) ∧ Below W.heap.size W V)
      ((refine M.sub_keep A.out B.out ?_; repeat' first
        | (with_reducible exact Below.refl _ _)
        | (with_reducible refine Below.drew ?_)
        | (with_reducible assumption)
        | (with_reducible refine Below.alloc ?_ (by first | omega | (simp only [World.size_alloc, World.size_setCell]; omega) | (simp; omega) | simp) _)
        | (with_reducible refine M.put3_below ?_ (by first | omega | (simp only [World.size_alloc, World.size_setCell]; omega) | (simp; omega) | simp) _ _ _)))
      ((go_at_call 33; refine (countsOf_any _ _ _ _).mono ?_; rintro e w1 ⟨rfl, hb1⟩; have hQ := M.trans_held (W := W) (by go_split_ands; assumption) hb1; have hqs := hQ.size; have hmark : M.Mark _ _ := hb1; obtain ⟨hcc, hff⟩ := M.bcell hb1; have hb1s := hb1.size; (try simp only [World.size_drew, World.size_alloc] at hb1s); (first | (have hb1t := Nat.lt_of_succ_le hb1s) | skip); (first | (have hq2 : W.heap.size < w1.heap.size := by omega) | skip)))
    all_goals
      go_wp2_with fail
      go_meet
      case rel =>
        refine ⟨_, _, rfl, rfl, ?_, ?_, ?_, ?_, ?_, ?_, ?_⟩
        · have := HW.out; omega
        · have := HW.out; omega
        · omega
        · repeat' first
            | (with_reducible exact M.Own.new _ _ _ _ _)
            | ((with_reducible refine M.Own.new' _ _ _ _ _ _ ?_); (simp only [World.size_alloc, World.size_setCell]); done)
            | (with_reducible refine M.Own.put (x := 0) (y := 0) (z := 0) ?_ _ _ _)
            | (with_reducible refine M.Own.keep ?_ _ (by omega) _ _ _)
            | (with_reducible refine M.Own.alloc ?_ _)
            | (with_reducible refine M.Own.drew ?_)
            | (with_reducible refine M.Own.mark ?_ (by assumption))
        · repeat' first
            | (with_reducible exact M.Own.new _ _ _ _ _)
            | ((with_reducible refine M.Own.new' _ _ _ _ _ _ ?_); (simp only [World.size_alloc, World.size_setCell]); done)
            | (with_reducible refine M.Own.put (x := 0) (y := 0) (z := 0) ?_ _ _ _)
            | (with_reducible refine M.Own.keep ?_ _ (by omega) _ _ _)
            | (with_reducible refine M.Own.alloc ?_ _)
            | (with_reducible refine M.Own.drew ?_)
            | (with_reducible exact C.out)
            | (with_reducible refine M.Own.mark ?_ (by assumption))
        · have hw3 := HW.out
          repeat' first
            | (with_reducible exact M.Own.new _ _ _ _ _)
            | ((with_reducible refine M.Own.new' _ _ _ _ _ _ ?_); (simp only [World.size_alloc]); done)
            | (with_reducible refine M.Own.put (x := 0) (y := 0) (z := 0) ?_ _ _ _)
            | (with_reducible refine M.Own.keep ?_ _ (by omega) _ _ _)
            | (with_reducible refine M.Own.alloc ?_ _)
            | (with_reducible refine M.Own.drew ?_)
            | (with_reducible exact C.out)
            | (with_reducible refine M.Own.mark ?_ (by assumption))
        · refine D.out.trans (Below.mono ?_ D.out.size)
          repeat' first
            | (with_reducible exact Below.refl _ _)
            | (with_reducible refine Below.drew ?_)
            | (with_reducible assumption)
            | (with_reducible refine Below.alloc ?_ (by first | omega | (simp only [World.size_alloc, World.size_setCell]; omega) | (simp; omega) | simp) _)
            | (with_reducible refine M.put3_below ?_ (by first | omega | (simp only [World.size_alloc, World.size_setCell]; omega) | (simp; omega) | simp) _ _ _)
  case rest =>
    obtain ⟨P, Q, rfl, rfl, hP, hQ, hPQ, A, B, C, D⟩ := hcut
    have A := Lib.hid A
    have B := Lib.hid B
    have C := Lib.hid C
    have D := Lib.hid D
    have p0 := A.out.c0
    have p1 := A.out.c1
    have p2 := A.out.c2
    have q0 := B.out.c0
    have q1 := B.out.c1
    have q2 := B.out.c2
    have hw := with_any 35 _ a b c x y z wc (enters_of Try.func35 (by kernel_rfl) rfl) min_pairs
    by_cases hle : x ≤ a ∧ y ≤ b ∧ z ≤ c
    · have He := Lib.hid (show M.subEnd a b c x y z = _ by rw [M.subEnd, if_pos hle])
      rw [show min a x = x by omega, show min b y = y by omega, show min c z = z by omega] at hw
      have Hw := Lib.hid hw
      clear hw
      go_wp2_with fail
      refine Hw.out.mono ?_
      rintro e w1 ⟨rfl, hb1⟩
      have A' := Lib.hid (A.out.below hb1)
      have B' := Lib.hid (B.out.below hb1)
      have C' := Lib.hid (C.out.below hb1)
      have D' := Lib.hid (D.out.trans (hb1.mono D.out.size))
      clear A B C D p0 p1 p2 q0 q1 q2 Hw
      have lP := A'.out.lt
      have lQ := B'.out.lt
      have p0 := A'.out.c0
      have p1 := A'.out.c1
      have p2 := A'.out.c2
      have q0 := B'.out.c0
      have q1 := B'.out.c1
      have q2 := B'.out.c2
      go_wp2_with (go_at_call 32; refine (with_any _ _ _ _ _ _ _ _ _ (enters_of Try.func36 (by kernel_rfl) rfl) sub_pairs).mono ?_; rintro e w2 ⟨rfl, hb2⟩; have hmark : M.Mark _ _ := hb2)
      refine (toMeasure_any _ _ _ _).mono ?_
      rintro e w3 ⟨rfl, hb3⟩
      have C2 := (C'.out.alloc (.cells #[.int .i64 x, .int .i64 y, .int .i64 z] 42)).mark (by assumption)
      have C3 := C2.below hb3
      have hs1 := D'.out.size
      have D3 := ((D'.out.alloc hs1 (.cells #[.int .i64 x, .int .i64 y, .int .i64 z] 42)).trans (Below.mono (show M.Mark _ w2 by assumption) (by simp only [World.size_alloc]; omega))).trans (hb3.mono (Nat.le_trans (Nat.le_trans hs1 (by rw [World.size_alloc]; omega)) (show M.Mark (w1.alloc (.cells #[.int .i64 x, .int .i64 y, .int .i64 z] 42)) w2 by assumption).size))
      clear p0 p1 p2 q0 q1 q2 A' B' C' D' hb3
      have r0 := C3.c0
      have r1 := C3.c1
      have r2 := C3.c2
      have s0 := C3.f0
      have s1 := C3.f1
      have s2 := C3.f2
      have hP := C3.put (wrap64 (a - x)) (wrap64 (b - y)) (wrap64 (c - z))
      have t0 := hP.c0
      have t1 := hP.c1
      have t2 := hP.c2
      have R := Lib.hid (M.put3_below D3 (Nat.le_add_right _ 2) (wrap64 (a - x)) (wrap64 (b - y)) (wrap64 (c - z)))
      clear hP D3 C2
      go_wp2
      refine bodyPost_ret (v := .tuple #[.agg #[.int .i64 (wrap64 (a - x)), .int .i64 (wrap64 (b - y)), .int .i64 (wrap64 (c - z))], .int .i64 0]) ?_ rfl ⟨He.out.symm, R.out⟩
      simp [results, Try.results16, go_sem, t0, t1, t2]
    · have He := Lib.hid (show M.subEnd a b c x y z = _ by rw [M.subEnd, if_neg hle])
      have Hw := Lib.hid hw
      have hne : (min a x == x && min b y == y && min c z == z) = false := by
        rw [Bool.eq_false_iff]; intro h; simp only [Bool.and_eq_true, beq_iff_eq] at h; omega
      clear hw hle
      go_wp2_with fail
      refine Hw.out.mono ?_
      rintro e w1 ⟨rfl, hb1⟩
      have B' := Lib.hid (B.out.below hb1)
      have C' := Lib.hid (C.out.below hb1)
      have D' := Lib.hid (D.out.trans (hb1.mono D.out.size))
      clear A B C D p0 p1 p2 q0 q1 q2 Hw hb1
      have lC := C'.out.lt
      have lQ := B'.out.lt
      have q0 := B'.out.c0
      have q1 := B'.out.c1
      have q2 := B'.out.c2
      have r0 := C'.out.c0
      have r1 := C'.out.c1
      have r2 := C'.out.c2
      have s0 := C'.out.f0
      have s1 := C'.out.f1
      have s2 := C'.out.f2
      have hP := (C'.out.put 0 0 0).alloc (.cells #[.int .i64 (min a x), .int .i64 (min b y), .int .i64 (min c z)] 42)
      have t0 := hP.c0
      have t1 := hP.c1
      have t2 := hP.c2
      have hs1 := D'.out.size
      have R := Lib.hid ((M.put3_below D'.out (Nat.le_add_right _ 2) 0 0 0).alloc (by simp only [World.size_setCell]; exact hs1) (.cells #[.int .i64 (min a x), .int .i64 (min b y), .int .i64 (min c z)] 42))
      clear hP B' C' D'
      go_wp2
      refine bodyPost_ret (v := .tuple #[.agg #[.int .i64 0, .int .i64 0, .int .i64 0], .int .i64 3]) ?_ rfl ⟨He.out.symm, R.out⟩
      simp [results, Try.results16, go_sem, t0, t1, t2]
end Go.Proofs.Yticaanjjjojmgaa
