/- The contract of the reference's Add. -/
import Derived.Test.YticaanjjjojmgaaMeasAdd
import Derived.StillTailTactics
import Derived.Outline
namespace Go.Proofs.Yticaanjjjojmgaa
open Go.RowKit Go.Shelf

theorem M.Own.set0 {W : World} {b x y z} (h : M.Own W b x y z) (v : Int) : M.Own (W.setCell ⟨b, 0, none⟩ (.int .i64 v)) b v y z := by
  refine ⟨by simpa using h.lt, ?_, ?_, ?_, by simp only [World.frozen?_setCell]; exact h.f0, by simp only [World.frozen?_setCell]; exact h.f1, by simp only [World.frozen?_setCell]; exact h.f2⟩
  · rw [World.cell?_setCell_same' _ _ _ (by rw [h.c0]; rfl)]
  · rw [World.cell?_setCell_other _ _ _ _ (by simp)]; exact h.c1
  · rw [World.cell?_setCell_other _ _ _ _ (by simp)]; exact h.c2
theorem M.Own.set1 {W : World} {b x y z} (h : M.Own W b x y z) (v : Int) : M.Own (W.setCell ⟨b, 1, none⟩ (.int .i64 v)) b x v z := by
  refine ⟨by simpa using h.lt, ?_, ?_, ?_, by simp only [World.frozen?_setCell]; exact h.f0, by simp only [World.frozen?_setCell]; exact h.f1, by simp only [World.frozen?_setCell]; exact h.f2⟩
  · rw [World.cell?_setCell_other _ _ _ _ (by simp)]; exact h.c0
  · rw [World.cell?_setCell_same' _ _ _ (by rw [h.c1]; rfl)]
  · rw [World.cell?_setCell_other _ _ _ _ (by simp)]; exact h.c2
theorem M.Own.set2 {W : World} {b x y z} (h : M.Own W b x y z) (v : Int) : M.Own (W.setCell ⟨b, 2, none⟩ (.int .i64 v)) b x y v := by
  refine ⟨by simpa using h.lt, ?_, ?_, ?_, by simp only [World.frozen?_setCell]; exact h.f0, by simp only [World.frozen?_setCell]; exact h.f1, by simp only [World.frozen?_setCell]; exact h.f2⟩
  · rw [World.cell?_setCell_other _ _ _ _ (by simp)]; exact h.c0
  · rw [World.cell?_setCell_other _ _ _ _ (by simp)]; exact h.c1
  · rw [World.cell?_setCell_same' _ _ _ (by rw [h.c2]; rfl)]
theorem M.Own.far {W : World} {b x y z} (h : M.Own W b x y z) (c o : Nat) (hc : c ≠ b) (v : Value) : M.Own (W.setCell ⟨c, o, none⟩ v) b x y z :=
  ⟨by simpa using h.lt, by rw [World.cell?_setCell_other _ _ _ _ (by simp)]; exact h.c0, by rw [World.cell?_setCell_other _ _ _ _ (by simp)]; exact h.c1, by rw [World.cell?_setCell_other _ _ _ _ (by simp)]; exact h.c2,
    by rw [World.frozen?_setCell]; exact h.f0, by rw [World.frozen?_setCell]; exact h.f1, by rw [World.frozen?_setCell]; exact h.f2⟩
/-- The state of the reference's sum: the sum in its block, the result's block, what lies below. -/
structure M.Adds (w : World) (x y z : Int) (W : World) : Prop where
  res : M.Own W w.heap.size 0 0 0
  acc : M.Own W (w.heap.size + 1) x y z
  below : Below w.heap.size w W
theorem M.Adds.drew {w x y z W} (h : M.Adds w x y z W) : M.Adds w x y z W.drew := ⟨h.res.drew, h.acc.drew, h.below.drew⟩
theorem M.Adds.set0 {w x y z W} (h : M.Adds w x y z W) (v : Int) : M.Adds w v y z (W.setCell ⟨w.heap.size + 1, 0, none⟩ (.int .i64 v)) := ⟨h.res.far _ _ (by omega) _, h.acc.set0 v, h.below.setCell (p := ⟨w.heap.size + 1, 0, none⟩) (by simp) _⟩
theorem M.Adds.set1 {w x y z W} (h : M.Adds w x y z W) (v : Int) : M.Adds w x v z (W.setCell ⟨w.heap.size + 1, 1, none⟩ (.int .i64 v)) := ⟨h.res.far _ _ (by omega) _, h.acc.set1 v, h.below.setCell (p := ⟨w.heap.size + 1, 1, none⟩) (by simp) _⟩
theorem M.Adds.set2 {w x y z W} (h : M.Adds w x y z W) (v : Int) : M.Adds w x y v (W.setCell ⟨w.heap.size + 1, 2, none⟩ (.int .i64 v)) := ⟨h.res.far _ _ (by omega) _, h.acc.set2 v, h.below.setCell (p := ⟨w.heap.size + 1, 2, none⟩) (by simp) _⟩

set_option maxHeartbeats 2000000 in
theorem refAdd_any (ao : Option Addr) (n cap : Nat) (F : Nat → Nat → Int) (w : World) (hn : n ≤ maxLen) (hr : M.Row w ao n F) :
    Calls Try.prog 15 #[.slice ao n cap] w fun e w' => e = .returned (.agg #[.int .i64 (M.sum F 0 n), .int .i64 (M.sum F 1 n), .int .i64 (M.sum F 2 n)]) ∧ Below w.heap.size w w' := by
  have Hr := Lib.hid hr
  clear hr
  unfold maxLen at hn
  go_enter Try.func15, Try.ntmps15
  go_wp2
  go_loopw [4] (fun i wr => ∃ k : Nat, k ≤ n ∧ i = .int .i64 k ∧ Hid (M.Adds w (M.sum F 0 k) (M.sum F 1 k) (M.sum F 2 k) wr)) (fun i _ => n - (intOf i).toNat)
  case atStart =>
    refine ⟨0, Nat.zero_le _, rfl, (M.Own.new w 0 0 0 _).alloc _, ?_, ((Below.refl _ _).alloc (Nat.le_refl _) _).alloc (by simp) _⟩
    have := M.Own.new (w.alloc (.cells #[.int .i64 0, .int .i64 0, .int .i64 0] 23)) 0 0 0 23
    rw [World.size_alloc] at this
    exact this
  case round =>
    obtain ⟨k, hk, rfl, hm⟩ := hrel
    by_cases hlt : k < n
    · obtain ⟨b, o, rfl, hb, hc⟩ := Hr.out k hlt
      have hrow : Hid (∀ W : World, Below w.heap.size w W → W.cell? ⟨b, o + k * 3, none⟩ = some (.int .i64 (F k 0)) ∧ W.cell? ⟨b, o + k * 3 + 1, none⟩ = some (.int .i64 (F k 1)) ∧ W.cell? ⟨b, o + k * 3 + 2, none⟩ = some (.int .i64 (F k 2))) :=
        fun W hW => ⟨(hW.cell (p := ⟨b, o + k * 3 + 0, none⟩) hb).trans (hc 0 (by omega)), (hW.cell (p := ⟨b, o + k * 3 + 1, none⟩) hb).trans (hc 1 (by omega)), (hW.cell (p := ⟨b, o + k * 3 + 2, none⟩) hb).trans (hc 2 (by omega))⟩
      clear hc
      go_wp2
      have hm0 := hm
      clear hm
      refine wp_region_still_tail 9 (by kernel_rfl) (by kernel_rfl) ?_
      simp only [List.take_succ_cons, List.take_zero, List.drop_succ_cons, List.drop_zero]
      change wpStill _ _ (World.drew wr) (fun a' => wpList _ _ _ _ a' (World.drew wr)) _ _
      have h1 := Lib.hid hm0.out.drew
      clear hm0
      generalize World.drew wr = W1 at h1 ⊢
      have a0 := h1.out.acc.c0
      have g0 := h1.out.acc.f0
      have d0 := (hrow.out W1 h1.out.below).1
      repeat still_step
      refine wpStill_nil ?_
      go_wp2
      have k1 := Lib.hid (h1.out.set0 (wrap64 (M.sum F 0 k + F k 0)))
      clear h1 a0 g0 d0
      refine wp_region_still_tail 9 (by kernel_rfl) (by kernel_rfl) ?_
      simp only [List.take_succ_cons, List.take_zero, List.drop_succ_cons, List.drop_zero]
      change wpStill _ _ (World.drew (World.setCell W1 ⟨w.heap.size + 1, 0, none⟩ (.int .i64 (wrap64 (M.sum F 0 k + F k 0))))) (fun a' => wpList _ _ _ _ a' (World.drew (World.setCell W1 ⟨w.heap.size + 1, 0, none⟩ (.int .i64 (wrap64 (M.sum F 0 k + F k 0)))))) _ _
      have h2 := Lib.hid k1.out.drew
      clear k1
      generalize World.drew (World.setCell W1 ⟨w.heap.size + 1, 0, none⟩ (.int .i64 (wrap64 (M.sum F 0 k + F k 0)))) = W2 at h2 ⊢
      have a0 := h2.out.acc.c1
      have g0 := h2.out.acc.f1
      have d0 := (hrow.out W2 h2.out.below).2.1
      repeat still_step
      refine wpStill_nil ?_
      go_wp2
      have k2 := Lib.hid (h2.out.set1 (wrap64 (M.sum F 1 k + F k 1)))
      clear h2 a0 g0 d0
      refine wp_region_still_tail 9 (by kernel_rfl) (by kernel_rfl) ?_
      simp only [List.take_succ_cons, List.take_zero, List.drop_succ_cons, List.drop_zero]
      change wpStill _ _ (World.drew (World.setCell W2 ⟨w.heap.size + 1, 1, none⟩ (.int .i64 (wrap64 (M.sum F 1 k + F k 1))))) (fun a' => wpList _ _ _ _ a' (World.drew (World.setCell W2 ⟨w.heap.size + 1, 1, none⟩ (.int .i64 (wrap64 (M.sum F 1 k + F k 1)))))) _ _
      have h3 := Lib.hid k2.out.drew
      clear k2
      generalize World.drew (World.setCell W2 ⟨w.heap.size + 1, 1, none⟩ (.int .i64 (wrap64 (M.sum F 1 k + F k 1)))) = W3 at h3 ⊢
      have a0 := h3.out.acc.c2
      have g0 := h3.out.acc.f2
      have d0 := (hrow.out W3 h3.out.below).2.2
      repeat still_step
      refine wpStill_nil ?_
      go_wp2
      have k3 := Lib.hid (h3.out.set2 (wrap64 (M.sum F 2 k + F k 2)))
      clear h3 a0 g0 d0
      go_roundw
      case rel => exact ⟨k + 1, by omega, by go_num, k3⟩
      case measure => simp [intOf]; omega
    · obtain rfl : k = n := by omega
      have a0 := hm.out.acc.c0
      have a1 := hm.out.acc.c1
      have a2 := hm.out.acc.c2
      have r0 := hm.out.res.c0
      have r1 := hm.out.res.c1
      have r2 := hm.out.res.c2
      have s0 := hm.out.res.f0
      have s1 := hm.out.res.f1
      have s2 := hm.out.res.f2
      go_wp2
      have hP := hm.out.res.put (M.sum F 0 k) (M.sum F 1 k) (M.sum F 2 k)
      have p0 := hP.c0
      have p1 := hP.c1
      have p2 := hP.c2
      refine bodyPost_ret (v := .agg #[.int .i64 (M.sum F 0 k), .int .i64 (M.sum F 1 k), .int .i64 (M.sum F 2 k)]) ?_ rfl ⟨rfl, M.put3_below hm.out.below (Nat.le_refl _) _ _ _⟩
      unfold M.put3 at p0 p1 p2
      simp [results, Try.results15, go_sem, p0, p1, p2]
end Go.Proofs.Yticaanjjjojmgaa
