/- Contracts of countsOf and of the method with. -/
import Derived.Test.YtdpaleldalplfaaMeasOf
import Derived.StillTailTactics
import Derived.Outline
namespace Go.Proofs.Ytdpaleldalplfaa
open Go.RowKit Go.Shelf

set_option maxHeartbeats 1000000 in
theorem countsOf_any (b r l : Int) (w : World) :
    Calls Try.prog 70 #[.agg #[.int .i64 b, .int .i64 r, .int .i64 l]] w fun e w' => e = .returned (.agg #[.int .i64 b, .int .i64 r, .int .i64 l]) ∧ Below w.heap.size w w' := by
  go_enter Try.func70, Try.ntmps70
  go_wp2
  exact bodyPost_ret (v := .agg #[.int .i64 b, .int .i64 r, .int .i64 l]) (by simp [results, Try.results70, go_sem]) rfl ⟨rfl, ((Below.refl _ _).alloc (Nat.le_refl _) _).alloc (by simp) _⟩
/-- A function value on two numbers that answers f of them and does nothing else. -/
def M.Pairs (gf : Nat) (f : Int → Int → Int) : Prop :=
  ∀ (x y : Int) (W : World), Calls Try.prog gf #[.int .i64 x, .int .i64 y] W fun e W' => e = .returned (.int .i64 (f x y)) ∧ W' = W
theorem add_pairs : M.Pairs 71 (fun x y => wrap64 (x + y)) := fun x y W => by
  go_enter Try.func71, Try.ntmps71
  go_wp2
  go_ret
  exact ⟨rfl, rfl⟩
/-- The first k parts are done: what lies in the receiver's block, in the argument's, in the result's. -/
structure M.Mid (f : Int → Int → Int) (A X : Nat → Int) (k B : Nat) (W : World) : Prop where
  own : ∀ j, j < 3 → W.cell? ⟨B, j, none⟩ = some (.int .i64 (if j < k then f (A j) (X j) else A j)) ∧ W.frozen? ⟨B, j, none⟩ = false
  arg : ∀ j, j < 3 → W.cell? ⟨B + 1, j, none⟩ = some (.int .i64 (X j))
  res : ∀ j, j < 3 → W.cell? ⟨B + 1 + 1, j, none⟩ = some (.int .i64 0) ∧ W.frozen? ⟨B + 1 + 1, j, none⟩ = false
theorem M.Mid.drew {f A X k B W} (h : M.Mid f A X k B W) : M.Mid f A X k B W.drew :=
  ⟨fun j hj => by rw [World.cell?_drew, World.frozen?_drew]; exact h.own j hj, fun j hj => by rw [World.cell?_drew]; exact h.arg j hj, fun j hj => by rw [World.cell?_drew, World.frozen?_drew]; exact h.res j hj⟩
theorem M.Mid.next {f A X k B W} (h : M.Mid f A X k B W) (hk : k < 3) : M.Mid f A X (k + 1) B (W.setCell ⟨B, k, none⟩ (.int .i64 (f (A k) (X k)))) := by
  refine ⟨fun j hj => ⟨?_, by rw [World.frozen?_setCell]; exact (h.own j hj).2⟩, fun j hj => ?_, fun j hj => ⟨?_, by rw [World.frozen?_setCell]; exact (h.res j hj).2⟩⟩
  · by_cases e : j = k
    · subst e
      rw [World.cell?_setCell_same' _ _ _ (by rw [(h.own j hj).1]; rfl), if_pos (by omega)]
    · rw [World.cell?_setCell_other _ _ _ _ (by simp), (h.own j hj).1]
      by_cases hlt : j < k
      · rw [if_pos hlt, if_pos (by omega)]
      · rw [if_neg hlt, if_neg (by omega)]
  · rw [World.cell?_setCell_other _ _ _ _ (by simp)]; exact h.arg j hj
  · rw [World.cell?_setCell_other _ _ _ _ (by intro h; simp at h)]; exact (h.res j hj).1
def M.at3 (a b c : Int) : Nat → Int | 0 => a | 1 => b | _ => c
set_option maxRecDepth 100000 in
set_option maxHeartbeats 2000000 in
theorem with_any (gf : Nat) (f : Int → Int → Int) (a b c x y z : Int) (w : World) (heg : Enters Try.prog gf) (hf : M.Pairs gf f) :
    Calls Try.prog 69 #[.agg #[.int .i64 a, .int .i64 b, .int .i64 c], .agg #[.int .i64 x, .int .i64 y, .int .i64 z], .func (.func gf) #[] #[]] w fun e w' =>
      e = .returned (.agg #[.int .i64 (f a x), .int .i64 (f b y), .int .i64 (f c z)]) ∧ Below w.heap.size w w' := by
  unfold Enters at heg
  unfold M.Pairs at hf
  have Hf := Lib.hid hf
  clear hf
  have h0 : M.Mid f (M.at3 a b c) (M.at3 x y z) 0 w.heap.size (((w.alloc (.cells #[.int .i64 a, .int .i64 b, .int .i64 c] 79)).alloc (.cells #[.int .i64 x, .int .i64 y, .int .i64 z] 79)).alloc (.cells #[.int .i64 0, .int .i64 0, .int .i64 0] 79)) := by
    refine ⟨fun j hj => ?_, fun j hj => ?_, fun j hj => ?_⟩
    all_goals
      rcases (show j = 0 ∨ j = 1 ∨ j = 2 by omega) with rfl | rfl | rfl <;> simp [go_sem, M.at3]
  have H0 := Lib.hid h0
  clear h0
  go_enter Try.func69, Try.ntmps69
  go_wp2
  go_loopw [8] (fun i wr => ∃ k : Nat, k ≤ 3 ∧ i = .int .i64 k ∧ Hid (M.Mid f (M.at3 a b c) (M.at3 x y z) k w.heap.size wr) ∧ Below w.heap.size w wr) (fun i _ => 3 - (intOf i).toNat)
  case atStart => exact ⟨0, Nat.zero_le _, rfl, H0, (((Below.refl _ _).alloc (Nat.le_refl _) _).alloc (by simp) _).alloc (by simp; omega) _⟩
  case round =>
    obtain ⟨k, hk, rfl, hm, hbw⟩ := hrel
    by_cases hlt : k < 3
    · have hmd := Lib.hid hm.out.drew
      have hnx := Lib.hid (hm.out.drew.next hlt)
      have hbd := hbw.drew
      go_wp2
      refine wp_region_still_tail 10 (by kernel_rfl) (by kernel_rfl) ?_
      simp only [List.take_succ_cons, List.take_zero, List.drop_succ_cons, List.drop_zero]
      change wpStill _ _ wr.drew (fun a' => wpList _ _ _ _ a' wr.drew) _ _
      generalize wr.drew = W2 at hmd hnx hbd ⊢
      have c1 := (hmd.out.own k hlt).1
      have c2 := (hmd.out.own k hlt).2
      have c3 := hmd.out.arg k hlt
      rw [if_neg (Nat.lt_irrefl _)] at c1
      repeat still_step
      still_call (Hf.out _ _ _)
      repeat still_step
      refine wpStill_nil ?_
      go_wp2
      go_roundw
      case rel => exact ⟨k + 1, by omega, by go_num, hnx, hbd.setCell (p := ⟨w.heap.size, k, none⟩) (Nat.le_refl _) _⟩
      case measure => simp [intOf]; omega
    · obtain rfl : k = 3 := by omega
      have c0 := hm.out.own 0 (by omega)
      have c1 := hm.out.own 1 (by omega)
      have c2 := hm.out.own 2 (by omega)
      rw [if_pos (by omega)] at c0 c1 c2
      have r0 := hm.out.res 0 (by omega)
      have r1 := hm.out.res 1 (by omega)
      have r2 := hm.out.res 2 (by omega)
      simp only [M.at3] at c0 c1 c2
      obtain ⟨c0, -⟩ := c0
      obtain ⟨c1, -⟩ := c1
      obtain ⟨c2, -⟩ := c2
      obtain ⟨r0, s0⟩ := r0
      obtain ⟨r1, s1⟩ := r1
      obtain ⟨r2, s2⟩ := r2
      go_wp2
      refine bodyPost_ret (v := .agg #[.int .i64 (f a x), .int .i64 (f b y), .int .i64 (f c z)]) ?_ rfl
        ⟨rfl, ((hbw.setCell (p := ⟨w.heap.size + 1 + 1, 0, none⟩) (by simp; omega) _).setCell (p := ⟨w.heap.size + 1 + 1, 1, none⟩) (by simp; omega) _).setCell (p := ⟨w.heap.size + 1 + 1, 2, none⟩) (by simp; omega) _⟩
      simp [results, Try.results69, go_sem, r0, r1, r2]
end Go.Proofs.Ytdpaleldalplfaa
