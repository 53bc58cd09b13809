/- Contracts of measure.Add and of the reference's Add. -/
import Derived.Test.YtdpaleldalplfaaMeasWith
import Derived.Deep.RegionWith
import Derived.Outline
namespace Go.Proofs.Ytdpaleldalplfaa
open Go.RowKit Go.Shelf

/-- n measures lie in a row: F i j is the j-th component of the i-th. -/
def M.Row (W : World) (ao : Option Addr) (n : Nat) (F : Nat → Nat → Int) : Prop :=
  ∀ i, i < n → ∃ b o, ao = some ⟨b, o, none⟩ ∧ b < W.heap.size ∧ ∀ j, j < 3 → W.cell? ⟨b, o + i * 3 + j, none⟩ = some (.int .i64 (F i j))
theorem M.Row.below {W W' : World} {ao n F} (h : M.Row W ao n F) (hb : Below W.heap.size W W') : M.Row W' ao n F := fun i hi => by
  obtain ⟨b, o, e, hlt, hc⟩ := h i hi
  refine ⟨b, o, e, Nat.lt_of_lt_of_le hlt hb.size, fun j hj => ?_⟩
  rw [(M.bcell hb).1 _ _ hlt]; exact hc j hj
/-- The sum of the first k of them, modulo 2^64. -/
def M.sum (F : Nat → Nat → Int) (j : Nat) : Nat → Int
  | 0 => 0
  | k + 1 => wrap64 (M.sum F j k + F k j)

/-- Block b holds three numbers, and may be written. -/
structure M.Own (W : World) (b : Nat) (x y z : Int) : Prop where
  lt : b < W.heap.size
  c0 : W.cell? ⟨b, 0, none⟩ = some (.int .i64 x)
  c1 : W.cell? ⟨b, 1, none⟩ = some (.int .i64 y)
  c2 : W.cell? ⟨b, 2, none⟩ = some (.int .i64 z)
  f0 : W.frozen? ⟨b, 0, none⟩ = false
  f1 : W.frozen? ⟨b, 1, none⟩ = false
  f2 : W.frozen? ⟨b, 2, none⟩ = false
theorem M.Own.new (W : World) (x y z : Int) (t : TypeId) : M.Own (W.alloc (.cells #[.int .i64 x, .int .i64 y, .int .i64 z] t)) W.heap.size x y z :=
  ⟨by simp, by simp [go_sem], by simp [go_sem], by simp [go_sem], by simp [go_sem], by simp [go_sem], by simp [go_sem]⟩
theorem M.Own.below {W W' : World} {b x y z} (h : M.Own W b x y z) (hb : Below W.heap.size W W') : M.Own W' b x y z := by
  obtain ⟨hc, hf⟩ := M.bcell hb
  exact ⟨Nat.lt_of_lt_of_le h.lt hb.size, (hc _ _ h.lt).trans h.c0, (hc _ _ h.lt).trans h.c1, (hc _ _ h.lt).trans h.c2, (hf _ _ h.lt).trans h.f0, (hf _ _ h.lt).trans h.f1, (hf _ _ h.lt).trans h.f2⟩
theorem M.Own.alloc {W : World} {b x y z} (h : M.Own W b x y z) (o : Obj) : M.Own (W.alloc o) b x y z := h.below ((Below.refl _ _).alloc (Nat.le_refl _) o)
theorem M.Own.drew {W : World} {b x y z} (h : M.Own W b x y z) : M.Own W.drew b x y z := h.below (Below.refl _ _).drew
/-- What three stores into the block leave. -/
@[reducible] def M.put3 (W : World) (b : Nat) (x y z : Int) : World := ((W.setCell ⟨b, 0, none⟩ (.int .i64 x)).setCell ⟨b, 1, none⟩ (.int .i64 y)).setCell ⟨b, 2, none⟩ (.int .i64 z)
theorem M.Own.put {W : World} {b x y z} (h : M.Own W b x y z) (x' y' z' : Int) : M.Own (M.put3 W b x' y' z') b x' y' z' := by
  unfold M.put3
  have k0 := h.c0
  have k1 := h.c1
  have k2 := h.c2
  refine ⟨by simpa using h.lt, ?_, ?_, ?_, by simp only [World.frozen?_setCell]; exact h.f0, by simp only [World.frozen?_setCell]; exact h.f1, by simp only [World.frozen?_setCell]; exact h.f2⟩
  · rw [World.cell?_setCell_other _ _ _ _ (by simp), World.cell?_setCell_other _ _ _ _ (by simp), World.cell?_setCell_same' _ _ _ (by rw [k0]; rfl)]
  · rw [World.cell?_setCell_other _ _ _ _ (by simp), World.cell?_setCell_same' _ _ _ (by rw [World.cell?_setCell_other _ _ _ _ (by simp), k1]; rfl)]
  · rw [World.cell?_setCell_same' _ _ _ (by rw [World.cell?_setCell_other _ _ _ _ (by simp), World.cell?_setCell_other _ _ _ _ (by simp), k2]; rfl)]
theorem M.Own.keep {W : World} {b x y z} (h : M.Own W b x y z) (c : Nat) (hc : c ≠ b) (x' y' z' : Int) : M.Own (M.put3 W c x' y' z') b x y z := by
  unfold M.put3
  refine ⟨by simpa using h.lt, ?_, ?_, ?_, by simp only [World.frozen?_setCell]; exact h.f0, by simp only [World.frozen?_setCell]; exact h.f1, by simp only [World.frozen?_setCell]; exact h.f2⟩
  · rw [World.cell?_setCell_other _ _ _ _ (by simp), World.cell?_setCell_other _ _ _ _ (by simp), World.cell?_setCell_other _ _ _ _ (by simp)]; exact h.c0
  · rw [World.cell?_setCell_other _ _ _ _ (by simp), World.cell?_setCell_other _ _ _ _ (by simp), World.cell?_setCell_other _ _ _ _ (by simp)]; exact h.c1
  · rw [World.cell?_setCell_other _ _ _ _ (by simp), World.cell?_setCell_other _ _ _ _ (by simp), World.cell?_setCell_other _ _ _ _ (by simp)]; exact h.c2
theorem M.put3_below {B : Nat} {w W : World} {b : Nat} (h : Below B w W) (hb : B ≤ b) (x y z : Int) : Below B w (M.put3 W b x y z) :=
  ((h.setCell (p := ⟨b, 0, none⟩) hb _).setCell (p := ⟨b, 1, none⟩) hb _).setCell (p := ⟨b, 2, none⟩) hb _
/-- What holds at the head of a round of Add. -/
structure M.Sum (w : World) (F : Nat → Nat → Int) (k : Nat) (wr : World) : Prop where
  res : M.Own wr w.heap.size 0 0 0
  acc : M.Own wr (w.heap.size + 1) (M.sum F 0 k) (M.sum F 1 k) (M.sum F 2 k)
  below : Below w.heap.size w wr
theorem M.Sum.step {w wr W1 W2 W3 : World} {F : Nat → Nat → Int} {k : Nat} (h : M.Sum w F k wr) (h1 : Below wr.heap.size wr W1) (h2 : Below W1.heap.size W1 W2) (h3 : Below W2.heap.size W2 W3) :
    M.Sum w F (k + 1) (M.put3 W3 (w.heap.size + 1) (wrap64 (M.sum F 0 k + F k 0)) (wrap64 (M.sum F 1 k + F k 1)) (wrap64 (M.sum F 2 k + F k 2))) := by
  have s1 := h1.size
  have s2 := h2.size
  have hb : Below wr.heap.size wr W3 := (h1.trans (h2.mono s1)).trans (h3.mono (Nat.le_trans s1 s2))
  exact ⟨(h.res.below hb).keep _ (by omega) _ _ _, (h.acc.below hb).put _ _ _, M.put3_below (h.below.trans (hb.mono h.below.size)) (by omega) _ _ _⟩

set_option maxHeartbeats 2000000 in
theorem add_any (ao : Option Addr) (n cap : Nat) (F : Nat → Nat → Int) (w : World) (hn : n ≤ maxLen) (hr : M.Row w ao n F) :
    Calls Try.prog 40 #[.slice ao n cap] w fun e w' => e = .returned (.agg #[.int .i64 (M.sum F 0 n), .int .i64 (M.sum F 1 n), .int .i64 (M.sum F 2 n)]) ∧ Below w.heap.size w w' := by
  have Hr := Lib.hid hr
  clear hr
  unfold maxLen at hn
  go_enter Try.func40, Try.ntmps40
  go_wp2
  go_loopw [8] (fun i wr => ∃ k : Nat, k ≤ n ∧ i = .int .i64 k ∧ Hid (M.Sum w F k wr)) (fun i _ => n - (intOf i).toNat)
  case atStart =>
    refine ⟨0, Nat.zero_le _, rfl, (M.Own.new w 0 0 0 _).alloc _, ?_, ((Below.refl _ _).alloc (Nat.le_refl _) _).alloc (by simp) _⟩
    have := M.Own.new (w.alloc (.cells #[.int .i64 0, .int .i64 0, .int .i64 0] 27)) 0 0 0 79
    rw [World.size_alloc] at this
    exact this
  case round =>
    obtain ⟨k, hk, rfl, hm⟩ := hrel
    by_cases hlt : k < n
    · obtain ⟨b, o, rfl, hb, hc⟩ := Hr.out k hlt
      have d0 := (hm.out.below.cell (p := ⟨b, o + k * 3 + 0, none⟩) hb).trans (hc 0 (by omega))
      have d1 := (hm.out.below.cell (p := ⟨b, o + k * 3 + 1, none⟩) hb).trans (hc 1 (by omega))
      have d2 := (hm.out.below.cell (p := ⟨b, o + k * 3 + 2, none⟩) hb).trans (hc 2 (by omega))
      clear hc
      rw [Nat.add_zero] at d0
      go_wp2
      clear d0 d1 d2
      have hx := Lib.hid ((M.Own.new wr (F k 0) (F k 1) (F k 2) 27))
      have ha := Lib.hid (hm.out.acc.alloc (.cells #[.int .i64 (F k 0), .int .i64 (F k 1), .int .i64 (F k 2)] 27))
      have hbw := Lib.hid ((Below.refl wr.heap.size wr).alloc (Nat.le_refl _) (.cells #[.int .i64 (F k 0), .int .i64 (F k 1), .int .i64 (F k 2)] 27))
      generalize wr.alloc (.cells #[.int .i64 (F k 0), .int .i64 (F k 1), .int .i64 (F k 2)] 27) = W at hx ha hbw ⊢
      have x0 := hx.out.c0
      have x1 := hx.out.c1
      have x2 := hx.out.c2
      have a0 := ha.out.c0
      have a1 := ha.out.c1
      have a2 := ha.out.c2
      go_region_with (first
        | (go_at_call 70; refine (countsOf_any _ _ _ _).mono ?_; rintro e w1 ⟨rfl, hb1⟩; have hA := ha.out.drew.below hb1; have a0 := hA.c0; have a1 := hA.c1; have a2 := hA.c2)
        | (go_at_call 69; refine (with_any _ _ _ _ _ _ _ _ _ (enters_of Try.func71 (by kernel_rfl) rfl) add_pairs).mono ?_; rintro e w2 ⟨rfl, hb2⟩; have hA2 := M.Own.below (by assumption) hb2; have a0 := hA2.c0; have a1 := hA2.c1; have a2 := hA2.c2; have g0 := hA2.f0; have g1 := hA2.f1; have g2 := hA2.f2))
      all_goals
        have R := Lib.hid (hm.out.step hbw.out.drew hb1 hb2)
        clear hb1 hb2 hx ha hbw x0 x1 x2
        go_wp2
        go_roundw
        case rel => exact ⟨k + 1, by omega, by go_num, R⟩
        case measure => simp [intOf]; omega
    · obtain rfl : k = n := by omega
      have a0 := hm.out.acc.c0
      have a1 := hm.out.acc.c1
      have a2 := hm.out.acc.c2
      go_wp2_with (go_at_call 68; refine (toMeasure_any _ _ _ _).mono ?_; rintro e w1 ⟨rfl, hb1⟩; have hR := hm.out.res.below hb1; have r0 := hR.c0; have r1 := hR.c1; have r2 := hR.c2; have s0 := hR.f0; have s1 := hR.f1; have s2 := hR.f2)
      have hb1 : Below wr.heap.size wr w1 := by assumption
      have hR := hm.out.res.below hb1
      have hP := hR.put (M.sum F 0 k) (M.sum F 1 k) (M.sum F 2 k)
      have p0 := hP.c0
      have p1 := hP.c1
      have p2 := hP.c2
      refine bodyPost_ret (v := .agg #[.int .i64 (M.sum F 0 k), .int .i64 (M.sum F 1 k), .int .i64 (M.sum F 2 k)]) ?_ rfl ⟨rfl, M.put3_below (hm.out.below.trans (hb1.mono hm.out.below.size)) (Nat.le_refl _) _ _ _⟩
      unfold M.put3 at p0 p1 p2
      simp [results, Try.results40, go_sem, p0, p1, p2]
end Go.Proofs.Ytdpaleldalplfaa
