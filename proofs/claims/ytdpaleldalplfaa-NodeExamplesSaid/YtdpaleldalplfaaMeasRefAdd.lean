/- The contract of the reference's Add. -/
import Derived.Test.YtdpaleldalplfaaMeasAdd
import Derived.StillTailTactics
import Derived.Outline
namespace Go.Proofs.Ytdpaleldalplfaa
open Go.RowKit Go.Shelf

theorem M.Own.set0 {W : World} {b x y z} (h : M.Own W b x y z) (v : Int) : M.Own (W.setCell ⟨b, 0, none⟩ (.int .i64 v)) b v y z := by
  refine ⟨by simpa using h.lt, ?_, ?_, ?_, by simp only [World.frozen?_setCell]; exact h.f0, by simp only [World.frozen?_setCell]; exact h.f1, by simp only [World.frozen?_setCell]; exact h.f2⟩
  · rw [World.cell?_setCell_same' _ _ _ (by rw [h.c0]; rfl)]
  · rw [World.cell?_setCell_other _ _ _ _ (by simp)]; exact h.c1
  · rw [World.cell?_setCell_other _ _ _ _ (by simp)]; exact h.c2
theorem M.Own.set1 {W : World} {b x y z} (h : M.Own W b x y z) (v : Int) : M.Own (W.setCell ⟨b, 1, none⟩ (.int .i64 v)) b x v z := by
  refine ⟨by simpa using h.lt, ?_, ?_, ?_, by simp only [World.frozen?_setCell]; exact h.f0, by simp only [World.frozen?_setCell]; exact h.f1, by simp only [World.frozen?_setCell]; exact h.f2⟩
  · rw [World.cell?_setCell_other _ _ _ _ (by simp)]; exact h.c0
  · rw [World.cell?_setCell_same' _ _ _ (by rw [h.c1]; rfl)]
  · rw [World.cell?_setCell_other _ _ _ _ (by simp)]; exact h.c2
theorem M.Own.set2 {W : World} {b x y z} (h : M.Own W b x y z) (v : Int) : M.Own (W.setCell ⟨b, 2, none⟩ (.int .i64 v)) b x y v := by
  refine ⟨by simpa using h.lt, ?_, ?_, ?_, by simp only [World.frozen?_setCell]; exact h.f0, by simp only [World.frozen?_setCell]; exact h.f1, by simp only [World.frozen?_setCell]; exact h.f2⟩
  · rw [World.cell?_setCell_other _ _ _ _ (by simp)]; exact h.c0
  · rw [World.cell?_setCell_other _ _ _ _ (by simp)]; exact h.c1
  · rw [World.cell?_setCell_same' _ _ _ (by rw [h.c2]; rfl)]
theorem M.Own.far {W : World} {b x y z} (h : M.Own W b x y z) (c o : Nat) (hc : c ≠ b) (v : Value) : M.Own (W.setCell ⟨c, o, none⟩ v) b x y z :=
  ⟨by simpa using h.lt, by rw [World.cell?_setCell_other _ _ _ _ (by simp)]; exact h.c0, by rw [World.cell?_setCell_other _ _ _ _ (by simp)]; exact h.c1, by rw [World.cell?_setCell_other _ _ _ _ (by simp)]; exact h.c2,
    by rw [World.frozen?_setCell]; exact h.f0, by rw [World.frozen?_setCell]; exact h.f1, by rw [World.frozen?_setCell]; exact h.f2⟩
/-- The state of the reference's sum: the sum in its block, the result's block, what lies below. -/
structure M.Adds (w : World) (x y z : Int) (W : World) : Prop where
  res : M.Own W w.heap.size 0 0 0
  acc : M.Own W (w.heap.size + 1) x y z
  below : Below w.heap.size w W
theorem M.Adds.drew {w x y z W} (h : M.Adds w x y z W) : M.Adds w x y z W.drew := ⟨h.res.drew, h.acc.drew, h.below.drew⟩
theorem M.Adds.set0 {w x y z W} (h : M.Adds w x y z W) (v : Int) : M.Adds w v y z (W.setCell ⟨w.heap.size + 1, 0, none⟩ (.int .i64 v)) := ⟨h.res.far _ _ (by omega) _, h.acc.set0 v, h.below.setCell (p := ⟨w.heap.size + 1, 0, none⟩) (by simp) _⟩
theorem M.Adds.set1 {w x y z W} (h : M.Adds w x y z W) (v : Int) : M.Adds w x v z (W.setCell ⟨w.heap.size + 1, 1, none⟩ (.int .i64 v)) := ⟨h.res.far _ _ (by omega) _, h.acc.set1 v, h.below.setCell (p := ⟨w.heap.size + 1, 1, none⟩) (by simp) _⟩
theorem M.Adds.set2 {w x y z W} (h : M.Adds w x y z W) (v : Int) : M.Adds w x y v (W.setCell ⟨w.heap.size + 1, 2, none⟩ (.int .i64 v)) := ⟨h.res.far _ _ (by omega) _, h.acc.set2 v, h.below.setCell (p := ⟨w.heap.size + 1, 2, none⟩) (by simp) _⟩

end Go.Proofs.Ytdpaleldalplfaa
