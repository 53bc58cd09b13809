/- The contract of measure.Sub. -/
import Derived.Test.YtdpaleldalplfaaMeasRefAdd
import Derived.Test.YtdpaleldalplfaaMeasEq
import Derived.Deep.RegionHeld3
import Derived.Deep.DeepCutAuto
import Derived.Deep.CutBlock
namespace Go.Proofs.Ytdpaleldalplfaa
open Go.RowKit Go.Shelf
/-- Both arguments' counts lie in blocks of their own, behind what lay before. -/
def M.Two (w : World) (a b c x y z : Int) (p q : Value) (W : World) : Prop :=
  ∃ P Q : Nat, p = .pointer (some ⟨P, 0, none⟩) ∧ q = .pointer (some ⟨Q, 0, none⟩) ∧ w.heap.size + 3 ≤ P ∧ w.heap.size + 3 ≤ Q ∧ P ≠ Q ∧ M.Own W P a b c ∧ M.Own W Q x y z ∧ M.Own W (w.heap.size + 2) 0 0 0 ∧ Below w.heap.size w W
def M.Mark (V V' : World) : Prop := Below V.heap.size V V'
theorem M.Own.mark {W V : World} {b : Nat} {x y z : Int} (h : M.Own W b x y z) (m : M.Mark W V) : M.Own V b x y z := h.below m
theorem M.Own.new' (W : World) (b : Nat) (x y z : Int) (t : TypeId) (e : b = W.heap.size) : M.Own (W.alloc (.cells #[.int .i64 x, .int .i64 y, .int .i64 z] t)) b x y z := by subst e; exact M.Own.new W x y z t
/-- What Sub answers. -/
def M.subEnd (a b c x y z : Int) : Ending :=
  if x ≤ a ∧ y ≤ b ∧ z ≤ c then .returned (.tuple #[.agg #[.int .i64 (wrap64 (a - x)), .int .i64 (wrap64 (b - y)), .int .i64 (wrap64 (c - z))], .int .i64 0]) else .returned (.tuple #[.agg #[.int .i64 0, .int .i64 0, .int .i64 0], .int .i64 3])
theorem M.trans_held {W V V' : World} (h : Below W.heap.size W V) (hb : Below V.heap.size V V') : Below W.heap.size W V' := h.trans (hb.mono h.size)
theorem M.sub_keep {W V : World} {p q : Nat} {a b c x y z : Int} (A : M.Own W p a b c) (B : M.Own W q x y z) (h : Below W.heap.size W V) :
    V.cell? ⟨p, 0, none⟩ = some (.int .i64 a) ∧ V.cell? ⟨p, 1, none⟩ = some (.int .i64 b) ∧ V.cell? ⟨p, 2, none⟩ = some (.int .i64 c) ∧ V.cell? ⟨q, 0, none⟩ = some (.int .i64 x) ∧ V.cell? ⟨q, 1, none⟩ = some (.int .i64 y) ∧ V.cell? ⟨q, 2, none⟩ = some (.int .i64 z) ∧ Below W.heap.size W V :=
  ⟨(A.below h).c0, (A.below h).c1, (A.below h).c2, (B.below h).c0, (B.below h).c1, (B.below h).c2, h⟩
end Go.Proofs.Ytdpaleldalplfaa
