/- The contract of package compose's All. -/
import Derived.Test.YtmljagkndnobdaaComposeDo
import Derived.Test.YtmljagkndnobdaaDeltaNorm
namespace Go.Proofs.Ytmljagkndnobdaa
open Go.RowKit

def C.AllEnd (n : Int) (xs : List (List D.P)) (w : World) (e : Ending) (w' : World) : Prop := ∃ v, e = .returned (.tuple #[v, .int .i64 (D.allS n xs).1]) ∧ D.Made (D.allS n xs).2 w v w'
/-- Lists of pieces that may be cut: no row is longer than its capacity. -/
def C.Caps (L : List D.Src) : Prop := ∀ s ∈ L, s.x.length ≤ s.c
theorem C.made_bd {n : Int} {xs : List (List D.P)} : D.Bd (D.allS n xs).2 := by
  by_cases h : (D.allS n xs).1 = 0
  · obtain ⟨_, _, _, _, o, _⟩ := D.all_ok h
    exact D.bd_of o.ok
  · rw [D.allS_nil n xs h]
    exact ⟨Nat.zero_le _, fun p hp => by cases hp⟩
theorem C.made_trans {x : List D.P} {w V w' : World} {v : Value} (hb : Below w.heap.size w V) (h : D.Made x V v w') : D.Made x w v w' := ⟨D.own_mono h.own hb.size, hb.trans (h.below.mono hb.size)⟩
end Go.Proofs.Ytmljagkndnobdaa
