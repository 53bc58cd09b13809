/- Texts joined: DeltaRef3 DeltaRef4 -/
import Derived.Test.YtniccjbcchdkoaaDeltaRefForm
/- DeltaRef3 -/
namespace Go.Proofs.Ytniccjbcchdkoaa
open Go.RowKit

theorem D.txt_le {l : List D.P} (h : ∀ p ∈ l, p.t.size ≤ 140737488351232) : Hid (∀ p ∈ l, p.t.size ≤ 140737488351232) := h
end Go.Proofs.Ytniccjbcchdkoaa
/- DeltaRef4 -/
namespace Go.Proofs.Ytniccjbcchdkoaa
open Go.RowKit

def D.normal (l : List D.P) : Bool := decide (D.chk l = 0) && D.same l (D.normP l)
theorem D.normP_len (l : List D.P) : (D.normP l).length ≤ l.length := by
  unfold D.normP
  rw [List.length_map]
  refine Nat.le_trans (D.nf_length _) ?_
  unfold D.qs
  rw [List.length_map]
  exact Nat.le_refl _
def D.eqv (a b : List D.P) : Bool := decide (D.chk a = 0) && (decide (D.chk b = 0) && D.same (D.normP a) (D.normP b))
def D.eqvE (a b : List D.P) : Int := if D.chk a = 0 then D.chk b else D.chk a
def D.idE (n : Int) : Int := if n < 0 then 2 else if 1048576 < n then 5 else 0
def D.idP (n : Int) : List D.P := if 0 < n ∧ n ≤ 1048576 then [⟨1, n, ⟨#[]⟩⟩] else []
end Go.Proofs.Ytniccjbcchdkoaa
