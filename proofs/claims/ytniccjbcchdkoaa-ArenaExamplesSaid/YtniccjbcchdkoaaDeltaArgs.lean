/- Arguments that are slices of pieces, as a row's statement reads them. -/
import Derived.Test.YtniccjbcchdkoaaPackSrc
import Derived.ProofKit
import Derived.OpenShut
import Derived.Stop.Joined
import Derived.SizedLaws
import Derived.Deep.Slices
import Derived.Deep.Strs
import Derived.Lib.SmallJoins
import Derived.Carry
import Derived.Lib.LaidU8
namespace Go.Proofs.Ytniccjbcchdkoaa
open Go Go.ChangeShapes Go.WideShapes Go.ChangeAt Go.WideMaps Go.WideElems Go.RowKit

theorem D.trod_lt {H : Type} {enc : TypeId × Value → H} {w : World} {base : Nat} {spare : Nat → Bool} {held : Bool} {t : TypeId} {v : Value} {d : DataW H} {p : List MemPlace} (h : DataW.Trod enc Try.prog w base spare held t v d p) : ∀ x ∈ p, x.block < w.heap.size := by
  obtain ⟨fuel, hf⟩ := h
  exact DataW.trod_lt fuel _ _ _ hf
instance : Inhabited D.P := ⟨⟨0, 0, ⟨#[]⟩⟩⟩
/-- An argument that is a slice of pieces. -/
structure D.ArgOk (W : World) (s : D.Src) : Prop where
  src : D.SrcOk W s
  num : ∀ p ∈ s.x, -9223372036854775808 ≤ p.n ∧ p.n ≤ 9223372036854775807
  fit : s.x.length * 32 ≤ 140737488351232
  cap : s.x.length ≤ s.c
theorem D.cell3' {w : World} {a : Addr} {i k : Nat} {v : Value} (h : w.cell? ((a.add (i * 3)).add k) = some v) : ∃ b o, a.block = b ∧ a.off = o ∧ (0 < i * 3 + k → w.cell? ⟨b, o + i * 3 + k, none⟩ = some v) ∧ (i * 3 + k = 0 → w.cell? a = some v) := by
  refine ⟨_, _, rfl, rfl, fun hp => ?_, fun hz => ?_⟩
  · unfold Addr.add at h
    by_cases h1 : i * 3 = 0 <;> by_cases h2 : k = 0
    · omega
    · simpa [h1, h2] using h
    · simpa [h1, h2] using h
    · simpa [h1, h2] using h
  · unfold Addr.add at h
    rw [if_pos (show k = 0 by omega), if_pos (show i * 3 = 0 by omega)] at h
    exact h
def D.cell (p : D.P) : Nat → Value
  | 0 => .int .u8 p.k
  | 1 => .int .i64 p.n
  | _ => .string p.t
theorem D.weights_all {H : Type} {e : TypeId} {n : Nat} : ∀ {ds : List (DataW H)} {d : DataW H}, d ∈ ds → n ∈ d.weights Try.prog e → n ∈ DataW.weightsAll Try.prog e ds
  | [], _, h, _ => by cases h
  | c :: r, d, h, hn => by
    rw [DataW.weightsAll, List.mem_append]
    rcases List.mem_cons.1 h with rfl | h
    · exact .inl hn
    · exact .inr (D.weights_all h hn)
theorem D.int_bd {a : Int} (h : (Lit.int .i64 a).wf = true) : -9223372036854775808 ≤ a ∧ a < 9223372036854775808 := by
  simp only [Lit.wf, Bool.and_eq_true, decide_eq_true_eq] at h
  have h1 : (-9223372036854775808 : Int) ≤ a := h.1
  have h2 : a ≤ (9223372036854775807 : Int) := h.2
  omega
theorem D.reach {H : Type} {ts : List TypeId} {ds : List (DataW H)} (h : (DataW.weightsEach Try.prog ts ds).all (· ≤ reachBytes) = true) {j : Nat} {t : TypeId} {d : DataW H} (ht : ts[j]? = some t) (hd : ds[j]? = some d) : ∀ n ∈ d.weights Try.prog t, n ≤ reachBytes := fun n hn => by
  simpa using List.all_eq_true.1 h _ (DataW.weights_mem_each ht hd n hn)
end Go.Proofs.Ytniccjbcchdkoaa
