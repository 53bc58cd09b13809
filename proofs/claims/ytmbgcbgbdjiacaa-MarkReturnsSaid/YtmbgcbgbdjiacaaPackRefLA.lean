/- Texts joined: DeltaRefAtoms DeltaRefLarge -/
import Derived.Test.YtmbgcbgbdjiacaaPackRef
import Derived.Test.YtmbgcbgbdjiacaaDeltaRef2
/- DeltaRefAtoms -/
namespace Go.Proofs.Ytmbgcbgbdjiacaa
open Go.RowKit

theorem Try.infoInt : (Try.prog.info? 3).map (fun i => (i.zero, i.size, i.bytes)) = some (some (.int .i64 0), 1, 8) := by kernel_rfl
def D.intsL (x : List Int) : List Value := x.map fun i => .int .i64 i
theorem D.intsL_append (x y : List Int) : D.intsL (x ++ y) = D.intsL x ++ D.intsL y := by simp [D.intsL]
/-- A row of numbers that the call owns. -/
structure D.IntsAt (x : List Int) (w : World) (v : Value) (wr : World) : Prop where
  own : wr.ownsRow w.heap.size 3 1 v x.length (D.intsL x)
  below : Below w.heap.size w wr
def D.iA (q : D.Q) : List Int := (D.txt1 q).map D.neg
def D.rN : D.Q → Nat
  | .R n => n
  | _ => 0
def D.rA (k : Nat) (q : D.Q) : List Int := (List.range (D.rN q)).map fun i => ((k + i : Nat) : Int)
theorem D.atoms_take (a : List D.Q) (j : Nat) (q : D.Q) (h : a[j]? = some q) : D.atoms 0 (a.take (j + 1)) = D.atoms 0 (a.take j) ++ D.iA q ++ D.rA (D.inL (a.take j)) q := by
  rw [List.take_add_one, h]
  show D.atoms 0 (a.take j ++ [q]) = _
  rw [D.atoms_append, Nat.zero_add, List.append_assoc]
  cases q <;> simp [D.atoms, D.iA, D.rA, D.rN, D.txt1]
theorem D.inL_take (a : List D.Q) (j : Nat) (q : D.Q) (h : a[j]? = some q) : D.inL (a.take (j + 1)) = D.inL (a.take j) + D.in1 q := by
  rw [List.take_add_one, h]
  show D.inL (a.take j ++ [q]) = _
  rw [D.inL_append]
  rfl
theorem D.in_take_le (a : List D.Q) (j : Nat) : D.inL (a.take j) ≤ D.inL a := by
  have e := D.inL_append (a.take j) (a.drop j)
  rw [List.take_append_drop] at e
  omega
theorem D.out_take_le (a : List D.Q) (j : Nat) : D.outL (a.take j) ≤ D.outL a := by
  have e := D.outL_append (a.take j) (a.drop j)
  rw [List.take_append_drop] at e
  omega
theorem D.raw_txt (q : D.Q) : (D.raw q).t = ⟨(D.txt1 q).toArray⟩ := by cases q <;> rfl
theorem D.raw_n (q : D.Q) : (D.raw q).n = (D.in1 q : Int) := by cases q <;> rfl
def D.AtomEnd (a : List D.Q) (w : World) (e : Ending) (w' : World) : Prop := ∃ v, e = .returned v ∧ D.IntsAt (D.atoms 0 a) w v w'
end Go.Proofs.Ytmbgcbgbdjiacaa
/- DeltaRefLarge -/
namespace Go.Proofs.Ytmbgcbgbdjiacaa
open Go.RowKit

def D.wgt (p : D.P) : Int := 1 + (p.t.size : Int) + (if 0 < (if 6000 < p.n then 6000 else p.n) then (if 6000 < p.n then 6000 else p.n) else 0)
theorem D.wgt_bd (p : D.P) : 1 + (p.t.size : Int) ≤ D.wgt p ∧ D.wgt p ≤ 6001 + (p.t.size : Int) := by unfold D.wgt; split <;> split <;> omega
def D.largeF : Int → List D.P → Bool
  | n, [] => decide (6000 ≤ n)
  | n, p :: r => if n < 6000 then D.largeF (n + D.wgt p) r else true
def D.large (l : List D.P) : Bool := D.largeF 0 l
theorem D.largeF_ge {n : Int} (h : 6000 ≤ n) (l : List D.P) : D.largeF n l = true := by
  cases l with
  | nil => simp [D.largeF, h]
  | cons p r => rw [D.largeF, if_neg (by omega)]
end Go.Proofs.Ytmbgcbgbdjiacaa
