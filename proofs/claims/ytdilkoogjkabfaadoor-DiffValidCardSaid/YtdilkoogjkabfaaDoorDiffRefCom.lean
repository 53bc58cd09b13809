/- The contract of the reference's Common. -/
import Derived.Test.YtdilkoogjkabfaaDoorDiffCom
import Derived.Deep.DeepCutAuto
import Derived.Deep.CutBlock
namespace Go.Proofs.YtdilkoogjkabfaaDoor
open Go.RowKit

theorem F.gr_pred (P : Nat → Bool) (k : Nat) : F.gr P k = if P k = true then k else F.gr P (k - 1) := by
  cases k with
  | zero => unfold F.gr; split <;> rfl
  | succ k => rw [F.gr_succ]; rfl
theorem F.byte_lt (c : UInt8) : c.toNat < 256 := UInt8.toNat_lt c
end Go.Proofs.YtdilkoogjkabfaaDoor
