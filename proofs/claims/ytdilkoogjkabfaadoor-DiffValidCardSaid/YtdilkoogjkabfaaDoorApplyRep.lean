/- The contracts of apply: Replace, Insert, Delete. -/
import Derived.Test.YtdilkoogjkabfaaDoorApplyDel
import Derived.Test.YtdilkoogjkabfaaDoorPackEqv
namespace Go.Proofs.YtdilkoogjkabfaaDoor
open Go.RowKit

theorem A.norm_edit (n a k : Nat) (t : ByteArray) (ao : Option Addr) (c : Nat) (W : World) (M : D.Mk n a k t.data.toList) (ht : t.size ≤ 140737488351232) (hr : D.Row W ao ((D.edit n a k t.data.toList).map D.raw)) :
    Calls Tryd.prog 9 #[.slice ao ((D.edit n a k t.data.toList).map D.raw).length c] W (fun e w' => ∃ v, e = .returned (.tuple #[v, .int .i64 (D.mkE n a k t.data.toList)]) ∧ D.Made (D.mkP n a k t.data.toList) W v w') := by
  have hl : ((D.edit n a k t.data.toList).map D.raw).length ≤ 4 := by rw [List.length_map]; exact D.edit_len n a k _
  have htx : ∀ p ∈ (D.edit n a k t.data.toList).map D.raw, p.t.size ≤ 140737488351232 := by
    intro p hp
    rw [← D.four_kept n a k t M.range] at hp
    have hp := (List.mem_filter.1 hp).1
    simp only [D.four, List.mem_cons, List.not_mem_nil, or_false] at hp
    rcases hp with rfl | rfl | rfl | rfl
    · exact Nat.zero_le _
    · exact ht
    · exact Nat.zero_le _
    · exact Nat.zero_le _
  have := normalize_any ao c _ W (by unfold maxLen; omega) hr htx
  unfold D.NormEnd at this
  rw [M.err] at this
  rcases M.one with h | h
  · rw [h, if_pos rfl, M.made h] at this
    rw [h]; exact this
  · have e : D.mkP n a k t.data.toList = [] := by unfold D.mkP; rw [h]; rfl
    rw [h, if_neg (by decide)] at this
    rw [h, e]; exact this
end Go.Proofs.YtdilkoogjkabfaaDoor
