/- The contracts of the reference of layer 10: Slot, Gen, Next, digits, Text. -/
import Derived.Test.YtndpknkdmaojaaaDoorHandRef1
import Derived.Test.YtndpknkdmaojaaaDoorPackSrc
namespace Go.Proofs.YtndpknkdmaojaaaDoor
open Go.RowKit

theorem H.gen_le {h : Nat} (h1 : h ≤ 18446744073709551615) : H.gen h ≤ 281474976710655 := by unfold H.gen; omega
theorem H.slot_lt (h : Nat) : H.slot h < 65536 := by unfold H.slot; omega
theorem H.ck_ok {h : Nat} (k : H.Ok h) : H.ckE h = 0 ∧ H.slotV h = (H.slot h : Nat) ∧ H.genV h = (H.gen h : Nat) := ⟨if_pos k, if_pos k, if_pos k⟩
theorem H.ck_bad {h : Nat} (k : ¬ H.Ok h) : H.ckE h = 2 ∧ H.slotV h = 0 ∧ H.genV h = 0 := ⟨if_neg k, if_neg k, if_neg k⟩
theorem refSlot10_any (h : Nat) (h1 : h ≤ 18446744073709551615) (w : World) :
    Calls Tryd.prog 36 #[.int .u64 (h : Int)] w fun e w' => e = .returned (.tuple #[.int .i64 (H.slotV h), .int .i64 (H.ckE h)]) ∧ w = w' := by
  have HC := Lib.hid (refCheck10_any h h1 w)
  have m := H.tmod h
  have hs := H.slot_lt h
  by_cases k : H.Ok h
  · obtain ⟨e1, e2, _⟩ := H.ck_ok k
    rw [e1] at HC ⊢
    rw [e2]
    clear e1 e2 k
    generalize H.slot h = s at *
    go_enter Tryd.func36, Tryd.ntmps36
    go_wp2_with fail
    refine HC.out.mono ?_
    rintro e w1 ⟨rfl, rfl⟩
    go_wp2
    go_ret2
    exact ⟨rfl, rfl⟩
  · obtain ⟨e1, e2, _⟩ := H.ck_bad k
    rw [e1] at HC ⊢
    rw [e2]
    clear e1 e2 k
    go_enter Tryd.func36, Tryd.ntmps36
    go_wp2_with fail
    refine HC.out.mono ?_
    rintro e w1 ⟨rfl, rfl⟩
    go_wp2
    go_ret2
    exact ⟨rfl, rfl⟩
theorem refGen10_any (h : Nat) (h1 : h ≤ 18446744073709551615) (w : World) :
    Calls Tryd.prog 45 #[.int .u64 (h : Int)] w fun e w' => e = .returned (.tuple #[.int .u64 (H.genV h), .int .i64 (H.ckE h)]) ∧ w = w' := by
  have HC := Lib.hid (refCheck10_any h h1 w)
  have m := H.tdiv h
  have hs := H.gen_le h1
  by_cases k : H.Ok h
  · obtain ⟨e1, _, e2⟩ := H.ck_ok k
    rw [e1] at HC ⊢
    rw [e2]
    clear e1 e2 k
    generalize H.gen h = s at *
    go_enter Tryd.func45, Tryd.ntmps45
    go_wp2_with fail
    refine HC.out.mono ?_
    rintro e w1 ⟨rfl, rfl⟩
    go_wp2
    go_ret2
    exact ⟨rfl, rfl⟩
  · obtain ⟨e1, _, e2⟩ := H.ck_bad k
    rw [e1] at HC ⊢
    rw [e2]
    clear e1 e2 k
    go_enter Tryd.func45, Tryd.ntmps45
    go_wp2_with fail
    refine HC.out.mono ?_
    rintro e w1 ⟨rfl, rfl⟩
    go_wp2
    go_ret2
    exact ⟨rfl, rfl⟩
/-! ### digits, Text -/
def H.DigEnd (n : Nat) (w : World) (e : Ending) (w' : World) : Prop := e = .returned (.string ⟨(D.digs n).toArray⟩) ∧ Below w.heap.size w w'
end Go.Proofs.YtndpknkdmaojaaaDoor
