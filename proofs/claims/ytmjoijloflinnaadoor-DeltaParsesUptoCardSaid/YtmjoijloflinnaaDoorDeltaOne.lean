/- The contract of the reference's half. -/
import Derived.Test.YtmjoijloflinnaaDoorDeltaText
import Derived.Deep.DeepCutAuto
import Derived.Deep.CutBlock
namespace Go.Proofs.YtmjoijloflinnaaDoor
open Go.RowKit

set_option maxHeartbeats 1000000 in
theorem refHalf_any (c : Nat) (hc : c < 256) (w : World) : Calls Tryd.prog 56 #[.int .u8 c] w (fun e w' => e = .returned (.int .u8 (D.half c)) ∧ w = w') := by
  by_cases h1 : 48 ≤ c
  · by_cases h2 : c ≤ 57
    · have e : (D.half c : Int) = (c : Int) - 48 := by unfold D.half; rw [if_pos ⟨h1, h2⟩]; omega
      rw [e]
      have g1 : (48 : Int) ≤ c := by omega
      have g2 : (c : Int) ≤ 57 := by omega
      go_enter Tryd.func56, Tryd.ntmps56
      go_wp2
      go_ret
      exact ⟨rfl, rfl⟩
    · by_cases h3 : 97 ≤ c
      · by_cases h4 : c ≤ 102
        · have e : (D.half c : Int) = (c : Int) - 97 + 10 := by unfold D.half; rw [if_neg (by omega), if_pos ⟨h3, h4⟩]; omega
          rw [e]
          go_enter Tryd.func56, Tryd.ntmps56
          go_wp2
          go_ret
          exact ⟨rfl, rfl⟩
        · have e : (D.half c : Int) = 16 := by unfold D.half; rw [if_neg (by omega), if_neg (by omega)]; rfl
          rw [e]
          go_enter Tryd.func56, Tryd.ntmps56
          go_wp2
          go_ret
          exact ⟨rfl, rfl⟩
      · have e : (D.half c : Int) = 16 := by unfold D.half; rw [if_neg (by omega), if_neg (by omega)]; rfl
        rw [e]
        go_enter Tryd.func56, Tryd.ntmps56
        go_wp2
        go_ret
        exact ⟨rfl, rfl⟩
  · have e : (D.half c : Int) = 16 := by unfold D.half; rw [if_neg (by omega), if_neg (by omega)]; rfl
    rw [e]
    go_enter Tryd.func56, Tryd.ntmps56
    go_wp2
    go_ret
    exact ⟨rfl, rfl⟩
end Go.Proofs.YtmjoijloflinnaaDoor
