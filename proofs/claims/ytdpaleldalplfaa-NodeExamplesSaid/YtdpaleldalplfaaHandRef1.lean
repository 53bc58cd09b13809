/- The contracts of the reference of layer 10: Make, Check, Slot, Gen, Next, Before. -/
import Derived.Test.YtdpaleldalplfaaProg
import Derived.Test.YtdpaleldalplfaaHandleMath
import Derived.Test.YtdpaleldalplfaaDeltaRef1
namespace Go.Proofs.Ytdpaleldalplfaa
open Go.RowKit

/-- What the program's divisions by 65,536 are. -/
theorem H.tdiv (h : Nat) : (h : Int).tdiv 65536 = (H.gen h : Nat) := by rw [Int.tdiv_eq_ediv_of_nonneg (by omega)]; unfold H.gen; omega
theorem H.tmod (h : Nat) : (h : Int).tmod 65536 = (H.slot h : Nat) := by rw [Int.tmod_eq_emod_of_nonneg (by omega)]; unfold H.slot; omega
theorem H.mod_bd (h : Nat) : (0 : Int) ≤ (H.slot h : Nat) ∧ ((H.slot h : Nat) : Int) < 65536 := by have := Nat.mod_lt h (show 0 < 65536 by decide); unfold H.slot; omega
set_option maxRecDepth 100000 in
set_option maxHeartbeats 1000000 in
theorem refCheck10_any (h : Nat) (h1 : h ≤ 18446744073709551615) (w : World) :
    Calls Try.prog 86 #[.int .u64 (h : Int)] w fun e w' => e = .returned (.int .i64 (H.ckE h)) ∧ w = w' := by
  have d := H.tdiv h
  have m := H.tmod h
  have bad : ¬ H.Ok h → H.ckE h = 2 := fun k => if_neg k
  have good : H.Ok h → H.ckE h = 0 := fun k => if_pos k
  obtain ⟨s, hs⟩ : ∃ s : Int, s = (H.slot h : Nat) := ⟨_, rfl⟩
  obtain ⟨g, hg⟩ : ∃ g : Int, g = (H.gen h : Nat) := ⟨_, rfl⟩
  have s0 : 0 ≤ s := by omega
  have s2 : s < 65536 := by have := Nat.mod_lt h (show 0 < 65536 by decide); unfold H.slot at hs; omega
  have g0 : 0 ≤ g := by omega
  have g2 : g ≤ 281474976710655 := by unfold H.gen at hg; omega
  have hok : H.Ok h ↔ s < 16384 ∧ 1 ≤ g ∧ g ≤ 4294967295 := ⟨fun k => by have := k.1; have := k.2; have := k.3; omega, fun k => ⟨by omega, by omega, by omega⟩⟩
  rw [← hg] at d
  rw [← hs] at m
  clear hs hg
  generalize H.ckE h = c at *
  by_cases k1 : 16384 ≤ s
  · obtain rfl := bad (fun k => by have := hok.1 k; omega)
    clear bad good hok
    go_enter Try.func86, Try.ntmps86
    go_wp2
    go_ret
    exact ⟨rfl, rfl⟩
  · by_cases k2 : g < 1
    · obtain rfl := bad (fun k => by have := hok.1 k; omega)
      clear bad good hok
      go_enter Try.func86, Try.ntmps86
      go_wp2
      go_ret
      exact ⟨rfl, rfl⟩
    · by_cases k3 : 4294967295 < g
      · obtain rfl := bad (fun k => by have := hok.1 k; omega)
        clear bad good hok
        go_enter Try.func86, Try.ntmps86
        go_wp2
        go_ret
        exact ⟨rfl, rfl⟩
      · obtain rfl := good (hok.2 ⟨by omega, by omega, by omega⟩)
        clear bad good hok
        go_enter Try.func86, Try.ntmps86
        go_wp2
        go_ret
        exact ⟨rfl, rfl⟩
end Go.Proofs.Ytdpaleldalplfaa
