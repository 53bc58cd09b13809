/- The walk of DeltaIdentity. -/
import Derived.Test.YtmjoijloflinnaaDoorDeltaOwnLaw
namespace Go.Proofs.YtmjoijloflinnaaDoor
open Go.RowKit

theorem D.same_refl (l : List D.P) : D.same l l = true := (D.same_iff l l).2 rfl
theorem same_self (W : World) (ao bo : Option Addr) (c d : Nat) (l : List D.P) (h : D.Row W ao l) (g : D.Row W bo l) (hl : l.length ≤ maxLen) : Calls Tryd.prog 21 #[.slice ao l.length c, .slice bo l.length d] W (fun e w' => e = .returned (.bool true) ∧ Below W.heap.size W w') := by
  have := refSame_any ao bo c d l l W h g hl hl
  rw [D.same_refl] at this
  exact this
set_option maxHeartbeats 1000000 in
theorem deltaIdentity_walk (n : Int) (w : World) (h0 : -9223372036854775808 ≤ n) (h1 : n < 9223372036854775808) (hp : D.Pow w.heap.size w) :
    Calls Tryd.prog 7 #[.int .i64 n] w fun e w' => e = .returned (.bool true) ∧ Below w.heap.size w w' := by
  have H1 : Hid (∀ W, Calls Tryd.prog 29 #[.int .i64 n] W (D.IdEnd n W)) := fun W => identity_any n h0 h1 W
  have H2 : Hid (∀ W, Calls Tryd.prog 30 #[.int .i64 n] W (D.IdEnd n W)) := fun W => refIdentity_any n h0 h1 W
  unfold D.IdEnd at H1 H2
  have hl : (D.idP n).length ≤ maxLen := by unfold D.idP; split <;> (unfold maxLen; simp)
  have Hl := Lib.hid hl
  have Hp := Lib.hid hp
  have K0 : Hid (D.Kn w w []) := ⟨Below.refl _ _, fun x hx => by cases hx⟩
  generalize D.idE n = c at H1 H2
  generalize D.idP n = l at H1 H2 Hl
  clear hp hl h0 h1
  go_enter Tryd.func7, Tryd.ntmps7
  go_wp2_with fail
  refine (H1.out _).mono ?_
  rintro e w1 ⟨v, rfl, hm⟩
  obtain ⟨a1, c1, hv, K1⟩ := K0.out.made hm
  subst hv
  clear hm K0
  go_wp2_with fail
  refine (H2.out _).mono ?_
  rintro e w2 ⟨v, rfl, hm⟩
  obtain ⟨a2, c2, hv, K2⟩ := K1.out.made hm
  subst hv
  clear hm K1
  go_wp2_with fail
  refine (same_self _ _ _ _ _ l K2.out.tl.r0 K2.out.r0 Hl.out).mono ?_
  rintro e w3 ⟨rfl, hb⟩
  have K3 := Lib.hid (K2.out.on hb).below
  clear hb K2
  go_wp2_with fail
  refine (dknown_any _ ((Hp.out.on K3.out).mono K3.out.size)).mono ?_
  rintro e w4 ⟨rfl, hb⟩
  have K4 := Lib.hid (K3.out.trans (hb.mono K3.out.size))
  clear hb K3
  go_wp2
  go_ret
  exact ⟨rfl, K4.out⟩
end Go.Proofs.YtmjoijloflinnaaDoor
