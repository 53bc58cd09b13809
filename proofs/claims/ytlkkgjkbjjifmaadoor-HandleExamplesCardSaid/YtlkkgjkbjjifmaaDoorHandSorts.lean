/- The walk of HandleSorts, of at most 12 numbers. -/
import Derived.Test.YtlkkgjkbjjifmaaDoorHandAwake
import Derived.Test.YtlkkgjkbjjifmaaDoorHandKn
namespace Go.Proofs.YtlkkgjkbjjifmaaDoor
open Go.RowKit

set_option maxRecDepth 100000 in
set_option maxHeartbeats 4000000 in
theorem handleSorts_walk (ao : Option Addr) (ca : Nat) (l : List Nat) (w : World) (hr : V.Row w ao (H.row l)) (hn : ao = none → ca = 0) (hc : l.length ≤ ca) (la : l.length ≤ 12) (hb : ∀ x ∈ l, x ≤ 18446744073709551615) (hp : H.Pow w.heap.size w) :
    Calls Tryd.prog 24 #[.slice ao l.length ca] w fun e w' => e = .returned (.bool true) ∧ Below w.heap.size w w' := by
  have HK := M10.hAw
  have HP : Hid (∀ W, Below w.heap.size w W → H.Pow W.heap.size W) := fun W hb => H.Pow.go hp hb
  clear hp
  have HC : Hid (∀ bo c W, V.Row W bo (H.row l) → Calls Tryd.prog 36 #[.slice bo l.length c] W fun e w' => ∃ v, e = .returned v ∧ H.Made l W v w') := fun bo c W h => copyHandles_any bo c l W h (by omega)
  have HR : Hid (∀ bo c W, V.Row W bo (H.row l) → Calls Tryd.prog 37 #[.slice bo l.length c] W fun e w' => ∃ v, e = .returned v ∧ H.Made (H.srt l) W v w') := fun bo c W h => refSort10_any bo c l W h (by omega) hb
  have HS : Hid (∀ bo c W, V.Row W bo (H.row l) → (bo = none → c = 0) → Calls Tryd.prog 32 #[.slice bo l.length c] W fun e w' => ∃ v, e = .returned v ∧ H.Made (H.srt l) W v w') := fun bo c W h n => sort10_any bo c l W h n (by omega) hb
  have le := H.srt_len l
  have E1 : Hid (∀ ao bo c d W, V.Row W ao (H.row (H.srt l)) → V.Row W bo (H.row (H.srt l)) → Calls Tryd.prog 31 #[.slice ao (H.srt l).length c, .slice bo (H.srt l).length d] W fun e w' => e = .returned (.bool true) ∧ Below W.heap.size W w') := fun ao bo c d W h g => by
    have := equalHandles_any ao bo c d (H.srt l) (H.srt l) W h g (by unfold maxLen; omega)
    rwa [decide_eq_true rfl] at this
  have E2 : Hid (∀ ao bo c d W, V.Row W ao (H.row l) → V.Row W bo (H.row l) → Calls Tryd.prog 31 #[.slice ao l.length c, .slice bo l.length d] W fun e w' => e = .returned (.bool true) ∧ Below W.heap.size W w') := fun ao bo c d W h g => by
    have := equalHandles_any ao bo c d l l W h g (by unfold maxLen; omega)
    rwa [decide_eq_true rfl] at this
  have hsl := fun W => H.slice_to ao l.length ca l.length hc W
  have qmin : min (l.length : Int) 1000 = (l.length : Int) := by omega
  have K0 : Hid (H.Kn w w [(ao, l)]) := ⟨Below.refl _ _, fun x hx => by simp at hx; subst hx; exact hr⟩
  have nS : Hid ((ao = none → ca = 0) ∧ l.length ≤ ca) := ⟨hn, hc⟩
  clear hr hn hc hb
  generalize H.srt l = T at *
  go_enter Tryd.func24, Tryd.ntmps24
  go_wp2_with fail
  refine (HC.out _ _ _ K0.out.r0).mono ?_
  rintro e w1 ⟨v, rfl, hm⟩
  obtain ⟨ox, cx, hv, nx, K1⟩ := K0.out.made hm
  subst hv
  clear hm K0
  go_wp2_with fail
  refine (HR.out _ _ _ K1.out.tl.r0).mono ?_
  rintro e w2 ⟨v, rfl, hm⟩
  obtain ⟨owant, cwant, hv, nwant, K2⟩ := K1.out.made hm
  subst hv
  clear hm K1
  go_wp2_with fail
  refine (HS.out _ _ _ K2.out.tl.r0 nx.out.1).mono ?_
  rintro e w3 ⟨v, rfl, hm⟩
  obtain ⟨ogot, cgot, hv, ngot, K3⟩ := K2.out.made hm
  subst hv
  have O3 : Hid (H.Ow w2 ogot cgot _ w3) := H.Ow.of hm
  have BK := Lib.hid K2.out
  clear hm K2
  go_wp2_with fail
  refine (E1.out _ _ _ _ _ K3.out.r0 K3.out.tl.r0).mono ?_
  rintro e w4 ⟨rfl, hb⟩
  have O4 := Lib.hid (O3.out.on hb)
  clear O3
  have K4 := Lib.hid (K3.out.on hb)
  clear hb K3
  go_wp2_with fail
  refine (E2.out _ _ _ _ _ K4.out.tl.tl.r0 K4.out.tl.tl.tl.r0).mono ?_
  rintro e w5 ⟨rfl, hb⟩
  have O5 := Lib.hid (O4.out.on hb)
  clear O4
  have K5 := Lib.hid (K4.out.on hb)
  clear hb K4
  clear K5
  go_wp2
  go_loopw [6] (fun i wx => ∃ j : Nat, j ≤ T.length ∧ i = .int .i64 j ∧ Hid (H.Ow w2 ogot cgot T.length wx)) (fun i _ => T.length - (intOf i).toNat)
  case atStart => exact ⟨0, Nat.zero_le _, rfl, O5⟩
  case round =>
    obtain ⟨j, hj, rfl, hO⟩ := hrel
    clear O5
    by_cases hlt : j < T.length
    · obtain ⟨gg, u, e, c0, f0, hp⟩ := hO.out.at hlt
      subst e
      have R := Lib.hid (hp 0)
      clear hO hp
      go_wp2
      go_roundw
      case rel => exact ⟨j + 1, by omega, by go_num, R⟩
      case measure => simp [intOf]; omega
    · obtain rfl : j = T.length := by omega
      have K0 := Lib.hid (BK.out.on hO.out.below)
      clear hO
      go_wp2_with fail
      refine (E2.out _ _ _ _ _ K0.out.tl.r0 K0.out.tl.tl.r0).mono ?_
      rintro e w21 ⟨rfl, hb⟩
      have K21 := Lib.hid (K0.out.on hb)
      clear hb K0
      go_wp2_with fail
      refine (HS.out _ _ _ K21.out.tl.r0 nx.out.1).mono ?_
      rintro e w22 ⟨v, rfl, hm⟩
      obtain ⟨oagain, cagain, hv, nagain, K22⟩ := K21.out.made hm
      subst hv
      clear hm K21
      go_wp2_with fail
      refine (E1.out _ _ _ _ _ K22.out.r0 K22.out.tl.r0).mono ?_
      rintro e w23 ⟨rfl, hb⟩
      have K23 := Lib.hid (K22.out.on hb)
      clear hb K22
      have KB := Lib.hid K23.out.below
      clear K23
      go_wp2_with fail
      refine (HK.out _ (HP.out _ KB.out)).mono ?_
      rintro e wk ⟨rfl, hb⟩
      have KC := Lib.hid (KB.out.trans (hb.mono KB.out.size))
      clear hb
      go_wp2
      go_ret
      exact ⟨rfl, KC.out⟩
end Go.Proofs.YtlkkgjkbjjifmaaDoor
