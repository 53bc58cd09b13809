/- The examples that every statement of stage 9 asks. -/
import Derived.Test.YtmbgcbgbdjiacaaPackMLaw
namespace Go.Proofs.Ytmbgcbgbdjiacaa
open Go.RowKit

def J.kd : List K.M := [⟨1, 3, 0⟩, ⟨5, 3, 1⟩, ⟨9, 0, 0⟩]
def J.kp : List D.P := [⟨1, 3, ⟨#[]⟩⟩, ⟨2, 0, ⟨#[97, 98]⟩⟩]
theorem J.kd_fit : J.Fits J.kd := fun m hm => by
  simp only [J.kd, List.mem_cons, List.not_mem_nil, or_false] at hm
  rcases hm with rfl | rfl | rfl <;> constructor <;> decide
theorem J.kp_bd : D.Bd J.kp := D.bd_of (by decide)
theorem J.k1 : K.setE J.kd ⟨5, 7, 0⟩ = 0 ∧ K.setL J.kd ⟨5, 7, 0⟩ = [⟨1, 3, 0⟩, ⟨5, 7, 0⟩, ⟨9, 0, 0⟩] := by decide
theorem J.k2 : K.drpE J.kd 2 = 7 ∧ K.drpL J.kd 2 = [] := by decide
theorem J.k3 : K.fnd J.kd 9 = ⟨9, 0, 0⟩ ∧ (K.find J.kd 9).isSome = true := by decide
theorem J.k4 : K.shE J.kd J.kp = 0 ∧ K.shL J.kd J.kp = [⟨1, 3, 0⟩, ⟨5, 5, 1⟩, ⟨9, 0, 0⟩] := by decide
theorem J.k5 : K.btw J.kd 0 3 = [⟨9, 0, 0⟩, ⟨1, 3, 0⟩, ⟨5, 3, 1⟩] := by decide
theorem J.k6 : K.chk 3 J.kd = 0 ∧ K.chk 2 J.kd = 3 := by decide
set_option maxRecDepth 100000 in
set_option maxHeartbeats 4000000 in
theorem known9_any (w : World) : Calls Try.prog 15 #[] w fun e w' => e = .returned (.bool true) ∧ Below w.heap.size w w' := by
  have K0 := Lib.hid (J.mlit (J.Kn0 w) J.kd)
  have la : J.kd.length ≤ maxLen := by decide
  have H1 := J.hSet J.kd ⟨5, 7, 0⟩ la J.kd_fit (by constructor <;> decide)
  have H2 := J.hDrp J.kd 2 la J.kd_fit
  have H3 := J.hFnd J.kd 9 la
  have H4 := J.hSh J.kd J.kp la J.kd_fit J.kp_bd
  have H5 := J.hBtw J.kd 0 3 (by decide)
  have H6 := J.hChk 3 J.kd la J.kd_fit
  have H7 := J.hChk 2 J.kd la J.kd_fit
  rw [J.k1.1, J.k1.2] at H1
  rw [J.k2.1, J.k2.2] at H2
  rw [J.k3.1, J.k3.2] at H3
  rw [J.k4.1, J.k4.2] at H4
  rw [J.k5] at H5
  rw [J.k6.1] at H6
  rw [J.k6.2] at H7
  rw [show J.kd.length = 3 from rfl] at H1 H2 H3 H4 H5 H6 H7
  rw [show J.kp.length = 2 from rfl] at H4
  dsimp only at H3
  clear la
  go_enter Try.func15, Try.ntmps15
  go_wp2_with fail
  change Calls _ _ _ (w.alloc (.cells (K.cellsM J.kd).toArray 32)) _
  generalize w.alloc (.cells (K.cellsM J.kd).toArray 32) = w1 at K0 ⊢
  refine (H1.out _ _ _ K0.out.m0 (fun h => nomatch h)).mono ?_
  rintro e w2 ⟨v, rfl, hm⟩
  obtain ⟨oS, cS, hv, _, K1⟩ := J.mmade K0.out hm
  subst hv
  clear hm K0
  go_wp2_with fail
  refine (H2.out _ _ _ K1.out.mt.m0 (fun h => nomatch h)).mono ?_
  rintro e w3 ⟨v, rfl, hm⟩
  have K2 := Lib.hid (K1.out.on hm.below)
  clear hm K1
  go_wp2_with fail
  refine (H3.out _ _ _ K2.out.mt.m0).mono ?_
  rintro e w4 ⟨rfl, hb⟩
  have K3 := Lib.hid (J.mlit (K2.out.on hb) [⟨9, 0, 0⟩])
  clear hb K2
  have KB := Lib.hid (J.plit K3.out J.kp)
  rw [World.size_alloc] at KB
  clear K3
  go_wp2_with fail
  change Calls _ _ _ ((w4.alloc (.cells (K.cellsM [⟨9, 0, 0⟩]).toArray 32)).alloc (.cells (D.cellsL J.kp).toArray 53)) _
  generalize (w4.alloc (.cells (K.cellsM [⟨9, 0, 0⟩]).toArray 32)).alloc (.cells (D.cellsL J.kp).toArray 53) = w5 at KB ⊢
  refine (H4.out _ _ _ _ _ KB.out.mt.mt.m0 (fun h => nomatch h) KB.out.p0).mono ?_
  rintro e w6 ⟨v, rfl, hm⟩
  obtain ⟨oT, cT, hv, _, K4⟩ := J.mmade KB.out hm
  subst hv
  clear hm KB
  go_wp2_with fail
  refine (H5.out _ _ _ K4.out.mt.mt.mt.m0).mono ?_
  rintro e w7 ⟨v, rfl, hm⟩
  obtain ⟨oB, cB, hv, _, K5⟩ := J.mmade K4.out hm
  subst hv
  clear hm K4
  go_wp2_with fail
  refine (H6.out _ _ _ K5.out.mt.mt.mt.mt.m0).mono ?_
  rintro e w8 ⟨rfl, hb⟩
  have K6 := Lib.hid (K5.out.on hb)
  clear hb K5
  go_wp2_with fail
  refine (H7.out _ _ _ K6.out.mt.mt.mt.mt.m0).mono ?_
  rintro e w9 ⟨rfl, hb⟩
  have K7 := Lib.hid (K6.out.on hb)
  clear hb K6
  obtain ⟨bB, qB, eB, _, b0, _, _⟩ := K7.out.m0 0 ⟨9, 0, 0⟩ rfl
  obtain ⟨_, _, eB2, _, b2, _, _⟩ := K7.out.m0 2 ⟨5, 3, 1⟩ rfl
  obtain ⟨bT, qT, eT, _, _, t0, _⟩ := K7.out.mt.m0 0 ⟨1, 3, 0⟩ rfl
  obtain ⟨_, _, eT2, _, _, t1, _⟩ := K7.out.mt.m0 1 ⟨5, 5, 1⟩ rfl
  obtain ⟨_, _, eM, _, m0, _, _⟩ := K7.out.mt.mt.m0 0 ⟨9, 0, 0⟩ rfl
  obtain ⟨bS, qS, eS, _, _, s1, _⟩ := K7.out.mt.mt.mt.m0 1 ⟨5, 7, 0⟩ rfl
  have R := Lib.hid K7.out.below
  clear K7 H1 H2 H3 H4 H5 H6 H7
  subst eB eT eS
  cases eB2
  cases eT2
  cases eM
  simp only [Nat.zero_mul, Nat.add_zero, Nat.one_mul] at b0 b2 t0 t1 m0 s1
  go_wp2
  go_ret
  exact ⟨rfl, R.out⟩
theorem J.hKnown : Hid (∀ W, Calls Try.prog 15 #[] W (fun e w' => e = .returned (.bool true) ∧ Below W.heap.size W w')) := fun W => known9_any W
end Go.Proofs.Ytmbgcbgbdjiacaa
