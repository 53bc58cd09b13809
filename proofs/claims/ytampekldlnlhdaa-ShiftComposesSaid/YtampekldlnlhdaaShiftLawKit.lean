/- The contracts of layer 6 as its laws meet them; the examples that every statement of stage 6 asks; both. -/
import Derived.Test.YtampekldlnlhdaaLawKit
import Derived.Test.YtampekldlnlhdaaPackSRef
namespace Go.Proofs.Ytampekldlnlhdaa
open Go.RowKit

theorem L.hPos (x : List D.P) (hx : D.Bd x) (p g : Int) (g0 : 0 ≤ g) : Hid (∀ ao c W, D.Row W ao x → Calls Try.prog 14 #[.slice ao x.length c, .int .i64 p, .int .u8 g] W (fun e w' => e = .returned (.tuple #[.int .i64 (D.posV x p g), .int .i64 (D.posE x p g)]) ∧ Below W.heap.size W w')) := fun ao c W h => position_any ao c x p g g0 W h hx
theorem L.hPos' (x : List D.P) (hx : D.Bd x) (p g : Int) (g0 : 0 ≤ g) : Hid (∀ ao c W, D.Row W ao x → Calls Try.prog 15 #[.slice ao x.length c, .int .i64 p, .int .u8 g] W (fun e w' => e = .returned (.tuple #[.int .i64 (D.posV x p g), .int .i64 (D.posE x p g)]) ∧ Below W.heap.size W w')) := fun ao c W h => refPosition_any ao c x p g g0 W h hx
theorem L.hBck (x : List D.P) (hx : D.Bd x) (p g : Int) (g0 : 0 ≤ g) : Hid (∀ ao c W, D.Row W ao x → Calls Try.prog 16 #[.slice ao x.length c, .int .i64 p, .int .u8 g] W (fun e w' => e = .returned (.tuple #[.int .i64 (D.bckV x p g), .int .i64 (D.bckE x p g)]) ∧ Below W.heap.size W w')) := fun ao c W h => back_any ao c x p g g0 W h hx
theorem L.hBck' (x : List D.P) (hx : D.Bd x) (p g : Int) (g0 : 0 ≤ g) : Hid (∀ ao c W, D.Row W ao x → Calls Try.prog 17 #[.slice ao x.length c, .int .i64 p, .int .u8 g] W (fun e w' => e = .returned (.tuple #[.int .i64 (D.bckV x p g), .int .i64 (D.bckE x p g)]) ∧ Below W.heap.size W w')) := fun ao c W h => refBack_any ao c x p g g0 W h hx
theorem L.hKep (x : List D.P) (hx : D.Bd x) (p : Int) : Hid (∀ ao c W, D.Row W ao x → Calls Try.prog 20 #[.slice ao x.length c, .int .i64 p] W (fun e w' => e = .returned (.tuple #[.int .i64 (D.kepV x p), .bool (D.kepI x p), .int .i64 (D.kepE x p)]) ∧ Below W.heap.size W w')) := fun ao c W h => kept6_any ao c x p W h hx
theorem L.hKep' (x : List D.P) (hx : D.Bd x) (p : Int) : Hid (∀ ao c W, D.Row W ao x → Calls Try.prog 21 #[.slice ao x.length c, .int .i64 p] W (fun e w' => e = .returned (.tuple #[.int .i64 (D.kepV x p), .bool (D.kepI x p), .int .i64 (D.kepE x p)]) ∧ Below W.heap.size W w')) := fun ao c W h => refKept6_any ao c x p W h hx
theorem L.hRng (x : List D.P) (hx : D.Bd x) (f t : Int) : Hid (∀ ao c W, D.Row W ao x → Calls Try.prog 22 #[.slice ao x.length c, .int .i64 f, .int .i64 t] W (fun e w' => e = .returned (.tuple #[.int .i64 (D.rngA x f t), .int .i64 (D.rngB x f t), .int .i64 (D.rngE x f t)]) ∧ Below W.heap.size W w')) := fun ao c W h => range_any ao c x f t W h hx
theorem L.hRng' (x : List D.P) (hx : D.Bd x) (f t : Int) : Hid (∀ ao c W, D.Row W ao x → Calls Try.prog 23 #[.slice ao x.length c, .int .i64 f, .int .i64 t] W (fun e w' => e = .returned (.tuple #[.int .i64 (D.rngA x f t), .int .i64 (D.rngB x f t), .int .i64 (D.rngE x f t)]) ∧ Below W.heap.size W w')) := fun ao c W h => refRange_any ao c x f t W h hx
theorem L.hExt (x : List D.P) (hx : D.Bd x) : Hid (∀ ao c W, D.Row W ao x → Calls Try.prog 24 #[.slice ao x.length c] W (fun e w' => e = .returned (.tuple #[.int .i64 (D.xtF x), .int .i64 (D.xtT x), .int .i64 (D.xtF x), .int .i64 (D.xtE x), .int .i64 (D.chk x)]) ∧ Below W.heap.size W w')) := fun ao c W h => extent_any ao c x W h hx
theorem L.hExt' (x : List D.P) (hx : D.Bd x) : Hid (∀ ao c W, D.Row W ao x → Calls Try.prog 25 #[.slice ao x.length c] W (fun e w' => e = .returned (.tuple #[.int .i64 (D.xtF x), .int .i64 (D.xtT x), .int .i64 (D.xtF x), .int .i64 (D.xtE x), .int .i64 (D.chk x)]) ∧ Below W.heap.size W w')) := fun ao c W h => refExtent_any ao c x W h hx
def S.kd : List D.P := [⟨1, 2, ⟨#[]⟩⟩, ⟨2, 0, ⟨#[120, 121, 122]⟩⟩, ⟨3, 2, ⟨#[]⟩⟩, ⟨1, 1, ⟨#[]⟩⟩]
theorem S.kd_bd : D.Bd S.kd := D.bd_of (by decide)
theorem S.k1 : D.posV S.kd 3 0 = 2 ∧ D.posE S.kd 3 0 = 0 := by decide
theorem S.k2 : D.posV S.kd 2 1 = 5 ∧ D.posE S.kd 2 1 = 0 := by decide
theorem S.k3 : D.posV S.kd 6 0 = 0 ∧ D.posE S.kd 6 0 = 3 := by decide
theorem S.k4 : D.bckV S.kd 3 1 = 4 ∧ D.bckE S.kd 3 1 = 0 := by decide
theorem S.k5 : D.kepV S.kd 4 = 5 ∧ D.kepI S.kd 4 = true ∧ D.kepE S.kd 4 = 0 := by decide
theorem S.k6 : D.rngA S.kd 2 4 = 2 ∧ D.rngB S.kd 2 4 = 2 ∧ D.rngE S.kd 2 4 = 0 := by decide
theorem S.k7 : D.xtF S.kd = 2 ∧ D.xtT S.kd = 4 ∧ D.xtE S.kd = 5 ∧ D.chk S.kd = 0 := by decide
set_option maxRecDepth 100000 in
set_option maxHeartbeats 4000000 in
theorem known6_any (w : World) : Calls Try.prog 19 #[] w fun e w' => e = .returned (.bool true) ∧ Below w.heap.size w w' := by
  have K0 : Hid (D.Kn w (w.alloc (.cells (D.cellsL S.kd).toArray 66)) [(some ⟨w.heap.size, 0, none⟩, S.kd)]) := D.Kn.add ⟨(Below.refl _ _).alloc (Nat.le_refl _) _, fun x hx => by cases hx⟩ _ _ (D.row_lit w S.kd)
  have H1 := L.hPos S.kd S.kd_bd 3 0 (by decide)
  have H2 := L.hPos S.kd S.kd_bd 2 1 (by decide)
  have H3 := L.hPos S.kd S.kd_bd 6 0 (by decide)
  have H4 := L.hBck S.kd S.kd_bd 3 1 (by decide)
  have H5 := L.hKep S.kd S.kd_bd 4
  have H6 := L.hRng S.kd S.kd_bd 2 4
  have H7 := L.hExt S.kd S.kd_bd
  rw [S.k1.1, S.k1.2] at H1
  rw [S.k2.1, S.k2.2] at H2
  rw [S.k3.1, S.k3.2] at H3
  rw [S.k4.1, S.k4.2] at H4
  rw [S.k5.1, S.k5.2.1, S.k5.2.2] at H5
  rw [S.k6.1, S.k6.2.1, S.k6.2.2] at H6
  rw [S.k7.1, S.k7.2.1, S.k7.2.2.1, S.k7.2.2.2] at H7
  rw [show S.kd.length = 4 from rfl] at H1 H2 H3 H4 H5 H6 H7
  go_enter Try.func19, Try.ntmps19
  go_wp2_with fail
  change Calls _ _ _ (w.alloc (.cells (D.cellsL S.kd).toArray 66)) _
  generalize w.alloc (.cells (D.cellsL S.kd).toArray 66) = w1 at K0 ⊢
  refine (H1.out _ _ _ K0.out.r0).mono ?_
  rintro e w2 ⟨rfl, hb⟩
  have K1 := Lib.hid (K0.out.on hb)
  clear hb K0
  go_wp2_with fail
  refine (H2.out _ _ _ K1.out.r0).mono ?_
  rintro e w3 ⟨rfl, hb⟩
  have K2 := Lib.hid (K1.out.on hb)
  clear hb K1
  go_wp2_with fail
  refine (H3.out _ _ _ K2.out.r0).mono ?_
  rintro e w4 ⟨rfl, hb⟩
  have K3 := Lib.hid (K2.out.on hb)
  clear hb K2
  go_wp2_with fail
  refine (H4.out _ _ _ K3.out.r0).mono ?_
  rintro e w5 ⟨rfl, hb⟩
  have K4 := Lib.hid (K3.out.on hb)
  clear hb K3
  go_wp2_with fail
  refine (H5.out _ _ _ K4.out.r0).mono ?_
  rintro e w6 ⟨rfl, hb⟩
  have K5 := Lib.hid (K4.out.on hb)
  clear hb K4
  go_wp2_with fail
  refine (H6.out _ _ _ K5.out.r0).mono ?_
  rintro e w7 ⟨rfl, hb⟩
  have K6 := Lib.hid (K5.out.on hb)
  clear hb K5
  go_wp2_with fail
  refine (H7.out _ _ _ K6.out.r0).mono ?_
  rintro e w8 ⟨rfl, hb⟩
  have R := Lib.hid (K6.out.on hb).below
  clear hb K6
  go_wp2
  go_ret
  exact ⟨rfl, R.out⟩
theorem L.hKnown : Hid (∀ W, Calls Try.prog 19 #[] W (fun e w' => e = .returned (.bool true) ∧ Below W.heap.size W w')) := fun W => known6_any W
set_option maxRecDepth 100000 in
set_option maxHeartbeats 4000000 in
theorem L.hBoth (x : List D.P) (hf : x.length * 32 ≤ 140737488351232) (hx : D.Bd x) (p : Int) : Hid (∀ ao c W, D.Row W ao x → (ao = none → c = 0) → Calls Try.prog 28 #[.slice ao x.length c, .int .i64 p] W (fun e w' => e = .returned (.tuple #[.int .i64 (D.posV x p 0), .int .i64 (D.posV x p 1), .bool (decide (D.posE x p 0 = 0))]) ∧ Below W.heap.size W w')) := fun ao c w hr hn => by
  have HO := L.hOwn x hf
  have H1 := L.hPos x hx p 0 (by decide)
  have H2 := L.hPos x hx p 1 (by decide)
  rw [D.posE_both] at H2
  have K : Hid (D.Kn w w [(ao, x)]) := ⟨Below.refl _ _, fun y hy => by simp at hy; subst hy; exact hr⟩
  have nS := Lib.hid hn
  generalize D.posE x p 0 = k at H1 H2 ⊢
  generalize D.posV x p 0 = v1 at H1 ⊢
  generalize D.posV x p 1 = v2 at H2 ⊢
  clear hr hn hf hx
  by_cases h : k = 0
  · subst h
    go_enter Try.func28, Try.ntmps28
    go_wp2_with fail
    refine (HO.out _ _ _ K.out.r0 nS.out).mono ?_
    rintro e w1 ⟨v, rfl, hm⟩
    obtain ⟨o1, c1, hv, n1, K1⟩ := L.made5 K.out hm
    subst hv
    clear hm K
    go_wp2_with fail
    refine (H1.out _ _ _ K1.out.r0).mono ?_
    rintro e w2 ⟨rfl, hb⟩
    have K2 := Lib.hid (K1.out.on hb)
    clear hb K1
    go_wp2_with fail
    refine (HO.out _ _ _ K2.out.tl.r0 nS.out).mono ?_
    rintro e w3 ⟨v, rfl, hm⟩
    obtain ⟨o2, c2, hv, n2, K3⟩ := L.made5 K2.out hm
    subst hv
    clear hm K2
    go_wp2_with fail
    refine (H2.out _ _ _ K3.out.r0).mono ?_
    rintro e w4 ⟨rfl, hb⟩
    have K4 := Lib.hid (K3.out.on hb).below
    clear hb K3
    go_wp2
    go_ret3
    exact ⟨rfl, K4.out⟩
  · have q : (k == 0) = false := by simpa using h
    rw [decide_eq_false h]
    go_enter Try.func28, Try.ntmps28
    go_wp2_with fail
    refine (HO.out _ _ _ K.out.r0 nS.out).mono ?_
    rintro e w1 ⟨v, rfl, hm⟩
    obtain ⟨o1, c1, hv, n1, K1⟩ := L.made5 K.out hm
    subst hv
    clear hm K
    go_wp2_with fail
    refine (H1.out _ _ _ K1.out.r0).mono ?_
    rintro e w2 ⟨rfl, hb⟩
    have K2 := Lib.hid (K1.out.on hb)
    clear hb K1
    go_wp2_with fail
    refine (HO.out _ _ _ K2.out.tl.r0 nS.out).mono ?_
    rintro e w3 ⟨v, rfl, hm⟩
    obtain ⟨o2, c2, hv, n2, K3⟩ := L.made5 K2.out hm
    subst hv
    clear hm K2
    go_wp2_with fail
    refine (H2.out _ _ _ K3.out.r0).mono ?_
    rintro e w4 ⟨rfl, hb⟩
    have K4 := Lib.hid (K3.out.on hb).below
    clear hb K3
    go_wp2
    go_ret3
    exact ⟨rfl, K4.out⟩
end Go.Proofs.Ytampekldlnlhdaa
