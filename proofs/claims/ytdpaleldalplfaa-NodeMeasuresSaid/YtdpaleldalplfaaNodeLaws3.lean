/- The walk of NodeMeasures. -/
import Derived.Test.YtdpaleldalplfaaNodeLaws0
import Derived.Test.YtdpaleldalplfaaMeasAdd
namespace Go.Proofs.Ytdpaleldalplfaa
open Go.RowKit

/-- Two measures in a row. -/
def N.six (a b c x y z : Int) : Array Value := #[.int .i64 a, .int .i64 b, .int .i64 c, .int .i64 x, .int .i64 y, .int .i64 z]
theorem N.add2_any (a b c x y z : Int) (ha : 0 ≤ a ∧ a ≤ 1000000 ∧ 0 ≤ x ∧ x ≤ 1000000) (hb : 0 ≤ b ∧ b ≤ 1000000 ∧ 0 ≤ y ∧ y ≤ 1000000) (hc : 0 ≤ c ∧ c ≤ 1000000 ∧ 0 ≤ z ∧ z ≤ 1000000) (g cc : Nat) (W : World) (hg : W.heap[g]? = some (.cells (N.six a b c x y z) 27 (0, 0))) :
    Calls Try.prog 40 #[.slice (some ⟨g, 0, none⟩) 2 cc] W fun e w' => e = .returned (.agg #[.int .i64 (a + x), .int .i64 (b + y), .int .i64 (c + z)]) ∧ Below W.heap.size W w' := by
  have hlt := (Array.getElem?_eq_some_iff.1 hg).1
  obtain ⟨F, hF⟩ : ∃ F : Nat → Nat → Int, F = fun i j => if i = 0 then (if j = 0 then a else if j = 1 then b else c) else (if j = 0 then x else if j = 1 then y else z) := ⟨_, rfl⟩
  have e : ∀ p q : Int, 0 ≤ p → p ≤ 1000000 → 0 ≤ q → q ≤ 1000000 → wrap64 (wrap64 (0 + p) + q) = p + q := fun p q p0 p1 q0 q1 => by
    rw [show (0 : Int) + p = p by omega, IntWalk.wrap64_in p ⟨by omega, by omega⟩, IntWalk.wrap64_in (p + q) ⟨by omega, by omega⟩]
  have H := add_any (some ⟨g, 0, none⟩) 2 cc F W (by decide) (fun i hi => by
    refine ⟨g, 0, rfl, hlt, fun j hj => ?_⟩
    rw [Lib.cell_of_heap hg, hF]
    rcases (show i = 0 ∨ i = 1 by omega) with rfl | rfl <;> rcases (show j = 0 ∨ j = 1 ∨ j = 2 by omega) with rfl | rfl | rfl <;> rfl)
  have e0 : M.sum F 0 2 = a + x := by rw [hF]; exact e a x ha.1 ha.2.1 ha.2.2.1 ha.2.2.2
  have e1 : M.sum F 1 2 = b + y := by rw [hF]; exact e b y hb.1 hb.2.1 hb.2.2.1 hb.2.2.2
  have e2 : M.sum F 2 2 = c + z := by rw [hF]; exact e c z hc.1 hc.2.1 hc.2.2.1 hc.2.2.2
  rw [e0, e1, e2] at H
  exact H
structure N.M2 (w : World) (bx b3 b5 : Nat) (h : Int) (t : ByteArray) (v : Value) (a b c p q r : Int) (W : World) : Prop where
  below : Below w.heap.size w W
  x : N.Nb W bx h t v
  m : M.Own W b3 a b c
  q : M.Own W b5 p q r
theorem N.M2.on {w : World} {bx b3 b5 : Nat} {h : Int} {t : ByteArray} {v : Value} {a b c p q r : Int} {W W' : World} (s : N.M2 w bx b3 b5 h t v a b c p q r W) (hb : Below W.heap.size W W') : N.M2 w bx b3 b5 h t v a b c p q r W' := ⟨s.below.trans (hb.mono s.below.size), s.x.below hb, s.m.below hb, s.q.below hb⟩
theorem N.M2.put {w : World} {bx b3 b5 : Nat} {h : Int} {t : ByteArray} {v : Value} {a b c p q r : Int} {W : World} (s : N.M2 w bx b3 b5 h t v a b c p q r W) (h1 : bx ≠ b5) (h2 : b3 ≠ b5) (h3 : w.heap.size ≤ b5) (p' q' r' : Int) : N.M2 w bx b3 b5 h t v a b c p' q' r' (M.put3 W b5 p' q' r') := by
  refine ⟨M.put3_below s.below h3 _ _ _, ?_, s.m.keep _ (fun e => h2 e.symm) _ _ _, s.q.put _ _ _⟩
  have k : ∀ o : Nat, (M.put3 W b5 p' q' r').cell? ⟨bx, o, none⟩ = W.cell? ⟨bx, o, none⟩ := fun o => by
    have q1 : ∀ i : Nat, (⟨bx, o, none⟩ : Addr) ≠ ⟨b5, i, none⟩ := fun i e => h1 (by injection e)
    have q2 : ∀ i : Nat, (⟨b5, i, none⟩ : Addr) ≠ ⟨bx, o, none⟩ := fun i e => h1 (by injection e with e1; exact e1.symm)
    unfold M.put3
    rw [World.cell?_setCell_other _ _ _ _ (by first | exact q1 _ | exact q2 _), World.cell?_setCell_other _ _ _ _ (by first | exact q1 _ | exact q2 _), World.cell?_setCell_other _ _ _ _ (by first | exact q1 _ | exact q2 _)]
  exact ⟨by simpa using s.x.lt, (k 0).trans s.x.c0, (k 1).trans s.x.c1, (k 2).trans s.x.c2⟩
theorem N.zero3 {x : N.Nd} (h : N.chk x ≠ 0) : N.mB x = 0 ∧ N.mR x = 0 ∧ N.mL x = 0 := ⟨by rw [N.mB, if_neg h], by rw [N.mR, if_neg h], by rw [N.mL, if_neg h]⟩
set_option maxRecDepth 100000 in
set_option maxHeartbeats 8000000 in
theorem nodeMeasures_bad (x : N.NArg) (w : World) (hx : N.NOk w x) (hc : N.chk x.nd ≠ 0) :
    Calls Try.prog 9 #[x.v] w fun e w' => e = .returned (.bool true) ∧ Below w.heap.size w w' := by
  have cd := hx.cd
  have hrow := hx.s.row
  obtain ⟨h, t, ao, ca, l⟩ := x
  unfold N.NArg.nd at hc
  dsimp only at cd hrow hc
  clear hx
  have HMs := N.hMs cd
  have HCk := N.hCk cd
  have HK := N.hAw
  obtain ⟨z0, z1, z2⟩ := N.zero3 hc
  rw [z0, z1, z2] at HMs
  have hc' : (N.chk (N.nd h t l) != 0) = true := by simpa using hc
  have hce : (N.chk (N.nd h t l) == N.chk (N.nd h t l)) = true := by simp
  generalize N.chk (N.nd h t l) = ck at *
  have X1 := Lib.hid (N.Nb.new w h t (.slice ao l.length ca) 24)
  have Z1 : Hid (N.Kn w (w.alloc (.cells #[.int .i64 h, .string t, .slice ao l.length ca] 24)) [(ao, l)]) := ((N.Kn0 w).add hrow).on ((Below.refl _ _).alloc (Nat.le_refl _) _)
  unfold N.NArg.v N.nv
  dsimp only
  clear cd hrow hc z0 z1 z2
  go_enter Try.func9, Try.ntmps9
  go_wp2_with fail
  refine (HMs.out _ _ _ Z1.out.r0).mono ?_
  rintro e w2 ⟨rfl, hb⟩
  have Z2 := Lib.hid ((Z1.out.on hb).on ((Below.refl _ _).alloc (Nat.le_refl _) (.cells #[.int .i64 0, .int .i64 0, .int .i64 0] 27)))
  have X2 := Lib.hid ((X1.out.below hb).alloc (.cells #[.int .i64 0, .int .i64 0, .int .i64 0] 27))
  have M2 := Lib.hid (M.Own.new w2 0 0 0 27)
  clear hb Z1 X1
  have x0 := X2.out.c0
  have x1 := X2.out.c1
  have x2 := X2.out.c2
  go_wp2_with fail
  refine (HCk.out _ _ _ Z2.out.r0).mono ?_
  rintro e w3 ⟨rfl, hb⟩
  have Z3 := Lib.hid (Z2.out.on hb)
  have M3 := M2.out.below hb
  have m0 := M3.c0
  have m1 := M3.c1
  have m2 := M3.c2
  clear hb Z2 X2 x0 x1 x2 M3 M2
  go_wp2_with fail
  refine (HK.out _).mono ?_
  rintro e wk ⟨rfl, hb⟩
  have KC := Lib.hid (Z3.out.below.trans (hb.mono Z3.out.below.size))
  clear hb
  go_wp2
  go_ret
  exact ⟨rfl, KC.out⟩
end Go.Proofs.Ytdpaleldalplfaa
