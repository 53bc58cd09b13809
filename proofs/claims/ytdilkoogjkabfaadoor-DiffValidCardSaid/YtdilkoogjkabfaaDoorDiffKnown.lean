/- The examples that every statement of stage 8 asks: they are met. -/
import Derived.Test.YtdilkoogjkabfaaDoorDiffBet
import Derived.Test.YtdilkoogjkabfaaDoorDiffLines
import Derived.Test.YtdilkoogjkabfaaDoorDiffCst
import Derived.Test.YtdilkoogjkabfaaDoorPackRef
import Derived.Test.YtdilkoogjkabfaaDoorDeltaRef2
namespace Go.Proofs.YtdilkoogjkabfaaDoor
open Go.RowKit

def F.kD : List D.P := [⟨1, 2, ⟨#[]⟩⟩, ⟨2, 0, ⟨#[120]⟩⟩, ⟨3, 1, ⟨#[]⟩⟩, ⟨1, 1, ⟨#[]⟩⟩]
def F.kL : List D.P := [⟨3, 2, ⟨#[]⟩⟩, ⟨1, 2, ⟨#[]⟩⟩]
theorem F.k1 : F.pre [97, 98, 99, 100] [97, 98, 120, 100] = 2 ∧ F.suf [97, 98, 99, 100] [97, 98, 120, 100] = 1 := by decide
theorem F.k2 : F.btE [97, 98, 99, 100] [97, 98, 120, 100] = 0 ∧ F.btP [97, 98, 99, 100] [97, 98, 120, 100] = F.kD := by
  have h : F.btE [97, 98, 99, 100] [97, 98, 120, 100] = 0 := by decide
  have e : F.btP [97, 98, 99, 100] [97, 98, 120, 100] = (D.nf (D.edit 4 2 1 [120])).map D.raw := if_pos (e := ([] : List D.P)) h
  exact ⟨h, e.trans rfl⟩
theorem F.rowsA : F.rows [97, 10, 98, 10] = [[97, 10], [98, 10]] := by decide
theorem F.rowsB : F.rows [98, 10] = [[98, 10]] := by decide
theorem F.kpk : F.pk [[97, 10], [98, 10]] [[98, 10]] = [.del [97, 10], .keep [98, 10]] := by
  have hne : ¬ ([97, 10] : List UInt8) = [98, 10] := by decide
  have h1 : F.lc List.length ([[97, 10], [98, 10]] : List (List UInt8)) [] = 4 := by rw [F.lc_nil']; rfl
  have h2 : F.lc List.length ([[98, 10]] : List (List UInt8)) ([[98, 10]] : List (List UInt8)) = 0 := F.lc_self _
  have h3 := F.lc_cons (w := List.length) hne ([[98, 10]] : List (List UInt8)) []
  rw [h2, h1] at h3
  have h4 : ¬ ([98, 10] : List UInt8).length + F.lc List.length ([[97, 10], [98, 10]] : List (List UInt8)) [] = F.lc List.length ([[97, 10], [98, 10]] : List (List UInt8)) [[98, 10]] := by
    rw [h3, h1]; decide
  rw [F.pk_del hne h4, F.pk_keep, F.pk_nn]
theorem F.k3 : F.lnE [97, 10, 98, 10] [98, 10] = 0 ∧ F.lnQ [97, 10, 98, 10] [98, 10] = F.kL := by
  have h : F.lnE [97, 10, 98, 10] [98, 10] = 0 := by
    unfold F.lnE; rw [F.rowsA, F.rowsB]; rfl
  refine ⟨h, ?_⟩
  unfold F.lnQ F.lnP
  rw [if_pos h, F.rowsA, F.rowsB, F.kpk]
  rfl
theorem F.k4 : F.costP F.kL = 2 ∧ D.chk F.kL = 0 := by decide
theorem F.k5 : F.pre [195, 169] [195, 168] = 0 ∧ F.suf [195, 169] [195, 168] = 0 := by decide
theorem fk1 (w : World) : Calls Tryd.prog 8 #[.string ⟨#[97, 98, 99, 100]⟩, .string ⟨#[97, 98, 120, 100]⟩] w fun e w' => e = .returned (.tuple #[.int .i64 2, .int .i64 1]) ∧ Below w.heap.size w w' := by
  have h := common_any ⟨#[97, 98, 99, 100]⟩ ⟨#[97, 98, 120, 100]⟩ w (by decide) (by decide)
  unfold F.ComEnd at h
  change Calls _ _ _ _ (fun e w' => e = .returned (.tuple #[.int .i64 (F.pre [97, 98, 99, 100] [97, 98, 120, 100] : Nat), .int .i64 (F.suf [97, 98, 99, 100] [97, 98, 120, 100] : Nat)]) ∧ Below w.heap.size w w') at h
  rw [F.k1.1, F.k1.2] at h
  exact h
theorem fk5 (w : World) : Calls Tryd.prog 8 #[.string ⟨#[195, 169]⟩, .string ⟨#[195, 168]⟩] w fun e w' => e = .returned (.tuple #[.int .i64 0, .int .i64 0]) ∧ Below w.heap.size w w' := by
  have h := common_any ⟨#[195, 169]⟩ ⟨#[195, 168]⟩ w (by decide) (by decide)
  unfold F.ComEnd at h
  change Calls _ _ _ _ (fun e w' => e = .returned (.tuple #[.int .i64 (F.pre [195, 169] [195, 168] : Nat), .int .i64 (F.suf [195, 169] [195, 168] : Nat)]) ∧ Below w.heap.size w w') at h
  rw [F.k5.1, F.k5.2] at h
  exact h
theorem fk2 (w : World) : Calls Tryd.prog 4 #[.string ⟨#[97, 98, 99, 100]⟩, .string ⟨#[97, 98, 120, 100]⟩] w fun e w' => ∃ v, e = .returned (.tuple #[v, .int .i64 0]) ∧ D.Made F.kD w v w' := by
  have h := between_any ⟨#[97, 98, 99, 100]⟩ ⟨#[97, 98, 120, 100]⟩ w (by decide) (by decide)
  unfold F.BetEnd at h
  change Calls _ _ _ _ (fun e w' => ∃ v, e = .returned (.tuple #[v, .int .i64 (F.btE [97, 98, 99, 100] [97, 98, 120, 100])]) ∧ D.Made (F.btP [97, 98, 99, 100] [97, 98, 120, 100]) w v w') at h
  rw [F.k2.1, F.k2.2] at h
  exact h
theorem fk3 (w : World) : Calls Tryd.prog 13 #[.string ⟨#[97, 10, 98, 10]⟩, .string ⟨#[98, 10]⟩] w fun e w' => ∃ v, e = .returned (.tuple #[v, .int .i64 0]) ∧ D.Made F.kL w v w' := by
  have h := lines_any ⟨#[97, 10, 98, 10]⟩ ⟨#[98, 10]⟩ w (by decide) (by decide)
  unfold F.LinesEnd at h
  change Calls _ _ _ _ (fun e w' => ∃ v, e = .returned (.tuple #[v, .int .i64 (F.lnE [97, 10, 98, 10] [98, 10])]) ∧ D.Made (F.lnQ [97, 10, 98, 10] [98, 10]) w v w') at h
  rw [F.k3.1, F.k3.2] at h
  exact h
theorem fk4 (ao : Option Addr) (c : Nat) (w : World) (h : D.Row w ao F.kL) : Calls Tryd.prog 14 #[.slice ao 2 c] w fun e w' => e = .returned (.tuple #[.int .i64 2, .int .i64 0]) ∧ Below w.heap.size w w' := by
  have h := cost_any ao c F.kL w (by decide) h (by decide)
  unfold F.CsEnd at h
  rw [F.k4.1, F.k4.2] at h
  exact h
set_option maxRecDepth 100000 in
set_option maxHeartbeats 4000000 in
theorem fknown_any (w : World) : Calls Tryd.prog 6 #[] w fun e w' => e = .returned (.bool true) ∧ Below w.heap.size w w' := by
  have hrun : ∀ W : World, (Op.equalIn 10000 29 (.agg #[.int .u8 3, .int .i64 2, .string ⟨#[]⟩]) (.agg #[.int .u8 3, .int .i64 2, .string ⟨#[]⟩])).run Tryd.prog W = .ok true W := fun W => by rw [D.eqPiece]; simp
  have K : Hid (D.Kn w w []) := ⟨Below.refl _ _, fun x hx => by cases hx⟩
  go_enter Tryd.func6, Tryd.ntmps6
  go_wp2_with fail
  refine (fk1 _).mono ?_
  rintro e w1 ⟨rfl, hb⟩
  have K1 := Lib.hid (K.out.on hb)
  clear hb K
  go_wp2_with fail
  refine (fk2 _).mono ?_
  rintro e w2 ⟨v, rfl, hm⟩
  obtain ⟨da, dc, hv, K2⟩ := K1.out.made hm
  subst hv
  change Hid (D.Kn w w2 [(da, F.kD)]) at K2
  clear hm K1
  go_wp2_with fail
  refine (fk3 _).mono ?_
  rintro e w3 ⟨v, rfl, hm⟩
  obtain ⟨la, lc, hv, K3⟩ := K2.out.made hm
  subst hv
  change Hid (D.Kn w w3 [(la, F.kL), (da, F.kD)]) at K3
  clear hm K2
  have H4 := Lib.hid (fk4 la lc w3 K3.out.r0)
  go_wp2_with fail
  refine H4.out.mono ?_
  rintro e w4 ⟨rfl, hb⟩
  have K4 := Lib.hid (K3.out.on hb)
  clear hb K3 H4
  go_wp2_with fail
  refine (fk5 _).mono ?_
  rintro e w5 ⟨rfl, hb⟩
  have K5 := Lib.hid (K4.out.on hb)
  clear hb K4
  obtain ⟨b1, o1, e1, _, c10, c11, c12⟩ := K5.out.tl.r0 1 ⟨2, 0, ⟨#[120]⟩⟩ rfl
  obtain ⟨b2, o2, e2, _, c20, c21, c22⟩ := K5.out.r0 0 ⟨3, 2, ⟨#[]⟩⟩ rfl
  subst e1 e2
  simp only [Nat.zero_mul, Nat.add_zero] at c20 c21 c22
  have R := Lib.hid K5.out.below
  clear K5
  go_wp2
  go_ret
  exact ⟨rfl, R.out⟩
end Go.Proofs.YtdilkoogjkabfaaDoor
