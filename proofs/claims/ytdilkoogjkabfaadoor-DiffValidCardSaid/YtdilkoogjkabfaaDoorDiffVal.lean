/- What Between inserts is a part of the second string; everything that it keeps, removes and inserts is valid where both strings are. It speaks of no program. -/
import Derived.Test.YtdilkoogjkabfaaDoorPackDMath
namespace Go.Proofs.YtdilkoogjkabfaaDoor.F
open Go.Proofs.YtdilkoogjkabfaaDoor.D

theorem ins_part {a b : List UInt8} {l : List Q} (hf : inL l = a.length) (hr : apl a l = b) {k : Nat} {t : List UInt8} (h : l[k]? = some (.I t)) : (b.drop (outL (l.take k))).take t.length = t := by
  obtain ⟨hk, e⟩ := List.getElem?_eq_some_iff.1 h
  have hl : l = l.take k ++ (.I t :: l.drop (k + 1)) := by
    conv => lhs; rw [← List.take_append_drop k l, List.drop_eq_getElem_cons hk, e]
  have hle : inL (l.take k) ≤ a.length := by
    rw [← hf]; conv => rhs; rw [← List.take_append_drop k l, inL_append]
    omega
  have h1 : inL (l.take k) = (a.take (inL (l.take k))).length := by rw [List.length_take]; omega
  have h2 := apl_append (l.take k) (.I t :: l.drop (k + 1)) (a.take (inL (l.take k))) (a.drop (inL (l.take k))) h1
  rw [List.take_append_drop, ← hl, hr] at h2
  have h3 := apl_length (l.take k) (a.take (inL (l.take k))) h1
  have h4 : b.drop (outL (l.take k)) = t ++ apl (a.drop (inL (l.take k))) (l.drop (k + 1)) := by
    rw [h2, ← h3, List.drop_left]; rfl
  rw [h4, List.take_left]
/-- What is asked of each piece. -/
structure VP (a : List UInt8) (l : List Q) (k : Nat) (q : Q) : Prop where
  fits : inL (l.take k) + in1 q ≤ a.length
  seg : U.valid ((a.drop (inL (l.take k))).take (in1 q)) = true
  txt : U.valid (txt1 q) = true
theorem val_piece {a b : List UInt8} (ha : U.valid a = true) (hb : U.valid b = true) (h : btE a b = 0) {k : Nat} {q : Q} (hq : (qs (btP a b))[k]? = some q) : VP a (qs (btP a b)) k q := by
  obtain ⟨f1, f2⟩ := bt_leads h
  have hck : chk (btP a b) = 0 := by
    unfold fitE at f1
    by_cases c : chk (btP a b) = 0
    · exact c
    · rw [if_neg c] at f1; exact absurd f1 c
  have hin : inL (qs (btP a b)) = a.length := (fitE_zero f1).2
  have hres : apl a (qs (btP a b)) = b := by rw [← resP_eq f1]; exact f2
  have bs := (byE_iff (qs (btP a b)) 0 0).1 (bt_bounds ha hb h)
  obtain ⟨hk, _⟩ := List.getElem?_eq_some_iff.1 hq
  have bd : ∀ j, j ≤ (qs (btP a b)).length → U.bndN a (inL ((qs (btP a b)).take j)) = true ∧ U.bndN b (outL ((qs (btP a b)).take j)) = true := fun j hj => by
    cases j with
    | zero => rw [List.take_zero]; exact ⟨U.bndN_zero_of_valid _ ha, U.bndN_zero_of_valid _ hb⟩
    | succ j => have := bs j (by omega); rwa [Nat.zero_add, Nat.zero_add] at this
  have e1 := (inL_take_le (qs (btP a b)) k q hq)
  have b0 := bd k (by omega)
  have b1 := bd (k + 1) (by omega)
  rw [e1.1] at b1
  refine ⟨by omega, valid_part ha b0.1 b1.1, ?_⟩
  cases q with
  | R n => rfl
  | D n => rfl
  | I t =>
    have eo : outL ((qs (btP a b)).take (k + 1)) = outL ((qs (btP a b)).take k) + t.length := by
      rw [List.take_add_one, hq, outL_append]; simp [outL, out1]
    have b2 := (bd (k + 1) (by omega)).2
    rw [eo] at b2
    have := valid_part hb b0.2 b2
    rwa [ins_part hin hres hq] at this
end Go.Proofs.YtdilkoogjkabfaaDoor.F
