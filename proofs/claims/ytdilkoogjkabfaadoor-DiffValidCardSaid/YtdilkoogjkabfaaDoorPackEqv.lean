/- Texts joined: DeltaEqv DeltaNormFacts -/
import Derived.Test.YtdilkoogjkabfaaDoorDeltaNorm
/- DeltaEqv -/
namespace Go.Proofs.YtdilkoogjkabfaaDoor
open Go.RowKit

/-- Between two rounds of Join. -/
structure D.JoinC (L : List D.Src) (w : World) (k : Nat) (wr : World) : Prop where
  chk : D.chkAll (L.drop k) = D.chkAll L
  ok : ∀ s ∈ L.take k, D.chk s.x = 0
  below : Below w.heap.size w wr
theorem D.take_bd {L : List D.Src} {k : Nat} (h : ∀ s ∈ L.take k, D.chk s.x = 0) (hk : k ≤ L.length) : D.inL (D.qs (D.flat (L.take k))) ≤ k * 1048576 ∧ D.outL (D.qs (D.flat (L.take k))) ≤ k * 1048576 := by
  have := (D.flat_ok (L.take k) (D.chkAll_ok _ h)).2.2.2
  rw [List.length_take, Nat.min_eq_left hk] at this
  exact this
/-- The check of a normal form. -/
theorem D.chk_flat {L : List D.Src} (h : D.chkAll L = 0) (hi : D.inL (D.qs (D.flat L)) ≤ 1048576) (ho : D.outL (D.qs (D.flat L)) ≤ 1048576) : D.chk (D.normP (D.flat L)) = 0 ∨ D.chk (D.normP (D.flat L)) = 5 := by
  obtain ⟨_, pa, _⟩ := D.flat_ok L h
  by_cases hl : 4096 < (D.normP (D.flat L)).length
  · right; rw [D.chk, if_pos hl]
  · left
    refine (D.chk_iff _).2 ⟨D.nf (D.qs (D.flat L)), D.allPos_nf _ pa, rfl, ?_, by rw [D.inL_nf]; exact hi, by rw [D.outL_nf]; exact ho⟩
    unfold D.normP at hl
    rw [List.length_map] at hl
    omega
theorem D.chk_long {L : List D.Src} (h : 1048576 < D.inL (D.qs (D.flat L)) ∨ 1048576 < D.outL (D.qs (D.flat L))) : D.chk (D.normP (D.flat L)) ≠ 0 := by
  intro hz
  obtain ⟨a, _, e, _, hi, ho⟩ := (D.chk_iff _).1 hz
  have e := D.map_raw_inj e
  subst e
  rw [D.inL_nf] at hi
  rw [D.outL_nf] at ho
  omega
theorem D.len_qs {l : List D.P} (h : D.chk l = 0) : D.lenI l = (D.inL (D.qs l) : Int) ∧ D.lenO l = (D.outL (D.qs l) : Int) := by
  obtain ⟨e, _⟩ := D.valid_qs h
  unfold D.lenI D.lenO
  rw [if_pos h, if_pos h, ← D.inP_raw, ← D.outP_raw, e]
  exact ⟨rfl, rfl⟩
end Go.Proofs.YtdilkoogjkabfaaDoor
/- DeltaNormFacts -/
namespace Go.Proofs.YtdilkoogjkabfaaDoor
open Go.RowKit

theorem D.norm_facts {l : List D.P} (h : D.chk l = 0) : D.chk (D.normP l) = 0 ∧ D.normP (D.normP l) = D.normP l ∧ D.lenI (D.normP l) = D.lenI l ∧ D.lenO (D.normP l) = D.lenO l ∧ D.normal (D.normP l) = true ∧ (D.normP l).length ≤ 4096 ∧ (∀ p ∈ D.normP l, p.t.size ≤ 140737488351232) ∧ D.normal l = D.same (D.normP l) l := by
  have h1 := D.chk_normP h
  obtain ⟨_, _, _, h4, _, h6⟩ := D.valid_qs h
  refine ⟨h1, D.normP_normP l, ?_, ?_, ?_, Nat.le_trans (D.normP_len l) h4, fun p hp => ?_, ?_⟩
  · rw [(D.len_qs h1).1, (D.len_qs h).1]; unfold D.normP; rw [D.qs_raw, D.inL_nf]
  · rw [(D.len_qs h1).2, (D.len_qs h).2]; unfold D.normP; rw [D.qs_raw, D.outL_nf]
  · rw [D.normal_eq _ h1]; unfold D.normP; rw [D.qs_raw]; exact D.isN_nf _
  · have := D.txt_le_outL (D.nf (D.qs l)) p hp
    rw [D.outL_nf] at this
    omega
  · unfold D.normal
    rw [decide_eq_true h, Bool.true_and, Bool.eq_iff_iff, D.same_iff, D.same_iff]
    exact ⟨fun e => e.symm, fun e => e.symm⟩
/-- Two neighbours in a normal form. -/
theorem D.norm_adj {l : List D.P} (h : D.chk l = 0) {k : Nat} {p q : D.P} (hp : (D.normP l)[k]? = some p) (hq : (D.normP l)[k + 1]? = some q) : (p.k == q.k) = false ∧ ((p.k == 3) = false ∨ ((p.k == 3) = true ∧ (q.k == 2) = false)) := by
  have h1 := D.chk_normP h
  have hn : D.isN ((D.qs (D.normP l)).take (k + 2)) = true := by
    have : D.isN (D.qs (D.normP l)) = true := by unfold D.normP; rw [D.qs_raw]; exact D.isN_nf _
    rw [← List.take_append_drop (k + 2) (D.qs (D.normP l))] at this
    exact D.isN_left this
  rw [D.isN_two hp hq, Bool.and_eq_true, D.ok_kinds (D.piece_of_chk h1 hp) (D.piece_of_chk h1 hq)] at hn
  have h2 := hn.2
  cases e1 : (p.k == q.k) <;> cases e2 : (p.k == 3) <;> cases e3 : (q.k == 2) <;> simp_all
end Go.Proofs.YtdilkoogjkabfaaDoor
