/- What a normal form is known to be. -/
import Derived.Test.YtdpjnhmnmpmkmaaDeltaEqv
namespace Go.Proofs.Ytdpjnhmnmpmkmaa
open Go.RowKit

theorem D.norm_facts {l : List D.P} (h : D.chk l = 0) : D.chk (D.normP l) = 0 ∧ D.normP (D.normP l) = D.normP l ∧ D.lenI (D.normP l) = D.lenI l ∧ D.lenO (D.normP l) = D.lenO l ∧ D.normal (D.normP l) = true ∧ (D.normP l).length ≤ 4096 ∧ (∀ p ∈ D.normP l, p.t.size ≤ 140737488351232) ∧ D.normal l = D.same (D.normP l) l := by
  have h1 := D.chk_normP h
  obtain ⟨_, _, _, h4, _, h6⟩ := D.valid_qs h
  refine ⟨h1, D.normP_normP l, ?_, ?_, ?_, Nat.le_trans (D.normP_len l) h4, fun p hp => ?_, ?_⟩
  · rw [(D.len_qs h1).1, (D.len_qs h).1]; unfold D.normP; rw [D.qs_raw, D.inL_nf]
  · rw [(D.len_qs h1).2, (D.len_qs h).2]; unfold D.normP; rw [D.qs_raw, D.outL_nf]
  · rw [D.normal_eq _ h1]; unfold D.normP; rw [D.qs_raw]; exact D.isN_nf _
  · have := D.txt_le_outL (D.nf (D.qs l)) p hp
    rw [D.outL_nf] at this
    omega
  · unfold D.normal
    rw [decide_eq_true h, Bool.true_and, Bool.eq_iff_iff, D.same_iff, D.same_iff]
    exact ⟨fun e => e.symm, fun e => e.symm⟩
/-- Two neighbours in a normal form. -/
theorem D.norm_adj {l : List D.P} (h : D.chk l = 0) {k : Nat} {p q : D.P} (hp : (D.normP l)[k]? = some p) (hq : (D.normP l)[k + 1]? = some q) : (p.k == q.k) = false ∧ ((p.k == 3) = false ∨ ((p.k == 3) = true ∧ (q.k == 2) = false)) := by
  have h1 := D.chk_normP h
  have hn : D.isN ((D.qs (D.normP l)).take (k + 2)) = true := by
    have : D.isN (D.qs (D.normP l)) = true := by unfold D.normP; rw [D.qs_raw]; exact D.isN_nf _
    rw [← List.take_append_drop (k + 2) (D.qs (D.normP l))] at this
    exact D.isN_left this
  rw [D.isN_two hp hq, Bool.and_eq_true, D.ok_kinds (D.piece_of_chk h1 hp) (D.piece_of_chk h1 hq)] at hn
  have h2 := hn.2
  cases e1 : (p.k == q.k) <;> cases e2 : (p.k == 3) <;> cases e3 : (q.k == 2) <;> simp_all
end Go.Proofs.Ytdpjnhmnmpmkmaa
