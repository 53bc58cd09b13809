/- Marks under deltas: moved sets, orders, there and back, step by step (P9.4, P9.6 to P9.8), as mathematics. It speaks of no program. -/
import Derived.Test.YtmbgcbgbdjiacaaPackMMath
import Derived.Test.YtmbgcbgbdjiacaaPackMath
import Derived.Test.YtmbgcbgbdjiacaaPackCRaw
import Derived.Test.YtmbgcbgbdjiacaaPackTMath
namespace Go.Proofs.Ytmbgcbgbdjiacaa.D

theorem kpt_swp (a : List Q) : ∀ p i, kpt a p = some i ↔ kpt (swp a) i = some p := by
  induction a with
  | nil => intro p i; simp [kpt, swp]
  | cons c r ih =>
    intro p i
    cases c with
    | R n =>
      simp only [kpt, swp]
      constructor
      · intro h
        split at h
        · cases h; rw [if_pos (by assumption)]
        · obtain ⟨j, hj, rfl⟩ := Option.map_eq_some_iff.1 h
          rw [if_neg (by omega), Nat.add_sub_cancel_left, (ih _ _).1 hj]
          simp only [Option.map_some]; congr 1; omega
      · intro h
        split at h
        · cases h; rw [if_pos (by assumption)]
        · obtain ⟨j, hj, rfl⟩ := Option.map_eq_some_iff.1 h
          rw [if_neg (by omega), Nat.add_sub_cancel_left, (ih _ _).2 hj]
          simp only [Option.map_some]; congr 1; omega
    | I t =>
      simp only [kpt, swp]
      constructor
      · intro h
        obtain ⟨j, hj, rfl⟩ := Option.map_eq_some_iff.1 h
        rw [if_neg (by omega), Nat.add_sub_cancel_left]; exact (ih _ _).1 hj
      · intro h
        split at h
        · cases h
        · rw [(ih _ _).2 h]; simp only [Option.map_some]; congr 1; omega
    | D n =>
      simp only [kpt, swp, List.length_replicate]
      constructor
      · intro h
        split at h
        · cases h
        · rw [(ih _ _).1 h]; simp only [Option.map_some]; congr 1; omega
      · intro h
        obtain ⟨j, hj, rfl⟩ := Option.map_eq_some_iff.1 h
        rw [if_neg (by omega), Nat.add_sub_cancel_left]; exact (ih _ _).2 hj
/-- There and back, with gravity Left. -/
theorem ret_l {a : List Q} {p : Nat} (h : p ≤ inL a) : lft (swp a) (lft a p) ≤ p ∧ (lft (swp a) (lft a p) = p ↔ p = 0 ∨ (kpt a (p - 1)).isSome = true) := by
  have h1 := (rgt_adj a p (lft a p) h (lft_le a p)).1 (lft_rgt a p)
  refine ⟨h1, ?_, ?_⟩
  · intro e
    rcases Nat.eq_zero_or_pos p with c | c
    · exact Or.inl c
    · obtain ⟨x, hx, x0, _⟩ := gap_before (a := swp a) (p := lft a p) (by omega)
      rw [e] at hx
      have k : kpt (swp a) x.toNat = some (p - 1) := (kpt_iff (swp a) 0 x.toNat (p - 1)).2 (by rw [hx]; congr 1; omega)
      exact Or.inr (by rw [(kpt_swp a _ _).2 k]; rfl)
  · rintro (rfl | k)
    · rw [lft_zero, lft_zero]
    · rcases Nat.eq_zero_or_pos p with c | c
      · subst c; rw [lft_zero, lft_zero]
      obtain ⟨i, hi⟩ := Option.isSome_iff_exists.1 k
      refine Nat.le_antisymm h1 (Nat.not_lt.1 fun hlt => ?_)
      have e1 := (kpt_iff a 0 (p - 1) i).1 hi
      have e2 := (kpt_iff (swp a) 0 i (p - 1)).1 ((kpt_swp a _ _).1 hi)
      have l1 := (lft_iff (swp a) 0 (lft a p) (p - 1)).1 (by omega) (p - 1) _ (Nat.le_refl _) e2 (by omega)
      have l2 := (lft_iff a 0 p i).1 (by omega) i _ (Nat.le_refl _) e1 (by omega)
      omega
/-- There and back, with gravity Right. -/
theorem ret_r {a : List Q} {p : Nat} (h : p ≤ inL a) : p ≤ rgt (swp a) (rgt a p) ∧ (rgt (swp a) (rgt a p) = p ↔ p = inL a ∨ (kpt a p).isSome = true) := by
  have h1 := (lft_adj a p (rgt a p) h (rgt_le a p)).1 (lft_rgt a p)
  have h2 := rgt_le (swp a) (rgt a p)
  rw [(swp_len a).2] at h2
  refine ⟨h1, ?_, ?_⟩
  · intro e
    by_cases c : p = inL a
    · exact Or.inl c
    · obtain ⟨x, hx, xq⟩ := gap_behind (a := swp a) (p := rgt a p) (by rw [(swp_len a).2]; omega)
      rw [e] at hx
      have k : kpt (swp a) x.toNat = some p := (kpt_iff (swp a) 0 x.toNat p).2 (by rw [hx]; congr 1; omega)
      exact Or.inr (by rw [(kpt_swp a _ _).2 k]; rfl)
  · rintro (rfl | k)
    · omega
    · obtain ⟨i, hi⟩ := Option.isSome_iff_exists.1 k
      refine Nat.le_antisymm (Nat.not_lt.1 fun hlt => ?_) h1
      have e1 := (kpt_iff a 0 p i).1 hi
      have e2 := (kpt_iff (swp a) 0 i p).1 ((kpt_swp a _ _).1 hi)
      have l1 := (rgt_iff (swp a) 0 (rgt a p) (p + 1) (by rw [(swp_len a).2]; omega)).1 (by omega) p _ (by omega) e2 (by omega)
      have l2 := (rgt_iff a 0 p (rgt a p) (rgt_le a p)).1 (Nat.le_refl _) i _ (by omega) e1 (by omega)
      omega
/-- The row of yes and no that tells which bytes are kept. -/
theorem kp_kpt (a : List Q) : ∀ p, (kp a)[p]? = some true ↔ (kpt a p).isSome = true := by
  induction a with
  | nil => intro p; simp [kp, kpt]
  | cons c r ih =>
    intro p
    cases c with
    | R n =>
      have e : kp (.R n :: r) = List.replicate n true ++ kp r := rfl
      rw [e, List.getElem?_append, List.length_replicate]
      simp only [kpt]
      by_cases h : p < n
      · rw [if_pos h, if_pos h, List.getElem?_replicate, if_pos h]; simp
      · rw [if_neg h, if_neg h, ih]; simp
    | I t =>
      have e : kp (.I t :: r) = kp r := rfl
      rw [e, ih]; simp [kpt]
    | D n =>
      have e : kp (.D n :: r) = List.replicate n false ++ kp r := rfl
      rw [e, List.getElem?_append, List.length_replicate]
      simp only [kpt]
      by_cases h : p < n
      · rw [if_pos h, if_pos h, List.getElem?_replicate, if_pos h]; simp
      · rw [if_neg h, if_neg h, ih]
end Go.Proofs.Ytmbgcbgbdjiacaa.D
namespace Go.Proofs.Ytmbgcbgbdjiacaa.K
open Go.Proofs.Ytmbgcbgbdjiacaa.D (Q P lft rgt inL outL swp kpt qs)

/-- A mark moved. -/
def mv (a : List Q) (g p : Int) : Int := if g = 0 then (lft a p.toNat : Int) else (rgt a p.toNat : Int)
def mvM (a : List Q) (m : M) : M := { m with at_ := mv a m.g m.at_ }
theorem mv_bd (a : List Q) (g p : Int) : 0 ≤ mv a g p ∧ mv a g p ≤ (outL a : Int) := by
  have := D.lft_le a p.toNat
  have := D.rgt_le a p.toNat
  unfold mv; split <;> omega
/-- P9.4. -/
def shE (l : List M) (d : List P) : Int := if D.chk d = 0 then chk (inL (qs d)) l else D.chk d
def shL (l : List M) (d : List P) : List M := if shE l d = 0 then l.map (mvM (qs d)) else []
structure ShOk (l : List M) (d : List P) : Prop where
  delta : D.chk d = 0
  set : Set (inL (qs d)) l
theorem shE_iff (l : List M) (d : List P) : shE l d = 0 ↔ ShOk l d := by
  unfold shE
  constructor
  · intro h
    split at h
    · rename_i k; exact ⟨k, (chk_iff (by omega) l).1 h⟩
    · rename_i k; exact absurd h k
  · intro h
    rw [if_pos h.delta]; exact (chk_iff (by omega) l).2 h.set
theorem shL_ok {l : List M} {d : List P} (h : shE l d = 0) : shL l d = l.map (mvM (qs d)) := if_pos h
theorem shL_bad {l : List M} {d : List P} (h : shE l d ≠ 0) : shL l d = [] := if_neg h
theorem shL_at {l : List M} {d : List P} (h : shE l d = 0) (i : Nat) : (shL l d)[i]? = (l[i]?).map (mvM (qs d)) := by rw [shL_ok h, List.getElem?_map]
/-- P9.6. -/
theorem moved_set {n : Int} {l : List M} (a : List Q) (h : Set n l) : Set (outL a) (l.map (mvM a)) := by
  refine ⟨by rw [List.length_map]; exact h.len, fun x hx => ?_, ?_⟩
  · obtain ⟨m, hm, rfl⟩ := List.mem_map.1 hx
    exact ⟨(h.ok m hm).1, (h.ok m hm).2.1, (mv_bd a m.g m.at_).1, (mv_bd a m.g m.at_).2⟩
  · rw [List.pairwise_map]; exact h.asc
theorem moved_order (a : List Q) {g k p q : Int} (g0 : 0 ≤ g) (hg : g ≤ k) (h : p ≤ q) : mv a g p ≤ mv a k q := by
  have l1 := D.lft_mono a (show p.toNat ≤ q.toNat by omega)
  have l2 := D.rgt_mono a (show p.toNat ≤ q.toNat by omega)
  have l3 := D.lft_rgt a q.toNat
  unfold mv
  split <;> split <;> omega
/-- P9.7. -/
structure Ret (s : List UInt8) (l : List M) (d : List P) : Prop where
  ok : shE (shL l d) (D.invP s d) = 0
  len : (shL (shL l d) (D.invP s d)).length = l.length
  at_ : ∀ (i : Nat) (m : M), l[i]? = some m → 0 ≤ m.at_ ∧ m.at_ ≤ s.length ∧ ∃ u, (shL (shL l d) (D.invP s d))[i]? = some u ∧
    (m.g = 0 → u.at_ ≤ m.at_ ∧ (u.at_ = m.at_ ↔ m.at_ = 0 ∨ (D.kp (qs d))[(m.at_ - 1).toNat]? = some true)) ∧
    (m.g ≠ 0 → m.at_ ≤ u.at_ ∧ (u.at_ = m.at_ ↔ m.at_ = s.length ∨ (D.kp (qs d))[m.at_.toNat]? = some true))
theorem returns {s : List UInt8} {l : List M} {d : List P} (hf : D.fitE s d = 0) (h : shE l d = 0) : Ret s l d := by
  obtain ⟨h0, hi⟩ := D.fitE_zero hf
  have hs := (shE_iff l d).1 h
  have hc : D.chk (D.invP s d) = 0 := by rw [← D.normP_inv hf]; exact D.chk_normP (D.chk_inv hf)
  have hq : qs (D.invP s d) = D.nf (D.inv s (qs d)) := by rw [D.invP_eq hf, D.qs_raw]
  have li : inL (qs (D.invP s d)) = outL (qs d) := by rw [hq, D.inL_nf, D.inL_inv _ _ hi]
  have k : shE (shL l d) (D.invP s d) = 0 := by
    rw [shE_iff]
    refine ⟨hc, ?_⟩
    rw [li, shL_ok h]; exact moved_set _ hs.set
  obtain ⟨s1, s2, _, _⟩ := D.inv_swp (qs d) s (by omega)
  have hl : ∀ p, lft (qs (D.invP s d)) p = lft (swp (qs d)) p := fun p => by rw [hq, D.lft_nf, s1]
  have hr : ∀ p, rgt (qs (D.invP s d)) p = rgt (swp (qs d)) p := fun p => by rw [hq, D.rgt_nf, s2]
  refine ⟨k, by rw [shL_ok k, List.length_map, shL_ok h, List.length_map], fun i m hm => ?_⟩
  have ok := hs.set.ok m (List.mem_of_getElem? hm)
  refine ⟨ok.2.2.1, by omega, mvM (qs (D.invP s d)) (mvM (qs d) m), by rw [shL_at k, shL_at h, hm]; rfl, fun g0 => ?_, fun g1 => ?_⟩
  · have r := D.ret_l (a := qs d) (p := m.at_.toNat) (by omega)
    have e : (mvM (qs (D.invP s d)) (mvM (qs d) m)).at_ = (lft (swp (qs d)) (lft (qs d) m.at_.toNat) : Int) := by
      show mv _ m.g (mv _ m.g m.at_) = _
      unfold mv; rw [if_pos g0, if_pos g0, hl, Int.toNat_natCast]
    rw [e]
    refine ⟨by omega, ?_⟩
    rw [D.kp_kpt, show (m.at_ - 1).toNat = m.at_.toNat - 1 by omega]
    constructor
    · intro x
      rcases r.2.1 (by omega) with y | y
      · exact Or.inl (by omega)
      · exact Or.inr y
    · rintro (x | x)
      · have := r.2.2 (Or.inl (by omega)); omega
      · have := r.2.2 (Or.inr x); omega
  · have r := D.ret_r (a := qs d) (p := m.at_.toNat) (by omega)
    have e : (mvM (qs (D.invP s d)) (mvM (qs d) m)).at_ = (rgt (swp (qs d)) (rgt (qs d) m.at_.toNat) : Int) := by
      show mv _ m.g (mv _ m.g m.at_) = _
      unfold mv; rw [if_neg g1, if_neg g1, hr, Int.toNat_natCast]
    rw [e]
    refine ⟨by omega, ?_⟩
    rw [D.kp_kpt]
    constructor
    · intro x
      rcases r.2.1 (by omega) with y | y
      · exact Or.inl (by omega)
      · exact Or.inr y
    · rintro (x | x)
      · have := r.2.2 (Or.inl (by omega)); omega
      · have := r.2.2 (Or.inr x); omega
/-- P9.8. -/
structure Fol (l : List M) (x y : List P) : Prop where
  err : shE l (D.cmpP x y) = shE l x
  step : shE l x = 0 → shE (shL l x) y = 0
  at_ : shE l x = 0 → ∀ (i : Nat) (m : M), l[i]? = some m → ∃ u v, (shL l (D.cmpP x y))[i]? = some u ∧ (shL (shL l x) y)[i]? = some v ∧ (m.g = 0 → u.at_ ≤ v.at_) ∧ (m.g ≠ 0 → v.at_ ≤ u.at_)
theorem follows {l : List M} {x y : List P} (h : D.cmpE x y = 0) : Fol l x y := by
  have hc := D.cmp_of h
  have hf := hc.fit
  have hk := D.cq hf.m
  have e : shE l (D.cmpP x y) = shE l x := by
    unfold shE; rw [if_pos hc.ok, if_pos hf.a, hc.q, hk.inn]
  have st : shE l x = 0 → shE (shL l x) y = 0 := fun k => by
    rw [shE_iff]
    refine ⟨hf.b, ?_⟩
    rw [shL_ok k, ← hf.m]; exact moved_set _ ((shE_iff l x).1 k).set
  refine ⟨e, st, fun k i m hm => ?_⟩
  have k' : shE l (D.cmpP x y) = 0 := e.trans k
  refine ⟨mvM (qs (D.cmpP x y)) m, mvM (qs y) (mvM (qs x) m), by rw [shL_at k', hm]; rfl, by rw [shL_at (st k), shL_at k, hm]; rfl, fun g0 => ?_, fun g1 => ?_⟩
  · show mv _ m.g m.at_ ≤ mv _ m.g (mv _ m.g m.at_)
    unfold mv; rw [if_pos g0, if_pos g0, if_pos g0, Int.toNat_natCast, hc.q]
    have := D.lft_cq hf.m m.at_.toNat; omega
  · show mv _ m.g (mv _ m.g m.at_) ≤ mv _ m.g m.at_
    unfold mv; rw [if_neg g1, if_neg g1, if_neg g1, Int.toNat_natCast, hc.q]
    have := D.rgt_cq hf.m m.at_.toNat; omega
end Go.Proofs.Ytmbgcbgbdjiacaa.K
