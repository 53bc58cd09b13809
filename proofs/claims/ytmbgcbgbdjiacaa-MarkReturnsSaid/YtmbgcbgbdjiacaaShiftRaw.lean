/- Stage 6 said of lists of pieces: errors and values of the layer's functions, and what its laws compare. It speaks of no program. -/
import Derived.Test.YtmbgcbgbdjiacaaPackMath
import Derived.Test.YtmbgcbgbdjiacaaPackCRaw
namespace Go.Proofs.Ytmbgcbgbdjiacaa.D

def posE (x : List P) (p g : Int) : Int := if chk x = 0 then (if 1 < g then 2 else if p < 0 ∨ (inL (qs x) : Int) < p then 3 else 0) else chk x
def posV (x : List P) (p g : Int) : Int := if posE x p g = 0 then (if g = 0 then (lft (qs x) p.toNat : Int) else (rgt (qs x) p.toNat : Int)) else 0
def bckE (x : List P) (p g : Int) : Int := if chk x = 0 then (if 1 < g then 2 else if p < 0 ∨ (outL (qs x) : Int) < p then 3 else 0) else chk x
def bckV (x : List P) (p g : Int) : Int := if bckE x p g = 0 then (if g = 0 then (lft (swp (qs x)) p.toNat : Int) else (rgt (swp (qs x)) p.toNat : Int)) else 0
def kepE (x : List P) (p : Int) : Int := if chk x = 0 then (if p < 0 ∨ (inL (qs x) : Int) ≤ p then 3 else 0) else chk x
def kepI (x : List P) (p : Int) : Bool := if kepE x p = 0 then (kpt (qs x) p.toNat).isSome else false
def kepV (x : List P) (p : Int) : Int := if kepE x p = 0 then (((kpt (qs x) p.toNat).getD 0 : Nat) : Int) else 0
def rngE (x : List P) (f t : Int) : Int := if chk x = 0 then (if f < 0 ∨ t < f ∨ (inL (qs x) : Int) < t then 3 else 0) else chk x
def rngB (x : List P) (f t : Int) : Int := if rngE x f t = 0 then (lft (qs x) t.toNat : Int) else 0
def rngA (x : List P) (f t : Int) : Int := if rngE x f t = 0 then ((min (rgt (qs x) f.toNat) (lft (qs x) t.toNat) : Nat) : Int) else 0
def xtF (x : List P) : Int := if chk x = 0 then (extF (qs x) : Int) else 0
def xtT (x : List P) : Int := if chk x = 0 then (extT (qs x) : Int) else 0
def xtE (x : List P) : Int := if chk x = 0 then (extE (qs x) : Int) else 0

theorem posE_iff {x : List P} {p g : Int} (hg : 0 ≤ g) : posE x p g = 0 ↔ chk x = 0 ∧ g ≤ 1 ∧ 0 ≤ p ∧ p ≤ (inL (qs x) : Int) := by
  unfold posE
  by_cases h : chk x = 0
  · rw [if_pos h]
    by_cases h1 : 1 < g
    · rw [if_pos h1]; omega
    · rw [if_neg h1]; split <;> omega
  · rw [if_neg h]; omega
theorem bckE_iff {x : List P} {p g : Int} (hg : 0 ≤ g) : bckE x p g = 0 ↔ chk x = 0 ∧ g ≤ 1 ∧ 0 ≤ p ∧ p ≤ (outL (qs x) : Int) := by
  unfold bckE
  by_cases h : chk x = 0
  · rw [if_pos h]
    by_cases h1 : 1 < g
    · rw [if_pos h1]; omega
    · rw [if_neg h1]; split <;> omega
  · rw [if_neg h]; omega
theorem kepE_iff {x : List P} {p : Int} : kepE x p = 0 ↔ chk x = 0 ∧ 0 ≤ p ∧ p < (inL (qs x) : Int) := by
  unfold kepE
  by_cases h : chk x = 0
  · rw [if_pos h]; split <;> omega
  · rw [if_neg h]; omega
theorem posV_0 {x : List P} {p : Int} (h : posE x p 0 = 0) : posV x p 0 = (lft (qs x) p.toNat : Int) := by unfold posV; rw [if_pos h, if_pos rfl]
theorem posV_1 {x : List P} {p : Int} (h : posE x p 1 = 0) : posV x p 1 = (rgt (qs x) p.toNat : Int) := by unfold posV; rw [if_pos h, if_neg (by decide)]
theorem bckV_0 {x : List P} {p : Int} (h : bckE x p 0 = 0) : bckV x p 0 = (lft (swp (qs x)) p.toNat : Int) := by unfold bckV; rw [if_pos h, if_pos rfl]
theorem bckV_1 {x : List P} {p : Int} (h : bckE x p 1 = 0) : bckV x p 1 = (rgt (swp (qs x)) p.toNat : Int) := by unfold bckV; rw [if_pos h, if_neg (by decide)]
theorem pos_bd (x : List P) (p g : Int) : 0 ≤ posV x p g ∧ posV x p g ≤ 1048576 := by
  unfold posV
  by_cases h : posE x p g = 0
  · rw [if_pos h]
    have h0 : chk x = 0 := Classical.byContradiction fun hc => by unfold posE at h; rw [if_neg hc] at h; exact hc h
    have := (valid_qs h0).2.2.2.2.2
    have := lft_le (qs x) p.toNat
    have := rgt_le (qs x) p.toNat
    split <;> omega
  · rw [if_neg h]; omega
/-- Both gravities, one error (P6.1). -/
theorem posE_both (x : List P) (p : Int) : posE x p 1 = posE x p 0 := by unfold posE; rw [if_neg (show ¬ (1 : Int) < 1 by decide), if_neg (show ¬ (1 : Int) < 0 by decide)]
/-- P6.5. -/
theorem shift_orders {x : List P} {p q : Int} (hp : posE x p 0 = 0) (hq : posE x q 0 = 0) (h : p ≤ q) : posV x p 0 ≤ posV x q 0 ∧ posV x p 1 ≤ posV x q 1 ∧ posV x p 0 ≤ posV x p 1 := by
  have hp1 := hp; rw [← posE_both] at hp1
  have hq1 := hq; rw [← posE_both] at hq1
  rw [posV_0 hp, posV_0 hq, posV_1 hp1, posV_1 hq1]
  have a := lft_mono (qs x) (show p.toNat ≤ q.toNat by omega)
  have b := rgt_mono (qs x) (show p.toNat ≤ q.toNat by omega)
  have c := lft_rgt (qs x) p.toNat
  omega
theorem kep_some {x : List P} {p : Int} (h : kepE x p = 0) (hi : kepI x p = true) : ∃ i : Nat, kpt (qs x) p.toNat = some i ∧ kepV x p = (i : Int) := by
  unfold kepI at hi; rw [if_pos h] at hi
  obtain ⟨i, hk⟩ := Option.isSome_iff_exists.1 hi
  exact ⟨i, hk, by unfold kepV; rw [if_pos h, hk]; rfl⟩
theorem kep_order {x : List P} {p q : Int} (hp : kepE x p = 0) (hq : kepE x q = 0) (ip : kepI x p = true) (iq : kepI x q = true) (h : p < q) : kepV x p < kepV x q := by
  obtain ⟨i, h1, e1⟩ := kep_some hp ip
  obtain ⟨j, h2, e2⟩ := kep_some hq iq
  have := kepE_iff.1 hp
  have := kpt_mono h1 h2 (by omega)
  omega
/-- P6.6. -/
theorem shift_adjoint {x : List P} {p q : Int} (h0 : chk x = 0) (p0 : 0 ≤ p) (p1 : p ≤ (inL (qs x) : Int)) (q0 : 0 ≤ q) (q1 : q ≤ (outL (qs x) : Int)) : (posV x p 0 ≤ q ↔ p ≤ bckV x q 1) ∧ (q ≤ posV x p 1 ↔ bckV x q 0 ≤ p) := by
  have e1 : posE x p 0 = 0 := (posE_iff (by decide)).2 ⟨h0, by decide, p0, p1⟩
  have e2 : posE x p 1 = 0 := (posE_iff (by decide)).2 ⟨h0, by decide, p0, p1⟩
  have e3 : bckE x q 0 = 0 := (bckE_iff (by decide)).2 ⟨h0, by decide, q0, q1⟩
  have e4 : bckE x q 1 = 0 := (bckE_iff (by decide)).2 ⟨h0, by decide, q0, q1⟩
  rw [posV_0 e1, posV_1 e2, bckV_0 e3, bckV_1 e4]
  have a := lft_adj (qs x) p.toNat q.toNat (by omega) (by omega)
  have b := rgt_adj (qs x) p.toNat q.toNat (by omega) (by omega)
  constructor
  · constructor
    · intro h; have := a.1 (by omega); omega
    · intro h; have := a.2 (by omega); omega
  · constructor
    · intro h; have := b.1 (by omega); omega
    · intro h; have := b.2 (by omega); omega
/-- P6.7, compositions. -/
theorem shift_composes {x y : List P} (h : cmpE x y = 0) {p : Int} (p0 : 0 ≤ p) (p1 : p ≤ (inL (qs x) : Int)) : posE (cmpP x y) p 0 = 0 ∧ posE x p 0 = 0 ∧ posE y (posV x p 0) 0 = 0 ∧ posE y (posV x p 1) 0 = 0 ∧
    posV (cmpP x y) p 0 ≤ posV y (posV x p 0) 0 ∧ posV y (posV x p 1) 1 ≤ posV (cmpP x y) p 1 ∧
    ((qs x).any isI = false ∨ (qs y).any isD = false → posV (cmpP x y) p 0 = posV y (posV x p 0) 0 ∧ posV y (posV x p 1) 1 = posV (cmpP x y) p 1) := by
  have c := cmp_of h
  have k := cq c.fit.m
  have e1 : ∀ g : Int, 0 ≤ g → g ≤ 1 → posE x p g = 0 := fun g g0 g1 => (posE_iff g0).2 ⟨c.fit.a, g1, p0, p1⟩
  have e2 : ∀ g : Int, 0 ≤ g → g ≤ 1 → posE (cmpP x y) p g = 0 := fun g g0 g1 => (posE_iff g0).2 ⟨c.ok, g1, p0, by rw [c.q, k.inn]; exact p1⟩
  have v0 := posV_0 (e1 0 (by decide) (by decide))
  have v1 := posV_1 (e1 1 (by decide) (by decide))
  have hl := lft_le (qs x) p.toNat
  have hr := rgt_le (qs x) p.toNat
  have e3 : ∀ g : Int, 0 ≤ g → g ≤ 1 → posE y (posV x p 0) g = 0 := fun g g0 g1 => (posE_iff g0).2 ⟨c.fit.b, g1, by omega, by rw [← c.fit.m]; omega⟩
  have e4 : ∀ g : Int, 0 ≤ g → g ≤ 1 → posE y (posV x p 1) g = 0 := fun g g0 g1 => (posE_iff g0).2 ⟨c.fit.b, g1, by omega, by rw [← c.fit.m]; omega⟩
  have w0 := posV_0 (e3 0 (by decide) (by decide))
  have w1 := posV_1 (e4 1 (by decide) (by decide))
  have u0 := posV_0 (e2 0 (by decide) (by decide))
  have u1 := posV_1 (e2 1 (by decide) (by decide))
  rw [v0, Int.toNat_natCast] at w0
  rw [v1, Int.toNat_natCast] at w1
  rw [c.q] at u0 u1
  refine ⟨e2 0 (by decide) (by decide), e1 0 (by decide) (by decide), e3 0 (by decide) (by decide), e4 0 (by decide) (by decide), ?_, ?_, fun hn => ⟨?_, ?_⟩⟩
  · rw [u0, v0, w0]; have := lft_cq c.fit.m p.toNat; omega
  · rw [u1, v1, w1]; have := rgt_cq c.fit.m p.toNat; omega
  · rw [u0, v0, w0, lft_cq_eq c.fit.m hn]
  · rw [u1, v1, w1, rgt_cq_eq c.fit.m hn]
/-- P6.7, the inverse. -/
theorem shift_inverts {S : List UInt8} {x : List P} (h : fitE S x = 0) (p g : Int) : posE (invP S x) p g = bckE x p g ∧ posV (invP S x) p g = bckV x p g ∧ bckE (invP S x) p g = posE x p g ∧ bckV (invP S x) p g = posV x p g := by
  obtain ⟨h0, hi⟩ := fitE_zero h
  have hc : chk (invP S x) = 0 := by rw [← normP_inv h]; exact chk_normP (chk_inv h)
  have hq : qs (invP S x) = nf (inv S (qs x)) := by rw [invP_eq h, qs_raw]
  have li : inL (qs (invP S x)) = outL (qs x) := by rw [hq, inL_nf, inL_inv _ _ hi]
  have lo : outL (qs (invP S x)) = inL (qs x) := by rw [hq, outL_nf, outL_inv _ _ hi]
  obtain ⟨s1, s2, s3, s4⟩ := inv_swp (qs x) S (by omega)
  have pe : posE (invP S x) p g = bckE x p g := by unfold posE bckE; rw [if_pos hc, if_pos h0, li]
  have be : bckE (invP S x) p g = posE x p g := by unfold posE bckE; rw [if_pos hc, if_pos h0, lo]
  refine ⟨pe, ?_, be, ?_⟩
  · unfold posV bckV
    rw [pe, hq, lft_nf, rgt_nf, s1, s2]
  · have hb : bckE (invP S x) p g = 0 → 0 ≤ p ∧ p ≤ (outL (nf (inv S (qs x))) : Int) := fun hz => by
      unfold bckE at hz
      rw [if_pos hc, hq] at hz
      split at hz
      · exact absurd hz (by decide)
      · split at hz
        · exact absurd hz (by decide)
        · omega
    unfold posV bckV
    rw [← be]
    by_cases hz : bckE (invP S x) p g = 0
    · rw [if_pos hz, if_pos hz, hq]
      obtain ⟨b0, b1⟩ := hb hz
      rw [outL_nf] at b1
      have hp : p.toNat ≤ outL (inv S (qs x)) := by omega
      rw [swp_nf_l _ _ hp, swp_nf_r _ _ hp, s3, s4]
    · rw [if_neg hz, if_neg hz]
/-- P6.2, P6.8: the extent of a delta that fits. -/
structure Out6 (S : List UInt8) (x : List P) : Prop where
  chk : chk x = 0
  inn : inL (qs x) = S.length
  len : (resP S x).length = outL (qs x)
  f0 : 0 ≤ xtF x
  le1 : xtF x ≤ xtT x
  le2 : xtT x ≤ S.length
  le3 : xtF x ≤ xtE x
  le4 : xtE x ≤ (resP S x).length
  rest : (S.length : Int) - xtT x = (resP S x).length - xtE x
  pre : S.take (xtF x).toNat = (resP S x).take (xtF x).toNat
  suf : S.drop (xtT x).toNat = (resP S x).drop (xtE x).toNat
  before : ∀ p : Int, 0 ≤ p → p < xtF x → posV x p 0 = p ∧ posV x p 1 = p
  behind : ∀ p : Int, xtT x < p → p ≤ S.length → posV x p 0 = p - xtT x + xtE x ∧ posV x p 1 = p - xtT x + xtE x
  keptB : ∀ p : Int, 0 ≤ p → p < S.length → kepI x p = false → xtF x ≤ p ∧ p < xtT x
  keptV : ∀ p : Int, kepE x p = 0 → kepI x p = true → 0 ≤ kepV x p ∧ kepV x p < (resP S x).length ∧ (resP S x)[(kepV x p).toNat]? = S[p.toNat]?
theorem out6 {S : List UInt8} {x : List P} (h : fitE S x = 0) : Out6 S x := by
  obtain ⟨h0, hi⟩ := fitE_zero h
  have e := ext_of hi
  have hr := resP_eq h
  have hlen : (resP S x).length = outL (qs x) := by rw [hr, apl_length _ _ hi]
  have eF : xtF x = (extF (qs x) : Int) := if_pos h0
  have eT : xtT x = (extT (qs x) : Int) := if_pos h0
  have eE : xtE x = (extE (qs x) : Int) := if_pos h0
  have l1 := e.le1
  have l2 := e.le2
  have l3 := e.le3
  have l4 := e.le4
  have l5 := e.rest
  have ps : ∀ p : Int, 0 ≤ p → p ≤ S.length → posV x p 0 = (lft (qs x) p.toNat : Int) ∧ posV x p 1 = (rgt (qs x) p.toNat : Int) := fun p p0 p1 =>
    ⟨posV_0 ((posE_iff (by decide)).2 ⟨h0, by decide, p0, by omega⟩), posV_1 ((posE_iff (by decide)).2 ⟨h0, by decide, p0, by omega⟩)⟩
  refine ⟨h0, hi, hlen, by omega, by omega, by omega, by omega, by omega, by omega, ?_, ?_, fun p p0 p1 => ?_, fun p p0 p1 => ?_, fun p p0 p1 hk => ?_, fun p hp hk => ?_⟩
  · rw [eF, Int.toNat_natCast, hr]; exact e.pre
  · rw [eT, eE, Int.toNat_natCast, Int.toNat_natCast, hr]; exact e.suf
  · obtain ⟨a, b⟩ := ps p p0 (by omega)
    obtain ⟨c, d, _⟩ := e.before p.toNat (by omega)
    rw [a, b, c, d]; omega
  · obtain ⟨a, b⟩ := ps p (by omega) p1
    obtain ⟨c, d⟩ := e.behind p.toNat (by omega) (by omega)
    rw [a, b, c, d]; omega
  · have hE : kepE x p = 0 := kepE_iff.2 ⟨h0, p0, by omega⟩
    unfold kepI at hk
    rw [if_pos hE] at hk
    refine ⟨Classical.byContradiction fun hc => ?_, Classical.byContradiction fun hc => ?_⟩
    · rw [(e.before p.toNat (by omega)).2.2] at hk; cases hk
    · obtain ⟨i, hki⟩ := e.keptB p.toNat (by omega) (by omega)
      rw [hki] at hk; cases hk
  · obtain ⟨i, hki, ev⟩ := kep_some hp hk
    obtain ⟨_, b, c⟩ := kpt_byte hi hki
    rw [ev, Int.toNat_natCast, hr]
    exact ⟨by omega, by omega, c⟩
/-- S3, P6.5: what stands between the two positions, and beside them. -/
structure Gap6 (x : List P) (p : Int) : Prop where
  v0 : posV x p 0 = (lft (qs x) p.toNat : Int)
  v1 : posV x p 1 = (rgt (qs x) p.toNat : Int)
  le : lft (qs x) p.toNat ≤ rgt (qs x) p.toNat
  end_ : rgt (qs x) p.toNat ≤ outL (qs x)
  mid : ∀ (i : Nat) (z : Int), lft (qs x) p.toNat ≤ i → i < rgt (qs x) p.toNat → (atoms 0 (qs x))[i]? = some z → z < 0
  fore : lft (qs x) p.toNat ≠ 0 → ∃ z : Int, (atoms 0 (qs x))[lft (qs x) p.toNat - 1]? = some z ∧ 0 ≤ z ∧ z < p
  aft : rgt (qs x) p.toNat ≠ outL (qs x) → ∃ z : Int, (atoms 0 (qs x))[rgt (qs x) p.toNat]? = some z ∧ p ≤ z
theorem gap6 {x : List P} {p : Int} (h0 : chk x = 0) (p0 : 0 ≤ p) (p1 : p ≤ (inL (qs x) : Int)) : Gap6 x p := by
  refine ⟨posV_0 ((posE_iff (by decide)).2 ⟨h0, by decide, p0, p1⟩), posV_1 ((posE_iff (by decide)).2 ⟨h0, by decide, p0, p1⟩), lft_rgt _ _, rgt_le _ _, fun i z h1 h2 h3 => gap_between h1 h2 h3, fun h => ?_, fun h => ?_⟩
  · obtain ⟨z, h1, h2, h3⟩ := gap_before h
    exact ⟨z, h1, h2, by omega⟩
  · obtain ⟨z, h1, h2⟩ := gap_behind h
    exact ⟨z, h1, by omega⟩
end Go.Proofs.Ytmbgcbgbdjiacaa.D
