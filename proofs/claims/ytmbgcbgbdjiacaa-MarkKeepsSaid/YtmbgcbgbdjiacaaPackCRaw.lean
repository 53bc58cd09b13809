/- Texts joined: ComposeRaw ComposeWalk -/
import Derived.Test.YtmbgcbgbdjiacaaPackMath
import Derived.Test.YtmbgcbgbdjiacaaDeltaJoinKit
/- ComposeRaw -/
namespace Go.Proofs.Ytmbgcbgbdjiacaa.D

/-- The error of two deltas that do not fit. -/
def fit2 (x y : List P) : Int := if chk x = 0 then (if chk y = 0 then (if outP x = inP y then 0 else 21) else chk y) else chk x
def cqP (x y : List P) : List P := (cQ (qs x) (qs y)).map raw
def cmpE (x y : List P) : Int := if fit2 x y = 0 then (if (cqP x y).length ≤ 4096 then 0 else 5) else fit2 x y
def cmpP (x y : List P) : List P := if cmpE x y = 0 then cqP x y else []
theorem outP_qs {l : List P} (h : chk l = 0) : outP l = (outL (qs l) : Int) := by
  have := outP_raw (qs l)
  rwa [(valid_qs h).1] at this
structure Fit (x y : List P) : Prop where
  a : chk x = 0
  b : chk y = 0
  m : outL (qs x) = inL (qs y)
theorem fit_of {x y : List P} (h : fit2 x y = 0) : Fit x y := by
  unfold fit2 at h
  by_cases ha : chk x = 0
  · rw [if_pos ha] at h
    by_cases hb : chk y = 0
    · rw [if_pos hb] at h
      by_cases hm : outP x = inP y
      · refine ⟨ha, hb, ?_⟩
        rw [outP_qs ha, inP_qs hb] at hm; omega
      · rw [if_neg hm] at h; exact absurd h (by decide)
    · rw [if_neg hb] at h; exact absurd h hb
  · rw [if_neg ha] at h; exact absurd h ha
theorem Fit.e {x y : List P} (h : Fit x y) : fit2 x y = 0 := by
  unfold fit2
  rw [if_pos h.a, if_pos h.b, if_pos (by rw [outP_qs h.a, inP_qs h.b, h.m])]
theorem fit2_cases (x y : List P) : fit2 x y = 0 ∨ fit2 x y = 2 ∨ fit2 x y = 5 ∨ fit2 x y = 21 := by
  unfold fit2
  rcases chk_cases x with h | h | h <;> rcases chk_cases y with k | k | k <;> rw [h] <;> rw [k] <;> simp <;> (by_cases c : outP x = inP y <;> simp [c])
theorem qs_cqP (x y : List P) : qs (cqP x y) = cQ (qs x) (qs y) := qs_raw _
theorem Fit.cq {x y : List P} (h : Fit x y) : Cq (qs x) (qs y) := D.cq h.m
theorem Fit.chk {x y : List P} (h : Fit x y) : D.chk (cqP x y) = if (cqP x y).length ≤ 4096 then 0 else 5 := by
  by_cases hl : (cqP x y).length ≤ 4096
  · rw [if_pos hl]
    have q := h.cq
    refine (chk_iff _).2 ⟨_, q.pos, rfl, ?_, ?_, ?_⟩
    · have := hl; unfold cqP at this; rwa [List.length_map] at this
    · rw [q.inn]; exact (valid_qs h.a).2.2.2.2.1
    · rw [q.out]; exact (valid_qs h.b).2.2.2.2.2
  · rw [if_neg hl]; unfold D.chk; rw [if_pos (by omega)]
theorem Fit.err {x y : List P} (h : Fit x y) : cmpE x y = D.chk (cqP x y) := by
  unfold cmpE; rw [if_pos h.e, h.chk]
theorem Fit.two {x y : List P} (h : Fit x y) : cmpE x y = 0 ∨ cmpE x y = 5 := by
  rw [h.err, h.chk]; split <;> simp
theorem cmpE_not {x y : List P} (h : fit2 x y ≠ 0) : cmpE x y = fit2 x y ∧ cmpP x y = [] := by
  have e : cmpE x y = fit2 x y := if_neg h
  exact ⟨e, by unfold cmpP; rw [e, if_neg h]⟩
structure Cmp (x y : List P) : Prop where
  fit : Fit x y
  eq : cmpP x y = cqP x y
  ok : D.chk (cmpP x y) = 0
  q : qs (cmpP x y) = cQ (qs x) (qs y)
theorem cmp_of {x y : List P} (h : cmpE x y = 0) : Cmp x y := by
  by_cases hf : fit2 x y = 0
  · have f := fit_of hf
    have e : cmpP x y = cqP x y := if_pos h
    refine ⟨f, e, by rw [e, ← f.err]; exact h, by rw [e, qs_cqP]⟩
  · rw [(cmpE_not hf).1] at h; exact absurd h hf
theorem cmp_mk {x y : List P} (f : Fit x y) (hl : (cQ (qs x) (qs y)).length ≤ 4096) : cmpE x y = 0 := by
  unfold cmpE; rw [if_pos f.e, if_pos (by unfold cqP; rwa [List.length_map])]
theorem Cmp.len {x y : List P} (h : Cmp x y) : (cQ (qs x) (qs y)).length ≤ 4096 := by
  have := (valid_qs h.ok).2.2.1
  rw [h.q] at this
  have := (valid_qs h.ok).2.2.2.1
  omega
theorem cmp_eq {x y x' y' : List P} (f : Fit x y) (f' : Fit x' y') (e : cQ (qs x) (qs y) = cQ (qs x') (qs y')) : cmpE x y = cmpE x' y' ∧ cmpP x y = cmpP x' y' := by
  have e1 : cqP x y = cqP x' y' := by unfold cqP; rw [e]
  have e2 : cmpE x y = cmpE x' y' := by rw [f.err, f'.err, e1]
  exact ⟨e2, by unfold cmpP; rw [e1, e2]⟩
theorem cmpP_len (x y : List P) : (cmpP x y).length ≤ 4096 := by
  by_cases h : cmpE x y = 0
  · exact (valid_qs (cmp_of h).ok).2.2.2.1
  · unfold cmpP; rw [if_neg h]; simp
/-! ### P5.1 -/
theorem fitE_qs {s : List UInt8} {l : List P} (h : chk l = 0) : fitE s l = if inL (qs l) = s.length then 0 else 21 := by
  unfold fitE
  rw [if_pos h, inP_qs h]
  by_cases e : inL (qs l) = s.length
  · rw [if_pos e, if_pos (by omega)]
  · rw [if_neg e, if_neg (by omega)]
theorem app_err {s : List UInt8} {x y : List P} (h : fitE s x = 0) : fit2 x y = fitE (resP s x) y := by
  obtain ⟨h0, h1⟩ := fitE_zero h
  have hl : (resP s x).length = outL (qs x) := by rw [resP_eq h, apl_length _ _ h1]
  unfold fit2
  rw [if_pos h0]
  by_cases hy : chk y = 0
  · rw [if_pos hy, fitE_qs hy, hl, outP_qs h0, inP_qs hy]
    by_cases e : outL (qs x) = inL (qs y)
    · rw [if_pos (by omega), if_pos e.symm]
    · rw [if_neg (by omega), if_neg (fun k => e k.symm)]
  · rw [if_neg hy]; unfold fitE; rw [if_neg hy]
theorem app_ok {s : List UInt8} {x y : List P} (h : fitE s x = 0) (hc : cmpE x y = 0) : fitE s (cmpP x y) = 0 ∧ resP s (cmpP x y) = resP (resP s x) y ∧ normal (cmpP x y) = true ∧ atoms 0 (qs (cmpP x y)) = cmpA (atoms 0 (qs x)) (atoms 0 (qs y)) := by
  have c := cmp_of hc
  obtain ⟨h0, h1⟩ := fitE_zero h
  have q := c.fit.cq
  have hf : fitE s (cmpP x y) = 0 := fitE_of c.ok (by rw [c.q, q.inn, h1])
  have hg : fitE (resP s x) y = 0 := by rw [← app_err h]; exact c.fit.e
  refine ⟨hf, ?_, ?_, by rw [c.q, q.ats]⟩
  · rw [resP_eq hf, c.q, apl_cq h1 c.fit.m, resP_eq hg, resP_eq h]
  · rw [normal_eq _ c.ok, c.q]; exact q.nrm
/-! ### P5.4 -/
theorem qs_normP (x : List P) : qs (normP x) = nf (qs x) := by unfold normP; rw [qs_raw]
structure Grp5 (x y z : List P) : Prop where
  e : cmpE (cmpP x y) z = cmpE x (cmpP y z)
  p : cmpP (cmpP x y) z = cmpP x (cmpP y z)
  a : chk x = 0
  b : chk y = 0
  c : chk z = 0
  n : cmpE (normP x) (normP y) = 0
  m : cmpP (normP x) (normP y) = cmpP x y
theorem grp5 {x y z : List P} (h1 : cmpE x y = 0) (h2 : cmpE y z = 0) : Grp5 x y z := by
  have c1 := cmp_of h1
  have c2 := cmp_of h2
  have f1 : Fit (cmpP x y) z := ⟨c1.ok, c2.fit.b, by rw [c1.q, c1.fit.cq.out, c2.fit.m]⟩
  have f2 : Fit x (cmpP y z) := ⟨c1.fit.a, c2.ok, by rw [c2.q, c2.fit.cq.inn, c1.fit.m]⟩
  have e := cmp_eq f1 f2 (by rw [c1.q, c2.q, cq_assoc c1.fit.m c2.fit.m])
  have f3 : Fit (normP x) (normP y) := ⟨chk_normP c1.fit.a, chk_normP c1.fit.b, by rw [qs_normP, qs_normP, outL_nf, inL_nf]; exact c1.fit.m⟩
  have e3 := cmp_eq f3 c1.fit (by rw [qs_normP, qs_normP, cq_nf])
  exact ⟨e.1, e.2, c1.fit.a, c1.fit.b, c2.fit.b, by rw [e3.1]; exact h1, e3.2⟩
theorem idP_qs {n : Nat} (h : n ≤ 1048576) : qs (idP n) = idQ n ∧ idP (n : Int) = (idQ n).map raw ∧ chk (idP n) = 0 ∧ idE n = 0 := by
  have e : idP (n : Int) = (idQ n).map raw := by
    unfold idP idQ
    by_cases h0 : n = 0
    · subst h0; rfl
    · rw [if_pos (by omega), if_neg h0]; rfl
  have hi := idQ_in n
  refine ⟨by rw [e, qs_raw], e, ?_, by unfold idE; rw [if_neg (by omega), if_neg (by omega)]⟩
  rw [e]
  exact (chk_iff _).2 ⟨_, hi.2.2.1, rfl, by unfold idQ; split <;> simp, by omega, by omega⟩
theorem neutral {x : List P} (h : chk x = 0) : ∃ n m : Nat, lenI x = n ∧ lenO x = m ∧ n ≤ 1048576 ∧ m ≤ 1048576 ∧ idE n = 0 ∧ idE m = 0 ∧ cmpE (idP n) x = 0 ∧ cmpP (idP n) x = normP x ∧ cmpE x (idP m) = 0 ∧ cmpP x (idP m) = normP x := by
  obtain ⟨_, pa, hl, h4, h5, h6⟩ := valid_qs h
  have hq := len_qs h
  obtain ⟨i1, i2, i3, i4⟩ := idP_qs h5
  obtain ⟨o1, o2, o3, o4⟩ := idP_qs h6
  have f1 : Fit (idP (inL (qs x))) x := ⟨i3, h, by rw [i1]; exact (idQ_in _).2.1⟩
  have f2 : Fit x (idP (outL (qs x))) := ⟨h, o3, by rw [o1]; exact (idQ_in _).1.symm⟩
  have e1 : cQ (qs (idP (inL (qs x)))) (qs x) = nf (qs x) := by rw [i1, cq_idL _ pa]
  have e2 : cQ (qs x) (qs (idP (outL (qs x)))) = nf (qs x) := by rw [o1, cq_idR _ pa]
  have hn := nf_length (qs x)
  have c1 := cmp_mk f1 (by rw [e1]; omega)
  have c2 := cmp_mk f2 (by rw [e2]; omega)
  refine ⟨inL (qs x), outL (qs x), hq.1, hq.2, h5, h6, i4, o4, c1, ?_, c2, ?_⟩
  · rw [(cmp_of c1).eq]; unfold cqP; rw [e1]; rfl
  · rw [(cmp_of c2).eq]; unfold cqP; rw [e2]; rfl
/-! ### P5.5 -/
theorem remP_nil {s : List UInt8} {x : List P} (h : fitE s x = 0) : remP s x = [] ↔ dN (qs x) = 0 := by
  rw [remP_eq h, ← gone_len _ _ (fitE_zero h).2]
  exact List.length_eq_zero_iff.symm
theorem back_inv {s : List UInt8} {x : List P} (h : fitE s x = 0) (hc : cmpE x (invP s x) = 0) : fitE s (cmpP x (invP s x)) = 0 ∧ resP s (cmpP x (invP s x)) = s ∧ (cmpP x (invP s x) = idP s.length ↔ remP s x = []) := by
  obtain ⟨h0, h1⟩ := fitE_zero h
  have c := cmp_of hc
  have hq : qs (invP s x) = nf (inv s (qs x)) := by rw [invP_eq h, qs_raw]
  have e : cQ (qs x) (qs (invP s x)) = cQ (qs x) (inv s (qs x)) := by rw [hq, ← cq_nf, nf_nf, cq_nf]
  have q := c.fit.cq
  have hf : fitE s (cmpP x (invP s x)) = 0 := fitE_of c.ok (by rw [c.q, q.inn, h1])
  have hl : s.length ≤ 1048576 := by have := (valid_qs h0).2.2.2.2.1; omega
  obtain ⟨_, i2, _, _⟩ := idP_qs hl
  refine ⟨hf, by rw [resP_eq hf, c.q, e, apl_cq_inv h1], ?_⟩
  rw [remP_nil h, ← cq_inv_id h1, ← e, c.eq, i2]
  unfold cqP
  exact ⟨fun k => map_raw_inj k, fun k => by rw [k]⟩
theorem inv_fit {s : List UInt8} {x : List P} (h : fitE s x = 0) : Fit x (invP s x) := by
  obtain ⟨h0, h1⟩ := fitE_zero h
  have b := back h
  refine ⟨h0, b.valid, ?_⟩
  rw [invP_eq h, qs_raw, inL_nf, inL_inv _ _ h1]
theorem back_two {s : List UInt8} {x y : List P} (h : fitE s x = 0) (hg : fitE (resP s x) y = 0) (hc : cmpE x y = 0) : fitE s (cmpP x y) = 0 ∧ cmpE (invP (resP s x) y) (invP s x) = 0 ∧ cmpP (invP (resP s x) y) (invP s x) = invP s (cmpP x y) := by
  obtain ⟨h0, h1⟩ := fitE_zero h
  obtain ⟨g0, g1⟩ := fitE_zero hg
  obtain ⟨hf, _, _, _⟩ := app_ok h hc
  have c := cmp_of hc
  have bx := back h
  have by_ := back hg
  have hs : resP s x = apl s (qs x) := resP_eq h
  have ex : qs (invP s x) = nf (inv s (qs x)) := by rw [invP_eq h, qs_raw]
  have ey : qs (invP (resP s x) y) = nf (inv (apl s (qs x)) (qs y)) := by rw [invP_eq hg, qs_raw, hs]
  have hi : inL (qs y) = (apl s (qs x)).length := by rw [← hs]; exact g1
  have f : Fit (invP (resP s x) y) (invP s x) := by
    refine ⟨by_.valid, bx.valid, ?_⟩
    rw [ex, ey, outL_nf, inL_nf, outL_inv _ _ hi, inL_inv _ _ h1]
    exact c.fit.m.symm
  have e : cQ (qs (invP (resP s x) y)) (qs (invP s x)) = nf (inv s (cQ (qs x) (qs y))) := by rw [ex, ey, cq_nf, ← inv_cq h1 c.fit.m]
  have hl : (cQ (qs (invP (resP s x) y)) (qs (invP s x))).length ≤ 4096 := by
    rw [e]
    have k1 := nf_length (inv s (cQ (qs x) (qs y)))
    rw [inv_length] at k1
    have := c.len
    omega
  have h2 := cmp_mk f hl
  refine ⟨hf, h2, ?_⟩
  rw [(cmp_of h2).eq]
  unfold cqP
  rw [e, invP_eq hf, c.q]
/-! ### P5.6 -/
theorem counts5 {x y : List P} (h : cmpE x y = 0) : kN (qs (cmpP x y)) ≤ kN (qs x) ∧ kN (qs (cmpP x y)) ≤ kN (qs y) ∧ iN (qs (cmpP x y)) ≤ iN (qs x) + iN (qs y) ∧ dN (qs (cmpP x y)) ≤ dN (qs x) + dN (qs y) ∧ kN (qs (cmpP x y)) + dN (qs (cmpP x y)) = kN (qs x) + dN (qs x) ∧ kN (qs (cmpP x y)) + iN (qs (cmpP x y)) = kN (qs y) + iN (qs y) := by
  have c := cmp_of h
  rw [c.q]
  exact cq_counts c.fit.m
/-! ### P5.2, P5.7 -/
def stepS (s : Int × List P) (x : List P) : Int × List P := if s.1 = 0 then (cmpE s.2 x, cmpP s.2 x) else s
def foldS (s : Int × List P) (L : List (List P)) : Int × List P := L.foldl stepS s
def allS (n : Int) (L : List (List P)) : Int × List P := foldS (idE n, idP n) L
theorem foldS_stop {s : Int × List P} (h : s.1 ≠ 0) (L : List (List P)) : foldS s L = s := by
  induction L with
  | nil => rfl
  | cons x r ih =>
    show foldS (stepS s x) r = s
    rw [show stepS s x = s from if_neg h]; exact ih
theorem foldS_append (s : Int × List P) (L M : List (List P)) : foldS s (L ++ M) = foldS (foldS s L) M := List.foldl_append
theorem allS_snoc (n : Int) (L : List (List P)) (k : Nat) (x : List P) (h : L[k]? = some x) : allS n (L.take (k + 1)) = stepS (allS n (L.take k)) x := by
  rw [List.take_add_one, h]
  show foldS _ (L.take k ++ [x]) = _
  rw [foldS_append]; rfl
theorem stepS_nil {s : Int × List P} (hs : s.1 ≠ 0 → s.2 = []) (x : List P) : (stepS s x).1 ≠ 0 → (stepS s x).2 = [] := by
  unfold stepS
  by_cases h : s.1 = 0
  · rw [if_pos h]
    intro hc
    exact if_neg hc
  · rw [if_neg h]; exact hs
theorem foldS_nil (L : List (List P)) : ∀ s : Int × List P, (s.1 ≠ 0 → s.2 = []) → (foldS s L).1 ≠ 0 → (foldS s L).2 = [] := by
  induction L with
  | nil => intro s h; exact h
  | cons x r ih => intro s h; exact ih (stepS s x) (stepS_nil h x)
theorem allS_nil (n : Int) (L : List (List P)) : (allS n L).1 ≠ 0 → (allS n L).2 = [] := by
  refine foldS_nil L _ fun h => ?_
  show idP n = []
  have h' : idE n ≠ 0 := h
  unfold idP
  unfold idE at h'
  refine if_neg fun hn => h' ?_
  rw [if_neg (by omega), if_neg (by omega)]
/-- What is known of a list that has been composed without an error. -/
structure FoldOk (w : List P) (L : List (List P)) (d : List P) : Prop where
  all : ∀ x ∈ L, chk x = 0
  ch : chain (outL (qs w)) (L.map qs)
  q : qs d = allQ (qs w) (L.map qs)
  ok : chk d = 0
  n : isN (qs d) = true
theorem fold_ok (L : List (List P)) : ∀ w, chk w = 0 → isN (qs w) = true → (foldS (0, w) L).1 = 0 → FoldOk w L (foldS (0, w) L).2 := by
  induction L with
  | nil => intro w h1 h2 _; exact ⟨fun x hx => (by cases hx), trivial, rfl, h1, h2⟩
  | cons x r ih =>
    intro w h1 h2 h
    have e : foldS (0, w) (x :: r) = foldS (cmpE w x, cmpP w x) r := rfl
    rw [e] at h ⊢
    by_cases hc : cmpE w x = 0
    · rw [hc] at h ⊢
      have c := cmp_of hc
      have q := c.fit.cq
      have o := ih _ c.ok (by rw [c.q]; exact q.nrm) h
      have oc := o.ch
      rw [c.q, q.out] at oc
      refine ⟨fun y hy => ?_, ⟨c.fit.m.symm, oc⟩, ?_, o.ok, o.n⟩
      · rcases List.mem_cons.1 hy with rfl | hy
        · exact c.fit.b
        · exact o.all y hy
      · rw [o.q, c.q]; rfl
    · rw [foldS_stop (s := (cmpE w x, cmpP w x)) hc] at h
      exact absurd h hc
theorem fold_two (L : List (List P)) : ∀ w, chk w = 0 → (∀ x ∈ L, chk x = 0) → chain (outL (qs w)) (L.map qs) → (foldS (0, w) L).1 = 0 ∨ (foldS (0, w) L).1 = 5 := by
  induction L with
  | nil => intro w _ _ _; exact .inl rfl
  | cons x r ih =>
    intro w h1 h2 h3
    have e : foldS (0, w) (x :: r) = foldS (cmpE w x, cmpP w x) r := rfl
    rw [e]
    have f : Fit w x := ⟨h1, h2 x (by simp), h3.1.symm⟩
    rcases f.two with hc | hc
    · rw [hc]
      have c := cmp_of hc
      exact ih _ c.ok (fun y hy => h2 y (by simp [hy])) (by rw [c.q, c.fit.cq.out]; exact h3.2)
    · rw [foldS_stop (s := (cmpE w x, cmpP w x)) (fun k : cmpE w x = 0 => by rw [hc] at k; exact absurd k (by decide))]
      exact .inr hc
theorem idE_zero {n : Int} (h : idE n = 0) : ∃ m : Nat, n = m ∧ m ≤ 1048576 := by
  unfold idE at h
  split at h
  · exact absurd h (by decide)
  · split at h
    · exact absurd h (by decide)
    · exact ⟨n.toNat, by omega, by omega⟩
theorem allS_id {m : Nat} (h : m ≤ 1048576) (M : List (List P)) : allS m M = foldS (0, idP m) M := by unfold allS; rw [(idP_qs h).2.2.2]
theorem all_ok {n : Int} {L : List (List P)} (h : (allS n L).1 = 0) : ∃ m : Nat, n = m ∧ m ≤ 1048576 ∧ idE n = 0 ∧ FoldOk (idP n) L (allS n L).2 ∧ qs (idP n) = idQ m := by
  by_cases h0 : idE n = 0
  · obtain ⟨m, rfl, hm⟩ := idE_zero h0
    obtain ⟨i1, _, i3, i4⟩ := idP_qs hm
    have e : allS (m : Int) L = foldS (0, idP m) L := by unfold allS; rw [h0]
    rw [e] at h ⊢
    exact ⟨m, rfl, hm, h0, fold_ok L _ i3 (by rw [i1]; exact (idQ_in m).2.2.2) h, i1⟩
  · have e : allS n L = (idE n, idP n) := foldS_stop (s := (idE n, idP n)) h0 L
    rw [e] at h
    exact absurd h h0
theorem all_take {n : Int} {L : List (List P)} (k : Nat) (h : (allS n L).1 = 0) : (allS n (L.take k)).1 = 0 := by
  by_cases hc : (allS n (L.take k)).1 = 0
  · exact hc
  · have e : allS n L = foldS (allS n (L.take k)) (L.drop k) := by
      conv => lhs; rw [← List.take_append_drop k L]
      exact foldS_append _ _ _
    rw [e, foldS_stop hc] at h
    exact absurd h hc
structure Folds (n : Int) (L : List (List P)) (k m : Nat) : Prop where
  err : idE m = 0
  fst : (allS n (L.take k)).1 = 0
  ok : chk (allS n (L.take k)).2 = 0
  len : lenO (allS n (L.take k)).2 = m
  bd : m ≤ 1048576
  two : (allS m (L.drop k)).1 = 0 ∨ (allS m (L.drop k)).1 = 5
  e : (allS m (L.drop k)).1 = 0 → cmpE (allS n (L.take k)).2 (allS m (L.drop k)).2 = 0
  p : (allS m (L.drop k)).1 = 0 → cmpP (allS n (L.take k)).2 (allS m (L.drop k)).2 = (allS n L).2
theorem folds {n : Int} {L : List (List P)} (k : Nat) (h : (allS n L).1 = 0) : ∃ m, Folds n L k m := by
  have hf := all_take k h
  obtain ⟨j, rfl, hj, i0, o, iq⟩ := all_ok hf
  obtain ⟨_, _, _, _, O, _⟩ := all_ok h
  obtain ⟨_, pa, _, _, h5, h6⟩ := valid_qs o.ok
  obtain ⟨m1, _, m3, m4⟩ := idP_qs h6
  have hq := len_qs o.ok
  have e0 : allS (j : Int) L = foldS (0, (allS j (L.take k)).2) (L.drop k) := by
    conv => lhs; rw [← List.take_append_drop k L]
    refine (foldS_append _ _ _).trans ?_
    show foldS (allS j (L.take k)) (L.drop k) = _
    congr 1
    exact Prod.ext hf rfl
  have hb : FoldOk (allS j (L.take k)).2 (L.drop k) (allS j L).2 := by
    rw [e0] at h ⊢
    exact fold_ok _ _ o.ok o.n h
  have ii := idQ_in (outL (qs (allS j (L.take k)).2))
  have e1 : allS ((outL (qs (allS j (L.take k)).2) : Nat) : Int) (L.drop k) = foldS (0, idP ((outL (qs (allS j (L.take k)).2) : Nat) : Int)) (L.drop k) := allS_id h6 _
  have ch : chain (outL (qs (idP ((outL (qs (allS j (L.take k)).2) : Nat) : Int)))) ((L.drop k).map qs) := by rw [m1, ii.2.1]; exact hb.ch
  have key : (allS ((outL (qs (allS j (L.take k)).2) : Nat) : Int) (L.drop k)).1 = 0 → cmpE (allS j (L.take k)).2 (allS ((outL (qs (allS j (L.take k)).2) : Nat) : Int) (L.drop k)).2 = 0 ∧ cmpP (allS j (L.take k)).2 (allS ((outL (qs (allS j (L.take k)).2) : Nat) : Int) (L.drop k)).2 = (allS j L).2 := fun hz => by
    rw [e1] at hz ⊢
    have b := fold_ok _ _ m3 (by rw [m1]; exact ii.2.2.2) hz
    generalize (foldS (0, idP ((outL (qs (allS j (L.take k)).2) : Nat) : Int)) (L.drop k)).2 = B at b ⊢
    have bq := b.q
    rw [m1] at bq
    have ao := allQ_out (d := idQ (outL (qs (allS j (L.take k)).2))) (L := (L.drop k).map qs) (by rw [ii.2.1]; exact hb.ch)
    have f : Fit (allS j (L.take k)).2 B := ⟨o.ok, b.ok, by rw [bq, ao.2, ii.1]⟩
    have ec : cQ (qs (allS j (L.take k)).2) (qs B) = qs (allS j L).2 := by
      rw [bq, ← allQ_fold pa o.n hb.ch, hb.q]
    have hl := (valid_qs hb.ok).2.2.1
    have hl' := (valid_qs hb.ok).2.2.2.1
    have hc := cmp_mk f (by rw [ec]; omega)
    refine ⟨hc, ?_⟩
    rw [(cmp_of hc).eq]
    unfold cqP
    rw [ec, (valid_qs hb.ok).1]
  exact ⟨_, m4, hf, o.ok, hq.2, h6, by rw [e1]; exact fold_two _ _ m3 hb.all ch, fun hz => (key hz).1, fun hz => (key hz).2⟩
end Go.Proofs.Ytmbgcbgbdjiacaa.D
/- ComposeWalk -/
namespace Go.Proofs.Ytmbgcbgbdjiacaa.D

def hdQ (n : Nat) : Q → Q
  | .R _ => .R n
  | .I t => .I (t.take n)
  | .D _ => .D n
def tlQ (n : Nat) : Q → Q
  | .R m => .R (m - n)
  | .I t => .I (t.drop n)
  | .D m => .D (m - n)
/-- What is left behind n bytes of a list whose head has z of them. -/
def rest (z n : Nat) (q : Q) (r : List Q) : List Q := if n = z then r else tlQ n q :: r
def meetQ (q p : Q) : List Q := if isR p = true then [q] else if isR q = true then [p] else []
theorem rest_eq {z : Nat} (q : Q) (r : List Q) : rest z z q r = r := if_pos rfl
theorem rest_ne {z n : Nat} (h : n ≠ z) (q : Q) (r : List Q) : rest z n q r = tlQ n q :: r := if_neg h
theorem rest_len (z n : Nat) (q : Q) (r : List Q) : (rest z n q r).length = if n = z then r.length else r.length + 1 := by
  unfold rest; split <;> simp
theorem allPos_cons {q : Q} {r : List Q} : allPos (q :: r) = true ↔ pos q = true ∧ allPos r = true := by
  unfold allPos; rw [List.all_cons, Bool.and_eq_true]
/-- The first of two deltas, cut behind n bytes of what it makes. -/
theorem cutA {q : Q} {la : List Q} {n : Nat} (h0 : 0 < n) (hn : n ≤ out1 q) (hp : pos q = true) (pa : allPos la = true) (B : List Q) :
    cQ (q :: la) B = cQ (hdQ n q :: rest (out1 q) n q la) B ∧ out1 (hdQ n q) = n ∧ pos (hdQ n q) = true ∧ allPos (rest (out1 q) n q la) = true ∧ outL (q :: la) = n + outL (rest (out1 q) n q la) ∧ isR (hdQ n q) = isR q := by
  have ho : outL (q :: la) = out1 q + outL la := rfl
  cases q with
  | R m =>
    simp only [out1] at hn ho ⊢
    by_cases e : n = m
    · subst e
      rw [rest_eq]
      exact ⟨rfl, rfl, hp, pa, ho, rfl⟩
    · rw [rest_ne e]
      have e1 : m = n + (m - n) := by omega
      refine ⟨?_, rfl, by simp [hdQ, pos, h0], allPos_cons.2 ⟨by simp [tlQ, pos]; omega, pa⟩, ?_, rfl⟩
      · conv => lhs; rw [e1]
        exact cq_cut_aR n (m - n) la B
      · rw [ho]; show _ = n + ((m - n) + outL la); omega
  | I t =>
    simp only [out1] at hn ho ⊢
    by_cases e : n = t.length
    · subst e
      rw [rest_eq]
      have e' : hdQ t.length (.I t) = .I t := by simp [hdQ]
      rw [e']
      exact ⟨rfl, rfl, hp, pa, ho, rfl⟩
    · rw [rest_ne e]
      refine ⟨?_, by show (t.take n).length = n; rw [List.length_take]; omega, ?_, allPos_cons.2 ⟨?_, pa⟩, ?_, rfl⟩
      · conv => lhs; rw [← List.take_append_drop n t]
        exact cq_cut_aI (t.take n) (t.drop n) la B
      · simp only [hdQ, pos]
        have : (t.take n).length = n := by rw [List.length_take]; omega
        cases h : t.take n with
        | nil => rw [h] at this; simp at this; omega
        | cons => simp
      · simp only [tlQ, pos]
        have : (t.drop n).length = t.length - n := List.length_drop
        cases h : t.drop n with
        | nil => rw [h] at this; simp at this; omega
        | cons => simp
      · rw [ho]; show _ = n + ((t.drop n).length + outL la); rw [List.length_drop]; omega
  | D m => simp only [out1] at hn; omega
/-- The second one, cut behind n bytes of what it takes. -/
theorem cutB {p : Q} {lb : List Q} {n : Nat} (h0 : 0 < n) (hn : n ≤ in1 p) (hp : pos p = true) (pb : allPos lb = true) (A : List Q) :
    cQ A (p :: lb) = cQ A (hdQ n p :: rest (in1 p) n p lb) ∧ in1 (hdQ n p) = n ∧ pos (hdQ n p) = true ∧ allPos (rest (in1 p) n p lb) = true ∧ inL (p :: lb) = n + inL (rest (in1 p) n p lb) ∧ isR (hdQ n p) = isR p := by
  have ho : inL (p :: lb) = in1 p + inL lb := rfl
  cases p with
  | R m =>
    simp only [in1] at hn ho ⊢
    by_cases e : n = m
    · subst e
      rw [rest_eq]
      exact ⟨rfl, rfl, hp, pb, ho, rfl⟩
    · rw [rest_ne e]
      have e1 : m = n + (m - n) := by omega
      refine ⟨?_, rfl, by simp [hdQ, pos, h0], allPos_cons.2 ⟨by simp [tlQ, pos]; omega, pb⟩, ?_, rfl⟩
      · conv => lhs; rw [e1]
        exact cq_cut_bR n (m - n) A lb
      · rw [ho]; show _ = n + ((m - n) + inL lb); omega
  | I t => simp only [in1] at hn; omega
  | D m =>
    simp only [in1] at hn ho ⊢
    by_cases e : n = m
    · subst e
      rw [rest_eq]
      exact ⟨rfl, rfl, hp, pb, ho, rfl⟩
    · rw [rest_ne e]
      have e1 : m = n + (m - n) := by omega
      refine ⟨?_, rfl, by simp [hdQ, pos, h0], allPos_cons.2 ⟨by simp [tlQ, pos]; omega, pb⟩, ?_, rfl⟩
      · conv => lhs; rw [e1]
        exact cq_cut_bD n (m - n) A lb
      · rw [ho]; show _ = n + ((m - n) + inL lb); omega
/-- Two heads of equal size. -/
theorem step_meet {q p : Q} {a b : List Q} (e : out1 q = in1 p) (h0 : 0 < in1 p) (hq : pos q = true) (h : outL a = inL b) : cQ (q :: a) (p :: b) = nf (meetQ q p ++ cQ a b) := by
  have hn := (cq h).nrm
  cases q with
  | R n =>
    simp only [out1] at e
    subst e
    cases p with
    | R m => exact step_RR h0 h
    | I t => simp only [in1] at h0; omega
    | D m => exact step_RD h0 h
  | I t =>
    simp only [out1] at e
    cases p with
    | R m => simp only [in1] at e; subst e; exact step_IR hq h
    | I t => simp only [in1] at h0; omega
    | D m =>
      simp only [in1] at e; subst e
      rw [step_ID h]
      exact (nf_of_isN _ hn).symm
  | D n => simp only [out1] at e; omega
/-- Between two rounds. -/
structure Wk (a b la lb X : List Q) : Prop where
  eq : cQ a b = nf (X ++ cQ la lb)
  fit : outL la = inL lb
  pa : allPos la = true
  pb : allPos lb = true
  px : allPos X = true
  len : X.length + la.length + lb.length ≤ a.length + b.length
  oa : outL la ≤ outL a
theorem Wk.init {a b : List Q} (h : outL a = inL b) (pa : allPos a = true) (pb : allPos b = true) : Wk a b a b [] :=
  ⟨by rw [List.nil_append, nf_of_isN _ (cq h).nrm], h, pa, pb, rfl, by simp, Nat.le_refl _⟩
theorem nf_put (X : List Q) (q : Q) (r : List Q) : nf (X ++ nf (q :: r)) = nf ((X ++ [q]) ++ r) := by
  rw [nf_right, List.append_assoc]; rfl
theorem Wk.stepD {a b la lb X : List Q} {n : Nat} (w : Wk a b (.D n :: la) lb X) : Wk a b la lb (X ++ [.D n]) := by
  obtain ⟨h1, h2⟩ := allPos_cons.1 w.pa
  have hf : outL la = inL lb := by have := w.fit; have e : outL (.D n :: la) = 0 + outL la := rfl; omega
  refine ⟨by rw [w.eq, step_D (by simpa [pos] using h1) hf, nf_put], hf, h2, w.pb, allPos_app w.px (pos1 h1), ?_, ?_⟩
  · have := w.len; simp only [List.length_append, List.length_cons, List.length_nil] at this ⊢; omega
  · have := w.oa; have e : outL (.D n :: la) = 0 + outL la := rfl; omega
theorem Wk.stepI {a b la lb X : List Q} {t : List UInt8} (w : Wk a b la (.I t :: lb) X) : Wk a b la lb (X ++ [.I t]) := by
  obtain ⟨h1, h2⟩ := allPos_cons.1 w.pb
  have hf : outL la = inL lb := by have := w.fit; have e : inL (.I t :: lb) = 0 + inL lb := rfl; omega
  refine ⟨by rw [w.eq, step_I h1 hf, nf_put], hf, w.pa, h2, allPos_app w.px (pos1 h1), ?_, w.oa⟩
  have := w.len; simp only [List.length_append, List.length_cons, List.length_nil] at this ⊢; omega
theorem Wk.meet {a b la lb X : List Q} {q p : Q} {n : Nat} (w : Wk a b (q :: la) (p :: lb) X) (h0 : 0 < n) (hq : n ≤ out1 q) (hp : n ≤ in1 p) (hm : n = out1 q ∨ n = in1 p) :
    Wk a b (rest (out1 q) n q la) (rest (in1 p) n p lb) (X ++ meetQ (hdQ n q) (hdQ n p)) := by
  obtain ⟨h1, h2⟩ := allPos_cons.1 w.pa
  obtain ⟨h3, h4⟩ := allPos_cons.1 w.pb
  obtain ⟨a1, a2, a3, a4, a5, a6⟩ := cutA h0 hq h1 h2 (p :: lb)
  obtain ⟨b1, b2, b3, b4, b5, b6⟩ := cutB h0 hp h3 h4 (hdQ n q :: rest (out1 q) n q la)
  have hf : outL (rest (out1 q) n q la) = inL (rest (in1 p) n p lb) := by have := w.fit; omega
  have e : cQ (q :: la) (p :: lb) = nf (meetQ (hdQ n q) (hdQ n p) ++ cQ (rest (out1 q) n q la) (rest (in1 p) n p lb)) := by
    rw [a1, b1]; exact step_meet (by rw [a2, b2]) (by rw [b2]; exact h0) a3 hf
  have hml : (meetQ (hdQ n q) (hdQ n p)).length ≤ 1 := by unfold meetQ; split <;> (try split) <;> simp
  refine ⟨by rw [w.eq, e, nf_right, List.append_assoc], hf, a4, b4, allPos_app w.px ?_, ?_, ?_⟩
  · unfold meetQ
    split
    · exact pos1 a3
    · split
      · exact pos1 b3
      · rfl
  · have := w.len
    rw [List.length_append, rest_len, rest_len]
    simp only [List.length_cons] at this
    rcases hm with hm | hm
    · rw [if_pos hm]; split <;> omega
    · rw [if_pos hm]; split <;> omega
  · have := w.oa; omega
theorem Wk.fin {a b X : List Q} (w : Wk a b [] [] X) : nf X = cQ a b ∧ inL X = inL (cQ a b) ∧ outL X = outL (cQ a b) := by
  have e := w.eq
  rw [cq_nil, List.append_nil] at e
  exact ⟨e.symm, by rw [e, inL_nf], by rw [e, outL_nf]⟩
end Go.Proofs.Ytmbgcbgbdjiacaa.D
