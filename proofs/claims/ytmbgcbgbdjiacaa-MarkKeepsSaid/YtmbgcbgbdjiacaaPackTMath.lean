/- Texts joined: TransMath TransMath2 TransRefM -/
import Derived.Test.YtmbgcbgbdjiacaaPackMath
/- TransMath -/
namespace Go.Proofs.Ytmbgcbgbdjiacaa.D

/-- The text that stands before a byte, and whether the byte is kept. -/
abbrev Col := List UInt8 × Bool
def run (k n : Nat) : List Int := (List.range n).map fun i => ((k + i : Nat) : Int)
/-- The columns of a delta, with a text that stands before it; and the text at its end. -/
def col (p : List UInt8) : List Q → List Col × List UInt8
  | [] => ([], p)
  | .I t :: r => col (p ++ t) r
  | .R n :: r => ((p, true) :: (List.replicate (n - 1) ([], true) ++ (col [] r).1), (col [] r).2)
  | .D n :: r => ((p, false) :: (List.replicate (n - 1) ([], false) ++ (col [] r).1), (col [] r).2)
/-- The entries of columns. -/
def ent (k : Nat) : List Col → List UInt8 → List Int
  | [], l => l.map neg
  | (s, b) :: c, l => s.map neg ++ ((if b then [(k : Int)] else []) ++ ent (k + 1) c l)
theorem run_zero (k : Nat) : run k 0 = [] := rfl
theorem run_succ (k n : Nat) : run k (n + 1) = (k : Int) :: run (k + 1) n := by
  unfold run
  rw [List.range_succ_eq_map, List.map_cons, List.map_map]
  congr 1
  apply List.map_congr_left
  intro i _
  simp only [Function.comp]; omega
theorem ent_rep (b : Bool) (c : List Col) (l : List UInt8) : ∀ k m, ent k (List.replicate m ([], b) ++ c) l = (if b then run k m else []) ++ ent (k + m) c l := by
  intro k m
  induction m generalizing k with
  | zero => cases b <;> simp [run_zero]
  | succ m ih =>
    show [] ++ ((if b then [(k : Int)] else []) ++ ent (k + 1) (List.replicate m ([], b) ++ c) l) = _
    rw [ih, List.nil_append, show k + 1 + m = k + (m + 1) by omega]
    cases b
    · simp
    · simp [run_succ]
theorem ent_col (a : List Q) (h : allPos a = true) : ∀ k p, ent k (col p a).1 (col p a).2 = p.map neg ++ atoms k a := by
  induction a with
  | nil => intro k p; simp [col, ent, atoms]
  | cons q r ih =>
    intro k p
    have h0 : pos q = true ∧ allPos r = true := by simpa [allPos] using h
    cases q with
    | I t =>
      show ent k (col (p ++ t) r).1 (col (p ++ t) r).2 = p.map neg ++ (t.map neg ++ atoms k r)
      rw [ih h0.2, List.map_append, List.append_assoc]
    | R n =>
      obtain ⟨m, rfl⟩ : ∃ m, n = m + 1 := ⟨n - 1, by have : 0 < n := by simpa [pos] using h0.1
                                                     omega⟩
      show p.map neg ++ ([(k : Int)] ++ ent (k + 1) (List.replicate (m + 1 - 1) ([], true) ++ (col [] r).1) (col [] r).2) = p.map neg ++ (run k (m + 1) ++ atoms (k + (m + 1)) r)
      rw [Nat.add_sub_cancel, ent_rep, ih h0.2, run_succ, show k + 1 + m = k + (m + 1) by omega]; simp
    | D n =>
      obtain ⟨m, rfl⟩ : ∃ m, n = m + 1 := ⟨n - 1, by have : 0 < n := by simpa [pos] using h0.1
                                                     omega⟩
      show p.map neg ++ ([] ++ ent (k + 1) (List.replicate (m + 1 - 1) ([], false) ++ (col [] r).1) (col [] r).2) = p.map neg ++ atoms (k + (m + 1)) r
      rw [Nat.add_sub_cancel, ent_rep, ih h0.2, show k + 1 + m = k + (m + 1) by omega]; simp
theorem col_length (a : List Q) (h : allPos a = true) : ∀ p, (col p a).1.length = inL a := by
  induction a with
  | nil => intro p; rfl
  | cons q r ih =>
    intro p
    have h0 : pos q = true ∧ allPos r = true := by simpa [allPos] using h
    have e : inL (q :: r) = in1 q + inL r := rfl
    cases q with
    | I t => show (col (p ++ t) r).1.length = _; rw [ih h0.2, e]; simp [in1]
    | R n =>
      have : 0 < n := by simpa [pos] using h0.1
      simp only [col, List.length_cons, List.length_append, List.length_replicate, ih h0.2, e, in1]; omega
    | D n =>
      have : 0 < n := by simpa [pos] using h0.1
      simp only [col, List.length_cons, List.length_append, List.length_replicate, ih h0.2, e, in1]; omega

/-! ### The transformed delta -/
def blkQ (first : Bool) (s t : List UInt8) : List Q := if first then oR s.length ++ oI t else oI t ++ oR s.length
def tfQ (first : Bool) : List Col → List UInt8 → List Col → List UInt8 → List Q
  | (s, k) :: ca, sl, (t, l) :: cb, tl => blkQ first s t ++ ((if k then [if l then Q.R 1 else Q.D 1] else []) ++ tfQ first ca sl cb tl)
  | _, s, _, t => blkQ first s t
def blkE (first : Bool) (i : Nat) (s t : List UInt8) : List Int := if first then run i s.length ++ t.map neg else t.map neg ++ run i s.length
def tfE (first : Bool) : Nat → List Col → List UInt8 → List Col → List UInt8 → List Int
  | i, (s, k) :: ca, sl, (t, l) :: cb, tl => blkE first i s t ++ ((if k && l then [((i + s.length : Nat) : Int)] else []) ++ tfE first (i + s.length + (if k then 1 else 0)) ca sl cb tl)
  | i, _, s, _, t => blkE first i s t
/-- The merged result's entries. -/
def mgE (first : Bool) : Nat → List Col → List UInt8 → List Col → List UInt8 → List Int
  | k, (s, x) :: ca, sl, (t, y) :: cb, tl => (if first then s ++ t else t ++ s).map neg ++ ((if x && y then [(k : Int)] else []) ++ mgE first (k + 1) ca sl cb tl)
  | _, _, s, _, t => (if first then s ++ t else t ++ s).map neg
/-- b against a, for any deltas of one input length. -/
def tf (first : Bool) (a b : List Q) : List Q := nf (tfQ first (col [] (nf a)).1 (col [] (nf a)).2 (col [] (nf b)).1 (col [] (nf b)).2)
theorem atoms_oR (k n : Nat) (r : List Q) : atoms k (oR n ++ r) = run k n ++ atoms (k + n) r := by
  unfold oR
  split
  · rename_i h; subst h; rfl
  · rfl
theorem atoms_oI (k : Nat) (t : List UInt8) (r : List Q) : atoms k (oI t ++ r) = t.map neg ++ atoms k r := by
  unfold oI
  split
  · rename_i h; subst h; rfl
  · rfl
theorem inL_oRr (n : Nat) (r : List Q) : inL (oR n ++ r) = n + inL r := by
  unfold oR
  split
  · rename_i h; subst h; simp
  · rfl
theorem inL_oIr (t : List UInt8) (r : List Q) : inL (oI t ++ r) = inL r := by
  unfold oI
  split
  · rfl
  · show 0 + inL r = _; omega
theorem atoms_blk (first : Bool) (i : Nat) (s t : List UInt8) (r : List Q) : atoms i (blkQ first s t ++ r) = blkE first i s t ++ atoms (i + s.length) r := by
  cases first
  · show atoms i ((oI t ++ oR s.length) ++ r) = (t.map neg ++ run i s.length) ++ _
    rw [List.append_assoc, atoms_oI, atoms_oR, List.append_assoc]
  · show atoms i ((oR s.length ++ oI t) ++ r) = (run i s.length ++ t.map neg) ++ _
    rw [List.append_assoc, atoms_oR, atoms_oI, List.append_assoc]
theorem inL_blk (first : Bool) (s t : List UInt8) (r : List Q) : inL (blkQ first s t ++ r) = s.length + inL r := by
  cases first
  · show inL ((oI t ++ oR s.length) ++ r) = _
    rw [List.append_assoc, inL_oIr, inL_oRr]
  · show inL ((oR s.length ++ oI t) ++ r) = _
    rw [List.append_assoc, inL_oRr, inL_oIr]
theorem atoms_tfQ (first : Bool) (ca : List Col) (sl tl : List UInt8) : ∀ (cb : List Col) (i : Nat), ca.length = cb.length → atoms i (tfQ first ca sl cb tl) = tfE first i ca sl cb tl := by
  induction ca with
  | nil =>
    intro cb i h
    cases cb with
    | cons _ _ => cases h
    | nil =>
      show atoms i (blkQ first sl tl) = blkE first i sl tl
      have := atoms_blk first i sl tl []
      simpa [atoms] using this
  | cons x ca ih =>
    intro cb i h
    cases cb with
    | nil => cases h
    | cons y cb =>
      obtain ⟨s, k⟩ := x
      obtain ⟨t, l⟩ := y
      have h' : ca.length = cb.length := by simpa using h
      show atoms i (blkQ first s t ++ ((if k then [if l then Q.R 1 else Q.D 1] else []) ++ tfQ first ca sl cb tl)) = blkE first i s t ++ ((if k && l then [((i + s.length : Nat) : Int)] else []) ++ tfE first (i + s.length + (if k then 1 else 0)) ca sl cb tl)
      rw [atoms_blk]
      cases k
      · simp only [Bool.false_and, Bool.false_eq_true, if_false, List.nil_append, Nat.add_zero]
        rw [ih cb _ h']
      · cases l
        · simp only [Bool.and_false, Bool.false_eq_true, if_false, if_true, List.nil_append, List.singleton_append]
          show _ ++ atoms (i + s.length + 1) _ = _
          rw [ih cb _ h']
        · simp only [Bool.and_true, if_true, List.singleton_append]
          show _ ++ (run (i + s.length) 1 ++ atoms (i + s.length + 1) _) = _
          rw [ih cb _ h']; simp [run]
theorem inL_tfQ (first : Bool) (ca : List Col) (sl tl : List UInt8) : ∀ (cb : List Col) (k : Nat), ca.length = cb.length → inL (tfQ first ca sl cb tl) = (ent k ca sl).length := by
  induction ca with
  | nil =>
    intro cb k h
    cases cb with
    | cons _ _ => cases h
    | nil =>
      show inL (blkQ first sl tl) = (sl.map neg).length
      have := inL_blk first sl tl []
      have e : inL [] = 0 := rfl
      rw [List.append_nil, e] at this
      rw [this, List.length_map]; rfl
  | cons x ca ih =>
    intro cb k h
    cases cb with
    | nil => cases h
    | cons y cb =>
      obtain ⟨s, b⟩ := x
      obtain ⟨t, l⟩ := y
      have h' : ca.length = cb.length := by simpa using h
      show inL (blkQ first s t ++ ((if b then [if l then Q.R 1 else Q.D 1] else []) ++ tfQ first ca sl cb tl)) = (s.map neg ++ ((if b then [(k : Int)] else []) ++ ent (k + 1) ca sl)).length
      rw [inL_blk, inL_append, ih cb (k + 1) h']
      have e : inL (if b then [if l then Q.R 1 else Q.D 1] else []) = (if b then [(k : Int)] else ([] : List Int)).length := by cases b <;> cases l <;> rfl
      rw [e]
      simp only [List.length_append, List.length_map]

/-! ### Convergence (P7.6) -/
theorem pick_run (P X : List Int) (s : List UInt8) : (run P.length s.length).map (pick (P ++ (s.map neg ++ X))) = s.map neg := by
  unfold run
  rw [List.map_map]
  apply List.ext_getElem
  · simp
  · intro i h1 h2
    have hi : i < s.length := by simpa using h2
    simp only [List.getElem_map, List.getElem_range, Function.comp]
    rw [pick_nat, List.getD_eq_getElem?_getD, List.getElem?_append_right (by omega), Nat.add_sub_cancel_left, List.getElem?_append_left (by simpa using hi), List.getElem?_map, List.getElem?_eq_getElem hi]
    rfl
theorem pick_negs (M : List Int) (t : List UInt8) : (t.map neg).map (pick M) = t.map neg := by
  rw [List.map_map]
  apply List.map_congr_left
  intro b _
  exact pick_neg M b
theorem blk_pick (first : Bool) (P X : List Int) (s t : List UInt8) : (blkE first P.length s t).map (pick (P ++ (s.map neg ++ X))) = (if first then s ++ t else t ++ s).map neg := by
  cases first
  · show ((t.map neg ++ run P.length s.length).map _) = (t ++ s).map neg
    rw [List.map_append, pick_run, pick_negs, List.map_append]
  · show ((run P.length s.length ++ t.map neg).map _) = (s ++ t).map neg
    rw [List.map_append, pick_run, pick_negs, List.map_append]
theorem tf_pick (first : Bool) (ca : List Col) (sl tl : List UInt8) : ∀ (cb : List Col) (k : Nat) (P : List Int), ca.length = cb.length → (tfE first P.length ca sl cb tl).map (pick (P ++ ent k ca sl)) = mgE first k ca sl cb tl := by
  induction ca with
  | nil =>
    intro cb k P h
    cases cb with
    | cons _ _ => cases h
    | nil =>
      show (blkE first P.length sl tl).map (pick (P ++ sl.map neg)) = (if first then sl ++ tl else tl ++ sl).map neg
      have := blk_pick first P [] sl tl
      rwa [List.append_nil] at this
  | cons x ca ih =>
    intro cb k P h
    cases cb with
    | nil => cases h
    | cons y cb =>
      obtain ⟨s, b⟩ := x
      obtain ⟨t, l⟩ := y
      have h' : ca.length = cb.length := by simpa using h
      show (blkE first P.length s t ++ ((if b && l then [((P.length + s.length : Nat) : Int)] else []) ++ tfE first (P.length + s.length + (if b then 1 else 0)) ca sl cb tl)).map (pick (P ++ (s.map neg ++ ((if b then [(k : Int)] else []) ++ ent (k + 1) ca sl)))) = (if first then s ++ t else t ++ s).map neg ++ ((if b && l then [(k : Int)] else []) ++ mgE first (k + 1) ca sl cb tl)
      rw [List.map_append, blk_pick, List.map_append]
      congr 1
      have i0 := ih cb (k + 1) (P ++ (s.map neg ++ (if b then [(k : Int)] else []))) h'
      have e1 : (P ++ (s.map neg ++ (if b then [(k : Int)] else []))).length = P.length + s.length + (if b then 1 else 0) := by cases b <;> simp <;> omega
      have e2 : P ++ (s.map neg ++ (if b then [(k : Int)] else [])) ++ ent (k + 1) ca sl = P ++ (s.map neg ++ ((if b then [(k : Int)] else []) ++ ent (k + 1) ca sl)) := by simp only [List.append_assoc]
      rw [e1, e2] at i0
      rw [i0]
      congr 1
      cases b
      · simp
      · cases l
        · simp
        · simp only [Bool.and_true, if_true, List.map_cons, List.map_nil, List.cons.injEq, and_true]
          rw [pick_nat, List.getD_eq_getElem?_getD, List.getElem?_append_right (by omega), Nat.add_sub_cancel_left, List.getElem?_append_right (by simp)]
          simp
theorem mgE_swap (ca : List Col) (sl tl : List UInt8) : ∀ (cb : List Col) (k : Nat), ca.length = cb.length → mgE false k cb tl ca sl = mgE true k ca sl cb tl := by
  induction ca with
  | nil =>
    intro cb k h
    cases cb with
    | cons _ _ => cases h
    | nil => rfl
  | cons x ca ih =>
    intro cb k h
    cases cb with
    | nil => cases h
    | cons y cb =>
      obtain ⟨s, b⟩ := x
      obtain ⟨t, l⟩ := y
      have h' : ca.length = cb.length := by simpa using h
      show (s ++ t).map neg ++ ((if l && b then [(k : Int)] else []) ++ mgE false (k + 1) cb tl ca sl) = (s ++ t).map neg ++ ((if b && l then [(k : Int)] else []) ++ mgE true (k + 1) ca sl cb tl)
      rw [ih cb (k + 1) h', Bool.and_comm]
/-- A delta's columns: of its normal form. -/
def cA (a : List Q) : List Col := (col [] (nf a)).1
def cZ (a : List Q) : List UInt8 := (col [] (nf a)).2
structure Tf (first : Bool) (a b : List Q) : Prop where
  inn : inL (tf first a b) = outL a
  ats : atoms 0 (tf first a b) = tfE first 0 (cA a) (cZ a) (cA b) (cZ b)
  cmp : cmpA (atoms 0 a) (atoms 0 (tf first a b)) = mgE first 0 (cA a) (cZ a) (cA b) (cZ b)
  nrm : isN (tf first a b) = true
theorem cols_of {a : List Q} (h : allPos a = true) : (cA a).length = inL a ∧ ent 0 (cA a) (cZ a) = atoms 0 a := by
  have hn := allPos_nf a h
  refine ⟨by unfold cA; rw [col_length _ hn, inL_nf], ?_⟩
  unfold cA cZ
  rw [ent_col _ hn, atoms_nf]; rfl
theorem tf_of {first : Bool} {a b : List Q} (ha : allPos a = true) (hb : allPos b = true) (h : inL a = inL b) : Tf first a b := by
  obtain ⟨l1, e1⟩ := cols_of ha
  obtain ⟨l2, e2⟩ := cols_of hb
  have hl : (cA a).length = (cA b).length := by omega
  have e3 : atoms 0 (tf first a b) = tfE first 0 (cA a) (cZ a) (cA b) (cZ b) := by
    unfold tf; rw [atoms_nf]; exact atoms_tfQ first (cA a) (cZ a) (cZ b) (cA b) 0 hl
  refine ⟨?_, e3, ?_, isN_nf _⟩
  · unfold tf
    rw [inL_nf, show inL (tfQ first (col [] (nf a)).1 (col [] (nf a)).2 (col [] (nf b)).1 (col [] (nf b)).2) = _ from inL_tfQ first (cA a) (cZ a) (cZ b) (cA b) 0 hl, e1, atoms_length]
  · rw [e3, ← e1]
    have := tf_pick first (cA a) (cZ a) (cZ b) (cA b) 0 [] hl
    show (tfE first 0 (cA a) (cZ a) (cA b) (cZ b)).map (pick (ent 0 (cA a) (cZ a))) = _
    simpa using this
/-- P7.6: both ways compose to one delta. -/
theorem tf_conv {a b : List Q} (ha : allPos a = true) (hb : allPos b = true) (h : inL a = inL b) : cQ a (tf true a b) = cQ b (tf false b a) := by
  have t1 := tf_of (first := true) ha hb h
  have t2 := tf_of (first := false) hb ha h.symm
  obtain ⟨l1, _⟩ := cols_of ha
  obtain ⟨l2, _⟩ := cols_of hb
  unfold cQ
  rw [t1.cmp, t2.cmp, mgE_swap _ _ _ _ _ (by omega), h]
end Go.Proofs.Ytmbgcbgbdjiacaa.D
/- TransMath2 -/
namespace Go.Proofs.Ytmbgcbgbdjiacaa.D

theorem allPos_cat (a b : List Q) : allPos (a ++ b) = (allPos a && allPos b) := by unfold allPos; rw [List.all_append]
theorem allPos_oR (n : Nat) : allPos (oR n) = true := by
  unfold oR
  split
  · rfl
  · simp [allPos, pos]; omega
theorem allPos_oI (t : List UInt8) : allPos (oI t) = true := by
  unfold oI
  split
  · rfl
  · simp [allPos, pos]; assumption
theorem allPos_tfQ (first : Bool) (ca : List Col) (sl tl : List UInt8) : ∀ cb : List Col, allPos (tfQ first ca sl cb tl) = true := by
  have hb : ∀ s t : List UInt8, allPos (blkQ first s t) = true := fun s t => by
    cases first
    · show allPos (oI t ++ oR s.length) = true; rw [allPos_cat, allPos_oI, allPos_oR]; rfl
    · show allPos (oR s.length ++ oI t) = true; rw [allPos_cat, allPos_oI, allPos_oR]; rfl
  induction ca with
  | nil => intro cb; cases cb <;> exact hb _ _
  | cons x ca ih =>
    intro cb
    cases cb with
    | nil => exact hb _ _
    | cons y cb =>
      obtain ⟨s, k⟩ := x
      obtain ⟨t, l⟩ := y
      show allPos (blkQ first s t ++ ((if k then [if l then Q.R 1 else Q.D 1] else []) ++ tfQ first ca sl cb tl)) = true
      rw [allPos_cat, hb, allPos_cat, ih cb]
      cases k <;> cases l <;> rfl
theorem allPos_tf (first : Bool) (a b : List Q) : allPos (tf first a b) = true := allPos_nf _ (allPos_tfQ _ _ _ _ _)
/-- What has these entries and this length is the transformed delta. -/
theorem tf_unique {first : Bool} {a b c : List Q} (ha : allPos a = true) (hb : allPos b = true) (h : inL a = inL b) (pc : allPos c = true) (hi : inL c = outL a) (e : atoms 0 c = atoms 0 (tf first a b)) : tf first a b = nf c := by
  have t := tf_of (first := first) ha hb h
  exact nf_unique _ _ 0 t.nrm (isN_nf c) (allPos_tf _ _ _) (allPos_nf c pc) (by rw [t.inn, inL_nf, hi]) (by rw [atoms_nf, e])

/-! ### Entries of columns -/
theorem ent_lo (c : List Col) (l : List UInt8) : ∀ k, ∀ x ∈ ent k c l, 0 ≤ x → (k : Int) ≤ x := by
  induction c with
  | nil =>
    intro k x hx h0
    obtain ⟨b, _, rfl⟩ := List.mem_map.1 hx
    have := neg_lt b; omega
  | cons y c ih =>
    intro k x hx h0
    obtain ⟨s, b⟩ := y
    rcases List.mem_append.1 (show x ∈ s.map neg ++ ((if b then [(k : Int)] else []) ++ ent (k + 1) c l) from hx) with h | h
    · obtain ⟨b, _, rfl⟩ := List.mem_map.1 h
      have := neg_lt b; omega
    · rcases List.mem_append.1 h with h | h
      · cases b
        · cases h
        · have := List.mem_singleton.1 h; omega
      · have := ih (k + 1) x h h0; omega
/-- A byte is among the entries exactly if its column keeps it. -/
theorem mem_ent (c : List Col) (l : List UInt8) : ∀ k j, ((k + j : Nat) : Int) ∈ ent k c l ↔ ∃ s, c[j]? = some (s, true) := by
  induction c with
  | nil =>
    intro k j
    constructor
    · intro h
      obtain ⟨b, _, e⟩ := List.mem_map.1 h
      have := neg_lt b; omega
    · rintro ⟨s, h⟩; simp at h
  | cons y c ih =>
    intro k j
    obtain ⟨s, b⟩ := y
    have e : (((k + j : Nat) : Int) ∈ ent k ((s, b) :: c) l) ↔ ((b = true ∧ j = 0) ∨ ((k + j : Nat) : Int) ∈ ent (k + 1) c l) := by
      show _ ∈ s.map neg ++ ((if b then [(k : Int)] else []) ++ ent (k + 1) c l) ↔ _
      rw [List.mem_append, List.mem_append]
      constructor
      · rintro (h | h | h)
        · obtain ⟨b, _, e⟩ := List.mem_map.1 h
          have := neg_lt b; omega
        · cases b
          · cases h
          · have := List.mem_singleton.1 h; exact .inl ⟨rfl, by omega⟩
        · exact .inr h
      · rintro (⟨rfl, rfl⟩ | h)
        · exact .inr (.inl (by simp))
        · exact .inr (.inr h)
    rw [e]
    cases j with
    | zero =>
      constructor
      · rintro (⟨rfl, _⟩ | h)
        · exact ⟨s, rfl⟩
        · have := ent_lo c l (k + 1) _ h (by omega); omega
      · rintro ⟨s', h⟩
        have := Option.some.inj (show some (s, b) = some (s', true) from h)
        cases this
        exact .inl ⟨rfl, rfl⟩
    | succ j =>
      have := ih (k + 1) j
      rw [show k + 1 + j = k + (j + 1) by omega] at this
      rw [this]
      constructor
      · rintro (⟨_, h⟩ | h)
        · cases h
        · exact h
      · intro h; exact .inr h
theorem mg_lo (first : Bool) (ca : List Col) (sl tl : List UInt8) : ∀ (cb : List Col) (k j : Nat), ca.length = cb.length → j < k → (j : Int) ∉ mgE first k ca sl cb tl := by
  have hn : ∀ (j : Nat) (u : List UInt8), (j : Int) ∉ u.map neg := fun j u h => by
    obtain ⟨b, _, e⟩ := List.mem_map.1 h
    have := neg_lt b; omega
  induction ca with
  | nil =>
    intro cb k j h hj
    cases cb with
    | cons _ _ => cases h
    | nil => exact hn _ _
  | cons x ca ih =>
    intro cb k j h hj
    cases cb with
    | nil => cases h
    | cons y cb =>
      obtain ⟨s, b⟩ := x
      obtain ⟨t, l⟩ := y
      have h' : ca.length = cb.length := by simpa using h
      intro hm
      rcases List.mem_append.1 (show (j : Int) ∈ (if first then s ++ t else t ++ s).map neg ++ ((if b && l then [(k : Int)] else []) ++ mgE first (k + 1) ca sl cb tl) from hm) with h1 | h1
      · exact hn _ _ h1
      · rcases List.mem_append.1 h1 with h2 | h2
        · cases b <;> cases l <;> simp at h2
          omega
        · exact ih cb (k + 1) j h' (by omega) h2
/-- A merge keeps exactly what both keep (P7.6). -/
theorem mem_mg (first : Bool) (ca : List Col) (sl tl : List UInt8) : ∀ (cb : List Col) (k j : Nat), ca.length = cb.length → (((k + j : Nat) : Int) ∈ mgE first k ca sl cb tl ↔ ((k + j : Nat) : Int) ∈ ent k ca sl ∧ ((k + j : Nat) : Int) ∈ ent k cb tl) := by
  have hn : ∀ (j : Nat) (u : List UInt8), (j : Int) ∉ u.map neg := fun j u h => by
    obtain ⟨b, _, e⟩ := List.mem_map.1 h
    have := neg_lt b; omega
  induction ca with
  | nil =>
    intro cb k j h
    cases cb with
    | cons _ _ => cases h
    | nil =>
      constructor
      · intro h; exact absurd h (hn _ _)
      · rintro ⟨h, _⟩; exact absurd h (hn _ _)
  | cons x ca ih =>
    intro cb k j h
    cases cb with
    | nil => cases h
    | cons y cb =>
      obtain ⟨s, b⟩ := x
      obtain ⟨t, l⟩ := y
      have h' : ca.length = cb.length := by simpa using h
      show _ ∈ (if first then s ++ t else t ++ s).map neg ++ ((if b && l then [(k : Int)] else []) ++ mgE first (k + 1) ca sl cb tl) ↔ _ ∈ s.map neg ++ ((if b then [(k : Int)] else []) ++ ent (k + 1) ca sl) ∧ _ ∈ t.map neg ++ ((if l then [(k : Int)] else []) ++ ent (k + 1) cb tl)
      simp only [List.mem_append, hn, false_or]
      cases j with
      | zero =>
        have n1 : ((k + 0 : Nat) : Int) ∉ ent (k + 1) ca sl := fun h => by have := ent_lo _ _ _ _ h (by omega); omega
        have n2 : ((k + 0 : Nat) : Int) ∉ ent (k + 1) cb tl := fun h => by have := ent_lo _ _ _ _ h (by omega); omega
        have n3 : ((k + 0 : Nat) : Int) ∉ mgE first (k + 1) ca sl cb tl := fun h => by
          exact absurd h (mg_lo first ca sl tl cb (k + 1) (k + 0) h' (by omega))
        have m1 : ∀ c : Bool, ((k + 0 : Nat) : Int) ∈ (if c then [(k : Int)] else []) ↔ c = true := fun c => by cases c <;> simp
        simp only [n1, n2, n3, or_false, m1 b, m1 l, m1 (b && l)]
        cases b <;> cases l <;> decide
      | succ j =>
        have := ih cb (k + 1) j h'
        rw [show k + 1 + j = k + (j + 1) by omega] at this
        rw [this]
        have ne : ∀ c : Bool, ((k + (j + 1) : Nat) : Int) ∈ (if c then [(k : Int)] else []) ↔ False := fun c => by
          cases c
          · simp
          · simp; omega
        simp only [ne, false_or]

/-! ### Disjoint deltas (P7.8) -/
def apart : List Col → List UInt8 → List Col → List UInt8 → Bool
  | (s, k) :: ca, sl, (t, l) :: cb, tl => (s.isEmpty || t.isEmpty) && (k || l) && apart ca sl cb tl
  | _, s, _, t => s.isEmpty || t.isEmpty
theorem blk_apart {s t : List UInt8} (h : (s.isEmpty || t.isEmpty) = true) : blkQ true s t = blkQ false s t := by
  rcases Bool.or_eq_true_iff.1 h with h | h
  · have : s = [] := List.isEmpty_iff.1 h
    subst this
    show oR 0 ++ oI t = oI t ++ oR 0
    rw [oR_zero]; simp
  · have : t = [] := List.isEmpty_iff.1 h
    subst this
    show oR s.length ++ oI [] = oI [] ++ oR s.length
    rw [oI_nil]; simp
theorem tfQ_apart (ca : List Col) (sl tl : List UInt8) : ∀ cb : List Col, ca.length = cb.length → apart ca sl cb tl = true → tfQ true ca sl cb tl = tfQ false ca sl cb tl := by
  induction ca with
  | nil =>
    intro cb h ha
    cases cb with
    | cons _ _ => cases h
    | nil => exact blk_apart ha
  | cons x ca ih =>
    intro cb h ha
    cases cb with
    | nil => cases h
    | cons y cb =>
      obtain ⟨s, k⟩ := x
      obtain ⟨t, l⟩ := y
      have ha' : ((s.isEmpty || t.isEmpty) && (k || l) && apart ca sl cb tl) = true := ha
      simp only [Bool.and_eq_true] at ha'
      show blkQ true s t ++ (_ ++ tfQ true ca sl cb tl) = blkQ false s t ++ (_ ++ tfQ false ca sl cb tl)
      rw [blk_apart ha'.1.1, ih cb (by simpa using h) ha'.2]
theorem mg_len (first : Bool) (ca : List Col) (sl tl : List UInt8) : ∀ (cb : List Col) (k : Nat), ca.length = cb.length → apart ca sl cb tl = true → (mgE first k ca sl cb tl).length + ca.length = (ent k ca sl).length + (ent k cb tl).length := by
  induction ca with
  | nil =>
    intro cb k h ha
    cases cb with
    | cons _ _ => cases h
    | nil =>
      show ((if first then sl ++ tl else tl ++ sl).map neg).length + 0 = (sl.map neg).length + (tl.map neg).length
      cases first <;> simp <;> omega
  | cons x ca ih =>
    intro cb k h ha
    cases cb with
    | nil => cases h
    | cons y cb =>
      obtain ⟨s, b⟩ := x
      obtain ⟨t, l⟩ := y
      have ha' : ((s.isEmpty || t.isEmpty) && (b || l) && apart ca sl cb tl) = true := ha
      simp only [Bool.and_eq_true] at ha'
      have i0 := ih cb (k + 1) (by simpa using h) ha'.2
      show ((if first then s ++ t else t ++ s).map neg ++ ((if b && l then [(k : Int)] else []) ++ mgE first (k + 1) ca sl cb tl)).length + (ca.length + 1) = (s.map neg ++ ((if b then [(k : Int)] else []) ++ ent (k + 1) ca sl)).length + (t.map neg ++ ((if l then [(k : Int)] else []) ++ ent (k + 1) cb tl)).length
      have e : (if first then s ++ t else t ++ s).length = s.length + t.length := by cases first <;> simp <;> omega
      have hbl := ha'.1.2
      have e2 : ∀ c : Bool, (if c then [(k : Int)] else []).length = if c then 1 else 0 := fun c => by cases c <;> rfl
      simp only [List.length_append, List.length_map, e, e2]
      cases b
      · cases l
        · cases hbl
        · simp only [Bool.false_and, Bool.false_eq_true, if_false, if_true]; omega
      · cases l
        · simp only [Bool.and_false, Bool.false_eq_true, if_false, if_true]; omega
        · simp only [Bool.and_true, if_true]; omega
theorem tf_apart {a b : List Q} (ha : allPos a = true) (hb : allPos b = true) (h : inL a = inL b) (hd : apart (cA a) (cZ a) (cA b) (cZ b) = true) : tf true a b = tf false a b ∧ outL (tf true a b) + inL a = outL a + outL b := by
  obtain ⟨l1, e1⟩ := cols_of ha
  obtain ⟨l2, e2⟩ := cols_of hb
  have hl : (cA a).length = (cA b).length := by omega
  refine ⟨by unfold tf; rw [show tfQ true (col [] (nf a)).1 (col [] (nf a)).2 (col [] (nf b)).1 (col [] (nf b)).2 = _ from tfQ_apart (cA a) (cZ a) (cZ b) (cA b) hl hd]; rfl, ?_⟩
  have t := tf_of (first := true) ha hb h
  have hm := mg_len true (cA a) (cZ a) (cZ b) (cA b) 0 hl hd
  rw [← t.cmp, e1, e2, atoms_length, atoms_length, l1] at hm
  unfold cmpA at hm
  rw [List.length_map, atoms_length] at hm
  exact hm

/-! ### The identity (P7.7) -/
theorem tfE_idL (first : Bool) (cb : List Col) (tl : List UInt8) : ∀ i, tfE first i (List.replicate cb.length ([], true)) [] cb tl = ent i cb tl := by
  have hb : ∀ (i : Nat) (t : List UInt8), blkE first i [] t = t.map neg := fun i t => by cases first <;> simp [blkE, run_zero]
  induction cb with
  | nil => intro i; exact hb i tl
  | cons y cb ih =>
    intro i
    obtain ⟨t, l⟩ := y
    show blkE first i [] t ++ ((if true && l then [((i + 0 : Nat) : Int)] else []) ++ tfE first (i + 0 + 1) (List.replicate cb.length ([], true)) [] cb tl) = t.map neg ++ ((if l then [(i : Int)] else []) ++ ent (i + 1) cb tl)
    rw [hb, Nat.add_zero, ih]; simp
theorem tfE_idR (first : Bool) (ca : List Col) (sl : List UInt8) : ∀ i k, tfE first i ca sl (List.replicate ca.length ([], true)) [] = run i (ent k ca sl).length := by
  have hb : ∀ (i : Nat) (s : List UInt8), blkE first i s [] = run i s.length := fun i s => by cases first <;> simp [blkE]
  have hr : ∀ i m n, run i (m + n) = run i m ++ run (i + m) n := fun i m n => by
    induction m generalizing i with
    | zero => simp [run_zero]
    | succ m ih => rw [show m + 1 + n = (m + n) + 1 by omega, run_succ, ih, run_succ, List.cons_append, show i + 1 + m = i + (m + 1) by omega]
  induction ca with
  | nil => intro i k; show blkE first i sl [] = run i (sl.map neg).length; rw [hb, List.length_map]
  | cons x ca ih =>
    intro i k
    obtain ⟨s, b⟩ := x
    show blkE first i s [] ++ ((if b && true then [((i + s.length : Nat) : Int)] else []) ++ tfE first (i + s.length + (if b then 1 else 0)) ca sl (List.replicate ca.length ([], true)) []) = run i (s.map neg ++ ((if b then [(k : Int)] else []) ++ ent (k + 1) ca sl)).length
    rw [hb, ih _ (k + 1)]
    simp only [List.length_append, List.length_map]
    rw [hr, hr]
    cases b
    · simp [run_zero]
    · simp [run]
theorem cols_id (n : Nat) : cA (idQ n) = List.replicate n ([], true) ∧ cZ (idQ n) = [] := by
  unfold cA cZ
  rw [nf_of_isN _ (idQ_in n).2.2.2]
  unfold idQ
  by_cases h : n = 0
  · rw [if_pos h]; subst h; exact ⟨rfl, rfl⟩
  · rw [if_neg h]
    refine ⟨?_, rfl⟩
    obtain ⟨m, rfl⟩ : ∃ m, n = m + 1 := ⟨n - 1, by omega⟩
    show ([], true) :: (List.replicate (m + 1 - 1) ([], true) ++ []) = _
    rw [Nat.add_sub_cancel, List.append_nil]; rfl
theorem tf_idL {first : Bool} {d : List Q} (h : allPos d = true) : tf first (idQ (inL d)) d = nf d := by
  have i := idQ_in (inL d)
  have t := tf_of (first := first) i.2.2.1 h i.1
  obtain ⟨l, e⟩ := cols_of h
  obtain ⟨c1, c2⟩ := cols_id (inL d)
  refine tf_unique i.2.2.1 h i.1 h i.2.1.symm ?_
  rw [t.ats, c1, c2, ← l, tfE_idL, e]
theorem tf_idR {first : Bool} {d : List Q} (h : allPos d = true) : tf first d (idQ (inL d)) = idQ (outL d) := by
  have i := idQ_in (inL d)
  have o := idQ_in (outL d)
  have t := tf_of (first := first) h i.2.2.1 i.1.symm
  obtain ⟨l, e⟩ := cols_of h
  obtain ⟨c1, c2⟩ := cols_id (inL d)
  rw [tf_unique h i.2.2.1 i.1.symm o.2.2.1 o.1 ?_, nf_of_isN _ o.2.2.2]
  rw [t.ats, c1, c2, ← l, tfE_idR first (cA d) (cZ d) 0 0, e, atoms_length, idQ_atoms]
  unfold run
  apply List.map_congr_left
  intro j _
  simp
/-- Equivalent deltas are transformed in the same way. -/
theorem tf_nf (first : Bool) (a b : List Q) : tf first (nf a) (nf b) = tf first a b := by unfold tf; rw [nf_nf, nf_nf]

/-! ### Rebasing a delta that inserts nothing (P7.9) -/
def selE (f : Int → Bool) : Nat → List Int → List Int
  | _, [] => []
  | i, x :: r => if f x then (i : Int) :: selE f (i + 1) r else selE f (i + 1) r
theorem selE_app (f : Int → Bool) (a b : List Int) : ∀ i, selE f i (a ++ b) = selE f i a ++ selE f (i + a.length) b := by
  induction a with
  | nil => intro i; rfl
  | cons x a ih =>
    intro i
    simp only [List.cons_append, selE, ih, List.length_cons]
    rw [show i + 1 + a.length = i + (a.length + 1) by omega]
    split <;> rfl
theorem selE_neg (f : Int → Bool) (hf : ∀ x, x < 0 → f x = true) (s : List UInt8) : ∀ i, selE f i (s.map neg) = run i s.length := by
  induction s with
  | nil => intro i; rfl
  | cons b s ih =>
    intro i
    show (if f (neg b) then (i : Int) :: selE f (i + 1) (s.map neg) else _) = run i (s.length + 1)
    rw [if_pos (hf _ (neg_lt b)), ih, run_succ]
theorem selE_congr {f g : Int → Bool} (L : List Int) (h : ∀ x ∈ L, f x = g x) : ∀ i, selE f i L = selE g i L := by
  induction L with
  | nil => intro i; rfl
  | cons x r ih =>
    intro i
    have ih := ih (fun y hy => h y (List.mem_cons_of_mem _ hy))
    simp only [selE, h x List.mem_cons_self, ih]
theorem selE_map (f : Int → Bool) (g : Int → Int) (L : List Int) : ∀ i, selE f i (L.map g) = selE (fun x => f (g x)) i L := by
  induction L with
  | nil => intro i; rfl
  | cons x r ih => intro i; simp only [List.map_cons, selE, ih]
theorem mem_selE (f : Int → Bool) (L : List Int) : ∀ i j, ((i + j : Nat) : Int) ∈ selE f i L ↔ ∃ x, L[j]? = some x ∧ f x = true := by
  have lo : ∀ (L : List Int) (i : Nat), ∀ v ∈ selE f i L, (i : Int) ≤ v := fun L => by
    induction L with
    | nil => intro i v hv; cases hv
    | cons x r ih =>
      intro i v hv
      simp only [selE] at hv
      split at hv
      · rcases List.mem_cons.1 hv with rfl | h
        · omega
        · have := ih (i + 1) v h; omega
      · have := ih (i + 1) v hv; omega
  induction L with
  | nil => intro i j; simp [selE]
  | cons x r ih =>
    intro i j
    simp only [selE]
    cases j with
    | zero =>
      have n : ((i + 0 : Nat) : Int) ∉ selE f (i + 1) r := fun h => by have := lo r (i + 1) _ h; omega
      by_cases hx : f x = true
      · rw [if_pos hx]; simp [hx]
      · rw [if_neg hx]
        constructor
        · intro h; exact absurd h n
        · rintro ⟨y, hy, hf⟩
          have := Option.some.inj (show some x = some y from hy)
          subst this; exact absurd hf hx
    | succ j =>
      have e := ih (i + 1) j
      rw [show i + 1 + j = i + (j + 1) by omega] at e
      rw [show (x :: r)[j + 1]? = r[j]? from rfl, ← e]
      split
      · rw [List.mem_cons]
        constructor
        · rintro (h | h)
          · omega
          · exact h
        · exact .inr
      · exact Iff.rfl
theorem tfE_sel (first : Bool) (f : Int → Bool) (hf : ∀ x, x < 0 → f x = true) (ca : List Col) (sl : List UInt8) : ∀ (cb : List Col) (i k : Nat), ca.length = cb.length → (∀ t l, (t, l) ∈ cb → t = []) → (∀ j t l, cb[j]? = some (t, l) → f ((k + j : Nat) : Int) = l) →
    tfE first i ca sl cb [] = selE f i (ent k ca sl) := by
  have hb : ∀ (i : Nat) (s : List UInt8), blkE first i s [] = run i s.length := fun i s => by cases first <;> simp [blkE]
  induction ca with
  | nil =>
    intro cb i k h _ _
    cases cb with
    | cons _ _ => cases h
    | nil => show blkE first i sl [] = selE f i (sl.map neg); rw [hb, selE_neg f hf]
  | cons x ca ih =>
    intro cb i k h ht hk
    cases cb with
    | nil => cases h
    | cons y cb =>
      obtain ⟨s, b⟩ := x
      obtain ⟨t, l⟩ := y
      have e0 : t = [] := ht t l List.mem_cons_self
      subst e0
      have ek : f (k : Int) = l := hk 0 [] l rfl
      have i0 := fun i' => ih cb i' (k + 1) (by simpa using h) (fun t l hm => ht t l (List.mem_cons_of_mem _ hm)) (fun j t l hj => by
        have := hk (j + 1) t l hj
        rwa [show k + (j + 1) = k + 1 + j by omega] at this)
      show blkE first i s [] ++ ((if b && l then [((i + s.length : Nat) : Int)] else []) ++ tfE first (i + s.length + (if b then 1 else 0)) ca sl cb []) = selE f i (s.map neg ++ ((if b then [(k : Int)] else []) ++ ent (k + 1) ca sl))
      rw [hb, i0, selE_app, selE_neg f hf, List.length_map, selE_app]
      congr 1
      cases b
      · simp [selE]
      · simp only [if_true, List.length_singleton, Bool.true_and]
        show _ = selE f (i + s.length) [(k : Int)] ++ _
        simp only [selE, ek]
theorem noText (c : List Col) (l : List UInt8) : ∀ k, (∀ x ∈ ent k c l, 0 ≤ x) → l = [] ∧ ∀ t b, (t, b) ∈ c → t = [] := by
  have nil_of : ∀ t : List UInt8, (∀ x ∈ t.map neg, 0 ≤ x) → t = [] := fun t h => by
    cases t with
    | nil => rfl
    | cons b r => have := h (neg b) List.mem_cons_self; have := neg_lt b; omega
  induction c with
  | nil => intro k h; exact ⟨nil_of l h, fun t b hm => by cases hm⟩
  | cons y c ih =>
    intro k h
    obtain ⟨s, b⟩ := y
    have h' : ∀ x ∈ s.map neg ++ ((if b then [(k : Int)] else []) ++ ent (k + 1) c l), 0 ≤ x := h
    obtain ⟨h1, h2⟩ := ih (k + 1) (fun x hx => h' x (List.mem_append_right _ (List.mem_append_right _ hx)))
    refine ⟨h1, fun t b' hm => ?_⟩
    rcases List.mem_cons.1 hm with e | hm
    · cases e; exact nil_of s (fun x hx => h' x (List.mem_append_left _ hx))
    · exact h2 t b' hm
def keepF (d : List Q) (x : Int) : Bool := decide (x < 0) || decide (x ∈ atoms 0 d)
theorem tf_sel {first : Bool} {a d : List Q} (ha : allPos a = true) (hd : allPos d = true) (h : inL a = inL d) (hn : ∀ x ∈ atoms 0 d, 0 ≤ x) : atoms 0 (tf first a d) = selE (keepF d) 0 (atoms 0 a) := by
  have t := tf_of (first := first) ha hd h
  obtain ⟨l1, e1⟩ := cols_of ha
  obtain ⟨l2, e2⟩ := cols_of hd
  obtain ⟨z, nt⟩ := noText (cA d) (cZ d) 0 (by rw [e2]; exact hn)
  rw [t.ats, z, tfE_sel first (keepF d) (fun x hx => by simp [keepF, hx]) (cA a) (cZ a) (cA d) 0 0 (by omega) nt ?_, e1]
  intro j t l hj
  have hm := mem_ent (cA d) (cZ d) 0 j
  rw [e2] at hm
  unfold keepF
  rw [show decide (((0 + j : Nat) : Int) < 0) = false from decide_eq_false (by omega), Bool.false_or]
  cases l
  · refine decide_eq_false fun hc => ?_
    obtain ⟨s, hs⟩ := hm.1 hc
    rw [hj] at hs; cases hs
  · exact decide_eq_true (hm.2 ⟨t, hj⟩)
theorem selE_pos (f : Int → Bool) (L : List Int) : ∀ i, ∀ x ∈ selE f i L, 0 ≤ x := by
  induction L with
  | nil => intro i x hx; cases hx
  | cons y r ih =>
    intro i x hx
    simp only [selE] at hx
    split at hx
    · rcases List.mem_cons.1 hx with rfl | h
      · omega
      · exact ih _ _ h
    · exact ih _ _ hx
/-- P7.9, first half: a delta that inserts nothing. -/
theorem tf_bases_del {first : Bool} {d x y : List Q} (hd : allPos d = true) (hx : allPos x = true) (hy : allPos y = true) (h1 : inL x = inL d) (h2 : outL x = inL y) (hn : ∀ v ∈ atoms 0 d, 0 ≤ v) : tf first y (tf first x d) = tf first (cQ x y) d := by
  have c := cq h2
  have t1 := tf_of (first := first) hx hd h1
  have p1 := allPos_tf first x d
  have e1 := tf_sel (first := first) hx hd h1 hn
  have hi : inL y = inL (tf first x d) := by rw [t1.inn, h2]
  have e2 := tf_sel (first := first) hy p1 hi (by rw [e1]; exact selE_pos _ _ _)
  have e3 := tf_sel (first := first) c.pos hd (by rw [c.inn, h1]) hn
  have t2 := tf_of (first := first) hy p1 hi
  have t3 := tf_of (first := first) c.pos hd (by rw [c.inn, h1])
  refine nf_unique _ _ 0 t2.nrm t3.nrm (allPos_tf _ _ _) (allPos_tf _ _ _) (by rw [t2.inn, t3.inn, c.out]) ?_
  rw [e2, e3, c.ats]
  unfold cmpA
  rw [selE_map]
  refine selE_congr _ (fun v hv => ?_) 0
  obtain ⟨i, hi⟩ := List.mem_iff_getElem?.1 hv
  by_cases h0 : v < 0
  · have : pick (atoms 0 x) v = v := by unfold pick; rw [if_pos h0]
    rw [this]; simp [keepF, h0]
  · have hl := ent_lt hi (by omega)
    have hlt : v.toNat < (atoms 0 x).length := by rw [atoms_length]; omega
    have ev : v = ((0 + v.toNat : Nat) : Int) := by omega
    have hp : pick (atoms 0 x) v = (atoms 0 x)[v.toNat] := by
      unfold pick
      rw [if_neg h0, List.getD_eq_getElem?_getD, List.getElem?_eq_getElem hlt]; rfl
    have hm := mem_selE (keepF d) (atoms 0 x) 0 v.toNat
    rw [← ev] at hm
    rw [hp]
    unfold keepF
    rw [show decide (v < 0) = false from decide_eq_false h0, Bool.false_or, e1]
    show decide (v ∈ selE (keepF d) 0 (atoms 0 x)) = keepF d (atoms 0 x)[v.toNat]
    cases hk : keepF d (atoms 0 x)[v.toNat]
    · refine decide_eq_false fun hc => ?_
      obtain ⟨u, hu, hf⟩ := hm.1 hc
      rw [List.getElem?_eq_getElem hlt] at hu
      cases hu
      rw [hk] at hf; cases hf
    · exact decide_eq_true (hm.2 ⟨_, List.getElem?_eq_getElem hlt, hk⟩)
end Go.Proofs.Ytmbgcbgbdjiacaa.D
/- TransRefM -/
namespace Go.Proofs.Ytmbgcbgbdjiacaa.D

/-! ### The texts at each offset -/
def txs (l : List Q) : List (List UInt8) := (col [] l).1.map Prod.fst ++ [(col [] l).2]
theorem col_snoc_I (l : List Q) (t : List UInt8) : ∀ p, col p (l ++ [.I t]) = ((col p l).1, (col p l).2 ++ t) := by
  induction l with
  | nil => intro p; rfl
  | cons q r ih =>
    intro p
    cases q with
    | I s => exact ih (p ++ s)
    | R n => show ((p, true) :: (List.replicate (n - 1) ([], true) ++ (col [] (r ++ [.I t])).1), (col [] (r ++ [.I t])).2) = _; rw [ih]; rfl
    | D n => show ((p, false) :: (List.replicate (n - 1) ([], false) ++ (col [] (r ++ [.I t])).1), (col [] (r ++ [.I t])).2) = _; rw [ih]; rfl
theorem col_snoc_R (l : List Q) (n : Nat) : ∀ p, col p (l ++ [.R n]) = ((col p l).1 ++ (((col p l).2, true) :: List.replicate (n - 1) ([], true)), []) := by
  induction l with
  | nil => intro p; show ((p, true) :: (List.replicate (n - 1) ([], true) ++ []), []) = _; rw [List.append_nil]; rfl
  | cons q r ih =>
    intro p
    cases q with
    | I s => exact ih (p ++ s)
    | R m => show ((p, true) :: (List.replicate (m - 1) ([], true) ++ (col [] (r ++ [.R n])).1), (col [] (r ++ [.R n])).2) = _; rw [ih]; simp [col]
    | D m => show ((p, false) :: (List.replicate (m - 1) ([], false) ++ (col [] (r ++ [.R n])).1), (col [] (r ++ [.R n])).2) = _; rw [ih]; simp [col]
theorem col_snoc_D (l : List Q) (n : Nat) : ∀ p, col p (l ++ [.D n]) = ((col p l).1 ++ (((col p l).2, false) :: List.replicate (n - 1) ([], false)), []) := by
  induction l with
  | nil => intro p; show ((p, false) :: (List.replicate (n - 1) ([], false) ++ []), []) = _; rw [List.append_nil]; rfl
  | cons q r ih =>
    intro p
    cases q with
    | I s => exact ih (p ++ s)
    | R m => show ((p, true) :: (List.replicate (m - 1) ([], true) ++ (col [] (r ++ [.D n])).1), (col [] (r ++ [.D n])).2) = _; rw [ih]; simp [col]
    | D m => show ((p, false) :: (List.replicate (m - 1) ([], false) ++ (col [] (r ++ [.D n])).1), (col [] (r ++ [.D n])).2) = _; rw [ih]; simp [col]
/-- What the table of texts is behind i pieces. -/
def txT (a : List Q) (i : Nat) : List (List UInt8) := txs (a.take i) ++ List.replicate (inL a - inL (a.take i)) []
theorem txs_len {l : List Q} (h : allPos l = true) : (txs l).length = inL l + 1 := by unfold txs; simp [col_length l h]
theorem allPos_take {a : List Q} (h : allPos a = true) (i : Nat) : allPos (a.take i) = true := by
  unfold allPos at h ⊢
  rw [← List.take_append_drop i a, List.all_append, Bool.and_eq_true] at h
  exact h.1
theorem inL_take_le' (a : List Q) (i : Nat) : inL (a.take i) ≤ inL a := by
  have := inL_append (a.take i) (a.drop i)
  rw [List.take_append_drop] at this; omega
theorem txT_len {a : List Q} (h : allPos a = true) (i : Nat) : (txT a i).length = inL a + 1 := by
  have := inL_take_le' a i
  unfold txT
  rw [List.length_append, txs_len (allPos_take h i), List.length_replicate]; omega
theorem txT_zero (a : List Q) : txT a 0 = List.replicate (inL a + 1) [] := by
  unfold txT
  show [[]] ++ List.replicate (inL a - 0) [] = _
  rw [List.replicate_succ]; rfl
theorem txT_end (a : List Q) : txT a a.length = txs a := by unfold txT; rw [List.take_length]; simp
theorem txT_at {a : List Q} (h : allPos a = true) (i : Nat) : (txT a i)[inL (a.take i)]? = some (col [] (a.take i)).2 := by
  unfold txT txs
  have hl := col_length (a.take i) (allPos_take h i) []
  rw [List.append_assoc, List.getElem?_append_right (by simp [hl]), List.length_map, hl, Nat.sub_self]; rfl
theorem txT_next {a : List Q} (h : allPos a = true) (i : Nat) (q : Q) (hq : a[i]? = some q) : txT a (i + 1) = (txT a i).set (inL (a.take i)) ((col [] (a.take i)).2 ++ txt1 q) ∧ inL (a.take (i + 1)) = inL (a.take i) + in1 q := by
  have hi : a.take (i + 1) = a.take i ++ [q] := by rw [List.take_add_one, hq]; rfl
  have e1 : inL (a.take (i + 1)) = inL (a.take i) + in1 q := by rw [hi, inL_append]; show _ + (in1 q + 0) = _; omega
  refine ⟨?_, e1⟩
  have hp := allPos_take h (i + 1)
  rw [hi, allPos_cat] at hp
  simp only [Bool.and_eq_true] at hp
  have hl := col_length (a.take i) hp.1 []
  have hle := inL_take_le' a (i + 1)
  have hll : ((col [] (a.take i)).1.map Prod.fst).length = inL (a.take i) := by rw [List.length_map, hl]
  unfold txT
  rw [e1] at hle ⊢
  rw [hi]
  unfold txs
  rw [List.append_assoc, List.append_assoc, List.set_append_right _ _ (by omega), hll, Nat.sub_self]
  show _ = _ ++ (((col [] (a.take i)).2 ++ txt1 q) :: List.replicate _ _)
  cases q with
  | I t => rw [col_snoc_I]; simp [txt1, in1]
  | R n =>
    have hn : 0 < n := by have := hp.2; simpa [allPos, pos] using this
    have hle' : inL (a.take i) + n ≤ inL a := hle
    rw [col_snoc_R]
    simp only [List.map_append, List.map_cons, List.map_replicate, txt1, List.append_nil, List.append_assoc, List.cons_append]
    congr 2
    rw [show inL a - inL (a.take i) = (n - 1) + ((inL a - (inL (a.take i) + n)) + 1) by omega, ← List.replicate_append_replicate]
    rfl
  | D n =>
    have hn : 0 < n := by have := hp.2; simpa [allPos, pos] using this
    have hle' : inL (a.take i) + n ≤ inL a := hle
    rw [col_snoc_D]
    simp only [List.map_append, List.map_cons, List.map_replicate, txt1, List.append_nil, List.append_assoc, List.cons_append]
    congr 2
    rw [show inL a - inL (a.take i) = (n - 1) + ((inL a - (inL (a.take i) + n)) + 1) by omega, ← List.replicate_append_replicate]
    rfl
theorem col_out (l : List Q) : ∀ p, (col p l).2.length ≤ p.length + outL l ∧ ∀ c ∈ (col p l).1, c.1.length ≤ p.length + outL l := by
  induction l with
  | nil => intro p; exact ⟨Nat.le_refl _, fun c hc => by cases hc⟩
  | cons q r ih =>
    intro p
    cases q with
    | I s =>
      obtain ⟨h1, h2⟩ := ih (p ++ s)
      rw [List.length_append] at h1 h2
      have e : outL (.I s :: r) = s.length + outL r := rfl
      exact ⟨by rw [e]; show (col (p ++ s) r).2.length ≤ _; omega, fun c hc => by have := h2 c hc; omega⟩
    | R n =>
      obtain ⟨h1, h2⟩ := ih []
      rw [List.length_nil] at h1 h2
      have e : outL (.R n :: r) = n + outL r := rfl
      refine ⟨by rw [e]; show (col [] r).2.length ≤ _; omega, fun c hc => ?_⟩
      rcases List.mem_cons.1 (show c ∈ (p, true) :: (List.replicate (n - 1) ([], true) ++ (col [] r).1) from hc) with rfl | hc
      · show p.length ≤ _; omega
      · rcases List.mem_append.1 hc with hc | hc
        · rw [(List.mem_replicate.1 hc).2]; exact Nat.zero_le _
        · have := h2 c hc; omega
    | D n =>
      obtain ⟨h1, h2⟩ := ih []
      rw [List.length_nil] at h1 h2
      have e : outL (.D n :: r) = 0 + outL r := rfl
      refine ⟨by rw [e]; show (col [] r).2.length ≤ _; omega, fun c hc => ?_⟩
      rcases List.mem_cons.1 (show c ∈ (p, false) :: (List.replicate (n - 1) ([], false) ++ (col [] r).1) from hc) with rfl | hc
      · show p.length ≤ _; omega
      · rcases List.mem_append.1 hc with hc | hc
        · rw [(List.mem_replicate.1 hc).2]; exact Nat.zero_le _
        · have := h2 c hc; omega
theorem col_last (l : List Q) : (col [] l).2.length ≤ outL l := by have := (col_out l []).1; rw [List.length_nil] at this; omega
theorem txs_bd (l : List Q) : ∀ t ∈ txs l, t.length ≤ outL l := fun t ht => by
  obtain ⟨h1, h2⟩ := col_out l []
  rw [List.length_nil] at h1 h2
  rcases List.mem_append.1 ht with ht | ht
  · obtain ⟨c, hc, rfl⟩ := List.mem_map.1 ht
    have := h2 c hc; omega
  · rw [List.mem_singleton.1 ht]; omega

/-! ### What is kept -/
def kb1 : Q → Bool
  | .R _ => true
  | _ => false
def kpq (q : Q) : List Bool := List.replicate (in1 q) (kb1 q)
def kp (l : List Q) : List Bool := l.flatMap kpq
theorem kp_cons (q : Q) (r : List Q) : kp (q :: r) = kpq q ++ kp r := rfl
theorem kp_push (q : Q) (l : List Q) : kp (push q l) = kp (q :: l) := by
  have rr : ∀ n m, kpq (.R n) ++ kpq (.R m) = kpq (.R (n + m)) := fun n m => List.replicate_append_replicate
  have dd : ∀ n m, kpq (.D n) ++ kpq (.D m) = kpq (.D (n + m)) := fun n m => List.replicate_append_replicate
  have ii : ∀ t, kpq (.I t) = [] := fun _ => rfl
  cases q with
  | R n =>
    cases l with
    | nil => rfl
    | cons p r =>
      cases p with
      | R m => show kp (.R (n + m) :: r) = _; rw [kp_cons, kp_cons, kp_cons, ← List.append_assoc, rr]
      | I t => rfl
      | D m => rfl
  | I t =>
    cases l with
    | nil => rfl
    | cons p r => cases p <;> rfl
  | D n =>
    match l with
    | [] => rfl
    | .R k :: r => rfl
    | .D k :: r => show kp (.D (n + k) :: r) = _; rw [kp_cons, kp_cons, kp_cons, ← List.append_assoc, dd]
    | [.I s] => rfl
    | .I s :: .D k :: r => show kp (.I s :: .D (n + k) :: r) = _; rw [kp_cons, kp_cons, kp_cons, kp_cons, kp_cons, ii, List.nil_append, List.nil_append, ← List.append_assoc, dd]
    | .I s :: .R k :: r => rfl
    | .I s :: .I u :: r => rfl
theorem kp_nf (a : List Q) : kp (nf a) = kp a := by
  induction a with
  | nil => rfl
  | cons p a ih => rw [nf_cons, kp_push, kp_cons, kp_cons, ih]
theorem kp_col {l : List Q} (h : allPos l = true) : ∀ p, (col p l).1.map Prod.snd = kp l := by
  induction l with
  | nil => intro p; rfl
  | cons q r ih =>
    intro p
    have h0 : pos q = true ∧ allPos r = true := by simpa [allPos] using h
    cases q with
    | I t => exact ih h0.2 _
    | R n =>
      obtain ⟨m, rfl⟩ : ∃ m, n = m + 1 := ⟨n - 1, by have : 0 < n := by simpa [pos] using h0.1
                                                     omega⟩
      show true :: (List.replicate (m + 1 - 1) ([], true) ++ (col [] r).1).map Prod.snd = List.replicate (m + 1) true ++ kp r
      rw [List.map_append, ih h0.2, Nat.add_sub_cancel, List.map_replicate, List.replicate_succ]; rfl
    | D n =>
      obtain ⟨m, rfl⟩ : ∃ m, n = m + 1 := ⟨n - 1, by have : 0 < n := by simpa [pos] using h0.1
                                                     omega⟩
      show false :: (List.replicate (m + 1 - 1) ([], false) ++ (col [] r).1).map Prod.snd = List.replicate (m + 1) false ++ kp r
      rw [List.map_append, ih h0.2, Nat.add_sub_cancel, List.map_replicate, List.replicate_succ]; rfl
theorem kp_len (l : List Q) : (kp l).length = inL l := by
  induction l with
  | nil => rfl
  | cons q r ih => rw [kp_cons, List.length_append, ih]; unfold kpq; rw [List.length_replicate]; rfl
theorem kp_take (a : List Q) (i : Nat) (q : Q) (h : a[i]? = some q) : kp (a.take (i + 1)) = kp (a.take i) ++ kpq q := by
  rw [List.take_add_one, h]
  show kp (a.take i ++ [q]) = _
  unfold kp; rw [List.flatMap_append]; simp

/-! ### Columns by offset -/
theorem cA_kp {a : List Q} (h : allPos a = true) : (cA a).map Prod.snd = kp a := by unfold cA; rw [kp_col (allPos_nf _ h), kp_nf]
theorem cA_txs (a : List Q) : (cA a).map Prod.fst ++ [cZ a] = txs (nf a) := rfl
theorem txs_at {a : List Q} {p : Nat} {s : List UInt8} {k : Bool} (h : (cA a)[p]? = some (s, k)) : (txs (nf a))[p]? = some s := by
  rw [← cA_txs, List.getElem?_append_left (by have := (List.getElem?_eq_some_iff.1 h).1; simpa using this), List.getElem?_map, h]; rfl
theorem txs_last {a : List Q} : (txs (nf a))[(cA a).length]? = some (cZ a) := by
  rw [← cA_txs, List.getElem?_append_right (by simp), List.length_map, Nat.sub_self]; rfl
theorem kp_at {a : List Q} (ha : allPos a = true) {p : Nat} {s : List UInt8} {k : Bool} (h : (cA a)[p]? = some (s, k)) : (kp a)[p]? = some k := by
  rw [← cA_kp ha, List.getElem?_map, h]; rfl

/-! ### The walk that merges -/
def agR (first : Bool) (ca : List Col) (sl : List UInt8) (cb : List Col) (tl : List UInt8) (p i : Nat) : List Int := if p ≤ ca.length then tfE first i (ca.drop p) sl (cb.drop p) tl else []
def agN (ca : List Col) (sl : List UInt8) (p : Nat) : Nat := if p ≤ ca.length then (ent p (ca.drop p) sl).length else 0
/-- Behind p offsets: what was written, and where the result of the first delta stands. -/
structure Ag (first : Bool) (ca : List Col) (sl : List UInt8) (cb : List Col) (tl : List UInt8) (p i : Nat) (out : List Int) : Prop where
  eq : tfE first 0 ca sl cb tl = out ++ agR first ca sl cb tl p i
  pos : i + agN ca sl p = (ent 0 ca sl).length
theorem Ag.zero (first : Bool) (ca : List Col) (sl : List UInt8) (cb : List Col) (tl : List UInt8) : Ag first ca sl cb tl 0 0 [] := by
  refine ⟨?_, ?_⟩
  · unfold agR; rw [if_pos (Nat.zero_le _)]; rfl
  · unfold agN; rw [if_pos (Nat.zero_le _)]; simp
theorem ent_length_k (c : List Col) (l : List UInt8) : ∀ k j, (ent k c l).length = (ent j c l).length := by
  induction c with
  | nil => intro k j; rfl
  | cons x c ih =>
    intro k j
    obtain ⟨s, b⟩ := x
    show (s.map neg ++ ((if b then [(k : Int)] else []) ++ ent (k + 1) c l)).length = (s.map neg ++ ((if b then [(j : Int)] else []) ++ ent (j + 1) c l)).length
    simp only [List.length_append]
    rw [ih (k + 1) (j + 1)]
    cases b <;> rfl
theorem Ag.next {first : Bool} {ca : List Col} {sl : List UInt8} {cb : List Col} {tl : List UInt8} {p i : Nat} {out : List Int} (h : Ag first ca sl cb tl p i out) {s t : List UInt8} {k l : Bool} (ha : ca[p]? = some (s, k)) (hb : cb[p]? = some (t, l)) :
    Ag first ca sl cb tl (p + 1) (i + s.length + (if k then 1 else 0)) (out ++ blkE first i s t ++ (if k && l then [((i + s.length : Nat) : Int)] else [])) := by
  obtain ⟨hlt, ea⟩ := List.getElem?_eq_some_iff.1 ha
  obtain ⟨hlb, eb⟩ := List.getElem?_eq_some_iff.1 hb
  have da : ca.drop p = (s, k) :: ca.drop (p + 1) := by rw [List.drop_eq_getElem_cons hlt, ea]
  have db : cb.drop p = (t, l) :: cb.drop (p + 1) := by rw [List.drop_eq_getElem_cons hlb, eb]
  have h1 := h.eq
  have h2 := h.pos
  unfold agR at h1
  unfold agN at h2
  rw [if_pos (Nat.le_of_lt hlt), da, db] at h1
  rw [if_pos (Nat.le_of_lt hlt), da] at h2
  refine ⟨?_, ?_⟩
  · rw [h1]; unfold agR; rw [if_pos (show p + 1 ≤ ca.length from hlt)]
    simp only [tfE, List.append_assoc]
  · rw [← h2]; unfold agN; rw [if_pos (show p + 1 ≤ ca.length from hlt)]
    simp only [ent, List.length_append, List.length_map]
    cases k <;> simp <;> omega
theorem Ag.last {first : Bool} {ca : List Col} {sl : List UInt8} {cb : List Col} {tl : List UInt8} {i : Nat} {out : List Int} (h : Ag first ca sl cb tl ca.length i out) (hl : ca.length = cb.length) :
    Ag first ca sl cb tl (ca.length + 1) (i + sl.length) (out ++ blkE first i sl tl) := by
  have h1 := h.eq
  have h2 := h.pos
  unfold agR at h1
  unfold agN at h2
  rw [if_pos (Nat.le_refl _), List.drop_length, show cb.drop ca.length = [] by rw [hl, List.drop_length]] at h1
  rw [if_pos (Nat.le_refl _), List.drop_length] at h2
  refine ⟨?_, ?_⟩
  · rw [h1]; unfold agR; rw [if_neg (by omega), List.append_nil]; rfl
  · rw [← h2]; unfold agN; rw [if_neg (by omega)]; simp [ent]
theorem Ag.fin {first : Bool} {ca : List Col} {sl : List UInt8} {cb : List Col} {tl : List UInt8} {i : Nat} {out : List Int} (h : Ag first ca sl cb tl (ca.length + 1) i out) : out = tfE first 0 ca sl cb tl ∧ i = (ent 0 ca sl).length := by
  have h1 := h.eq
  have h2 := h.pos
  unfold agR at h1
  unfold agN at h2
  rw [if_neg (by omega)] at h1 h2
  exact ⟨by rw [h1, List.append_nil], by omega⟩
theorem Ag.le {first : Bool} {ca : List Col} {sl : List UInt8} {cb : List Col} {tl : List UInt8} {p i : Nat} {out : List Int} (h : Ag first ca sl cb tl p i out) : out.length ≤ (tfE first 0 ca sl cb tl).length ∧ i ≤ (ent 0 ca sl).length := by
  have h1 := h.eq
  have h2 := h.pos
  exact ⟨by rw [h1, List.length_append]; omega, by omega⟩
theorem tfE_len (first : Bool) (ca : List Col) (sl tl : List UInt8) : ∀ (cb : List Col) (i k : Nat), ca.length = cb.length → (tfE first i ca sl cb tl).length ≤ (ent k ca sl).length + (ent k cb tl).length := by
  have hb : ∀ (i : Nat) (s t : List UInt8), (blkE first i s t).length = s.length + t.length := fun i s t => by
    cases first <;> simp [blkE, run] <;> omega
  induction ca with
  | nil =>
    intro cb i k h
    cases cb with
    | cons _ _ => cases h
    | nil => show (blkE first i sl tl).length ≤ (sl.map neg).length + (tl.map neg).length; rw [hb]; simp
  | cons x ca ih =>
    intro cb i k h
    cases cb with
    | nil => cases h
    | cons y cb =>
      obtain ⟨s, b⟩ := x
      obtain ⟨t, l⟩ := y
      have i0 := ih cb (i + s.length + (if b then 1 else 0)) (k + 1) (by simpa using h)
      show (blkE first i s t ++ ((if b && l then [((i + s.length : Nat) : Int)] else []) ++ tfE first (i + s.length + (if b then 1 else 0)) ca sl cb tl)).length ≤ (s.map neg ++ ((if b then [(k : Int)] else []) ++ ent (k + 1) ca sl)).length + (t.map neg ++ ((if l then [(k : Int)] else []) ++ ent (k + 1) cb tl)).length
      simp only [List.length_append, List.length_map, hb]
      cases b <;> cases l <;> simp at i0 ⊢ <;> omega
theorem outL_tf {first : Bool} {a b : List Q} (ha : allPos a = true) (hb : allPos b = true) (h : inL a = inL b) : outL (tf first a b) ≤ outL a + outL b := by
  have t := tf_of (first := first) ha hb h
  obtain ⟨l1, e1⟩ := cols_of ha
  obtain ⟨l2, e2⟩ := cols_of hb
  have := tfE_len first (cA a) (cZ a) (cZ b) (cA b) 0 0 (by omega)
  rw [← t.ats, e1, e2, atoms_length, atoms_length, atoms_length] at this
  exact this
/-- Are the columns before p apart? -/
theorem apart_at (ca : List Col) (sl tl : List UInt8) : ∀ (cb : List Col), ca.length = cb.length → (apart ca sl cb tl = true ↔ (∀ (p : Nat) (s : List UInt8) (k : Bool) (t : List UInt8) (l : Bool), ca[p]? = some (s, k) → cb[p]? = some (t, l) → (s.isEmpty || t.isEmpty) = true ∧ (k || l) = true) ∧ (sl.isEmpty || tl.isEmpty) = true) := by
  induction ca with
  | nil =>
    intro cb h
    cases cb with
    | cons _ _ => cases h
    | nil => exact ⟨fun h => ⟨fun p s k t l hp => by simp at hp, h⟩, fun h => h.2⟩
  | cons x ca ih =>
    intro cb h
    cases cb with
    | nil => cases h
    | cons y cb =>
      obtain ⟨s, b⟩ := x
      obtain ⟨t, l⟩ := y
      show ((s.isEmpty || t.isEmpty) && (b || l) && apart ca sl cb tl) = true ↔ _
      rw [Bool.and_eq_true, Bool.and_eq_true, ih cb (by simpa using h)]
      constructor
      · rintro ⟨⟨h1, h2⟩, h3, h4⟩
        refine ⟨fun p s' k' t' l' hp hq => ?_, h4⟩
        cases p with
        | zero =>
          have e1 := Option.some.inj (show some (s, b) = some (s', k') from hp)
          have e2 := Option.some.inj (show some (t, l) = some (t', l') from hq)
          cases e1; cases e2; exact ⟨h1, h2⟩
        | succ p => exact h3 p s' k' t' l' hp hq
      · rintro ⟨h1, h2⟩
        exact ⟨h1 0 s b t l rfl rfl, fun p s' k' t' l' hp hq => h1 (p + 1) s' k' t' l' hp hq, h2⟩
end Go.Proofs.Ytmbgcbgbdjiacaa.D
