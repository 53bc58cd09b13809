/- Texts joined: TransMath TransMath2 TransMath3 TransRaw TransWalk TransRefM -/
import Derived.Test.YtmljagkndnobdaaPackMath
import Derived.Test.YtmljagkndnobdaaPackCRaw
/- TransMath -/
namespace Go.Proofs.Ytmljagkndnobdaa.D

/-- The text that stands before a byte, and whether the byte is kept. -/
abbrev Col := List UInt8 × Bool
def run (k n : Nat) : List Int := (List.range n).map fun i => ((k + i : Nat) : Int)
/-- The columns of a delta, with a text that stands before it; and the text at its end. -/
def col (p : List UInt8) : List Q → List Col × List UInt8
  | [] => ([], p)
  | .I t :: r => col (p ++ t) r
  | .R n :: r => ((p, true) :: (List.replicate (n - 1) ([], true) ++ (col [] r).1), (col [] r).2)
  | .D n :: r => ((p, false) :: (List.replicate (n - 1) ([], false) ++ (col [] r).1), (col [] r).2)
/-- The entries of columns. -/
def ent (k : Nat) : List Col → List UInt8 → List Int
  | [], l => l.map neg
  | (s, b) :: c, l => s.map neg ++ ((if b then [(k : Int)] else []) ++ ent (k + 1) c l)
theorem run_zero (k : Nat) : run k 0 = [] := rfl
theorem run_succ (k n : Nat) : run k (n + 1) = (k : Int) :: run (k + 1) n := by
  unfold run
  rw [List.range_succ_eq_map, List.map_cons, List.map_map]
  congr 1
  apply List.map_congr_left
  intro i _
  simp only [Function.comp]; omega
theorem ent_rep (b : Bool) (c : List Col) (l : List UInt8) : ∀ k m, ent k (List.replicate m ([], b) ++ c) l = (if b then run k m else []) ++ ent (k + m) c l := by
  intro k m
  induction m generalizing k with
  | zero => cases b <;> simp [run_zero]
  | succ m ih =>
    show [] ++ ((if b then [(k : Int)] else []) ++ ent (k + 1) (List.replicate m ([], b) ++ c) l) = _
    rw [ih, List.nil_append, show k + 1 + m = k + (m + 1) by omega]
    cases b
    · simp
    · simp [run_succ]
theorem ent_col (a : List Q) (h : allPos a = true) : ∀ k p, ent k (col p a).1 (col p a).2 = p.map neg ++ atoms k a := by
  induction a with
  | nil => intro k p; simp [col, ent, atoms]
  | cons q r ih =>
    intro k p
    have h0 : pos q = true ∧ allPos r = true := by simpa [allPos] using h
    cases q with
    | I t =>
      show ent k (col (p ++ t) r).1 (col (p ++ t) r).2 = p.map neg ++ (t.map neg ++ atoms k r)
      rw [ih h0.2, List.map_append, List.append_assoc]
    | R n =>
      obtain ⟨m, rfl⟩ : ∃ m, n = m + 1 := ⟨n - 1, by have : 0 < n := by simpa [pos] using h0.1
                                                     omega⟩
      show p.map neg ++ ([(k : Int)] ++ ent (k + 1) (List.replicate (m + 1 - 1) ([], true) ++ (col [] r).1) (col [] r).2) = p.map neg ++ (run k (m + 1) ++ atoms (k + (m + 1)) r)
      rw [Nat.add_sub_cancel, ent_rep, ih h0.2, run_succ, show k + 1 + m = k + (m + 1) by omega]; simp
    | D n =>
      obtain ⟨m, rfl⟩ : ∃ m, n = m + 1 := ⟨n - 1, by have : 0 < n := by simpa [pos] using h0.1
                                                     omega⟩
      show p.map neg ++ ([] ++ ent (k + 1) (List.replicate (m + 1 - 1) ([], false) ++ (col [] r).1) (col [] r).2) = p.map neg ++ atoms (k + (m + 1)) r
      rw [Nat.add_sub_cancel, ent_rep, ih h0.2, show k + 1 + m = k + (m + 1) by omega]; simp
theorem col_length (a : List Q) (h : allPos a = true) : ∀ p, (col p a).1.length = inL a := by
  induction a with
  | nil => intro p; rfl
  | cons q r ih =>
    intro p
    have h0 : pos q = true ∧ allPos r = true := by simpa [allPos] using h
    have e : inL (q :: r) = in1 q + inL r := rfl
    cases q with
    | I t => show (col (p ++ t) r).1.length = _; rw [ih h0.2, e]; simp [in1]
    | R n =>
      have : 0 < n := by simpa [pos] using h0.1
      simp only [col, List.length_cons, List.length_append, List.length_replicate, ih h0.2, e, in1]; omega
    | D n =>
      have : 0 < n := by simpa [pos] using h0.1
      simp only [col, List.length_cons, List.length_append, List.length_replicate, ih h0.2, e, in1]; omega

/-! ### The transformed delta -/
def blkQ (first : Bool) (s t : List UInt8) : List Q := if first then oR s.length ++ oI t else oI t ++ oR s.length
def tfQ (first : Bool) : List Col → List UInt8 → List Col → List UInt8 → List Q
  | (s, k) :: ca, sl, (t, l) :: cb, tl => blkQ first s t ++ ((if k then [if l then Q.R 1 else Q.D 1] else []) ++ tfQ first ca sl cb tl)
  | _, s, _, t => blkQ first s t
def blkE (first : Bool) (i : Nat) (s t : List UInt8) : List Int := if first then run i s.length ++ t.map neg else t.map neg ++ run i s.length
def tfE (first : Bool) : Nat → List Col → List UInt8 → List Col → List UInt8 → List Int
  | i, (s, k) :: ca, sl, (t, l) :: cb, tl => blkE first i s t ++ ((if k && l then [((i + s.length : Nat) : Int)] else []) ++ tfE first (i + s.length + (if k then 1 else 0)) ca sl cb tl)
  | i, _, s, _, t => blkE first i s t
/-- The merged result's entries. -/
def mgE (first : Bool) : Nat → List Col → List UInt8 → List Col → List UInt8 → List Int
  | k, (s, x) :: ca, sl, (t, y) :: cb, tl => (if first then s ++ t else t ++ s).map neg ++ ((if x && y then [(k : Int)] else []) ++ mgE first (k + 1) ca sl cb tl)
  | _, _, s, _, t => (if first then s ++ t else t ++ s).map neg
/-- b against a, for any deltas of one input length. -/
def tf (first : Bool) (a b : List Q) : List Q := nf (tfQ first (col [] (nf a)).1 (col [] (nf a)).2 (col [] (nf b)).1 (col [] (nf b)).2)
theorem atoms_oR (k n : Nat) (r : List Q) : atoms k (oR n ++ r) = run k n ++ atoms (k + n) r := by
  unfold oR
  split
  · rename_i h; subst h; rfl
  · rfl
theorem atoms_oI (k : Nat) (t : List UInt8) (r : List Q) : atoms k (oI t ++ r) = t.map neg ++ atoms k r := by
  unfold oI
  split
  · rename_i h; subst h; rfl
  · rfl
theorem inL_oRr (n : Nat) (r : List Q) : inL (oR n ++ r) = n + inL r := by
  unfold oR
  split
  · rename_i h; subst h; simp
  · rfl
theorem inL_oIr (t : List UInt8) (r : List Q) : inL (oI t ++ r) = inL r := by
  unfold oI
  split
  · rfl
  · show 0 + inL r = _; omega
theorem atoms_blk (first : Bool) (i : Nat) (s t : List UInt8) (r : List Q) : atoms i (blkQ first s t ++ r) = blkE first i s t ++ atoms (i + s.length) r := by
  cases first
  · show atoms i ((oI t ++ oR s.length) ++ r) = (t.map neg ++ run i s.length) ++ _
    rw [List.append_assoc, atoms_oI, atoms_oR, List.append_assoc]
  · show atoms i ((oR s.length ++ oI t) ++ r) = (run i s.length ++ t.map neg) ++ _
    rw [List.append_assoc, atoms_oR, atoms_oI, List.append_assoc]
theorem inL_blk (first : Bool) (s t : List UInt8) (r : List Q) : inL (blkQ first s t ++ r) = s.length + inL r := by
  cases first
  · show inL ((oI t ++ oR s.length) ++ r) = _
    rw [List.append_assoc, inL_oIr, inL_oRr]
  · show inL ((oR s.length ++ oI t) ++ r) = _
    rw [List.append_assoc, inL_oRr, inL_oIr]
theorem atoms_tfQ (first : Bool) (ca : List Col) (sl tl : List UInt8) : ∀ (cb : List Col) (i : Nat), ca.length = cb.length → atoms i (tfQ first ca sl cb tl) = tfE first i ca sl cb tl := by
  induction ca with
  | nil =>
    intro cb i h
    cases cb with
    | cons _ _ => cases h
    | nil =>
      show atoms i (blkQ first sl tl) = blkE first i sl tl
      have := atoms_blk first i sl tl []
      simpa [atoms] using this
  | cons x ca ih =>
    intro cb i h
    cases cb with
    | nil => cases h
    | cons y cb =>
      obtain ⟨s, k⟩ := x
      obtain ⟨t, l⟩ := y
      have h' : ca.length = cb.length := by simpa using h
      show atoms i (blkQ first s t ++ ((if k then [if l then Q.R 1 else Q.D 1] else []) ++ tfQ first ca sl cb tl)) = blkE first i s t ++ ((if k && l then [((i + s.length : Nat) : Int)] else []) ++ tfE first (i + s.length + (if k then 1 else 0)) ca sl cb tl)
      rw [atoms_blk]
      cases k
      · simp only [Bool.false_and, Bool.false_eq_true, if_false, List.nil_append, Nat.add_zero]
        rw [ih cb _ h']
      · cases l
        · simp only [Bool.and_false, Bool.false_eq_true, if_false, if_true, List.nil_append, List.singleton_append]
          show _ ++ atoms (i + s.length + 1) _ = _
          rw [ih cb _ h']
        · simp only [Bool.and_true, if_true, List.singleton_append]
          show _ ++ (run (i + s.length) 1 ++ atoms (i + s.length + 1) _) = _
          rw [ih cb _ h']; simp [run]
theorem inL_tfQ (first : Bool) (ca : List Col) (sl tl : List UInt8) : ∀ (cb : List Col) (k : Nat), ca.length = cb.length → inL (tfQ first ca sl cb tl) = (ent k ca sl).length := by
  induction ca with
  | nil =>
    intro cb k h
    cases cb with
    | cons _ _ => cases h
    | nil =>
      show inL (blkQ first sl tl) = (sl.map neg).length
      have := inL_blk first sl tl []
      have e : inL [] = 0 := rfl
      rw [List.append_nil, e] at this
      rw [this, List.length_map]; rfl
  | cons x ca ih =>
    intro cb k h
    cases cb with
    | nil => cases h
    | cons y cb =>
      obtain ⟨s, b⟩ := x
      obtain ⟨t, l⟩ := y
      have h' : ca.length = cb.length := by simpa using h
      show inL (blkQ first s t ++ ((if b then [if l then Q.R 1 else Q.D 1] else []) ++ tfQ first ca sl cb tl)) = (s.map neg ++ ((if b then [(k : Int)] else []) ++ ent (k + 1) ca sl)).length
      rw [inL_blk, inL_append, ih cb (k + 1) h']
      have e : inL (if b then [if l then Q.R 1 else Q.D 1] else []) = (if b then [(k : Int)] else ([] : List Int)).length := by cases b <;> cases l <;> rfl
      rw [e]
      simp only [List.length_append, List.length_map]

/-! ### Convergence (P7.6) -/
theorem pick_run (P X : List Int) (s : List UInt8) : (run P.length s.length).map (pick (P ++ (s.map neg ++ X))) = s.map neg := by
  unfold run
  rw [List.map_map]
  apply List.ext_getElem
  · simp
  · intro i h1 h2
    have hi : i < s.length := by simpa using h2
    simp only [List.getElem_map, List.getElem_range, Function.comp]
    rw [pick_nat, List.getD_eq_getElem?_getD, List.getElem?_append_right (by omega), Nat.add_sub_cancel_left, List.getElem?_append_left (by simpa using hi), List.getElem?_map, List.getElem?_eq_getElem hi]
    rfl
theorem pick_negs (M : List Int) (t : List UInt8) : (t.map neg).map (pick M) = t.map neg := by
  rw [List.map_map]
  apply List.map_congr_left
  intro b _
  exact pick_neg M b
theorem blk_pick (first : Bool) (P X : List Int) (s t : List UInt8) : (blkE first P.length s t).map (pick (P ++ (s.map neg ++ X))) = (if first then s ++ t else t ++ s).map neg := by
  cases first
  · show ((t.map neg ++ run P.length s.length).map _) = (t ++ s).map neg
    rw [List.map_append, pick_run, pick_negs, List.map_append]
  · show ((run P.length s.length ++ t.map neg).map _) = (s ++ t).map neg
    rw [List.map_append, pick_run, pick_negs, List.map_append]
theorem tf_pick (first : Bool) (ca : List Col) (sl tl : List UInt8) : ∀ (cb : List Col) (k : Nat) (P : List Int), ca.length = cb.length → (tfE first P.length ca sl cb tl).map (pick (P ++ ent k ca sl)) = mgE first k ca sl cb tl := by
  induction ca with
  | nil =>
    intro cb k P h
    cases cb with
    | cons _ _ => cases h
    | nil =>
      show (blkE first P.length sl tl).map (pick (P ++ sl.map neg)) = (if first then sl ++ tl else tl ++ sl).map neg
      have := blk_pick first P [] sl tl
      rwa [List.append_nil] at this
  | cons x ca ih =>
    intro cb k P h
    cases cb with
    | nil => cases h
    | cons y cb =>
      obtain ⟨s, b⟩ := x
      obtain ⟨t, l⟩ := y
      have h' : ca.length = cb.length := by simpa using h
      show (blkE first P.length s t ++ ((if b && l then [((P.length + s.length : Nat) : Int)] else []) ++ tfE first (P.length + s.length + (if b then 1 else 0)) ca sl cb tl)).map (pick (P ++ (s.map neg ++ ((if b then [(k : Int)] else []) ++ ent (k + 1) ca sl)))) = (if first then s ++ t else t ++ s).map neg ++ ((if b && l then [(k : Int)] else []) ++ mgE first (k + 1) ca sl cb tl)
      rw [List.map_append, blk_pick, List.map_append]
      congr 1
      have i0 := ih cb (k + 1) (P ++ (s.map neg ++ (if b then [(k : Int)] else []))) h'
      have e1 : (P ++ (s.map neg ++ (if b then [(k : Int)] else []))).length = P.length + s.length + (if b then 1 else 0) := by cases b <;> simp <;> omega
      have e2 : P ++ (s.map neg ++ (if b then [(k : Int)] else [])) ++ ent (k + 1) ca sl = P ++ (s.map neg ++ ((if b then [(k : Int)] else []) ++ ent (k + 1) ca sl)) := by simp only [List.append_assoc]
      rw [e1, e2] at i0
      rw [i0]
      congr 1
      cases b
      · simp
      · cases l
        · simp
        · simp only [Bool.and_true, if_true, List.map_cons, List.map_nil, List.cons.injEq, and_true]
          rw [pick_nat, List.getD_eq_getElem?_getD, List.getElem?_append_right (by omega), Nat.add_sub_cancel_left, List.getElem?_append_right (by simp)]
          simp
theorem mgE_swap (ca : List Col) (sl tl : List UInt8) : ∀ (cb : List Col) (k : Nat), ca.length = cb.length → mgE false k cb tl ca sl = mgE true k ca sl cb tl := by
  induction ca with
  | nil =>
    intro cb k h
    cases cb with
    | cons _ _ => cases h
    | nil => rfl
  | cons x ca ih =>
    intro cb k h
    cases cb with
    | nil => cases h
    | cons y cb =>
      obtain ⟨s, b⟩ := x
      obtain ⟨t, l⟩ := y
      have h' : ca.length = cb.length := by simpa using h
      show (s ++ t).map neg ++ ((if l && b then [(k : Int)] else []) ++ mgE false (k + 1) cb tl ca sl) = (s ++ t).map neg ++ ((if b && l then [(k : Int)] else []) ++ mgE true (k + 1) ca sl cb tl)
      rw [ih cb (k + 1) h', Bool.and_comm]
/-- A delta's columns: of its normal form. -/
def cA (a : List Q) : List Col := (col [] (nf a)).1
def cZ (a : List Q) : List UInt8 := (col [] (nf a)).2
structure Tf (first : Bool) (a b : List Q) : Prop where
  inn : inL (tf first a b) = outL a
  ats : atoms 0 (tf first a b) = tfE first 0 (cA a) (cZ a) (cA b) (cZ b)
  cmp : cmpA (atoms 0 a) (atoms 0 (tf first a b)) = mgE first 0 (cA a) (cZ a) (cA b) (cZ b)
  nrm : isN (tf first a b) = true
theorem cols_of {a : List Q} (h : allPos a = true) : (cA a).length = inL a ∧ ent 0 (cA a) (cZ a) = atoms 0 a := by
  have hn := allPos_nf a h
  refine ⟨by unfold cA; rw [col_length _ hn, inL_nf], ?_⟩
  unfold cA cZ
  rw [ent_col _ hn, atoms_nf]; rfl
theorem tf_of {first : Bool} {a b : List Q} (ha : allPos a = true) (hb : allPos b = true) (h : inL a = inL b) : Tf first a b := by
  obtain ⟨l1, e1⟩ := cols_of ha
  obtain ⟨l2, e2⟩ := cols_of hb
  have hl : (cA a).length = (cA b).length := by omega
  have e3 : atoms 0 (tf first a b) = tfE first 0 (cA a) (cZ a) (cA b) (cZ b) := by
    unfold tf; rw [atoms_nf]; exact atoms_tfQ first (cA a) (cZ a) (cZ b) (cA b) 0 hl
  refine ⟨?_, e3, ?_, isN_nf _⟩
  · unfold tf
    rw [inL_nf, show inL (tfQ first (col [] (nf a)).1 (col [] (nf a)).2 (col [] (nf b)).1 (col [] (nf b)).2) = _ from inL_tfQ first (cA a) (cZ a) (cZ b) (cA b) 0 hl, e1, atoms_length]
  · rw [e3, ← e1]
    have := tf_pick first (cA a) (cZ a) (cZ b) (cA b) 0 [] hl
    show (tfE first 0 (cA a) (cZ a) (cA b) (cZ b)).map (pick (ent 0 (cA a) (cZ a))) = _
    simpa using this
/-- P7.6: both ways compose to one delta. -/
theorem tf_conv {a b : List Q} (ha : allPos a = true) (hb : allPos b = true) (h : inL a = inL b) : cQ a (tf true a b) = cQ b (tf false b a) := by
  have t1 := tf_of (first := true) ha hb h
  have t2 := tf_of (first := false) hb ha h.symm
  obtain ⟨l1, _⟩ := cols_of ha
  obtain ⟨l2, _⟩ := cols_of hb
  unfold cQ
  rw [t1.cmp, t2.cmp, mgE_swap _ _ _ _ _ (by omega), h]
end Go.Proofs.Ytmljagkndnobdaa.D
/- TransMath2 -/
namespace Go.Proofs.Ytmljagkndnobdaa.D

theorem allPos_cat (a b : List Q) : allPos (a ++ b) = (allPos a && allPos b) := by unfold allPos; rw [List.all_append]
theorem allPos_oR (n : Nat) : allPos (oR n) = true := by
  unfold oR
  split
  · rfl
  · simp [allPos, pos]; omega
theorem allPos_oI (t : List UInt8) : allPos (oI t) = true := by
  unfold oI
  split
  · rfl
  · simp [allPos, pos]; assumption
theorem allPos_tfQ (first : Bool) (ca : List Col) (sl tl : List UInt8) : ∀ cb : List Col, allPos (tfQ first ca sl cb tl) = true := by
  have hb : ∀ s t : List UInt8, allPos (blkQ first s t) = true := fun s t => by
    cases first
    · show allPos (oI t ++ oR s.length) = true; rw [allPos_cat, allPos_oI, allPos_oR]; rfl
    · show allPos (oR s.length ++ oI t) = true; rw [allPos_cat, allPos_oI, allPos_oR]; rfl
  induction ca with
  | nil => intro cb; cases cb <;> exact hb _ _
  | cons x ca ih =>
    intro cb
    cases cb with
    | nil => exact hb _ _
    | cons y cb =>
      obtain ⟨s, k⟩ := x
      obtain ⟨t, l⟩ := y
      show allPos (blkQ first s t ++ ((if k then [if l then Q.R 1 else Q.D 1] else []) ++ tfQ first ca sl cb tl)) = true
      rw [allPos_cat, hb, allPos_cat, ih cb]
      cases k <;> cases l <;> rfl
theorem allPos_tf (first : Bool) (a b : List Q) : allPos (tf first a b) = true := allPos_nf _ (allPos_tfQ _ _ _ _ _)
/-- What has these entries and this length is the transformed delta. -/
theorem tf_unique {first : Bool} {a b c : List Q} (ha : allPos a = true) (hb : allPos b = true) (h : inL a = inL b) (pc : allPos c = true) (hi : inL c = outL a) (e : atoms 0 c = atoms 0 (tf first a b)) : tf first a b = nf c := by
  have t := tf_of (first := first) ha hb h
  exact nf_unique _ _ 0 t.nrm (isN_nf c) (allPos_tf _ _ _) (allPos_nf c pc) (by rw [t.inn, inL_nf, hi]) (by rw [atoms_nf, e])

/-! ### Entries of columns -/
theorem ent_lo (c : List Col) (l : List UInt8) : ∀ k, ∀ x ∈ ent k c l, 0 ≤ x → (k : Int) ≤ x := by
  induction c with
  | nil =>
    intro k x hx h0
    obtain ⟨b, _, rfl⟩ := List.mem_map.1 hx
    have := neg_lt b; omega
  | cons y c ih =>
    intro k x hx h0
    obtain ⟨s, b⟩ := y
    rcases List.mem_append.1 (show x ∈ s.map neg ++ ((if b then [(k : Int)] else []) ++ ent (k + 1) c l) from hx) with h | h
    · obtain ⟨b, _, rfl⟩ := List.mem_map.1 h
      have := neg_lt b; omega
    · rcases List.mem_append.1 h with h | h
      · cases b
        · cases h
        · have := List.mem_singleton.1 h; omega
      · have := ih (k + 1) x h h0; omega
/-- A byte is among the entries exactly if its column keeps it. -/
theorem mem_ent (c : List Col) (l : List UInt8) : ∀ k j, ((k + j : Nat) : Int) ∈ ent k c l ↔ ∃ s, c[j]? = some (s, true) := by
  induction c with
  | nil =>
    intro k j
    constructor
    · intro h
      obtain ⟨b, _, e⟩ := List.mem_map.1 h
      have := neg_lt b; omega
    · rintro ⟨s, h⟩; simp at h
  | cons y c ih =>
    intro k j
    obtain ⟨s, b⟩ := y
    have e : (((k + j : Nat) : Int) ∈ ent k ((s, b) :: c) l) ↔ ((b = true ∧ j = 0) ∨ ((k + j : Nat) : Int) ∈ ent (k + 1) c l) := by
      show _ ∈ s.map neg ++ ((if b then [(k : Int)] else []) ++ ent (k + 1) c l) ↔ _
      rw [List.mem_append, List.mem_append]
      constructor
      · rintro (h | h | h)
        · obtain ⟨b, _, e⟩ := List.mem_map.1 h
          have := neg_lt b; omega
        · cases b
          · cases h
          · have := List.mem_singleton.1 h; exact .inl ⟨rfl, by omega⟩
        · exact .inr h
      · rintro (⟨rfl, rfl⟩ | h)
        · exact .inr (.inl (by simp))
        · exact .inr (.inr h)
    rw [e]
    cases j with
    | zero =>
      constructor
      · rintro (⟨rfl, _⟩ | h)
        · exact ⟨s, rfl⟩
        · have := ent_lo c l (k + 1) _ h (by omega); omega
      · rintro ⟨s', h⟩
        have := Option.some.inj (show some (s, b) = some (s', true) from h)
        cases this
        exact .inl ⟨rfl, rfl⟩
    | succ j =>
      have := ih (k + 1) j
      rw [show k + 1 + j = k + (j + 1) by omega] at this
      rw [this]
      constructor
      · rintro (⟨_, h⟩ | h)
        · cases h
        · exact h
      · intro h; exact .inr h
theorem mg_lo (first : Bool) (ca : List Col) (sl tl : List UInt8) : ∀ (cb : List Col) (k j : Nat), ca.length = cb.length → j < k → (j : Int) ∉ mgE first k ca sl cb tl := by
  have hn : ∀ (j : Nat) (u : List UInt8), (j : Int) ∉ u.map neg := fun j u h => by
    obtain ⟨b, _, e⟩ := List.mem_map.1 h
    have := neg_lt b; omega
  induction ca with
  | nil =>
    intro cb k j h hj
    cases cb with
    | cons _ _ => cases h
    | nil => exact hn _ _
  | cons x ca ih =>
    intro cb k j h hj
    cases cb with
    | nil => cases h
    | cons y cb =>
      obtain ⟨s, b⟩ := x
      obtain ⟨t, l⟩ := y
      have h' : ca.length = cb.length := by simpa using h
      intro hm
      rcases List.mem_append.1 (show (j : Int) ∈ (if first then s ++ t else t ++ s).map neg ++ ((if b && l then [(k : Int)] else []) ++ mgE first (k + 1) ca sl cb tl) from hm) with h1 | h1
      · exact hn _ _ h1
      · rcases List.mem_append.1 h1 with h2 | h2
        · cases b <;> cases l <;> simp at h2
          omega
        · exact ih cb (k + 1) j h' (by omega) h2
/-- A merge keeps exactly what both keep (P7.6). -/
theorem mem_mg (first : Bool) (ca : List Col) (sl tl : List UInt8) : ∀ (cb : List Col) (k j : Nat), ca.length = cb.length → (((k + j : Nat) : Int) ∈ mgE first k ca sl cb tl ↔ ((k + j : Nat) : Int) ∈ ent k ca sl ∧ ((k + j : Nat) : Int) ∈ ent k cb tl) := by
  have hn : ∀ (j : Nat) (u : List UInt8), (j : Int) ∉ u.map neg := fun j u h => by
    obtain ⟨b, _, e⟩ := List.mem_map.1 h
    have := neg_lt b; omega
  induction ca with
  | nil =>
    intro cb k j h
    cases cb with
    | cons _ _ => cases h
    | nil =>
      constructor
      · intro h; exact absurd h (hn _ _)
      · rintro ⟨h, _⟩; exact absurd h (hn _ _)
  | cons x ca ih =>
    intro cb k j h
    cases cb with
    | nil => cases h
    | cons y cb =>
      obtain ⟨s, b⟩ := x
      obtain ⟨t, l⟩ := y
      have h' : ca.length = cb.length := by simpa using h
      show _ ∈ (if first then s ++ t else t ++ s).map neg ++ ((if b && l then [(k : Int)] else []) ++ mgE first (k + 1) ca sl cb tl) ↔ _ ∈ s.map neg ++ ((if b then [(k : Int)] else []) ++ ent (k + 1) ca sl) ∧ _ ∈ t.map neg ++ ((if l then [(k : Int)] else []) ++ ent (k + 1) cb tl)
      simp only [List.mem_append, hn, false_or]
      cases j with
      | zero =>
        have n1 : ((k + 0 : Nat) : Int) ∉ ent (k + 1) ca sl := fun h => by have := ent_lo _ _ _ _ h (by omega); omega
        have n2 : ((k + 0 : Nat) : Int) ∉ ent (k + 1) cb tl := fun h => by have := ent_lo _ _ _ _ h (by omega); omega
        have n3 : ((k + 0 : Nat) : Int) ∉ mgE first (k + 1) ca sl cb tl := fun h => by
          exact absurd h (mg_lo first ca sl tl cb (k + 1) (k + 0) h' (by omega))
        have m1 : ∀ c : Bool, ((k + 0 : Nat) : Int) ∈ (if c then [(k : Int)] else []) ↔ c = true := fun c => by cases c <;> simp
        simp only [n1, n2, n3, or_false, m1 b, m1 l, m1 (b && l)]
        cases b <;> cases l <;> decide
      | succ j =>
        have := ih cb (k + 1) j h'
        rw [show k + 1 + j = k + (j + 1) by omega] at this
        rw [this]
        have ne : ∀ c : Bool, ((k + (j + 1) : Nat) : Int) ∈ (if c then [(k : Int)] else []) ↔ False := fun c => by
          cases c
          · simp
          · simp; omega
        simp only [ne, false_or]

/-! ### Disjoint deltas (P7.8) -/
def apart : List Col → List UInt8 → List Col → List UInt8 → Bool
  | (s, k) :: ca, sl, (t, l) :: cb, tl => (s.isEmpty || t.isEmpty) && (k || l) && apart ca sl cb tl
  | _, s, _, t => s.isEmpty || t.isEmpty
theorem blk_apart {s t : List UInt8} (h : (s.isEmpty || t.isEmpty) = true) : blkQ true s t = blkQ false s t := by
  rcases Bool.or_eq_true_iff.1 h with h | h
  · have : s = [] := List.isEmpty_iff.1 h
    subst this
    show oR 0 ++ oI t = oI t ++ oR 0
    rw [oR_zero]; simp
  · have : t = [] := List.isEmpty_iff.1 h
    subst this
    show oR s.length ++ oI [] = oI [] ++ oR s.length
    rw [oI_nil]; simp
theorem tfQ_apart (ca : List Col) (sl tl : List UInt8) : ∀ cb : List Col, ca.length = cb.length → apart ca sl cb tl = true → tfQ true ca sl cb tl = tfQ false ca sl cb tl := by
  induction ca with
  | nil =>
    intro cb h ha
    cases cb with
    | cons _ _ => cases h
    | nil => exact blk_apart ha
  | cons x ca ih =>
    intro cb h ha
    cases cb with
    | nil => cases h
    | cons y cb =>
      obtain ⟨s, k⟩ := x
      obtain ⟨t, l⟩ := y
      have ha' : ((s.isEmpty || t.isEmpty) && (k || l) && apart ca sl cb tl) = true := ha
      simp only [Bool.and_eq_true] at ha'
      show blkQ true s t ++ (_ ++ tfQ true ca sl cb tl) = blkQ false s t ++ (_ ++ tfQ false ca sl cb tl)
      rw [blk_apart ha'.1.1, ih cb (by simpa using h) ha'.2]
theorem mg_len (first : Bool) (ca : List Col) (sl tl : List UInt8) : ∀ (cb : List Col) (k : Nat), ca.length = cb.length → apart ca sl cb tl = true → (mgE first k ca sl cb tl).length + ca.length = (ent k ca sl).length + (ent k cb tl).length := by
  induction ca with
  | nil =>
    intro cb k h ha
    cases cb with
    | cons _ _ => cases h
    | nil =>
      show ((if first then sl ++ tl else tl ++ sl).map neg).length + 0 = (sl.map neg).length + (tl.map neg).length
      cases first <;> simp <;> omega
  | cons x ca ih =>
    intro cb k h ha
    cases cb with
    | nil => cases h
    | cons y cb =>
      obtain ⟨s, b⟩ := x
      obtain ⟨t, l⟩ := y
      have ha' : ((s.isEmpty || t.isEmpty) && (b || l) && apart ca sl cb tl) = true := ha
      simp only [Bool.and_eq_true] at ha'
      have i0 := ih cb (k + 1) (by simpa using h) ha'.2
      show ((if first then s ++ t else t ++ s).map neg ++ ((if b && l then [(k : Int)] else []) ++ mgE first (k + 1) ca sl cb tl)).length + (ca.length + 1) = (s.map neg ++ ((if b then [(k : Int)] else []) ++ ent (k + 1) ca sl)).length + (t.map neg ++ ((if l then [(k : Int)] else []) ++ ent (k + 1) cb tl)).length
      have e : (if first then s ++ t else t ++ s).length = s.length + t.length := by cases first <;> simp <;> omega
      have hbl := ha'.1.2
      have e2 : ∀ c : Bool, (if c then [(k : Int)] else []).length = if c then 1 else 0 := fun c => by cases c <;> rfl
      simp only [List.length_append, List.length_map, e, e2]
      cases b
      · cases l
        · cases hbl
        · simp only [Bool.false_and, Bool.false_eq_true, if_false, if_true]; omega
      · cases l
        · simp only [Bool.and_false, Bool.false_eq_true, if_false, if_true]; omega
        · simp only [Bool.and_true, if_true]; omega
theorem tf_apart {a b : List Q} (ha : allPos a = true) (hb : allPos b = true) (h : inL a = inL b) (hd : apart (cA a) (cZ a) (cA b) (cZ b) = true) : tf true a b = tf false a b ∧ outL (tf true a b) + inL a = outL a + outL b := by
  obtain ⟨l1, e1⟩ := cols_of ha
  obtain ⟨l2, e2⟩ := cols_of hb
  have hl : (cA a).length = (cA b).length := by omega
  refine ⟨by unfold tf; rw [show tfQ true (col [] (nf a)).1 (col [] (nf a)).2 (col [] (nf b)).1 (col [] (nf b)).2 = _ from tfQ_apart (cA a) (cZ a) (cZ b) (cA b) hl hd]; rfl, ?_⟩
  have t := tf_of (first := true) ha hb h
  have hm := mg_len true (cA a) (cZ a) (cZ b) (cA b) 0 hl hd
  rw [← t.cmp, e1, e2, atoms_length, atoms_length, l1] at hm
  unfold cmpA at hm
  rw [List.length_map, atoms_length] at hm
  exact hm

/-! ### The identity (P7.7) -/
theorem tfE_idL (first : Bool) (cb : List Col) (tl : List UInt8) : ∀ i, tfE first i (List.replicate cb.length ([], true)) [] cb tl = ent i cb tl := by
  have hb : ∀ (i : Nat) (t : List UInt8), blkE first i [] t = t.map neg := fun i t => by cases first <;> simp [blkE, run_zero]
  induction cb with
  | nil => intro i; exact hb i tl
  | cons y cb ih =>
    intro i
    obtain ⟨t, l⟩ := y
    show blkE first i [] t ++ ((if true && l then [((i + 0 : Nat) : Int)] else []) ++ tfE first (i + 0 + 1) (List.replicate cb.length ([], true)) [] cb tl) = t.map neg ++ ((if l then [(i : Int)] else []) ++ ent (i + 1) cb tl)
    rw [hb, Nat.add_zero, ih]; simp
theorem tfE_idR (first : Bool) (ca : List Col) (sl : List UInt8) : ∀ i k, tfE first i ca sl (List.replicate ca.length ([], true)) [] = run i (ent k ca sl).length := by
  have hb : ∀ (i : Nat) (s : List UInt8), blkE first i s [] = run i s.length := fun i s => by cases first <;> simp [blkE]
  have hr : ∀ i m n, run i (m + n) = run i m ++ run (i + m) n := fun i m n => by
    induction m generalizing i with
    | zero => simp [run_zero]
    | succ m ih => rw [show m + 1 + n = (m + n) + 1 by omega, run_succ, ih, run_succ, List.cons_append, show i + 1 + m = i + (m + 1) by omega]
  induction ca with
  | nil => intro i k; show blkE first i sl [] = run i (sl.map neg).length; rw [hb, List.length_map]
  | cons x ca ih =>
    intro i k
    obtain ⟨s, b⟩ := x
    show blkE first i s [] ++ ((if b && true then [((i + s.length : Nat) : Int)] else []) ++ tfE first (i + s.length + (if b then 1 else 0)) ca sl (List.replicate ca.length ([], true)) []) = run i (s.map neg ++ ((if b then [(k : Int)] else []) ++ ent (k + 1) ca sl)).length
    rw [hb, ih _ (k + 1)]
    simp only [List.length_append, List.length_map]
    rw [hr, hr]
    cases b
    · simp [run_zero]
    · simp [run]
theorem cols_id (n : Nat) : cA (idQ n) = List.replicate n ([], true) ∧ cZ (idQ n) = [] := by
  unfold cA cZ
  rw [nf_of_isN _ (idQ_in n).2.2.2]
  unfold idQ
  by_cases h : n = 0
  · rw [if_pos h]; subst h; exact ⟨rfl, rfl⟩
  · rw [if_neg h]
    refine ⟨?_, rfl⟩
    obtain ⟨m, rfl⟩ : ∃ m, n = m + 1 := ⟨n - 1, by omega⟩
    show ([], true) :: (List.replicate (m + 1 - 1) ([], true) ++ []) = _
    rw [Nat.add_sub_cancel, List.append_nil]; rfl
theorem tf_idL {first : Bool} {d : List Q} (h : allPos d = true) : tf first (idQ (inL d)) d = nf d := by
  have i := idQ_in (inL d)
  have t := tf_of (first := first) i.2.2.1 h i.1
  obtain ⟨l, e⟩ := cols_of h
  obtain ⟨c1, c2⟩ := cols_id (inL d)
  refine tf_unique i.2.2.1 h i.1 h i.2.1.symm ?_
  rw [t.ats, c1, c2, ← l, tfE_idL, e]
theorem tf_idR {first : Bool} {d : List Q} (h : allPos d = true) : tf first d (idQ (inL d)) = idQ (outL d) := by
  have i := idQ_in (inL d)
  have o := idQ_in (outL d)
  have t := tf_of (first := first) h i.2.2.1 i.1.symm
  obtain ⟨l, e⟩ := cols_of h
  obtain ⟨c1, c2⟩ := cols_id (inL d)
  rw [tf_unique h i.2.2.1 i.1.symm o.2.2.1 o.1 ?_, nf_of_isN _ o.2.2.2]
  rw [t.ats, c1, c2, ← l, tfE_idR first (cA d) (cZ d) 0 0, e, atoms_length, idQ_atoms]
  unfold run
  apply List.map_congr_left
  intro j _
  simp
/-- Equivalent deltas are transformed in the same way. -/
theorem tf_nf (first : Bool) (a b : List Q) : tf first (nf a) (nf b) = tf first a b := by unfold tf; rw [nf_nf, nf_nf]

/-! ### Rebasing a delta that inserts nothing (P7.9) -/
def selE (f : Int → Bool) : Nat → List Int → List Int
  | _, [] => []
  | i, x :: r => if f x then (i : Int) :: selE f (i + 1) r else selE f (i + 1) r
theorem selE_app (f : Int → Bool) (a b : List Int) : ∀ i, selE f i (a ++ b) = selE f i a ++ selE f (i + a.length) b := by
  induction a with
  | nil => intro i; rfl
  | cons x a ih =>
    intro i
    simp only [List.cons_append, selE, ih, List.length_cons]
    rw [show i + 1 + a.length = i + (a.length + 1) by omega]
    split <;> rfl
theorem selE_neg (f : Int → Bool) (hf : ∀ x, x < 0 → f x = true) (s : List UInt8) : ∀ i, selE f i (s.map neg) = run i s.length := by
  induction s with
  | nil => intro i; rfl
  | cons b s ih =>
    intro i
    show (if f (neg b) then (i : Int) :: selE f (i + 1) (s.map neg) else _) = run i (s.length + 1)
    rw [if_pos (hf _ (neg_lt b)), ih, run_succ]
theorem selE_congr {f g : Int → Bool} (L : List Int) (h : ∀ x ∈ L, f x = g x) : ∀ i, selE f i L = selE g i L := by
  induction L with
  | nil => intro i; rfl
  | cons x r ih =>
    intro i
    have ih := ih (fun y hy => h y (List.mem_cons_of_mem _ hy))
    simp only [selE, h x List.mem_cons_self, ih]
theorem selE_map (f : Int → Bool) (g : Int → Int) (L : List Int) : ∀ i, selE f i (L.map g) = selE (fun x => f (g x)) i L := by
  induction L with
  | nil => intro i; rfl
  | cons x r ih => intro i; simp only [List.map_cons, selE, ih]
theorem mem_selE (f : Int → Bool) (L : List Int) : ∀ i j, ((i + j : Nat) : Int) ∈ selE f i L ↔ ∃ x, L[j]? = some x ∧ f x = true := by
  have lo : ∀ (L : List Int) (i : Nat), ∀ v ∈ selE f i L, (i : Int) ≤ v := fun L => by
    induction L with
    | nil => intro i v hv; cases hv
    | cons x r ih =>
      intro i v hv
      simp only [selE] at hv
      split at hv
      · rcases List.mem_cons.1 hv with rfl | h
        · omega
        · have := ih (i + 1) v h; omega
      · have := ih (i + 1) v hv; omega
  induction L with
  | nil => intro i j; simp [selE]
  | cons x r ih =>
    intro i j
    simp only [selE]
    cases j with
    | zero =>
      have n : ((i + 0 : Nat) : Int) ∉ selE f (i + 1) r := fun h => by have := lo r (i + 1) _ h; omega
      by_cases hx : f x = true
      · rw [if_pos hx]; simp [hx]
      · rw [if_neg hx]
        constructor
        · intro h; exact absurd h n
        · rintro ⟨y, hy, hf⟩
          have := Option.some.inj (show some x = some y from hy)
          subst this; exact absurd hf hx
    | succ j =>
      have e := ih (i + 1) j
      rw [show i + 1 + j = i + (j + 1) by omega] at e
      rw [show (x :: r)[j + 1]? = r[j]? from rfl, ← e]
      split
      · rw [List.mem_cons]
        constructor
        · rintro (h | h)
          · omega
          · exact h
        · exact .inr
      · exact Iff.rfl
theorem tfE_sel (first : Bool) (f : Int → Bool) (hf : ∀ x, x < 0 → f x = true) (ca : List Col) (sl : List UInt8) : ∀ (cb : List Col) (i k : Nat), ca.length = cb.length → (∀ t l, (t, l) ∈ cb → t = []) → (∀ j t l, cb[j]? = some (t, l) → f ((k + j : Nat) : Int) = l) →
    tfE first i ca sl cb [] = selE f i (ent k ca sl) := by
  have hb : ∀ (i : Nat) (s : List UInt8), blkE first i s [] = run i s.length := fun i s => by cases first <;> simp [blkE]
  induction ca with
  | nil =>
    intro cb i k h _ _
    cases cb with
    | cons _ _ => cases h
    | nil => show blkE first i sl [] = selE f i (sl.map neg); rw [hb, selE_neg f hf]
  | cons x ca ih =>
    intro cb i k h ht hk
    cases cb with
    | nil => cases h
    | cons y cb =>
      obtain ⟨s, b⟩ := x
      obtain ⟨t, l⟩ := y
      have e0 : t = [] := ht t l List.mem_cons_self
      subst e0
      have ek : f (k : Int) = l := hk 0 [] l rfl
      have i0 := fun i' => ih cb i' (k + 1) (by simpa using h) (fun t l hm => ht t l (List.mem_cons_of_mem _ hm)) (fun j t l hj => by
        have := hk (j + 1) t l hj
        rwa [show k + (j + 1) = k + 1 + j by omega] at this)
      show blkE first i s [] ++ ((if b && l then [((i + s.length : Nat) : Int)] else []) ++ tfE first (i + s.length + (if b then 1 else 0)) ca sl cb []) = selE f i (s.map neg ++ ((if b then [(k : Int)] else []) ++ ent (k + 1) ca sl))
      rw [hb, i0, selE_app, selE_neg f hf, List.length_map, selE_app]
      congr 1
      cases b
      · simp [selE]
      · simp only [if_true, List.length_singleton, Bool.true_and]
        show _ = selE f (i + s.length) [(k : Int)] ++ _
        simp only [selE, ek]
theorem noText (c : List Col) (l : List UInt8) : ∀ k, (∀ x ∈ ent k c l, 0 ≤ x) → l = [] ∧ ∀ t b, (t, b) ∈ c → t = [] := by
  have nil_of : ∀ t : List UInt8, (∀ x ∈ t.map neg, 0 ≤ x) → t = [] := fun t h => by
    cases t with
    | nil => rfl
    | cons b r => have := h (neg b) List.mem_cons_self; have := neg_lt b; omega
  induction c with
  | nil => intro k h; exact ⟨nil_of l h, fun t b hm => by cases hm⟩
  | cons y c ih =>
    intro k h
    obtain ⟨s, b⟩ := y
    have h' : ∀ x ∈ s.map neg ++ ((if b then [(k : Int)] else []) ++ ent (k + 1) c l), 0 ≤ x := h
    obtain ⟨h1, h2⟩ := ih (k + 1) (fun x hx => h' x (List.mem_append_right _ (List.mem_append_right _ hx)))
    refine ⟨h1, fun t b' hm => ?_⟩
    rcases List.mem_cons.1 hm with e | hm
    · cases e; exact nil_of s (fun x hx => h' x (List.mem_append_left _ hx))
    · exact h2 t b' hm
def keepF (d : List Q) (x : Int) : Bool := decide (x < 0) || decide (x ∈ atoms 0 d)
theorem tf_sel {first : Bool} {a d : List Q} (ha : allPos a = true) (hd : allPos d = true) (h : inL a = inL d) (hn : ∀ x ∈ atoms 0 d, 0 ≤ x) : atoms 0 (tf first a d) = selE (keepF d) 0 (atoms 0 a) := by
  have t := tf_of (first := first) ha hd h
  obtain ⟨l1, e1⟩ := cols_of ha
  obtain ⟨l2, e2⟩ := cols_of hd
  obtain ⟨z, nt⟩ := noText (cA d) (cZ d) 0 (by rw [e2]; exact hn)
  rw [t.ats, z, tfE_sel first (keepF d) (fun x hx => by simp [keepF, hx]) (cA a) (cZ a) (cA d) 0 0 (by omega) nt ?_, e1]
  intro j t l hj
  have hm := mem_ent (cA d) (cZ d) 0 j
  rw [e2] at hm
  unfold keepF
  rw [show decide (((0 + j : Nat) : Int) < 0) = false from decide_eq_false (by omega), Bool.false_or]
  cases l
  · refine decide_eq_false fun hc => ?_
    obtain ⟨s, hs⟩ := hm.1 hc
    rw [hj] at hs; cases hs
  · exact decide_eq_true (hm.2 ⟨t, hj⟩)
theorem selE_pos (f : Int → Bool) (L : List Int) : ∀ i, ∀ x ∈ selE f i L, 0 ≤ x := by
  induction L with
  | nil => intro i x hx; cases hx
  | cons y r ih =>
    intro i x hx
    simp only [selE] at hx
    split at hx
    · rcases List.mem_cons.1 hx with rfl | h
      · omega
      · exact ih _ _ h
    · exact ih _ _ hx
/-- P7.9, first half: a delta that inserts nothing. -/
theorem tf_bases_del {first : Bool} {d x y : List Q} (hd : allPos d = true) (hx : allPos x = true) (hy : allPos y = true) (h1 : inL x = inL d) (h2 : outL x = inL y) (hn : ∀ v ∈ atoms 0 d, 0 ≤ v) : tf first y (tf first x d) = tf first (cQ x y) d := by
  have c := cq h2
  have t1 := tf_of (first := first) hx hd h1
  have p1 := allPos_tf first x d
  have e1 := tf_sel (first := first) hx hd h1 hn
  have hi : inL y = inL (tf first x d) := by rw [t1.inn, h2]
  have e2 := tf_sel (first := first) hy p1 hi (by rw [e1]; exact selE_pos _ _ _)
  have e3 := tf_sel (first := first) c.pos hd (by rw [c.inn, h1]) hn
  have t2 := tf_of (first := first) hy p1 hi
  have t3 := tf_of (first := first) c.pos hd (by rw [c.inn, h1])
  refine nf_unique _ _ 0 t2.nrm t3.nrm (allPos_tf _ _ _) (allPos_tf _ _ _) (by rw [t2.inn, t3.inn, c.out]) ?_
  rw [e2, e3, c.ats]
  unfold cmpA
  rw [selE_map]
  refine selE_congr _ (fun v hv => ?_) 0
  obtain ⟨i, hi⟩ := List.mem_iff_getElem?.1 hv
  by_cases h0 : v < 0
  · have : pick (atoms 0 x) v = v := by unfold pick; rw [if_pos h0]
    rw [this]; simp [keepF, h0]
  · have hl := ent_lt hi (by omega)
    have hlt : v.toNat < (atoms 0 x).length := by rw [atoms_length]; omega
    have ev : v = ((0 + v.toNat : Nat) : Int) := by omega
    have hp : pick (atoms 0 x) v = (atoms 0 x)[v.toNat] := by
      unfold pick
      rw [if_neg h0, List.getD_eq_getElem?_getD, List.getElem?_eq_getElem hlt]; rfl
    have hm := mem_selE (keepF d) (atoms 0 x) 0 v.toNat
    rw [← ev] at hm
    rw [hp]
    unfold keepF
    rw [show decide (v < 0) = false from decide_eq_false h0, Bool.false_or, e1]
    show decide (v ∈ selE (keepF d) 0 (atoms 0 x)) = keepF d (atoms 0 x)[v.toNat]
    cases hk : keepF d (atoms 0 x)[v.toNat]
    · refine decide_eq_false fun hc => ?_
      obtain ⟨u, hu, hf⟩ := hm.1 hc
      rw [List.getElem?_eq_getElem hlt] at hu
      cases hu
      rw [hk] at hf; cases hf
    · exact decide_eq_true (hm.2 ⟨_, List.getElem?_eq_getElem hlt, hk⟩)
end Go.Proofs.Ytmljagkndnobdaa.D
/- TransMath3 -/
namespace Go.Proofs.Ytmljagkndnobdaa.D

/-- What columns insert: each byte with the offset at which it stands. -/
def wIns (k : Nat) : List Col → List UInt8 → List (Nat × UInt8)
  | [], l => l.map fun b => (k, b)
  | (t, _) :: c, l => (t.map fun b => (k, b)) ++ wIns (k + 1) c l
/-- The same, read off entries. -/
def dec (i : Nat) : List Int → List (Nat × UInt8)
  | [] => []
  | v :: r => if v < 0 then (i, UInt8.ofNat (-1 - v).toNat) :: dec i r else dec (i + 1) r
/-- Directly before the first kept column at p or behind it. -/
def rgtC : List Col → List UInt8 → Nat → Nat
  | [], l, _ => l.length
  | (s, b) :: c, l, 0 => s.length + (if b then 0 else rgtC c l 0)
  | (s, b) :: c, l, p + 1 => s.length + (if b then 1 else 0) + rgtC c l p
def hdT : List Col → List UInt8 → List UInt8
  | [], l => l
  | (s, _) :: _, _ => s
/-- Behind a byte that is removed there stands no text. -/
def gapN : List Col → List UInt8 → Prop
  | [], _ => True
  | (_, b) :: c, l => (b = false → hdT c l = []) ∧ gapN c l
def allT (c : List Col) : Bool := c.all fun x => x.2

theorem dec_negs (t : List UInt8) (r : List Int) : ∀ i, dec i (t.map neg ++ r) = (t.map fun b => (i, b)) ++ dec i r := by
  induction t with
  | nil => intro i; rfl
  | cons b t ih =>
    intro i
    show (if neg b < 0 then (i, UInt8.ofNat (-1 - neg b).toNat) :: dec i (t.map neg ++ r) else _) = _
    rw [if_pos (neg_lt b), neg_byte, ih]; rfl
theorem dec_run (r : List Int) : ∀ n k i, dec i (run k n ++ r) = dec (i + n) r := by
  intro n
  induction n with
  | zero => intro k i; rfl
  | succ n ih =>
    intro k i
    rw [run_succ]
    show (if (k : Int) < 0 then _ else dec (i + 1) (run (k + 1) n ++ r)) = _
    rw [if_neg (by omega), ih, show i + 1 + n = i + (n + 1) by omega]
theorem dec_ent (c : List Col) (l : List UInt8) (h : allT c = true) : ∀ k, dec k (ent k c l) = wIns k c l := by
  induction c with
  | nil =>
    intro k
    have := dec_negs l [] k
    simpa [ent, wIns, dec] using this
  | cons y c ih =>
    intro k
    obtain ⟨s, b⟩ := y
    have h0 : b = true ∧ allT c = true := by simpa [allT] using h
    obtain ⟨rfl, h1⟩ := h0
    show dec k (s.map neg ++ ((k : Int) :: ent (k + 1) c l)) = _
    rw [dec_negs]
    show _ ++ (if (k : Int) < 0 then _ else dec (k + 1) (ent (k + 1) c l)) = _
    rw [if_neg (by omega), ih h1]; rfl
theorem wIns_lo (c : List Col) (l : List UInt8) : ∀ k, ∀ x ∈ wIns k c l, k ≤ x.1 := by
  induction c with
  | nil =>
    intro k x hx
    obtain ⟨b, _, rfl⟩ := List.mem_map.1 hx
    exact Nat.le_refl _
  | cons y c ih =>
    intro k x hx
    obtain ⟨s, b⟩ := y
    rcases List.mem_append.1 (show x ∈ (s.map fun b => (k, b)) ++ wIns (k + 1) c l from hx) with h | h
    · obtain ⟨b, _, rfl⟩ := List.mem_map.1 h
      exact Nat.le_refl _
    · have := ih (k + 1) x h; omega
theorem split_at {k : Nat} {s t : List UInt8} {A B : List (Nat × UInt8)} (h : (s.map fun b => (k, b)) ++ A = (t.map fun b => (k, b)) ++ B) (hA : ∀ x ∈ A, k + 1 ≤ x.1) (hB : ∀ x ∈ B, k + 1 ≤ x.1) : s = t ∧ A = B := by
  induction s generalizing t with
  | nil =>
    cases t with
    | nil => exact ⟨rfl, h⟩
    | cons b t =>
      have : (k, b) ∈ A := by rw [show A = _ from h]; simp
      have := hA _ this
      simp at this; omega
  | cons b s ih =>
    cases t with
    | nil =>
      have : (k, b) ∈ B := by rw [show B = ([] : List UInt8).map (fun b => (k, b)) ++ B from rfl, ← h]; simp
      have := hB _ this
      simp at this; omega
    | cons b' t =>
      simp only [List.map_cons, List.cons_append, List.cons.injEq, Prod.mk.injEq, true_and] at h
      obtain ⟨e1, e2⟩ := ih h.2
      exact ⟨by rw [h.1, e1], e2⟩
theorem wIns_inj (c : List Col) (l : List UInt8) (h : allT c = true) : ∀ (c' : List Col) (l' : List UInt8) (k : Nat), allT c' = true → c.length = c'.length → wIns k c l = wIns k c' l' → c = c' ∧ l = l' := by
  induction c with
  | nil =>
    intro c' l' k h' hl e
    cases c' with
    | cons _ _ => cases hl
    | nil =>
      have := split_at (k := k) (s := l) (t := l') (A := []) (B := []) (by simp only [List.append_nil]; exact e) (fun x hx => by cases hx) (fun x hx => by cases hx)
      exact ⟨rfl, this.1⟩
  | cons y c ih =>
    intro c' l' k h' hl e
    cases c' with
    | nil => cases hl
    | cons y' c' =>
      obtain ⟨s, b⟩ := y
      obtain ⟨s', b'⟩ := y'
      have h0 : b = true ∧ allT c = true := by simpa [allT] using h
      have h1 : b' = true ∧ allT c' = true := by simpa [allT] using h'
      obtain ⟨e1, e2⟩ := split_at (k := k) (s := s) (t := s') e (fun x hx => wIns_lo c l (k + 1) x hx) (fun x hx => wIns_lo c' l' (k + 1) x hx)
      obtain ⟨e3, e4⟩ := ih h0.2 c' l' (k + 1) h1.2 (by simpa using hl) e2
      exact ⟨by rw [e1, e3, h0.1, h1.1], e4⟩

/-! ### Right, by columns -/
theorem rgtC_repT (c : List Col) (l : List UInt8) : ∀ m p, rgtC (List.replicate m ([], true) ++ c) l p = if p < m then p else m + rgtC c l (p - m) := by
  intro m
  induction m with
  | zero => intro p; simp
  | succ m ih =>
    intro p
    cases p with
    | zero => simp [List.replicate_succ, rgtC]
    | succ p =>
      show 0 + 1 + rgtC (List.replicate m ([], true) ++ c) l p = _
      rw [ih, show p + 1 - (m + 1) = p - m by omega]
      by_cases h : p < m
      · rw [if_pos h, if_pos (by omega)]; omega
      · rw [if_neg h, if_neg (by omega)]; omega
theorem rgtC_repF (c : List Col) (l : List UInt8) : ∀ m p, rgtC (List.replicate m ([], false) ++ c) l p = rgtC c l (p - m) := by
  intro m
  induction m with
  | zero => intro p; simp
  | succ m ih =>
    intro p
    cases p with
    | zero =>
      show 0 + rgtC (List.replicate m ([], false) ++ c) l 0 = _
      rw [ih]; simp
    | succ p =>
      show 0 + 0 + rgtC (List.replicate m ([], false) ++ c) l p = _
      rw [ih, show p + 1 - (m + 1) = p - m by omega]; omega
theorem rgtC_col (a : List Q) (h : allPos a = true) : ∀ u p, rgtC (col u a).1 (col u a).2 p = u.length + rgt a p := by
  induction a with
  | nil => intro u p; rfl
  | cons q r ih =>
    intro u p
    have h0 : pos q = true ∧ allPos r = true := by simpa [allPos] using h
    cases q with
    | I t =>
      show rgtC (col (u ++ t) r).1 (col (u ++ t) r).2 p = u.length + (t.length + rgt r p)
      rw [ih h0.2, List.length_append]; omega
    | R n =>
      obtain ⟨m, rfl⟩ : ∃ m, n = m + 1 := ⟨n - 1, by have : 0 < n := by simpa [pos] using h0.1
                                                     omega⟩
      simp only [col, Nat.add_sub_cancel]
      cases p with
      | zero => show u.length + 0 = u.length + (if 0 < m + 1 then 0 else _); rw [if_pos (by omega)]
      | succ p =>
        show u.length + 1 + rgtC (List.replicate m ([], true) ++ (col [] r).1) (col [] r).2 p = u.length + (if p + 1 < m + 1 then p + 1 else m + 1 + rgt r (p + 1 - (m + 1)))
        rw [rgtC_repT, ih h0.2, show p + 1 - (m + 1) = p - m by omega]
        by_cases hp : p < m
        · rw [if_pos hp, if_pos (by omega)]; omega
        · rw [if_neg hp, if_neg (by omega)]; simp; omega
    | D n =>
      obtain ⟨m, rfl⟩ : ∃ m, n = m + 1 := ⟨n - 1, by have : 0 < n := by simpa [pos] using h0.1
                                                     omega⟩
      simp only [col, Nat.add_sub_cancel]
      cases p with
      | zero =>
        show u.length + rgtC (List.replicate m ([], false) ++ (col [] r).1) (col [] r).2 0 = u.length + rgt r (0 - (m + 1))
        rw [rgtC_repF, ih h0.2]; simp
      | succ p =>
        show u.length + 0 + rgtC (List.replicate m ([], false) ++ (col [] r).1) (col [] r).2 p = u.length + rgt r (p + 1 - (m + 1))
        rw [rgtC_repF, ih h0.2, show p + 1 - (m + 1) = p - m by omega]; simp
theorem rgtC_gap (c : List Col) (l : List UInt8) (h : gapN c l) (h0 : hdT c l = []) : rgtC c l 0 = 0 := by
  induction c with
  | nil => show l.length = 0; rw [show l = [] from h0]; rfl
  | cons y c ih =>
    obtain ⟨s, b⟩ := y
    have hs : s = [] := h0
    show s.length + (if b then 0 else rgtC c l 0) = 0
    subst hs
    cases b
    · have := ih h.2 (h.1 rfl)
      simp [this]
    · rfl
theorem gapN_repT (c : List Col) (l : List UInt8) (h : gapN c l) : ∀ m, gapN (List.replicate m ([], true) ++ c) l := by
  intro m
  induction m with
  | zero => exact h
  | succ m ih => exact ⟨fun e => (by cases e), ih⟩
theorem gapN_repF (c : List Col) (l : List UInt8) (h : gapN c l) (h0 : hdT c l = []) : ∀ m, gapN (List.replicate m ([], false) ++ c) l ∧ hdT (List.replicate m ([], false) ++ c) l = [] := by
  intro m
  induction m with
  | zero => exact ⟨h, h0⟩
  | succ m ih => exact ⟨⟨fun _ => ih.2, ih.1⟩, rfl⟩
theorem hd_col (a : List Q) (h : ∀ t r, a ≠ .I t :: r) : hdT (col [] a).1 (col [] a).2 = [] := by
  cases a with
  | nil => rfl
  | cons q r =>
    cases q with
    | I t => exact absurd rfl (h t r)
    | R n => rfl
    | D n => rfl
theorem gapN_col (a : List Q) (hN : isN a = true) : ∀ u, gapN (col u a).1 (col u a).2 := by
  induction a with
  | nil => intro u; trivial
  | cons q r ih =>
    intro u
    have ih := ih (isN_tail hN)
    cases q with
    | I t => exact ih (u ++ t)
    | R n => exact ⟨fun e => (by cases e), gapN_repT _ _ (ih []) _⟩
    | D n =>
      have hh : hdT (col [] r).1 (col [] r).2 = [] := hd_col r fun t r' e => by
        subst e
        have := isN_ok hN
        simp [ok] at this
      obtain ⟨g1, g2⟩ := gapN_repF _ _ (ih []) hh (n - 1)
      exact ⟨fun _ => g2, g1⟩

/-! ### Nothing is removed -/
theorem push_noD (q : Q) (l : List Q) (h : isD q = false) (hl : l.any isD = false) : (push q l).any isD = false := by
  cases q with
  | D n => cases h
  | R n =>
    cases l with
    | nil => rfl
    | cons p r =>
      rw [List.any_cons, Bool.or_eq_false_iff] at hl
      cases p with
      | R m => show (Q.R (n + m) :: r).any isD = false; rw [List.any_cons, hl.2]; rfl
      | I t => show (Q.R n :: Q.I t :: r).any isD = false; rw [List.any_cons, List.any_cons, hl.2]; rfl
      | D m => exact absurd hl.1 (by simp [isD])
  | I t =>
    cases l with
    | nil => rfl
    | cons p r =>
      rw [List.any_cons, Bool.or_eq_false_iff] at hl
      cases p with
      | I s => show (Q.I (t ++ s) :: r).any isD = false; rw [List.any_cons, hl.2]; rfl
      | R n => show (Q.I t :: Q.R n :: r).any isD = false; rw [List.any_cons, List.any_cons, hl.2]; rfl
      | D m => exact absurd hl.1 (by simp [isD])
theorem nf_noD (a : List Q) (h : a.any isD = false) : (nf a).any isD = false := by
  induction a with
  | nil => rfl
  | cons q r ih =>
    rw [List.any_cons, Bool.or_eq_false_iff] at h
    exact push_noD q _ h.1 (ih h.2)
theorem col_noD (a : List Q) (h : a.any isD = false) : ∀ u, allT (col u a).1 = true := by
  induction a with
  | nil => intro u; rfl
  | cons q r ih =>
    intro u
    rw [List.any_cons, Bool.or_eq_false_iff] at h
    cases q with
    | I t => exact ih h.2 (u ++ t)
    | R n =>
      have := ih h.2 []
      unfold allT at this ⊢
      simp only [col, List.all_cons, List.all_append, this, Bool.and_true, Bool.true_and]
      simp
    | D n => exact absurd h.1 (by simp [isD])
theorem tfQ_noD (first : Bool) (ca : List Col) (sl tl : List UInt8) : ∀ cb : List Col, allT cb = true → (tfQ first ca sl cb tl).any isD = false := by
  have hR : ∀ n, (oR n).any isD = false := fun n => by unfold oR; split <;> rfl
  have hI : ∀ t, (oI t).any isD = false := fun t => by unfold oI; split <;> rfl
  have hb : ∀ s t : List UInt8, (blkQ first s t).any isD = false := fun s t => by
    cases first
    · show (oI t ++ oR s.length).any isD = false; rw [List.any_append, hR, hI]; rfl
    · show (oR s.length ++ oI t).any isD = false; rw [List.any_append, hR, hI]; rfl
  induction ca with
  | nil => intro cb _; cases cb <;> exact hb _ _
  | cons x ca ih =>
    intro cb h
    cases cb with
    | nil => exact hb _ _
    | cons y cb =>
      obtain ⟨s, k⟩ := x
      obtain ⟨t, l⟩ := y
      have h0 : l = true ∧ allT cb = true := by simpa [allT] using h
      obtain ⟨rfl, h1⟩ := h0
      show (blkQ first s t ++ ((if k then [Q.R 1] else []) ++ tfQ first ca sl cb tl)).any isD = false
      rw [List.any_append, hb, List.any_append, ih cb h1]
      cases k <;> rfl
theorem tf_noD {first : Bool} {a d : List Q} (h : d.any isD = false) : (tf first a d).any isD = false := nf_noD _ (tfQ_noD _ _ _ _ _ (col_noD _ (nf_noD d h) []))
theorem dec_tfE (ca : List Col) (sl tl : List UInt8) : ∀ (cb : List Col) (i k : Nat), ca.length = cb.length → allT cb = true → gapN ca sl → dec i (tfE true i ca sl cb tl) = (wIns k cb tl).map fun x => (i + rgtC ca sl (x.1 - k), x.2) := by
  have hblk : ∀ (i : Nat) (s t : List UInt8) (r : List Int), dec i (blkE true i s t ++ r) = (t.map fun b => (i + s.length, b)) ++ dec (i + s.length) r := fun i s t r => by
    show dec i ((run i s.length ++ t.map neg) ++ r) = _
    rw [List.append_assoc, dec_run, dec_negs]
  induction ca with
  | nil =>
    intro cb i k h _ _
    cases cb with
    | cons _ _ => cases h
    | nil =>
      have := hblk i sl tl []
      rw [List.append_nil] at this
      show dec i (blkE true i sl tl) = (tl.map fun b => (k, b)).map fun x => (i + sl.length, x.2)
      rw [this, List.map_map]
      simp [dec, Function.comp_def]
  | cons x ca ih =>
    intro cb i k h hT hg
    cases cb with
    | nil => cases h
    | cons y cb =>
      obtain ⟨s, b⟩ := x
      obtain ⟨t, l⟩ := y
      have h0 : l = true ∧ allT cb = true := by simpa [allT] using hT
      obtain ⟨rfl, h1⟩ := h0
      show dec i (blkE true i s t ++ ((if b && true then [((i + s.length : Nat) : Int)] else []) ++ tfE true (i + s.length + (if b then 1 else 0)) ca sl cb tl)) = ((t.map fun b => (k, b)) ++ wIns (k + 1) cb tl).map fun x => (i + rgtC ((s, b) :: ca) sl (x.1 - k), x.2)
      rw [hblk, List.map_append, List.map_map]
      have hz : rgtC ((s, b) :: ca) sl 0 = s.length := by
        show s.length + (if b then 0 else rgtC ca sl 0) = s.length
        cases b
        · rw [rgtC_gap ca sl hg.2 (hg.1 rfl)]; rfl
        · rfl
      have e1 : (t.map ((fun x : Nat × UInt8 => (i + rgtC ((s, b) :: ca) sl (x.1 - k), x.2)) ∘ fun b => (k, b))) = t.map fun b => (i + s.length, b) := by
        apply List.map_congr_left
        intro c _
        simp only [Function.comp, Nat.sub_self, hz]
      have e2 : ((wIns (k + 1) cb tl).map fun x => (i + rgtC ((s, b) :: ca) sl (x.1 - k), x.2)) = (wIns (k + 1) cb tl).map fun x => (i + s.length + (if b then 1 else 0) + rgtC ca sl (x.1 - (k + 1)), x.2) := by
        apply List.map_congr_left
        intro c hc
        have := wIns_lo cb tl (k + 1) c hc
        obtain ⟨p, hp⟩ : ∃ p, c.1 - k = p + 1 := ⟨c.1 - k - 1, by omega⟩
        rw [hp, show c.1 - (k + 1) = p by omega]
        show (i + (s.length + (if b then 1 else 0) + rgtC ca sl p), c.2) = _
        congr 1; omega
      rw [e1, e2]
      congr 1
      rw [← ih cb (i + s.length + (if b then 1 else 0)) (k + 1) (by simpa using h) h1 hg.2]
      cases b
      · rfl
      · show (if ((i + s.length : Nat) : Int) < 0 then _ else dec (i + s.length + 1) _) = _
        rw [if_neg (by omega)]; rfl
/-- What a delta that removes nothing inserts, once it is rebased: the same bytes, moved with gravity Right. -/
theorem dec_tf {x d : List Q} (hx : allPos x = true) (hd : allPos d = true) (h : inL x = inL d) (hn : d.any isD = false) : dec 0 (atoms 0 (tf true x d)) = (dec 0 (atoms 0 d)).map fun v => (rgt x v.1, v.2) := by
  have t := tf_of (first := true) hx hd h
  obtain ⟨l1, e1⟩ := cols_of hx
  obtain ⟨l2, e2⟩ := cols_of hd
  have hT : allT (cA d) = true := col_noD _ (nf_noD d hn) []
  have hg : gapN (cA x) (cZ x) := gapN_col _ (isN_nf x) []
  rw [t.ats, dec_tfE (cA x) (cZ x) (cZ d) (cA d) 0 0 (by omega) hT hg, ← e2, dec_ent _ _ hT]
  apply List.map_congr_left
  intro v _
  have := rgtC_col (nf x) (allPos_nf x hx) [] (v.1 - 0)
  rw [rgt_nf] at this
  show (0 + rgtC (col [] (nf x)).1 (col [] (nf x)).2 (v.1 - 0), v.2) = _
  rw [this]; simp
/-- Normal forms that remove nothing and insert the same are the same. -/
theorem noD_unique {u v : List Q} (hu : allPos u = true) (hv : allPos v = true) (nu : isN u = true) (nv : isN v = true) (du : u.any isD = false) (dv : v.any isD = false) (hi : inL u = inL v) (h : dec 0 (atoms 0 u) = dec 0 (atoms 0 v)) : u = v := by
  obtain ⟨l1, e1⟩ := cols_of hu
  obtain ⟨l2, e2⟩ := cols_of hv
  have t1 : allT (cA u) = true := col_noD _ (nf_noD u du) []
  have t2 : allT (cA v) = true := col_noD _ (nf_noD v dv) []
  rw [← e1, ← e2, dec_ent _ _ t1, dec_ent _ _ t2] at h
  obtain ⟨c1, c2⟩ := wIns_inj _ _ t1 _ _ 0 t2 (by omega) h
  exact nf_unique u v 0 nu nv hu hv hi (by rw [← e1, ← e2, c1, c2])
/-- P7.9, second half: a delta that removes nothing. -/
theorem tf_bases_ins {d x y : List Q} (hd : allPos d = true) (hx : allPos x = true) (hy : allPos y = true) (h1 : inL x = inL d) (h2 : outL x = inL y) (hn : d.any isD = false) (hc : x.any isI = false ∨ y.any isD = false) : tf true y (tf true x d) = tf true (cQ x y) d := by
  have c := cq h2
  have t1 := tf_of (first := true) hx hd h1
  have p1 := allPos_tf true x d
  have hi : inL y = inL (tf true x d) := by rw [t1.inn, h2]
  have t2 := tf_of (first := true) hy p1 hi
  have t3 := tf_of (first := true) c.pos hd (by rw [c.inn, h1])
  have n1 := tf_noD (first := true) (a := x) hn
  refine noD_unique (allPos_tf _ _ _) (allPos_tf _ _ _) t2.nrm t3.nrm (tf_noD n1) (tf_noD hn) (by rw [t2.inn, t3.inn, c.out]) ?_
  rw [dec_tf hy p1 hi n1, dec_tf hx hd h1 hn, dec_tf c.pos hd (by rw [c.inn, h1]) hn, List.map_map]
  apply List.map_congr_left
  intro v _
  simp only [Function.comp]
  rw [rgt_cq_eq h2 hc]
end Go.Proofs.Ytmljagkndnobdaa.D
/- TransRaw -/
namespace Go.Proofs.Ytmljagkndnobdaa.D

def bas2 (x y : List P) : Int := if chk x = 0 then (if chk y = 0 then (if inP x = inP y then 0 else 21) else chk y) else chk x
def tfP (first : Bool) (x y : List P) : List P := (tf first (qs x) (qs y)).map raw
def trE (first : Bool) (x y : List P) : Int := if bas2 x y = 0 then (if chk (tfP first x y) = 0 then 0 else 5) else bas2 x y
def trP (first : Bool) (x y : List P) : List P := if trE first x y = 0 then tfP first x y else []
def prE (x y : List P) : Int := if trE true x y = 0 then trE false y x else trE true x y
def prA (x y : List P) : List P := if prE x y = 0 then trP false y x else []
def prB (x y : List P) : List P := if prE x y = 0 then trP true x y else []
def mrE (x y : List P) : Int := if trE true x y = 0 then cmpE x (trP true x y) else trE true x y
def mrP (x y : List P) : List P := if trE true x y = 0 then cmpP x (trP true x y) else []
def stepT (s : Int × List P) (b : List P) : Int × List P := if s.1 = 0 then (trE true b s.2, trP true b s.2) else s
def rebS (d : List P) (L : List (List P)) : Int × List P := L.foldl stepT (chk d, if chk d = 0 then normP d else [])
def dsB (x y : List P) : Bool := if bas2 x y = 0 then apart (cA (qs x)) (cZ (qs x)) (cA (qs y)) (cZ (qs y)) else false

/-- Deltas for one string. -/
structure Bas (x y : List P) : Prop where
  a : chk x = 0
  b : chk y = 0
  m : inL (qs x) = inL (qs y)
theorem bas_of {x y : List P} (h : bas2 x y = 0) : Bas x y := by
  unfold bas2 at h
  by_cases h0 : chk x = 0
  · rw [if_pos h0] at h
    by_cases h1 : chk y = 0
    · rw [if_pos h1] at h
      by_cases h2 : inP x = inP y
      · rw [inP_qs h0, inP_qs h1] at h2
        exact ⟨h0, h1, by omega⟩
      · rw [if_neg h2] at h; exact absurd h (by decide)
    · rw [if_neg h1] at h; exact absurd h h1
  · rw [if_neg h0] at h; exact absurd h h0
theorem Bas.e {x y : List P} (h : Bas x y) : bas2 x y = 0 := by
  unfold bas2; rw [if_pos h.a, if_pos h.b, inP_qs h.a, inP_qs h.b, if_pos (by rw [h.m])]
theorem Bas.swap {x y : List P} (h : Bas x y) : Bas y x := ⟨h.b, h.a, h.m.symm⟩
theorem Bas.tf {x y : List P} (h : Bas x y) (first : Bool) : Tf first (qs x) (qs y) := tf_of (valid_qs h.a).2.1 (valid_qs h.b).2.1 h.m
theorem qs_tfP (first : Bool) (x y : List P) : qs (tfP first x y) = tf first (qs x) (qs y) := qs_raw _
theorem Bas.err {x y : List P} (h : Bas x y) (first : Bool) : trE first x y = if chk (tfP first x y) = 0 then 0 else 5 := if_pos h.e
theorem Bas.two {x y : List P} (h : Bas x y) (first : Bool) : trE first x y = 0 ∨ trE first x y = 5 := by
  rw [h.err]; split <;> simp
/-- A delta that was transformed. -/
structure Tr (first : Bool) (x y : List P) : Prop where
  bas : Bas x y
  eq : trP first x y = tfP first x y
  ok : D.chk (trP first x y) = 0
  q : qs (trP first x y) = D.tf first (qs x) (qs y)
  nrm : isN (qs (trP first x y)) = true
theorem tr_of {first : Bool} {x y : List P} (h : trE first x y = 0) : Tr first x y := by
  have h0 : bas2 x y = 0 := by
    unfold trE at h
    by_cases h0 : bas2 x y = 0
    · exact h0
    · rw [if_neg h0] at h; exact absurd h h0
  have b := bas_of h0
  have e : trP first x y = tfP first x y := if_pos h
  have hc : chk (tfP first x y) = 0 := by
    rw [b.err] at h
    by_cases hc : chk (tfP first x y) = 0
    · exact hc
    · rw [if_neg hc] at h; exact absurd h (by decide)
  have q : qs (trP first x y) = D.tf first (qs x) (qs y) := by rw [e, qs_tfP]
  exact ⟨b, e, by rw [e]; exact hc, q, by rw [q]; exact (b.tf first).nrm⟩
theorem tr_bad {first : Bool} {x y : List P} (h : bas2 x y ≠ 0) : trE first x y = bas2 x y ∧ trP first x y = [] := by
  have e : trE first x y = bas2 x y := if_neg h
  exact ⟨e, by unfold trP; rw [e, if_neg h]⟩
theorem tr_nil {first : Bool} {x y : List P} (h : trE first x y ≠ 0) : trP first x y = [] := if_neg h
theorem trP_len (first : Bool) (x y : List P) : (trP first x y).length ≤ 4096 := by
  by_cases h : trE first x y = 0
  · exact (valid_qs (tr_of h).ok).2.2.2.1
  · rw [tr_nil h]; exact Nat.zero_le _
/-- What the errors are. -/
theorem tr_eq {f g : Bool} {x y x' y' : List P} (b : Bas x y) (b' : Bas x' y') (e : D.tf f (qs x) (qs y) = D.tf g (qs x') (qs y')) : trE f x y = trE g x' y' ∧ trP f x y = trP g x' y' := by
  have e1 : tfP f x y = tfP g x' y' := by unfold tfP; rw [e]
  have e2 : trE f x y = trE g x' y' := by rw [b.err, b'.err, e1]
  exact ⟨e2, by unfold trP; rw [e2, e1]⟩
theorem Tr.fit {first : Bool} {x y : List P} (h : Tr first x y) : Fit x (trP first x y) := ⟨h.bas.a, h.ok, by rw [h.q, (h.bas.tf first).inn]⟩

/-! ### Convergence (P7.6) -/
theorem bas_fit {S : List UInt8} {x y : List P} (hx : fitE S x = 0) (hy : fitE S y = 0) : Bas x y := by
  obtain ⟨h0, h1⟩ := fitE_zero hx
  obtain ⟨h2, h3⟩ := fitE_zero hy
  exact ⟨h0, h2, by rw [h1, h3]⟩
theorem pr_two {x y : List P} (b : Bas x y) : prE x y = 0 ∨ prE x y = 5 := by
  unfold prE
  rcases b.two true with h | h
  · rw [if_pos h]; exact b.swap.two false
  · rw [if_neg (by rw [h]; decide)]; exact .inr h
theorem pr_of {x y : List P} (h : prE x y = 0) : Tr true x y ∧ Tr false y x ∧ prB x y = trP true x y ∧ prA x y = trP false y x := by
  have e1 : prB x y = trP true x y := if_pos h
  have e2 : prA x y = trP false y x := if_pos h
  unfold prE at h
  by_cases h0 : trE true x y = 0
  · rw [if_pos h0] at h
    exact ⟨tr_of h0, tr_of h, e1, e2⟩
  · rw [if_neg h0] at h; exact absurd h h0
structure Conv (S : List UInt8) (x y : List P) : Prop where
  okA : chk (prA x y) = 0
  okB : chk (prB x y) = 0
  f1 : fitE (resP S x) (prB x y) = 0
  f2 : fitE (resP S y) (prA x y) = 0
  e : resP (resP S x) (prB x y) = resP (resP S y) (prA x y)
  c1 : cmpE y (prA x y) = cmpE x (prB x y)
  c2 : cmpP y (prA x y) = cmpP x (prB x y)
  m1 : mrE x y = cmpE x (prB x y)
  m2 : mrP x y = cmpP x (prB x y)
  two : cmpE x (prB x y) = 0 ∨ cmpE x (prB x y) = 5
  keeps : cmpE x (prB x y) = 0 → ∀ i : Nat, (i : Int) ∈ atoms 0 (qs (cmpP x (prB x y))) ↔ (i : Int) ∈ atoms 0 (qs x) ∧ (i : Int) ∈ atoms 0 (qs y)
theorem res_fit {S : List UInt8} {x y : List P} (h : fitE S x = 0) (f : Fit x y) : fitE (resP S x) y = 0 := by rw [← app_err h]; exact f.e
theorem conv7 {S : List UInt8} {x y : List P} (hx : fitE S x = 0) (hy : fitE S y = 0) (h : prE x y = 0) : Conv S x y := by
  obtain ⟨t1, t2, e1, e2⟩ := pr_of h
  have b := t1.bas
  obtain ⟨h0, h1⟩ := fitE_zero hx
  obtain ⟨h2, h3⟩ := fitE_zero hy
  have pa := (valid_qs h0).2.1
  have pb := (valid_qs h2).2.1
  have f1 := t1.fit
  have f2 := t2.fit
  have ec : cQ (qs x) (qs (trP true x y)) = cQ (qs y) (qs (trP false y x)) := by rw [t1.q, t2.q]; exact tf_conv pa pb b.m
  obtain ⟨c1, c2⟩ := cmp_eq f1 f2 ec
  have g1 := res_fit hx f1
  have g2 := res_fit hy f2
  have em : mrE x y = cmpE x (trP true x y) := by
    unfold mrE
    by_cases h0 : trE true x y = 0
    · rw [if_pos h0]
    · unfold prE at h; rw [if_neg h0] at h; exact absurd h h0
  have em2 : mrP x y = cmpP x (trP true x y) := by
    unfold mrP
    by_cases h0 : trE true x y = 0
    · rw [if_pos h0]
    · unfold prE at h; rw [if_neg h0] at h; exact absurd h h0
  refine ⟨by rw [e2]; exact t2.ok, by rw [e1]; exact t1.ok, by rw [e1]; exact g1, by rw [e2]; exact g2, ?_, by rw [e1, e2]; exact c1.symm, by rw [e1, e2]; exact c2.symm, by rw [e1]; exact em, by rw [e1]; exact em2, by rw [e1]; exact f1.two, fun hc i => ?_⟩
  · rw [e1, e2, resP_eq g1, resP_eq g2, resP_eq hx, resP_eq hy]
    rw [← apl_cq h1 f1.m, ← apl_cq h3 f2.m, ec]
  · rw [e1] at hc ⊢
    have hcq := cmp_of hc
    have hm := f1.m
    rw [hcq.q, t1.q]
    rw [t1.q] at hm
    have la := (cols_of pa)
    have lb := (cols_of pb)
    rw [(cq hm).ats, (b.tf true).cmp]
    have := mem_mg true (cA (qs x)) (cZ (qs x)) (cZ (qs y)) (cA (qs y)) 0 i (by rw [la.1, lb.1, b.m])
    rw [Nat.zero_add, la.2, lb.2] at this
    exact this

/-! ### The identity (P7.7) -/
theorem neutral7 {x : List P} (h : chk x = 0) (first : Bool) : ∃ n m : Nat, lenI x = n ∧ lenO x = m ∧ n ≤ 1048576 ∧ m ≤ 1048576 ∧ trE first (idP n) x = 0 ∧ trP first (idP n) x = normP x ∧ trE first x (idP n) = 0 ∧ trP first x (idP n) = idP m := by
  obtain ⟨hx, pa, _, _, i1, o1⟩ := valid_qs h
  obtain ⟨l1, l2⟩ := len_qs h
  obtain ⟨q1, q2, q3, _⟩ := idP_qs i1
  obtain ⟨r1, r2, r3, _⟩ := idP_qs o1
  refine ⟨inL (qs x), outL (qs x), l1, l2, i1, o1, ?_⟩
  have hi : inL (idQ (inL (qs x))) = inL (qs x) := (idQ_in _).1
  have b1 : Bas (idP (inL (qs x))) x := ⟨q3, h, by rw [q1, hi]⟩
  have e1 : tfP first (idP (inL (qs x))) x = normP x := by
    unfold tfP; rw [q1, tf_idL pa]; unfold normP; rfl
  have e2 : tfP first x (idP (inL (qs x))) = idP (outL (qs x)) := by
    unfold tfP; rw [q1, tf_idR pa, r2]
  have g1 : trE first (idP (inL (qs x))) x = 0 := by rw [b1.err, e1, if_pos (chk_normP h)]
  have g2 : trE first x (idP (inL (qs x))) = 0 := by rw [b1.swap.err, e2, if_pos r3]
  exact ⟨g1, by unfold trP; rw [if_pos g1, e1], g2, by unfold trP; rw [if_pos g2, e2]⟩

/-! ### Normal forms (P7.7) -/
theorem bas_norm {x y : List P} (hx : chk x = 0) (hy : chk y = 0) : bas2 (normP x) (normP y) = bas2 x y := by
  unfold bas2
  rw [if_pos hx, if_pos hy, if_pos (chk_normP hx), if_pos (chk_normP hy), inP_qs hx, inP_qs hy, inP_qs (chk_normP hx), inP_qs (chk_normP hy), qs_normP, qs_normP, inL_nf, inL_nf]
theorem forms7 {x y : List P} (hx : chk x = 0) (hy : chk y = 0) (first : Bool) : trE first (normP x) (normP y) = trE first x y ∧ trP first (normP x) (normP y) = trP first x y := by
  have e : tfP first (normP x) (normP y) = tfP first x y := by unfold tfP; rw [qs_normP, qs_normP, tf_nf]
  have e2 : trE first (normP x) (normP y) = trE first x y := by unfold trE; rw [bas_norm hx hy, e]
  exact ⟨e2, by unfold trP; rw [e2, e]⟩
theorem tr_normal {first : Bool} {x y : List P} (h : trE first x y = 0) : normal (trP first x y) = true ∧ normP (trP first x y) = trP first x y := by
  have t := tr_of h
  have e : normP (trP first x y) = trP first x y := by
    rw [t.eq]
    unfold normP
    rw [qs_tfP, nf_of_isN _ (t.bas.tf first).nrm]; rfl
  exact ⟨by rw [normal_eq _ t.ok]; exact t.nrm, e⟩

/-! ### Disjoint deltas (P7.8) -/
structure Spl (x y : List P) : Prop where
  e : trE false x y = trE true x y
  p : trP false x y = trP true x y
  two : mrE x y = 0 ∨ mrE x y = 5
  len : mrE x y = 0 → chk (mrP x y) = 0 ∧ inL (qs (mrP x y)) = inL (qs x) ∧ outL (qs (mrP x y)) + inL (qs x) = outL (qs x) + outL (qs y)
theorem mr_of {x y : List P} (h : trE true x y = 0) : mrE x y = cmpE x (trP true x y) ∧ mrP x y = cmpP x (trP true x y) := ⟨if_pos h, if_pos h⟩
theorem splits7 {x y : List P} (b : Bas x y) (h : dsB x y = true) : Spl x y := by
  have pa := (valid_qs b.a).2.1
  have pb := (valid_qs b.b).2.1
  unfold dsB at h
  rw [if_pos b.e] at h
  obtain ⟨e1, e2⟩ := tf_apart pa pb b.m h
  obtain ⟨g1, g2⟩ := tr_eq (f := false) (g := true) b b e1.symm
  refine ⟨g1, g2, ?_, fun hm => ?_⟩
  · by_cases h0 : trE true x y = 0
    · rw [(mr_of h0).1]; exact (tr_of h0).fit.two
    · have : mrE x y = trE true x y := if_neg h0
      rw [this]
      rcases b.two true with h1 | h1
      · exact absurd h1 h0
      · exact .inr h1
  · have h0 : trE true x y = 0 := by
      by_cases h0 : trE true x y = 0
      · exact h0
      · have : mrE x y = trE true x y := if_neg h0
        rw [this] at hm; exact hm
    have t := tr_of h0
    rw [(mr_of h0).1] at hm
    have c := cmp_of hm
    have q := c.fit.cq
    rw [(mr_of h0).2]
    refine ⟨c.ok, by rw [c.q, q.inn], ?_⟩
    rw [c.q, q.out, t.q]
    exact e2

/-! ### Rebasing (P7.4, P7.9) -/
theorem rebS_nil (d : List P) : rebS d [] = (chk d, if chk d = 0 then normP d else []) := rfl
theorem rebS_snoc (d : List P) (L : List (List P)) (k : Nat) (x : List P) (h : L[k]? = some x) : rebS d (L.take (k + 1)) = stepT (rebS d (L.take k)) x := by
  unfold rebS
  rw [List.take_add_one, h, Option.toList_some, List.foldl_append]; rfl
theorem stepT_nil {s : Int × List P} (hs : s.1 ≠ 0 → s.2 = []) (x : List P) : (stepT s x).1 ≠ 0 → (stepT s x).2 = [] := by
  unfold stepT
  by_cases h : s.1 = 0
  · rw [if_pos h]; exact fun h1 => tr_nil h1
  · rw [if_neg h]; exact hs
theorem rebS_bad (d : List P) (L : List (List P)) : (rebS d L).1 ≠ 0 → (rebS d L).2 = [] := by
  have key : ∀ (L : List (List P)) (s : Int × List P), (s.1 ≠ 0 → s.2 = []) → (L.foldl stepT s).1 ≠ 0 → (L.foldl stepT s).2 = [] := by
    intro L
    induction L with
    | nil => intro s hs; exact hs
    | cons x L ih => intro s hs; exact ih _ (stepT_nil hs x)
  exact key L _ (fun h => if_neg h)
theorem stepT_stop {s : Int × List P} (h : s.1 ≠ 0) (L : List (List P)) : L.foldl stepT s = s := by
  induction L with
  | nil => rfl
  | cons x L ih => rw [List.foldl_cons, show stepT s x = s from if_neg h, ih]
/-- What has been rebased is valid and in normal form. -/
theorem rebS_ok (d : List P) (L : List (List P)) : (rebS d L).1 = 0 → chk (rebS d L).2 = 0 ∧ normP (rebS d L).2 = (rebS d L).2 ∧ chk d = 0 := by
  have key : ∀ (L : List (List P)) (s : Int × List P), (s.1 = 0 → chk s.2 = 0 ∧ normP s.2 = s.2) → (L.foldl stepT s).1 = 0 → chk (L.foldl stepT s).2 = 0 ∧ normP (L.foldl stepT s).2 = (L.foldl stepT s).2 := by
    intro L
    induction L with
    | nil => intro s hs; exact hs
    | cons x L ih =>
      intro s hs
      refine ih _ fun h1 => ?_
      by_cases h : s.1 = 0
      · have e : stepT s x = (trE true x s.2, trP true x s.2) := if_pos h
        rw [e] at h1 ⊢
        exact ⟨(tr_of h1).ok, (tr_normal h1).2⟩
      · have e : stepT s x = s := if_neg h
        rw [e] at h1; exact absurd h1 h
  intro h
  by_cases h0 : chk d = 0
  · have := key L (chk d, if chk d = 0 then normP d else []) (fun _ => by rw [if_pos h0]; exact ⟨chk_normP h0, normP_normP d⟩) h
    exact ⟨this.1, this.2, h0⟩
  · unfold rebS at h
    rw [stepT_stop h0] at h
    exact absurd h h0
/-- One call or two. -/
theorem bases_two (d x y : List P) : ((rebS d [x]).1 ≠ 0 → (rebS d [x, y]).1 = (rebS d [x]).1 ∧ (rebS d [x, y]).2 = []) ∧ ((rebS d [x]).1 = 0 → rebS (rebS d [x]).2 [y] = rebS d [x, y]) := by
  have e : rebS d [x, y] = stepT (rebS d [x]) y := rfl
  refine ⟨fun h => ?_, fun h => ?_⟩
  · have e2 : rebS d [x, y] = rebS d [x] := by rw [e]; exact if_neg h
    rw [e2]; exact ⟨rfl, rebS_bad d [x] h⟩
  · obtain ⟨h1, h2, _⟩ := rebS_ok d [x] h
    rw [e]
    show stepT (chk (rebS d [x]).2, if chk (rebS d [x]).2 = 0 then normP (rebS d [x]).2 else []) y = _
    rw [h1, if_pos rfl, h2]
    unfold stepT
    rw [if_pos rfl, if_pos h]
theorem noI_atoms {x : List P} (h : (qs x).any isI = false) : ∀ v ∈ atoms 0 (qs x), 0 ≤ v := fun v hv => by
  obtain ⟨i, hi⟩ := List.mem_iff_getElem?.1 hv
  exact noI_get _ h 0 i v hi
/-- P7.9. -/
theorem bases7 {d x y : List P} (h : (rebS d [x, y]).1 = 0) (hc : cmpE x y = 0) (hn : (qs d).any isI = false ∨ ((qs d).any isD = false ∧ ((qs x).any isI = false ∨ (qs y).any isD = false))) : rebS d [cmpP x y] = rebS d [x, y] := by
  have e2 : rebS d [x, y] = stepT (rebS d [x]) y := rfl
  have h1 : (rebS d [x]).1 = 0 := by
    by_cases h1 : (rebS d [x]).1 = 0
    · exact h1
    · exact absurd (by rw [← ((bases_two d x y).1 h1).1]; exact h) h1
  have h0 : chk d = 0 := (rebS_ok d [x] h1).2.2
  have e1 : rebS d [x] = (trE true x (normP d), trP true x (normP d)) := by
    show stepT (chk d, if chk d = 0 then normP d else []) x = _
    unfold stepT; rw [if_pos h0, if_pos h0]
  rw [e1] at h1
  have t1 := tr_of h1
  have e3 : rebS d [x, y] = (trE true y (trP true x (normP d)), trP true y (trP true x (normP d))) := by
    rw [e2, e1]; unfold stepT; rw [if_pos h1]
  rw [e3] at h
  have t2 := tr_of h
  have c := cmp_of hc
  have q := c.fit.cq
  have pd := (valid_qs h0).2.1
  have px := (valid_qs c.fit.a).2.1
  have py := (valid_qs c.fit.b).2.1
  have m1 := t1.bas.m
  rw [qs_normP, inL_nf] at m1
  have qd : D.tf true (qs x) (qs (normP d)) = D.tf true (qs x) (qs d) := by rw [qs_normP]; unfold D.tf; rw [nf_nf]
  have key : D.tf true (qs y) (D.tf true (qs x) (qs d)) = D.tf true (cQ (qs x) (qs y)) (qs d) := by
    rcases hn with hn | ⟨hn, hm⟩
    · exact tf_bases_del pd px py m1 c.fit.m (noI_atoms hn)
    · exact tf_bases_ins pd px py m1 c.fit.m hn hm
  have b3 : Bas (cmpP x y) (normP d) := ⟨c.ok, chk_normP h0, by rw [c.q, q.inn, qs_normP, inL_nf, m1]⟩
  have e4 : D.tf true (qs (cmpP x y)) (qs (normP d)) = D.tf true (qs y) (qs (trP true x (normP d))) := by
    rw [t1.q, qd, c.q, key, qs_normP]; unfold D.tf; rw [nf_nf]
  obtain ⟨g1, g2⟩ := tr_eq b3 t2.bas e4
  rw [e3, ← g1, ← g2]
  show stepT (chk d, if chk d = 0 then normP d else []) (cmpP x y) = _
  unfold stepT; rw [if_pos h0, if_pos h0]
end Go.Proofs.Ytmljagkndnobdaa.D
/- TransWalk -/
namespace Go.Proofs.Ytmljagkndnobdaa.D

/-- What is told: the texts at an offset, or whether the next n bytes are kept by either. -/
inductive Ev where
  | T (s t : List UInt8)
  | C (x y : Bool) (n : Nat)
def evT : List Q → List UInt8
  | .I t :: _ => t
  | _ => []
def tlT : List Q → List Q
  | .I _ :: r => r
  | l => l
def hdN : List Q → Nat
  | .R n :: _ => n
  | .D n :: _ => n
  | _ => 0
def hdK : List Q → Bool
  | .R _ :: _ => true
  | _ => false
def cutN (m : Nat) : List Q → List Q
  | .R n :: r => if n = m then r else .R (n - m) :: r
  | .D n :: r => if n = m then r else .D (n - m) :: r
  | l => l
def evs : Nat → List Q → List Q → List Ev
  | 0, _, _ => []
  | f + 1, a, b =>
    if evT a ≠ [] ∨ evT b ≠ [] then .T (evT a) (evT b) :: evs f (tlT a) (tlT b)
    else if 0 < hdN a ∧ 0 < hdN b then .C (hdK a) (hdK b) (min (hdN a) (hdN b)) :: evs f (cutN (min (hdN a) (hdN b)) a) (cutN (min (hdN a) (hdN b)) b)
    else []
def evQ (first : Bool) : Ev → List Q
  | .T s t => blkQ first s t
  | .C x y n => if x then [if y then .R n else .D n] else []
def evM : Ev → Bool
  | .T s t => !s.isEmpty && !t.isEmpty
  | .C x y _ => !x && !y
theorem blk_nil (first : Bool) : blkQ first [] [] = [] := by cases first <;> rfl
theorem posCons {q : Q} {r : List Q} (h : allPos (q :: r) = true) : pos q = true ∧ allPos r = true := by simpa [allPos] using h
theorem allPos_of {q : Q} {r : List Q} (h : pos q = true) (k : allPos r = true) : allPos (q :: r) = true := by simp only [allPos, List.all_cons, Bool.and_eq_true]; exact ⟨h, k⟩
theorem posI {t : List UInt8} (h : pos (.I t) = true) : t ≠ [] := by intro e; subst e; cases h
theorem posR {n : Nat} (h : pos (.R n) = true) : 0 < n := by simpa [pos] using h
theorem posD {n : Nat} (h : pos (.D n) = true) : 0 < n := by simpa [pos] using h

/-- Two deltas in normal form of one input length, with at most f pieces. -/
structure Vk (f : Nat) (a b : List Q) : Prop where
  pa : allPos a = true
  pb : allPos b = true
  na : isN a = true
  nb : isN b = true
  m : inL a = inL b
  l : a.length + b.length ≤ f
theorem noT {a : List Q} (h : allPos a = true) (e : evT a = []) : (a = [] ∧ hdN a = 0) ∨ (∃ n r, a = .R n :: r ∧ 0 < n) ∨ ∃ n r, a = .D n :: r ∧ 0 < n := by
  cases a with
  | nil => exact .inl ⟨rfl, rfl⟩
  | cons q r =>
    have h0 := posCons h
    cases q with
    | I t => exact absurd (show t = [] from e) (posI h0.1)
    | R n => exact .inr (.inl ⟨n, r, rfl, posR h0.1⟩)
    | D n => exact .inr (.inr ⟨n, r, rfl, posD h0.1⟩)
theorem tlT_of (a : List Q) (e : evT a = []) (h : allPos a = true) : tlT a = a := by
  rcases noT h e with ⟨rfl, _⟩ | ⟨n, r, rfl, _⟩ | ⟨n, r, rfl, _⟩ <;> rfl
theorem tlT_ok {a : List Q} (h : allPos a = true) (n : isN a = true) : allPos (tlT a) = true ∧ isN (tlT a) = true ∧ inL (tlT a) = inL a ∧ evT (tlT a) = [] ∧ (tlT a).length ≤ a.length ∧ (evT a ≠ [] → (tlT a).length < a.length) ∧ outL a = (evT a).length + outL (tlT a) := by
  cases a with
  | nil => exact ⟨rfl, rfl, rfl, rfl, Nat.le_refl _, fun h => absurd rfl h, rfl⟩
  | cons q r =>
    have h0 := posCons h
    cases q with
    | I t =>
      refine ⟨h0.2, isN_tail n, by show inL r = 0 + inL r; omega, ?_, Nat.le_succ _, fun _ => Nat.lt_succ_self _, rfl⟩
      show evT r = []
      cases r with
      | nil => rfl
      | cons p s =>
        cases p with
        | I u => exact absurd rfl (notI_of_I n u s)
        | R _ => rfl
        | D _ => rfl
    | R k => exact ⟨h, n, rfl, rfl, Nat.le_refl _, fun h => absurd rfl h, by show _ = 0 + _; rw [Nat.zero_add]; rfl⟩
    | D k => exact ⟨h, n, rfl, rfl, Nat.le_refl _, fun h => absurd rfl h, by show _ = 0 + _; rw [Nat.zero_add]; rfl⟩
theorem cutN_ok {a : List Q} {m : Nat} (h : allPos a = true) (n : isN a = true) (hm : 0 < m) (hl : m ≤ hdN a) : allPos (cutN m a) = true ∧ isN (cutN m a) = true ∧ inL (cutN m a) + m = inL a ∧ (cutN m a).length ≤ a.length ∧ (m = hdN a → (cutN m a).length < a.length) ∧ outL (cutN m a) ≤ outL a := by
  cases a with
  | nil => exact absurd hl (by show ¬ m ≤ 0; omega)
  | cons q r =>
    have h0 := posCons h
    cases q with
    | I t => exact absurd hl (by show ¬ m ≤ 0; omega)
    | R k =>
      have hk : m ≤ k := hl
      by_cases e : k = m
      · have e1 : cutN m (.R k :: r) = r := if_pos e
        rw [e1]
        exact ⟨h0.2, isN_tail n, by show _ = k + inL r; omega, Nat.le_succ _, fun _ => Nat.lt_succ_self _, by show _ ≤ k + outL r; omega⟩
      · have e1 : cutN m (.R k :: r) = .R (k - m) :: r := if_neg e
        rw [e1]
        refine ⟨allPos_of (by simp only [pos, decide_eq_true_eq]; omega) h0.2, isN_head (fun q hq => ?_) n, by show k - m + inL r + m = k + inL r; omega, Nat.le_refl _, fun h => absurd h (by show ¬ m = k; omega), by show k - m + outL r ≤ k + outL r; omega⟩
        cases q <;> first | rfl | exact absurd hq Bool.false_ne_true
    | D k =>
      have hk : m ≤ k := hl
      by_cases e : k = m
      · have e1 : cutN m (.D k :: r) = r := if_pos e
        rw [e1]
        exact ⟨h0.2, isN_tail n, by show _ = k + inL r; omega, Nat.le_succ _, fun _ => Nat.lt_succ_self _, by show _ ≤ 0 + outL r; omega⟩
      · have e1 : cutN m (.D k :: r) = .D (k - m) :: r := if_neg e
        rw [e1]
        refine ⟨allPos_of (by simp only [pos, decide_eq_true_eq]; omega) h0.2, isN_head (fun q hq => ?_) n, by show k - m + inL r + m = k + inL r; omega, Nat.le_refl _, fun h => absurd h (by show ¬ m = k; omega), Nat.le_refl _⟩
        cases q <;> first | rfl | exact absurd hq Bool.false_ne_true
theorem Vk.texts {f : Nat} {a b : List Q} (h : Vk (f + 1) a b) (e : evT a ≠ [] ∨ evT b ≠ []) : Vk f (tlT a) (tlT b) ∧ evT (tlT a) = [] ∧ evT (tlT b) = [] := by
  obtain ⟨a1, a2, a3, a4, a5, a6, _⟩ := tlT_ok h.pa h.na
  obtain ⟨b1, b2, b3, b4, b5, b6, _⟩ := tlT_ok h.pb h.nb
  refine ⟨⟨a1, b1, a2, b2, by rw [a3, b3, h.m], ?_⟩, a4, b4⟩
  have := h.l
  rcases e with e | e
  · have := a6 e; omega
  · have := b6 e; omega
theorem Vk.bytes {f : Nat} {a b : List Q} (h : Vk (f + 1) a b) (e : 0 < hdN a ∧ 0 < hdN b) : Vk f (cutN (min (hdN a) (hdN b)) a) (cutN (min (hdN a) (hdN b)) b) := by
  obtain ⟨a1, a2, a3, a4, a5, _⟩ := cutN_ok h.pa h.na (show 0 < min (hdN a) (hdN b) by omega) (by omega)
  obtain ⟨b1, b2, b3, b4, b5, _⟩ := cutN_ok h.pb h.nb (show 0 < min (hdN a) (hdN b) by omega) (by omega)
  refine ⟨a1, b1, a2, b2, by have := h.m; omega, ?_⟩
  have := h.l
  by_cases e : hdN a ≤ hdN b
  · have := a5 (by omega); omega
  · have := b5 (by omega); omega
theorem Vk.ends {f : Nat} {a b : List Q} (h : Vk f a b) (ea : evT a = []) (eb : evT b = []) (e : ¬ (0 < hdN a ∧ 0 < hdN b)) : a = [] ∧ b = [] := by
  have hm := h.m
  rcases noT h.pa ea with ⟨rfl, _⟩ | ⟨n, r, rfl, hn⟩ | ⟨n, r, rfl, hn⟩
  · rcases noT h.pb eb with ⟨rfl, _⟩ | ⟨n, r, rfl, hn⟩ | ⟨n, r, rfl, hn⟩
    · exact ⟨rfl, rfl⟩
    · exfalso; have : 0 = n + inL r := hm; omega
    · exfalso; have : 0 = n + inL r := hm; omega
  all_goals
    rcases noT h.pb eb with ⟨rfl, _⟩ | ⟨k, s, rfl, hk⟩ | ⟨k, s, rfl, hk⟩
    · exfalso; have : n + inL r = 0 := hm; omega
    · exact absurd ⟨hn, hk⟩ e
    · exact absurd ⟨hn, hk⟩ e

/-! ### Columns of a step -/
theorem col_text {a : List Q} (h : allPos a = true) : col [] a = col (evT a) (tlT a) := by
  cases a with
  | nil => rfl
  | cons q r => cases q <;> rfl
theorem col_cut {a : List Q} (p : List UInt8) {m : Nat} (hm : 0 < m) (hl : m ≤ hdN a) : col p a = ((p, hdK a) :: (List.replicate (m - 1) ([], hdK a) ++ (col [] (cutN m a)).1), (col [] (cutN m a)).2) := by
  have key : ∀ (k : Nat) (b : Bool) (c : List Col), m ≤ k → k ≠ m → List.replicate (k - 1) (([], b) : Col) ++ c = List.replicate (m - 1) ([], b) ++ (([], b) :: (List.replicate (k - m - 1) ([], b) ++ c)) := fun k b c h1 h2 => by
    have e : k - 1 = (m - 1) + ((k - m - 1) + 1) := by omega
    rw [e, ← List.replicate_append_replicate, List.append_assoc]
    rfl
  cases a with
  | nil => exact absurd hl (by show ¬ m ≤ 0; omega)
  | cons q r =>
    cases q with
    | I t => exact absurd hl (by show ¬ m ≤ 0; omega)
    | R k =>
      have hk : m ≤ k := hl
      by_cases e : k = m
      · subst e
        have e1 : cutN k (.R k :: r) = r := if_pos rfl
        rw [e1]; rfl
      · have e1 : cutN m (.R k :: r) = .R (k - m) :: r := if_neg e
        rw [e1]
        show ((p, true) :: (List.replicate (k - 1) ([], true) ++ (col [] r).1), (col [] r).2) = _
        rw [key k true _ hk e]; rfl
    | D k =>
      have hk : m ≤ k := hl
      by_cases e : k = m
      · subst e
        have e1 : cutN k (.D k :: r) = r := if_pos rfl
        rw [e1]; rfl
      · have e1 : cutN m (.D k :: r) = .D (k - m) :: r := if_neg e
        rw [e1]
        show ((p, false) :: (List.replicate (k - 1) ([], false) ++ (col [] r).1), (col [] r).2) = _
        rw [key k false _ hk e]; rfl
theorem tfQ_run (first x y : Bool) (ca : List Col) (sl : List UInt8) (cb : List Col) (tl : List UInt8) (m : Nat) : ∀ p q, tfQ first ((p, x) :: (List.replicate m ([], x) ++ ca)) sl ((q, y) :: (List.replicate m ([], y) ++ cb)) tl = blkQ first p q ++ ((if x then List.replicate (m + 1) (if y then Q.R 1 else Q.D 1) else []) ++ tfQ first ca sl cb tl) := by
  induction m with
  | zero => intro p q; cases x <;> rfl
  | succ m ih =>
    intro p q
    have i0 := ih [] []
    rw [blk_nil, List.nil_append] at i0
    show blkQ first p q ++ ((if x then [if y then Q.R 1 else Q.D 1] else []) ++ tfQ first (([], x) :: (List.replicate m ([], x) ++ ca)) sl (([], y) :: (List.replicate m ([], y) ++ cb)) tl) = _
    rw [i0]
    cases x <;> simp [List.replicate_succ]
theorem ap_R1 (m : Nat) (z : List Q) : ap (List.replicate (m + 1) (.R 1)) z = ap [.R (m + 1)] z := by
  induction m with
  | zero => rfl
  | succ m ih =>
    rw [List.replicate_succ, ap_cons, ih]
    show pR 1 (pR (m + 1) z) = pR (m + 1 + 1) z
    rw [pR_pR]; congr 1; omega
theorem ap_D1 (m : Nat) (z : List Q) : ap (List.replicate (m + 1) (.D 1)) z = ap [.D (m + 1)] z := by
  induction m with
  | zero => rfl
  | succ m ih =>
    rw [List.replicate_succ, ap_cons, ih]
    show pD 1 (pD (m + 1) z) = pD (m + 1 + 1) z
    rw [pD_pD]; congr 1; omega
theorem evs_nil (f : Nat) : evs f [] [] = [] := by cases f <;> rfl
theorem evs_T {f : Nat} {a b : List Q} (e : evT a ≠ [] ∨ evT b ≠ []) : evs (f + 1) a b = .T (evT a) (evT b) :: evs f (tlT a) (tlT b) := if_pos e
theorem evs_C {f : Nat} {a b : List Q} (ea : evT a = []) (eb : evT b = []) (e : 0 < hdN a ∧ 0 < hdN b) : evs (f + 1) a b = .C (hdK a) (hdK b) (min (hdN a) (hdN b)) :: evs f (cutN (min (hdN a) (hdN b)) a) (cutN (min (hdN a) (hdN b)) b) := by
  have h : ¬ (evT a ≠ [] ∨ evT b ≠ []) := by rintro (h | h); exact h ea; exact h eb
  show (if evT a ≠ [] ∨ evT b ≠ [] then _ else _) = _
  rw [if_neg h, if_pos e]
/-- A property of what is told, and of the columns: with and without texts that stand before. -/
theorem evs_ind (P : List UInt8 → List UInt8 → List Ev → List Q → List Q → Prop)
    (h0 : ∀ p q, P p q [] [] [])
    (hT : ∀ f a b, Vk (f + 1) a b → P (evT a) (evT b) (evs f (tlT a) (tlT b)) (tlT a) (tlT b) → P [] [] (.T (evT a) (evT b) :: evs f (tlT a) (tlT b)) a b)
    (hC : ∀ f a b p q m, Vk (f + 1) a b → 0 < m → m ≤ hdN a → m ≤ hdN b → P [] [] (evs f (cutN m a) (cutN m b)) (cutN m a) (cutN m b) → P p q (.C (hdK a) (hdK b) m :: evs f (cutN m a) (cutN m b)) a b) :
    ∀ f, (∀ a b p q, Vk f a b → evT a = [] → evT b = [] → P p q (evs f a b) a b) ∧ (∀ a b, Vk f a b → P [] [] (evs f a b) a b) := by
  intro f
  induction f with
  | zero =>
    have key : ∀ a b : List Q, Vk 0 a b → a = [] ∧ b = [] := fun a b h => by
      have := h.l
      exact ⟨List.eq_nil_of_length_eq_zero (by omega), List.eq_nil_of_length_eq_zero (by omega)⟩
    refine ⟨fun a b p q h _ _ => ?_, fun a b h => ?_⟩
    · obtain ⟨rfl, rfl⟩ := key a b h; exact h0 p q
    · obtain ⟨rfl, rfl⟩ := key a b h; exact h0 [] []
  | succ f ih =>
    have one : ∀ a b p q, Vk (f + 1) a b → evT a = [] → evT b = [] → P p q (evs (f + 1) a b) a b := fun a b p q h ea eb => by
      by_cases e : 0 < hdN a ∧ 0 < hdN b
      · rw [evs_C ea eb e]
        exact hC f a b p q _ h (by omega) (by omega) (by omega) (ih.2 _ _ (h.bytes e))
      · obtain ⟨rfl, rfl⟩ := h.ends ea eb e
        rw [evs_nil]; exact h0 p q
    refine ⟨one, fun a b h => ?_⟩
    by_cases e : evT a ≠ [] ∨ evT b ≠ []
    · rw [evs_T e]
      obtain ⟨h1, h2, h3⟩ := h.texts e
      exact hT f a b h (ih.1 _ _ _ _ h1 h2 h3)
    · refine one a b [] [] h ?_ ?_
      · by_cases e1 : evT a = []
        · exact e1
        · exact absurd (.inl e1) e
      · by_cases e1 : evT b = []
        · exact e1
        · exact absurd (.inr e1) e
/-- What is told makes the transformed delta. -/
theorem evs_tf (first : Bool) (f : Nat) {a b : List Q} (h : Vk f a b) : nf ((evs f a b).flatMap (evQ first)) = nf (tfQ first (col [] a).1 (col [] a).2 (col [] b).1 (col [] b).2) := by
  have := (evs_ind (fun p q E a b => nf (blkQ first p q ++ E.flatMap (evQ first)) = nf (tfQ first (col p a).1 (col p a).2 (col q b).1 (col q b).2)) ?_ ?_ ?_ f).2 a b h
  · simpa [blk_nil] using this
  · intro p q; show nf (blkQ first p q ++ []) = nf (blkQ first p q); rw [List.append_nil]
  · intro f a b h ih
    rw [col_text h.pa, col_text h.pb, ← ih, blk_nil]; rfl
  · intro f a b p q m _ hm ha hb ih
    rw [blk_nil, List.nil_append] at ih
    rw [col_cut p hm ha, col_cut q hm hb, tfQ_run, nf_append, nf_append (blkQ first p q)]
    congr 1
    obtain ⟨k, rfl⟩ : ∃ k, m = k + 1 := ⟨m - 1, by omega⟩
    rw [List.flatMap_cons, nf_append, ih, nf_append, Nat.add_sub_cancel]
    show ap (if hdK a then [if hdK b then Q.R (k + 1) else Q.D (k + 1)] else []) _ = _
    cases hdK a
    · rfl
    · cases hdK b
      · exact (ap_D1 k _).symm
      · exact (ap_R1 k _).symm
theorem apart_run (x y : Bool) (ca : List Col) (sl : List UInt8) (cb : List Col) (tl : List UInt8) (m : Nat) : ∀ p q, apart ((p, x) :: (List.replicate m ([], x) ++ ca)) sl ((q, y) :: (List.replicate m ([], y) ++ cb)) tl = ((p.isEmpty || q.isEmpty) && (x || y) && apart ca sl cb tl) := by
  induction m with
  | zero => intro p q; rfl
  | succ m ih =>
    intro p q
    have i0 := ih [] []
    show ((p.isEmpty || q.isEmpty) && (x || y) && apart (([], x) :: (List.replicate m ([], x) ++ ca)) sl (([], y) :: (List.replicate m ([], y) ++ cb)) tl) = _
    rw [i0]
    cases x <;> cases y <;> simp
/-- What is told says whether the two are disjoint. -/
theorem evs_apart (f : Nat) {a b : List Q} (h : Vk f a b) : (evs f a b).any evM = !apart (col [] a).1 (col [] a).2 (col [] b).1 (col [] b).2 := by
  have := (evs_ind (fun p q E a b => ((!p.isEmpty && !q.isEmpty) || E.any evM) = !apart (col p a).1 (col p a).2 (col q b).1 (col q b).2) ?_ ?_ ?_ f).2 a b h
  · simpa using this
  · intro p q; show ((!p.isEmpty && !q.isEmpty) || false) = !(p.isEmpty || q.isEmpty); cases p.isEmpty <;> cases q.isEmpty <;> rfl
  · intro f a b h ih
    rw [col_text h.pa, col_text h.pb, ← ih, List.any_cons]; rfl
  · intro f a b p q m _ hm ha hb ih
    have ih' : ((evs f (cutN m a) (cutN m b)).any evM) = !apart (col [] (cutN m a)).1 (col [] (cutN m a)).2 (col [] (cutN m b)).1 (col [] (cutN m b)).2 := by simpa using ih
    rw [col_cut p hm ha, col_cut q hm hb, apart_run, List.any_cons, ih']
    show ((!p.isEmpty && !q.isEmpty) || ((!hdK a && !hdK b) || _)) = _
    cases p.isEmpty <;> cases q.isEmpty <;> cases hdK a <;> cases hdK b <;> simp

/-! ### What is told is small -/
theorem evs_len : ∀ (f : Nat) (a b : List Q), (evs f a b).length ≤ f := by
  intro f
  induction f with
  | zero => intro a b; exact Nat.le_refl _
  | succ f ih =>
    intro a b
    unfold evs
    split
    · have := ih (tlT a) (tlT b); simp only [List.length_cons]; omega
    · split
      · have := ih (cutN (min (hdN a) (hdN b)) a) (cutN (min (hdN a) (hdN b)) b); simp only [List.length_cons]; omega
      · simp
theorem evQ_len (first : Bool) (e : Ev) : (evQ first e).length ≤ 2 := by
  cases e with
  | T s t =>
    have h1 := oI_len t
    have h2 := oR_len s.length
    cases first
    · show (oI t ++ oR s.length).length ≤ 2; rw [List.length_append]; omega
    · show (oR s.length ++ oI t).length ≤ 2; rw [List.length_append]; omega
  | C x y n => cases x <;> simp [evQ]
theorem evs_lenQ (first : Bool) (E : List Ev) : (E.flatMap (evQ first)).length ≤ 2 * E.length := by
  induction E with
  | nil => simp
  | cons e E ih =>
    have := evQ_len first e
    rw [List.flatMap_cons, List.length_append, List.length_cons]; omega
/-- What an event tells of: small texts, and few bytes. -/
def evOk : Ev → Prop
  | .T s t => s.length ≤ 1048576 ∧ t.length ≤ 1048576
  | .C _ _ n => 0 < n ∧ n ≤ 1048576
theorem hdN_le (a : List Q) : hdN a ≤ inL a := by
  cases a with
  | nil => exact Nat.le_refl _
  | cons q r =>
    cases q with
    | I t => exact Nat.zero_le _
    | R n => exact Nat.le_add_right _ _
    | D n => exact Nat.le_add_right _ _
theorem hdT_le (a : List Q) : (evT a).length ≤ outL a := by
  cases a with
  | nil => exact Nat.le_refl _
  | cons q r =>
    cases q with
    | I t => exact Nat.le_add_right _ _
    | R n => exact Nat.zero_le _
    | D n => exact Nat.zero_le _
theorem evs_ok : ∀ (f : Nat) (a b : List Q), Vk f a b → inL a ≤ 1048576 → outL a ≤ 1048576 → outL b ≤ 1048576 → ∀ e ∈ evs f a b, evOk e := by
  intro f
  induction f with
  | zero => intro a b _ _ _ _ e he; cases he
  | succ f ih =>
    intro a b h hi ho hb e he
    unfold evs at he
    by_cases hT : evT a ≠ [] ∨ evT b ≠ []
    · rw [if_pos hT] at he
      obtain ⟨a1, a2, a3, a4, a5, a6, a7⟩ := tlT_ok h.pa h.na
      obtain ⟨b1, b2, b3, b4, b5, b6, b7⟩ := tlT_ok h.pb h.nb
      rcases List.mem_cons.1 he with rfl | he
      · exact ⟨by have := hdT_le a; omega, by have := hdT_le b; omega⟩
      · exact ih _ _ (h.texts hT).1 (by omega) (by omega) (by omega) e he
    · rw [if_neg hT] at he
      by_cases hN : 0 < hdN a ∧ 0 < hdN b
      · rw [if_pos hN] at he
        obtain ⟨a1, a2, a3, a4, a5, a6⟩ := cutN_ok h.pa h.na (show 0 < min (hdN a) (hdN b) by omega) (by omega)
        obtain ⟨b1, b2, b3, b4, b5, b6⟩ := cutN_ok h.pb h.nb (show 0 < min (hdN a) (hdN b) by omega) (by omega)
        rcases List.mem_cons.1 he with rfl | he
        · exact ⟨by omega, by have := hdN_le a; omega⟩
        · exact ih _ _ (h.bytes hN) (by omega) (by omega) (by omega) e he
      · rw [if_neg hN] at he; cases he
theorem allPos_evQ (first : Bool) {E : List Ev} (h : ∀ e ∈ E, evOk e) : allPos (E.flatMap (evQ first)) = true := by
  induction E with
  | nil => rfl
  | cons e E ih =>
    rw [List.flatMap_cons, allPos_cat, ih (fun x hx => h x (List.mem_cons_of_mem _ hx)), Bool.and_true]
    have he := h e List.mem_cons_self
    cases e with
    | T s t =>
      cases first
      · show allPos (oI t ++ oR s.length) = true; rw [allPos_cat, allPos_oI, allPos_oR]; rfl
      · show allPos (oR s.length ++ oI t) = true; rw [allPos_cat, allPos_oI, allPos_oR]; rfl
    | C x y n =>
      have hn : 0 < n := he.1
      cases x
      · rfl
      · cases y
        · show allPos [.D n] = true; simp [allPos, pos]; omega
        · show allPos [.R n] = true; simp [allPos, pos]; omega
/-- The events of two deltas of one input length. -/
def evL (a b : List Q) : List Ev := evs ((nf a).length + (nf b).length) (nf a) (nf b)
theorem wk_of {a b : List Q} (ha : allPos a = true) (hb : allPos b = true) (h : inL a = inL b) : Vk ((nf a).length + (nf b).length) (nf a) (nf b) :=
  ⟨allPos_nf _ ha, allPos_nf _ hb, isN_nf _, isN_nf _, by rw [inL_nf, inL_nf, h], Nat.le_refl _⟩
theorem evL_tf (first : Bool) {a b : List Q} (ha : allPos a = true) (hb : allPos b = true) (h : inL a = inL b) : nf ((evL a b).flatMap (evQ first)) = tf first a b := evs_tf first _ (wk_of ha hb h)
theorem evL_apart {a b : List Q} (ha : allPos a = true) (hb : allPos b = true) (h : inL a = inL b) : (evL a b).any evM = !apart (cA a) (cZ a) (cA b) (cZ b) := evs_apart _ (wk_of ha hb h)
theorem evL_len {a b : List Q} : (evL a b).length ≤ a.length + b.length := by
  have := evs_len ((nf a).length + (nf b).length) (nf a) (nf b)
  have := nf_length a
  have := nf_length b
  unfold evL; omega
theorem evL_ok {a b : List Q} (ha : allPos a = true) (hb : allPos b = true) (h : inL a = inL b) (hi : inL a ≤ 1048576) (ho : outL a ≤ 1048576) (hp : outL b ≤ 1048576) : ∀ e ∈ evL a b, evOk e :=
  evs_ok _ _ _ (wk_of ha hb h) (by rw [inL_nf]; exact hi) (by rw [outL_nf]; exact ho) (by rw [outL_nf]; exact hp)
end Go.Proofs.Ytmljagkndnobdaa.D
/- TransRefM -/
namespace Go.Proofs.Ytmljagkndnobdaa.D

/-! ### The texts at each offset -/
def txs (l : List Q) : List (List UInt8) := (col [] l).1.map Prod.fst ++ [(col [] l).2]
theorem col_snoc_I (l : List Q) (t : List UInt8) : ∀ p, col p (l ++ [.I t]) = ((col p l).1, (col p l).2 ++ t) := by
  induction l with
  | nil => intro p; rfl
  | cons q r ih =>
    intro p
    cases q with
    | I s => exact ih (p ++ s)
    | R n => show ((p, true) :: (List.replicate (n - 1) ([], true) ++ (col [] (r ++ [.I t])).1), (col [] (r ++ [.I t])).2) = _; rw [ih]; rfl
    | D n => show ((p, false) :: (List.replicate (n - 1) ([], false) ++ (col [] (r ++ [.I t])).1), (col [] (r ++ [.I t])).2) = _; rw [ih]; rfl
theorem col_snoc_R (l : List Q) (n : Nat) : ∀ p, col p (l ++ [.R n]) = ((col p l).1 ++ (((col p l).2, true) :: List.replicate (n - 1) ([], true)), []) := by
  induction l with
  | nil => intro p; show ((p, true) :: (List.replicate (n - 1) ([], true) ++ []), []) = _; rw [List.append_nil]; rfl
  | cons q r ih =>
    intro p
    cases q with
    | I s => exact ih (p ++ s)
    | R m => show ((p, true) :: (List.replicate (m - 1) ([], true) ++ (col [] (r ++ [.R n])).1), (col [] (r ++ [.R n])).2) = _; rw [ih]; simp [col]
    | D m => show ((p, false) :: (List.replicate (m - 1) ([], false) ++ (col [] (r ++ [.R n])).1), (col [] (r ++ [.R n])).2) = _; rw [ih]; simp [col]
theorem col_snoc_D (l : List Q) (n : Nat) : ∀ p, col p (l ++ [.D n]) = ((col p l).1 ++ (((col p l).2, false) :: List.replicate (n - 1) ([], false)), []) := by
  induction l with
  | nil => intro p; show ((p, false) :: (List.replicate (n - 1) ([], false) ++ []), []) = _; rw [List.append_nil]; rfl
  | cons q r ih =>
    intro p
    cases q with
    | I s => exact ih (p ++ s)
    | R m => show ((p, true) :: (List.replicate (m - 1) ([], true) ++ (col [] (r ++ [.D n])).1), (col [] (r ++ [.D n])).2) = _; rw [ih]; simp [col]
    | D m => show ((p, false) :: (List.replicate (m - 1) ([], false) ++ (col [] (r ++ [.D n])).1), (col [] (r ++ [.D n])).2) = _; rw [ih]; simp [col]
/-- What the table of texts is behind i pieces. -/
def txT (a : List Q) (i : Nat) : List (List UInt8) := txs (a.take i) ++ List.replicate (inL a - inL (a.take i)) []
theorem txs_len {l : List Q} (h : allPos l = true) : (txs l).length = inL l + 1 := by unfold txs; simp [col_length l h]
theorem allPos_take {a : List Q} (h : allPos a = true) (i : Nat) : allPos (a.take i) = true := by
  unfold allPos at h ⊢
  rw [← List.take_append_drop i a, List.all_append, Bool.and_eq_true] at h
  exact h.1
theorem inL_take_le' (a : List Q) (i : Nat) : inL (a.take i) ≤ inL a := by
  have := inL_append (a.take i) (a.drop i)
  rw [List.take_append_drop] at this; omega
theorem txT_len {a : List Q} (h : allPos a = true) (i : Nat) : (txT a i).length = inL a + 1 := by
  have := inL_take_le' a i
  unfold txT
  rw [List.length_append, txs_len (allPos_take h i), List.length_replicate]; omega
theorem txT_zero (a : List Q) : txT a 0 = List.replicate (inL a + 1) [] := by
  unfold txT
  show [[]] ++ List.replicate (inL a - 0) [] = _
  rw [List.replicate_succ]; rfl
theorem txT_end (a : List Q) : txT a a.length = txs a := by unfold txT; rw [List.take_length]; simp
theorem txT_at {a : List Q} (h : allPos a = true) (i : Nat) : (txT a i)[inL (a.take i)]? = some (col [] (a.take i)).2 := by
  unfold txT txs
  have hl := col_length (a.take i) (allPos_take h i) []
  rw [List.append_assoc, List.getElem?_append_right (by simp [hl]), List.length_map, hl, Nat.sub_self]; rfl
theorem txT_next {a : List Q} (h : allPos a = true) (i : Nat) (q : Q) (hq : a[i]? = some q) : txT a (i + 1) = (txT a i).set (inL (a.take i)) ((col [] (a.take i)).2 ++ txt1 q) ∧ inL (a.take (i + 1)) = inL (a.take i) + in1 q := by
  have hi : a.take (i + 1) = a.take i ++ [q] := by rw [List.take_add_one, hq]; rfl
  have e1 : inL (a.take (i + 1)) = inL (a.take i) + in1 q := by rw [hi, inL_append]; show _ + (in1 q + 0) = _; omega
  refine ⟨?_, e1⟩
  have hp := allPos_take h (i + 1)
  rw [hi, allPos_cat] at hp
  simp only [Bool.and_eq_true] at hp
  have hl := col_length (a.take i) hp.1 []
  have hle := inL_take_le' a (i + 1)
  have hll : ((col [] (a.take i)).1.map Prod.fst).length = inL (a.take i) := by rw [List.length_map, hl]
  unfold txT
  rw [e1] at hle ⊢
  rw [hi]
  unfold txs
  rw [List.append_assoc, List.append_assoc, List.set_append_right _ _ (by omega), hll, Nat.sub_self]
  show _ = _ ++ (((col [] (a.take i)).2 ++ txt1 q) :: List.replicate _ _)
  cases q with
  | I t => rw [col_snoc_I]; simp [txt1, in1]
  | R n =>
    have hn : 0 < n := by have := hp.2; simpa [allPos, pos] using this
    have hle' : inL (a.take i) + n ≤ inL a := hle
    rw [col_snoc_R]
    simp only [List.map_append, List.map_cons, List.map_replicate, txt1, List.append_nil, List.append_assoc, List.cons_append]
    congr 2
    rw [show inL a - inL (a.take i) = (n - 1) + ((inL a - (inL (a.take i) + n)) + 1) by omega, ← List.replicate_append_replicate]
    rfl
  | D n =>
    have hn : 0 < n := by have := hp.2; simpa [allPos, pos] using this
    have hle' : inL (a.take i) + n ≤ inL a := hle
    rw [col_snoc_D]
    simp only [List.map_append, List.map_cons, List.map_replicate, txt1, List.append_nil, List.append_assoc, List.cons_append]
    congr 2
    rw [show inL a - inL (a.take i) = (n - 1) + ((inL a - (inL (a.take i) + n)) + 1) by omega, ← List.replicate_append_replicate]
    rfl
theorem col_out (l : List Q) : ∀ p, (col p l).2.length ≤ p.length + outL l ∧ ∀ c ∈ (col p l).1, c.1.length ≤ p.length + outL l := by
  induction l with
  | nil => intro p; exact ⟨Nat.le_refl _, fun c hc => by cases hc⟩
  | cons q r ih =>
    intro p
    cases q with
    | I s =>
      obtain ⟨h1, h2⟩ := ih (p ++ s)
      rw [List.length_append] at h1 h2
      have e : outL (.I s :: r) = s.length + outL r := rfl
      exact ⟨by rw [e]; show (col (p ++ s) r).2.length ≤ _; omega, fun c hc => by have := h2 c hc; omega⟩
    | R n =>
      obtain ⟨h1, h2⟩ := ih []
      rw [List.length_nil] at h1 h2
      have e : outL (.R n :: r) = n + outL r := rfl
      refine ⟨by rw [e]; show (col [] r).2.length ≤ _; omega, fun c hc => ?_⟩
      rcases List.mem_cons.1 (show c ∈ (p, true) :: (List.replicate (n - 1) ([], true) ++ (col [] r).1) from hc) with rfl | hc
      · show p.length ≤ _; omega
      · rcases List.mem_append.1 hc with hc | hc
        · rw [(List.mem_replicate.1 hc).2]; exact Nat.zero_le _
        · have := h2 c hc; omega
    | D n =>
      obtain ⟨h1, h2⟩ := ih []
      rw [List.length_nil] at h1 h2
      have e : outL (.D n :: r) = 0 + outL r := rfl
      refine ⟨by rw [e]; show (col [] r).2.length ≤ _; omega, fun c hc => ?_⟩
      rcases List.mem_cons.1 (show c ∈ (p, false) :: (List.replicate (n - 1) ([], false) ++ (col [] r).1) from hc) with rfl | hc
      · show p.length ≤ _; omega
      · rcases List.mem_append.1 hc with hc | hc
        · rw [(List.mem_replicate.1 hc).2]; exact Nat.zero_le _
        · have := h2 c hc; omega
theorem col_last (l : List Q) : (col [] l).2.length ≤ outL l := by have := (col_out l []).1; rw [List.length_nil] at this; omega
theorem txs_bd (l : List Q) : ∀ t ∈ txs l, t.length ≤ outL l := fun t ht => by
  obtain ⟨h1, h2⟩ := col_out l []
  rw [List.length_nil] at h1 h2
  rcases List.mem_append.1 ht with ht | ht
  · obtain ⟨c, hc, rfl⟩ := List.mem_map.1 ht
    have := h2 c hc; omega
  · rw [List.mem_singleton.1 ht]; omega

/-! ### What is kept -/
def kb1 : Q → Bool
  | .R _ => true
  | _ => false
def kpq (q : Q) : List Bool := List.replicate (in1 q) (kb1 q)
def kp (l : List Q) : List Bool := l.flatMap kpq
theorem kp_cons (q : Q) (r : List Q) : kp (q :: r) = kpq q ++ kp r := rfl
theorem kp_push (q : Q) (l : List Q) : kp (push q l) = kp (q :: l) := by
  have rr : ∀ n m, kpq (.R n) ++ kpq (.R m) = kpq (.R (n + m)) := fun n m => List.replicate_append_replicate
  have dd : ∀ n m, kpq (.D n) ++ kpq (.D m) = kpq (.D (n + m)) := fun n m => List.replicate_append_replicate
  have ii : ∀ t, kpq (.I t) = [] := fun _ => rfl
  cases q with
  | R n =>
    cases l with
    | nil => rfl
    | cons p r =>
      cases p with
      | R m => show kp (.R (n + m) :: r) = _; rw [kp_cons, kp_cons, kp_cons, ← List.append_assoc, rr]
      | I t => rfl
      | D m => rfl
  | I t =>
    cases l with
    | nil => rfl
    | cons p r => cases p <;> rfl
  | D n =>
    match l with
    | [] => rfl
    | .R k :: r => rfl
    | .D k :: r => show kp (.D (n + k) :: r) = _; rw [kp_cons, kp_cons, kp_cons, ← List.append_assoc, dd]
    | [.I s] => rfl
    | .I s :: .D k :: r => show kp (.I s :: .D (n + k) :: r) = _; rw [kp_cons, kp_cons, kp_cons, kp_cons, kp_cons, ii, List.nil_append, List.nil_append, ← List.append_assoc, dd]
    | .I s :: .R k :: r => rfl
    | .I s :: .I u :: r => rfl
theorem kp_nf (a : List Q) : kp (nf a) = kp a := by
  induction a with
  | nil => rfl
  | cons p a ih => rw [nf_cons, kp_push, kp_cons, kp_cons, ih]
theorem kp_col {l : List Q} (h : allPos l = true) : ∀ p, (col p l).1.map Prod.snd = kp l := by
  induction l with
  | nil => intro p; rfl
  | cons q r ih =>
    intro p
    have h0 : pos q = true ∧ allPos r = true := by simpa [allPos] using h
    cases q with
    | I t => exact ih h0.2 _
    | R n =>
      obtain ⟨m, rfl⟩ : ∃ m, n = m + 1 := ⟨n - 1, by have : 0 < n := by simpa [pos] using h0.1
                                                     omega⟩
      show true :: (List.replicate (m + 1 - 1) ([], true) ++ (col [] r).1).map Prod.snd = List.replicate (m + 1) true ++ kp r
      rw [List.map_append, ih h0.2, Nat.add_sub_cancel, List.map_replicate, List.replicate_succ]; rfl
    | D n =>
      obtain ⟨m, rfl⟩ : ∃ m, n = m + 1 := ⟨n - 1, by have : 0 < n := by simpa [pos] using h0.1
                                                     omega⟩
      show false :: (List.replicate (m + 1 - 1) ([], false) ++ (col [] r).1).map Prod.snd = List.replicate (m + 1) false ++ kp r
      rw [List.map_append, ih h0.2, Nat.add_sub_cancel, List.map_replicate, List.replicate_succ]; rfl
theorem kp_len (l : List Q) : (kp l).length = inL l := by
  induction l with
  | nil => rfl
  | cons q r ih => rw [kp_cons, List.length_append, ih]; unfold kpq; rw [List.length_replicate]; rfl
theorem kp_take (a : List Q) (i : Nat) (q : Q) (h : a[i]? = some q) : kp (a.take (i + 1)) = kp (a.take i) ++ kpq q := by
  rw [List.take_add_one, h]
  show kp (a.take i ++ [q]) = _
  unfold kp; rw [List.flatMap_append]; simp

/-! ### Columns by offset -/
theorem cA_kp {a : List Q} (h : allPos a = true) : (cA a).map Prod.snd = kp a := by unfold cA; rw [kp_col (allPos_nf _ h), kp_nf]
theorem cA_txs (a : List Q) : (cA a).map Prod.fst ++ [cZ a] = txs (nf a) := rfl
theorem txs_at {a : List Q} {p : Nat} {s : List UInt8} {k : Bool} (h : (cA a)[p]? = some (s, k)) : (txs (nf a))[p]? = some s := by
  rw [← cA_txs, List.getElem?_append_left (by have := (List.getElem?_eq_some_iff.1 h).1; simpa using this), List.getElem?_map, h]; rfl
theorem txs_last {a : List Q} : (txs (nf a))[(cA a).length]? = some (cZ a) := by
  rw [← cA_txs, List.getElem?_append_right (by simp), List.length_map, Nat.sub_self]; rfl
theorem kp_at {a : List Q} (ha : allPos a = true) {p : Nat} {s : List UInt8} {k : Bool} (h : (cA a)[p]? = some (s, k)) : (kp a)[p]? = some k := by
  rw [← cA_kp ha, List.getElem?_map, h]; rfl

/-! ### The walk that merges -/
def agR (first : Bool) (ca : List Col) (sl : List UInt8) (cb : List Col) (tl : List UInt8) (p i : Nat) : List Int := if p ≤ ca.length then tfE first i (ca.drop p) sl (cb.drop p) tl else []
def agN (ca : List Col) (sl : List UInt8) (p : Nat) : Nat := if p ≤ ca.length then (ent p (ca.drop p) sl).length else 0
/-- Behind p offsets: what was written, and where the result of the first delta stands. -/
structure Ag (first : Bool) (ca : List Col) (sl : List UInt8) (cb : List Col) (tl : List UInt8) (p i : Nat) (out : List Int) : Prop where
  eq : tfE first 0 ca sl cb tl = out ++ agR first ca sl cb tl p i
  pos : i + agN ca sl p = (ent 0 ca sl).length
theorem Ag.zero (first : Bool) (ca : List Col) (sl : List UInt8) (cb : List Col) (tl : List UInt8) : Ag first ca sl cb tl 0 0 [] := by
  refine ⟨?_, ?_⟩
  · unfold agR; rw [if_pos (Nat.zero_le _)]; rfl
  · unfold agN; rw [if_pos (Nat.zero_le _)]; simp
theorem ent_length_k (c : List Col) (l : List UInt8) : ∀ k j, (ent k c l).length = (ent j c l).length := by
  induction c with
  | nil => intro k j; rfl
  | cons x c ih =>
    intro k j
    obtain ⟨s, b⟩ := x
    show (s.map neg ++ ((if b then [(k : Int)] else []) ++ ent (k + 1) c l)).length = (s.map neg ++ ((if b then [(j : Int)] else []) ++ ent (j + 1) c l)).length
    simp only [List.length_append]
    rw [ih (k + 1) (j + 1)]
    cases b <;> rfl
theorem Ag.next {first : Bool} {ca : List Col} {sl : List UInt8} {cb : List Col} {tl : List UInt8} {p i : Nat} {out : List Int} (h : Ag first ca sl cb tl p i out) {s t : List UInt8} {k l : Bool} (ha : ca[p]? = some (s, k)) (hb : cb[p]? = some (t, l)) :
    Ag first ca sl cb tl (p + 1) (i + s.length + (if k then 1 else 0)) (out ++ blkE first i s t ++ (if k && l then [((i + s.length : Nat) : Int)] else [])) := by
  obtain ⟨hlt, ea⟩ := List.getElem?_eq_some_iff.1 ha
  obtain ⟨hlb, eb⟩ := List.getElem?_eq_some_iff.1 hb
  have da : ca.drop p = (s, k) :: ca.drop (p + 1) := by rw [List.drop_eq_getElem_cons hlt, ea]
  have db : cb.drop p = (t, l) :: cb.drop (p + 1) := by rw [List.drop_eq_getElem_cons hlb, eb]
  have h1 := h.eq
  have h2 := h.pos
  unfold agR at h1
  unfold agN at h2
  rw [if_pos (Nat.le_of_lt hlt), da, db] at h1
  rw [if_pos (Nat.le_of_lt hlt), da] at h2
  refine ⟨?_, ?_⟩
  · rw [h1]; unfold agR; rw [if_pos (show p + 1 ≤ ca.length from hlt)]
    simp only [tfE, List.append_assoc]
  · rw [← h2]; unfold agN; rw [if_pos (show p + 1 ≤ ca.length from hlt)]
    simp only [ent, List.length_append, List.length_map]
    cases k <;> simp <;> omega
theorem Ag.last {first : Bool} {ca : List Col} {sl : List UInt8} {cb : List Col} {tl : List UInt8} {i : Nat} {out : List Int} (h : Ag first ca sl cb tl ca.length i out) (hl : ca.length = cb.length) :
    Ag first ca sl cb tl (ca.length + 1) (i + sl.length) (out ++ blkE first i sl tl) := by
  have h1 := h.eq
  have h2 := h.pos
  unfold agR at h1
  unfold agN at h2
  rw [if_pos (Nat.le_refl _), List.drop_length, show cb.drop ca.length = [] by rw [hl, List.drop_length]] at h1
  rw [if_pos (Nat.le_refl _), List.drop_length] at h2
  refine ⟨?_, ?_⟩
  · rw [h1]; unfold agR; rw [if_neg (by omega), List.append_nil]; rfl
  · rw [← h2]; unfold agN; rw [if_neg (by omega)]; simp [ent]
theorem Ag.fin {first : Bool} {ca : List Col} {sl : List UInt8} {cb : List Col} {tl : List UInt8} {i : Nat} {out : List Int} (h : Ag first ca sl cb tl (ca.length + 1) i out) : out = tfE first 0 ca sl cb tl ∧ i = (ent 0 ca sl).length := by
  have h1 := h.eq
  have h2 := h.pos
  unfold agR at h1
  unfold agN at h2
  rw [if_neg (by omega)] at h1 h2
  exact ⟨by rw [h1, List.append_nil], by omega⟩
theorem Ag.le {first : Bool} {ca : List Col} {sl : List UInt8} {cb : List Col} {tl : List UInt8} {p i : Nat} {out : List Int} (h : Ag first ca sl cb tl p i out) : out.length ≤ (tfE first 0 ca sl cb tl).length ∧ i ≤ (ent 0 ca sl).length := by
  have h1 := h.eq
  have h2 := h.pos
  exact ⟨by rw [h1, List.length_append]; omega, by omega⟩
theorem tfE_len (first : Bool) (ca : List Col) (sl tl : List UInt8) : ∀ (cb : List Col) (i k : Nat), ca.length = cb.length → (tfE first i ca sl cb tl).length ≤ (ent k ca sl).length + (ent k cb tl).length := by
  have hb : ∀ (i : Nat) (s t : List UInt8), (blkE first i s t).length = s.length + t.length := fun i s t => by
    cases first <;> simp [blkE, run] <;> omega
  induction ca with
  | nil =>
    intro cb i k h
    cases cb with
    | cons _ _ => cases h
    | nil => show (blkE first i sl tl).length ≤ (sl.map neg).length + (tl.map neg).length; rw [hb]; simp
  | cons x ca ih =>
    intro cb i k h
    cases cb with
    | nil => cases h
    | cons y cb =>
      obtain ⟨s, b⟩ := x
      obtain ⟨t, l⟩ := y
      have i0 := ih cb (i + s.length + (if b then 1 else 0)) (k + 1) (by simpa using h)
      show (blkE first i s t ++ ((if b && l then [((i + s.length : Nat) : Int)] else []) ++ tfE first (i + s.length + (if b then 1 else 0)) ca sl cb tl)).length ≤ (s.map neg ++ ((if b then [(k : Int)] else []) ++ ent (k + 1) ca sl)).length + (t.map neg ++ ((if l then [(k : Int)] else []) ++ ent (k + 1) cb tl)).length
      simp only [List.length_append, List.length_map, hb]
      cases b <;> cases l <;> simp at i0 ⊢ <;> omega
theorem outL_tf {first : Bool} {a b : List Q} (ha : allPos a = true) (hb : allPos b = true) (h : inL a = inL b) : outL (tf first a b) ≤ outL a + outL b := by
  have t := tf_of (first := first) ha hb h
  obtain ⟨l1, e1⟩ := cols_of ha
  obtain ⟨l2, e2⟩ := cols_of hb
  have := tfE_len first (cA a) (cZ a) (cZ b) (cA b) 0 0 (by omega)
  rw [← t.ats, e1, e2, atoms_length, atoms_length, atoms_length] at this
  exact this
/-- Are the columns before p apart? -/
theorem apart_at (ca : List Col) (sl tl : List UInt8) : ∀ (cb : List Col), ca.length = cb.length → (apart ca sl cb tl = true ↔ (∀ (p : Nat) (s : List UInt8) (k : Bool) (t : List UInt8) (l : Bool), ca[p]? = some (s, k) → cb[p]? = some (t, l) → (s.isEmpty || t.isEmpty) = true ∧ (k || l) = true) ∧ (sl.isEmpty || tl.isEmpty) = true) := by
  induction ca with
  | nil =>
    intro cb h
    cases cb with
    | cons _ _ => cases h
    | nil => exact ⟨fun h => ⟨fun p s k t l hp => by simp at hp, h⟩, fun h => h.2⟩
  | cons x ca ih =>
    intro cb h
    cases cb with
    | nil => cases h
    | cons y cb =>
      obtain ⟨s, b⟩ := x
      obtain ⟨t, l⟩ := y
      show ((s.isEmpty || t.isEmpty) && (b || l) && apart ca sl cb tl) = true ↔ _
      rw [Bool.and_eq_true, Bool.and_eq_true, ih cb (by simpa using h)]
      constructor
      · rintro ⟨⟨h1, h2⟩, h3, h4⟩
        refine ⟨fun p s' k' t' l' hp hq => ?_, h4⟩
        cases p with
        | zero =>
          have e1 := Option.some.inj (show some (s, b) = some (s', k') from hp)
          have e2 := Option.some.inj (show some (t, l) = some (t', l') from hq)
          cases e1; cases e2; exact ⟨h1, h2⟩
        | succ p => exact h3 p s' k' t' l' hp hq
      · rintro ⟨h1, h2⟩
        exact ⟨h1 0 s b t l rfl rfl, fun p s' k' t' l' hp hq => h1 (p + 1) s' k' t' l' hp hq, h2⟩
end Go.Proofs.Ytmljagkndnobdaa.D
