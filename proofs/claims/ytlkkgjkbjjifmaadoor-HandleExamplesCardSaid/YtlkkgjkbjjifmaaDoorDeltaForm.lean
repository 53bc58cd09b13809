/- The plain mathematics of the reference's normal form: gap by gap, run by run. It speaks of no program. -/
import Derived.Test.YtlkkgjkbjjifmaaDoorDeltaRaw
namespace Go.Proofs.YtlkkgjkbjjifmaaDoor.D

def isR : Q → Bool
  | .R _ => true
  | _ => false
def txt1 : Q → List UInt8
  | .I t => t
  | _ => []
def del1 : Q → Nat
  | .D n => n
  | _ => 0
def ret1 : Q → Nat
  | .R n => n
  | _ => 0
def txt (g : List Q) : List UInt8 := (g.map txt1).flatten
def del (g : List Q) : Nat := (g.map del1).sum
def ret (g : List Q) : Nat := (g.map ret1).sum
def optI (t : List UInt8) (x : List Q) : List Q := if t = [] then x else pI t x
def optD (n : Nat) (x : List Q) : List Q := if n = 0 then x else pD n x
def optR (n : Nat) (x : List Q) : List Q := if n = 0 then x else pR n x
theorem pI_optI (s t : List UInt8) (x : List Q) (hs : s ≠ []) : pI s (optI t x) = optI (s ++ t) x := by
  have h2 : s ++ t ≠ [] := fun e => hs (List.append_eq_nil_iff.1 e).1
  by_cases ht : t = []
  · subst ht; rw [List.append_nil]; simp [optI, hs]
  · simp only [optI, ht, h2, if_false]; rw [pI_pI]
theorem pD_optD (n m : Nat) (x : List Q) (hn : 0 < n) : pD n (optD m x) = optD (n + m) x := by
  unfold optD
  rw [if_neg (show ¬ n + m = 0 by omega)]
  split
  · rename_i h; rw [h]; rfl
  · rw [pD_pD]
theorem pR_optR (n m : Nat) (x : List Q) (hn : 0 < n) : pR n (optR m x) = optR (n + m) x := by
  unfold optR
  rw [if_neg (show ¬ n + m = 0 by omega)]
  split
  · rename_i h; rw [h]; rfl
  · rw [pR_pR]
theorem pD_optI (n : Nat) (t : List UInt8) (x : List Q) : pD n (optI t x) = optI t (pD n x) := by
  unfold optI
  split
  · rfl
  · rw [pD_pI]
theorem ap_gap (g x : List Q) (hg : ∀ q ∈ g, isR q = false) (hp : allPos g = true) : ap g x = optI (txt g) (optD (del g) x) := by
  induction g with
  | nil => rfl
  | cons q g ih =>
    unfold allPos at hp
    simp only [List.all_cons, Bool.and_eq_true] at hp
    rw [ap_cons, ih (fun y hy => hg y (List.mem_cons_of_mem _ hy)) hp.2]
    cases q with
    | R n => have := hg _ (List.mem_cons_self); simp [isR] at this
    | I t =>
      have ht : t ≠ [] := by intro e; subst e; simp [pos] at hp
      show pI t (optI (txt g) _) = optI (t ++ txt g) (optD (0 + del g) x)
      rw [pI_optI _ _ _ ht, Nat.zero_add]
    | D n =>
      have hn : 0 < n := by simpa [pos] using hp.1
      show pD n (optI (txt g) _) = optI ([] ++ txt g) (optD (n + del g) x)
      rw [pD_optI, pD_optD _ _ _ hn, List.nil_append]
theorem ap_run (g x : List Q) (hg : ∀ q ∈ g, isR q = true) (hp : allPos g = true) : ap g x = optR (ret g) x := by
  induction g with
  | nil => rfl
  | cons q g ih =>
    unfold allPos at hp
    simp only [List.all_cons, Bool.and_eq_true] at hp
    rw [ap_cons, ih (fun y hy => hg y (List.mem_cons_of_mem _ hy)) hp.2]
    cases q with
    | I n => have := hg _ (List.mem_cons_self); simp [isR] at this
    | D n => have := hg _ (List.mem_cons_self); simp [isR] at this
    | R n =>
      have hn : 0 < n := by simpa [pos] using hp.1
      show pR n (optR (ret g) x) = optR (n + ret g) x
      rw [pR_optR _ _ _ hn]
/-- The pieces from k up to j. -/
def seg (a : List Q) (k j : Nat) : List Q := (a.take j).drop k
theorem seg_self (a : List Q) (k : Nat) : seg a k k = [] := by unfold seg; rw [List.drop_eq_nil_iff]; simp; omega
theorem seg_snoc (a : List Q) (k j : Nat) (q : Q) (h : a[j]? = some q) (hk : k ≤ j) : seg a k (j + 1) = seg a k j ++ [q] := by
  obtain ⟨hj, e⟩ := List.getElem?_eq_some_iff.1 h
  unfold seg
  rw [List.take_succ_eq_append_getElem hj, e, List.drop_append_of_le_length (by simp; omega)]
theorem seg_drop (a : List Q) (k j : Nat) (hk : k ≤ j) : a.drop k = seg a k j ++ a.drop j := by
  unfold seg
  have h := List.take_append_drop j a
  by_cases hj : j ≤ a.length
  · calc a.drop k = ((a.take j) ++ a.drop j).drop k := by rw [h]
      _ = _ := by rw [List.drop_append_of_le_length (by simp; omega)]
  · rw [List.take_of_length_le (by omega), List.drop_eq_nil_iff.2 (show a.length ≤ j by omega), List.append_nil]
theorem txt_snoc (g : List Q) (q : Q) : txt (g ++ [q]) = txt g ++ txt1 q := by simp [txt]
theorem del_snoc (g : List Q) (q : Q) : del (g ++ [q]) = del g + del1 q := by simp [del]
theorem ret_snoc (g : List Q) (q : Q) : ret (g ++ [q]) = ret g + ret1 q := by simp [ret]
theorem allPos_seg {a : List Q} (h : allPos a = true) (k j : Nat) : allPos (seg a k j) = true := by
  unfold allPos seg at *
  rw [List.all_eq_true] at *
  exact fun x hx => h x (List.mem_of_mem_take (List.mem_of_mem_drop hx))
theorem allPos_drop {a : List Q} (h : allPos a = true) (k : Nat) : allPos (a.drop k) = true := by
  unfold allPos at *
  rw [List.all_eq_true] at *
  exact fun x hx => h x (List.mem_of_mem_drop hx)
/-- Does a list begin with a piece that keeps? -/
def headR : List Q → Bool
  | .R _ :: _ => true
  | _ => false
theorem headR_nf_of (a : List Q) (h : headR a = false) : headR (nf a) = false := by
  cases a with
  | nil => rfl
  | cons q a =>
    rw [nf_cons]
    cases q with
    | R n => simp [headR] at h
    | I t =>
      show headR (pI t (nf a)) = false
      cases nf a with
      | nil => rfl
      | cons p r => cases p <;> rfl
    | D n =>
      show headR (pD n (nf a)) = false
      match nf a with
      | [] => rfl
      | .R k :: r => rfl
      | .D k :: r => rfl
      | [.I s] => rfl
      | .I s :: .D k :: r => rfl
      | .I s :: .R k :: r => rfl
      | .I s :: .I u :: r => rfl
theorem headR_nf_R (n : Nat) (a : List Q) : ∃ m r, nf (.R n :: a) = .R m :: r := by
  rw [nf_cons]
  show ∃ m r, pR n (nf a) = _
  cases nf a with
  | nil => exact ⟨_, _, rfl⟩
  | cons p r => cases p <;> exact ⟨_, _, rfl⟩
theorem pR_noR (n : Nat) (x : List Q) (h : headR x = false) : pR n x = .R n :: x := by
  cases x with
  | nil => rfl
  | cons p r => cases p <;> first | rfl | simp [headR] at h
/-- In front of a run, or of nothing, a gap is one insertion and one removal. -/
theorem gap_front (t : List UInt8) (n : Nat) (x : List Q) (h : x = [] ∨ ∃ m r, x = .R m :: r) : optI t (optD n x) = (if t = [] then [] else [.I t]) ++ ((if n = 0 then [] else [.D n]) ++ x) := by
  unfold optI optD
  rcases h with rfl | ⟨m, r, rfl⟩ <;> by_cases ht : t = [] <;> by_cases hn : n = 0 <;> simp [ht, hn, pI, pD]
/-- One round of the reference: the gap from k to j, the run from j to m. -/
theorem form_round (a : List Q) (pa : allPos a = true) (k j m : Nat) (hkj : k ≤ j) (hjm : j ≤ m) (_hm : m ≤ a.length) (hg : ∀ q ∈ seg a k j, isR q = false) (hr : ∀ q ∈ seg a j m, isR q = true)
    (hj : j = a.length ∨ headR (a.drop j) = true) (hm' : headR (a.drop m) = false) :
    nf (a.drop k) = (if txt (seg a k j) = [] then [] else [.I (txt (seg a k j))]) ++ ((if del (seg a k j) = 0 then [] else [.D (del (seg a k j))]) ++ ((if ret (seg a j m) = 0 then [] else [.R (ret (seg a j m))]) ++ nf (a.drop m))) := by
  have h1 : nf (a.drop k) = ap (seg a k j) (nf (a.drop j)) := by rw [seg_drop a k j hkj, nf_append]
  have h2 : nf (a.drop j) = ap (seg a j m) (nf (a.drop m)) := by rw [seg_drop a j m hjm, nf_append]
  have h3 : nf (a.drop j) = (if ret (seg a j m) = 0 then [] else [.R (ret (seg a j m))]) ++ nf (a.drop m) := by
    rw [h2, ap_run _ _ hr (allPos_seg pa _ _)]
    unfold optR
    by_cases hz : ret (seg a j m) = 0
    · simp [hz]
    · simp only [hz, if_false]
      rw [pR_noR _ _ (headR_nf_of _ hm')]; rfl
  rw [h1, ap_gap _ _ hg (allPos_seg pa _ _), gap_front, h3]
  rcases hj with rfl | hj
  · left; rw [List.drop_length]; rfl
  · right
    cases hd : a.drop j with
    | nil => rw [hd] at hj; simp [headR] at hj
    | cons q r =>
      cases q with
      | R n => exact headR_nf_R n r
      | I t => rw [hd] at hj; simp [headR] at hj
      | D n => rw [hd] at hj; simp [headR] at hj
theorem txt_len (g : List Q) : (txt g).length ≤ outL g := by
  induction g with
  | nil => exact Nat.le_refl _
  | cons q g ih =>
    have : txt (q :: g) = txt1 q ++ txt g := by simp [txt]
    rw [this, List.length_append]
    cases q <;> simp [txt1, outL, out1] <;> omega
theorem del_le (g : List Q) : del g ≤ inL g := by
  induction g with
  | nil => exact Nat.le_refl _
  | cons q g ih =>
    have : del (q :: g) = del1 q + del g := by simp [del]
    rw [this]
    cases q <;> simp [del1, inL, in1] <;> omega
theorem ret_le (g : List Q) : ret g ≤ inL g := by
  induction g with
  | nil => exact Nat.le_refl _
  | cons q g ih =>
    have : ret (q :: g) = ret1 q + ret g := by simp [ret]
    rw [this]
    cases q <;> simp [ret1, inL, in1] <;> omega
theorem seg_le (a : List Q) (k j : Nat) : inL (seg a k j) ≤ inL a ∧ outL (seg a k j) ≤ outL a := by
  have h1 := List.take_append_drop j a
  have h2 := List.take_append_drop k (a.take j)
  have e1 : inL a = inL (a.take j) + inL (a.drop j) := by rw [← inL_append, h1]
  have e2 : inL (a.take j) = inL ((a.take j).take k) + inL ((a.take j).drop k) := by rw [← inL_append, h2]
  have e3 : outL a = outL (a.take j) + outL (a.drop j) := by rw [← outL_append, h1]
  have e4 : outL (a.take j) = outL ((a.take j).take k) + outL ((a.take j).drop k) := by rw [← outL_append, h2]
  unfold seg
  omega
theorem seg_bd (a : List Q) (k j : Nat) : (txt (seg a k j)).length ≤ outL a ∧ del (seg a k j) ≤ inL a ∧ ret (seg a k j) ≤ inL a := by
  have := seg_le a k j
  exact ⟨Nat.le_trans (txt_len _) this.2, Nat.le_trans (del_le _) this.1, Nat.le_trans (ret_le _) this.1⟩
def oI (t : List UInt8) : List Q := if t = [] then [] else [.I t]
def oD (n : Nat) : List Q := if n = 0 then [] else [.D n]
def oR (n : Nat) : List Q := if n = 0 then [] else [.R n]
theorem form_step (a : List Q) (pa : allPos a = true) (k j m : Nat) (hkj : k ≤ j) (hjm : j ≤ m) (hm : m ≤ a.length) (hg : ∀ q ∈ seg a k j, isR q = false) (hr : ∀ q ∈ seg a j m, isR q = true)
    (hj : j = a.length ∨ headR (a.drop j) = true) (hm' : headR (a.drop m) = false) (x : List Q) (hx : x ++ nf (a.drop k) = nf a) :
    (((x ++ oI (txt (seg a k j))) ++ oD (del (seg a k j))) ++ oR (ret (seg a j m))) ++ nf (a.drop m) = nf a := by
  rw [← hx, form_round a pa k j m hkj hjm hm hg hr hj hm']
  simp only [List.append_assoc]
  rfl
theorem oI_len (t : List UInt8) : (oI t).length ≤ 1 := by unfold oI; split <;> simp
theorem oD_len (n : Nat) : (oD n).length ≤ 1 := by unfold oD; split <;> simp
theorem oR_len (n : Nat) : (oR n).length ≤ 1 := by unfold oR; split <;> simp
theorem oI_nil : oI [] = [] := rfl
theorem oI_pos {t : List UInt8} (h : t ≠ []) : oI t = [.I t] := by unfold oI; rw [if_neg h]
theorem oD_zero : oD 0 = [] := rfl
theorem oD_pos {n : Nat} (h : 0 < n) : oD n = [.D n] := by unfold oD; rw [if_neg (by omega)]
theorem oR_zero : oR 0 = [] := rfl
theorem oR_pos {n : Nat} (h : 0 < n) : oR n = [.R n] := by unfold oR; rw [if_neg (by omega)]
/-! ### The normal form of pieces as they come -/
def toQ (p : P) : Q := if p.k = 1 then .R p.n.toNat else if p.k = 2 then .I p.t.data.toList else .D p.n.toNat
theorem raw_toQ {p : P} (h : vP p = true) : raw (toQ p) = p := by
  rcases vP_forms h with ⟨n, _, rfl⟩ | ⟨t, _, rfl⟩ | ⟨n, _, rfl⟩
  · simp [toQ, raw]
  · simp [toQ, raw]
  · simp [toQ, raw]
theorem toQ_raw (q : Q) : toQ (raw q) = q := by cases q <;> simp [toQ, raw]
def qs (l : List P) : List Q := l.map toQ
def normP (l : List P) : List P := (nf (qs l)).map raw
theorem qs_raw (a : List Q) : qs (a.map raw) = a := by
  unfold qs; rw [List.map_map]
  conv => rhs; rw [← List.map_id a]
  exact List.map_congr_left fun q _ => toQ_raw q
theorem raw_qs {l : List P} (h : ∀ p ∈ l, vP p = true) : (qs l).map raw = l := by
  unfold qs; rw [List.map_map]
  conv => rhs; rw [← List.map_id l]
  exact List.map_congr_left fun p hp => raw_toQ (h p hp)
theorem normP_raw (a : List Q) : normP (a.map raw) = (nf a).map raw := by unfold normP; rw [qs_raw]
/-- A valid delta, as pieces of the mathematics. -/
theorem valid_qs {l : List P} (h : chk l = 0) : (qs l).map raw = l ∧ allPos (qs l) = true ∧ (qs l).length = l.length ∧ l.length ≤ 4096 ∧ inL (qs l) ≤ 1048576 ∧ outL (qs l) ≤ 1048576 := by
  obtain ⟨a, pa, rfl, h1, h2, h3⟩ := (chk_iff l).1 h
  rw [qs_raw]
  exact ⟨rfl, pa, by simp, by simpa using h1, h2, h3⟩
/-- A normal form is valid, if the delta is. -/
theorem chk_normP {l : List P} (h : chk l = 0) : chk (normP l) = 0 := by
  obtain ⟨_, pa, h0, h1, h2, h3⟩ := valid_qs h
  refine (chk_iff _).2 ⟨nf (qs l), allPos_nf _ pa, rfl, ?_, by rw [inL_nf]; exact h2, by rw [outL_nf]; exact h3⟩
  have := nf_length (qs l); omega
theorem normP_normP (l : List P) : normP (normP l) = normP l := by rw [normP, normP, qs_raw, nf_nf]
end Go.Proofs.YtlkkgjkbjjifmaaDoor.D
