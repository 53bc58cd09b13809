/- Pieces as they come, valid or not: what Check answers, what the sizes are, and how valid ones read as pieces of the mathematics. It speaks of no program. -/
import Derived.Test.YtlkkgjkbjjifmaaDoorDeltaMath
namespace Go.Proofs.YtlkkgjkbjjifmaaDoor.D

/-- A piece as it comes: its kind, its number, its text. -/
structure P where
  k : Int
  n : Int
  t : ByteArray
def most : Int := 1048576
def vP (p : P) : Bool :=
  if p.k = 2 then decide (p.n = 0) && decide (p.t.size ≠ 0) else (decide (p.k = 1) || decide (p.k = 3)) && decide (1 ≤ p.n) && decide (p.t.size = 0)
/-- The error of the pieces, what they consumed and produced so far being i and o. -/
def chkF : Int → Int → List P → Int
  | _, _, [] => 0
  | i, o, p :: r =>
    if vP p = false then 2
    else if p.k ≠ 2 ∧ most - i < p.n then 5
    else if (p.k = 1 ∧ most - o < p.n) ∨ most - o < (p.t.size : Int) then 5
    else chkF (if p.k = 2 then i else i + p.n) ((if p.k = 1 then o + p.n else o) + (p.t.size : Int)) r
def chk (l : List P) : Int := if 4096 < l.length then 5 else chkF 0 0 l
/-- What pieces consume and produce. -/
def inP : List P → Int
  | [] => 0
  | p :: r => p.n + inP r
def outP : List P → Int
  | [] => 0
  | p :: r => (if p.k = 1 then p.n else 0) + (p.t.size : Int) + outP r

/-! ### Valid pieces -/
def raw : Q → P
  | .R n => ⟨1, n, ⟨#[]⟩⟩
  | .I t => ⟨2, 0, ⟨t.toArray⟩⟩
  | .D n => ⟨3, n, ⟨#[]⟩⟩
theorem bytes_eq (t : ByteArray) : (⟨t.data.toList.toArray⟩ : ByteArray) = t := by cases t; simp
theorem empty_of_size {t : ByteArray} (h : t.size = 0) : t = ⟨#[]⟩ := by
  apply ByteArray.ext
  exact Array.eq_empty_of_size_eq_zero h
theorem size_e : (⟨#[]⟩ : ByteArray).size = 0 := rfl
theorem size_l (t : List UInt8) : (⟨t.toArray⟩ : ByteArray).size = t.length := by show t.toArray.size = _; simp
theorem vP_two {n : Int} {t : ByteArray} : vP ⟨2, n, t⟩ = (decide (n = 0) && decide (t.size ≠ 0)) := by unfold vP; rw [if_pos rfl]
theorem vP_else {k n : Int} {t : ByteArray} (h : k ≠ 2) : vP ⟨k, n, t⟩ = ((decide (k = 1) || decide (k = 3)) && decide (1 ≤ n) && decide (t.size = 0)) := by unfold vP; rw [if_neg h]
/-- The three forms of a valid piece. -/
theorem vP_forms {p : P} (h : vP p = true) : (∃ n : Nat, 0 < n ∧ p = ⟨1, n, ⟨#[]⟩⟩) ∨ (∃ t : ByteArray, 0 < t.size ∧ p = ⟨2, 0, t⟩) ∨ (∃ n : Nat, 0 < n ∧ p = ⟨3, n, ⟨#[]⟩⟩) := by
  obtain ⟨k, n, t⟩ := p
  by_cases hk : k = 2
  · subst hk
    rw [vP_two] at h
    simp only [Bool.and_eq_true, decide_eq_true_eq] at h
    exact .inr (.inl ⟨t, by omega, by rw [h.1]⟩)
  · rw [vP_else hk] at h
    simp only [Bool.and_eq_true, Bool.or_eq_true, decide_eq_true_eq] at h
    obtain ⟨⟨h1, h2⟩, h3⟩ := h
    have ht : t = ⟨#[]⟩ := empty_of_size h3
    have hn : ((n.toNat : Nat) : Int) = n := by omega
    rcases h1 with rfl | rfl
    · exact .inl ⟨n.toNat, by omega, by rw [ht, hn]⟩
    · exact .inr (.inr ⟨n.toNat, by omega, by rw [ht, hn]⟩)
theorem raw_of_vP {p : P} (h : vP p = true) : ∃ q, pos q = true ∧ raw q = p := by
  rcases vP_forms h with ⟨n, hn, rfl⟩ | ⟨t, ht, rfl⟩ | ⟨n, hn, rfl⟩
  · exact ⟨.R n, by simpa [pos] using hn, rfl⟩
  · refine ⟨.I t.data.toList, ?_, ?_⟩
    · cases hd : t.data.toList with
      | nil =>
        have : t.data.toList.length = t.size := by simp
        rw [hd] at this; simp at this; omega
      | cons a r => rfl
    · show (⟨2, 0, ⟨t.data.toList.toArray⟩⟩ : P) = _
      rw [bytes_eq]
  · exact ⟨.D n, by simpa [pos] using hn, rfl⟩
theorem vP_raw {q : Q} (h : pos q = true) : vP (raw q) = true := by
  cases q with
  | R n =>
    simp only [pos, decide_eq_true_eq] at h
    rw [raw, vP_else (by omega), size_e, decide_eq_true (show (1 : Int) ≤ n by omega)]; rfl
  | D n =>
    simp only [pos, decide_eq_true_eq] at h
    rw [raw, vP_else (by omega), size_e, decide_eq_true (show (1 : Int) ≤ n by omega)]; rfl
  | I t =>
    cases t with
    | nil => simp [pos] at h
    | cons b t => rw [raw, vP_two, size_l, decide_eq_true (show (b :: t).length ≠ 0 by simp)]; rfl
theorem raw_inj {p q : Q} (h : raw p = raw q) : p = q := by
  cases p <;> cases q <;> simp [raw] at h
  all_goals (first | (subst h; rfl) | (have := Int.ofNat_inj.1 h; subst this; rfl))
theorem map_raw_inj : ∀ {a b : List Q}, a.map raw = b.map raw → a = b
  | [], [], _ => rfl
  | [], _ :: _, h => by simp at h
  | _ :: _, [], h => by simp at h
  | p :: a, q :: b, h => by
    simp only [List.map_cons, List.cons.injEq] at h
    rw [raw_inj h.1, map_raw_inj h.2]
theorem valid_raw (l : List P) (h : ∀ p ∈ l, vP p = true) : ∃ a, allPos a = true ∧ a.map raw = l := by
  induction l with
  | nil => exact ⟨[], rfl, rfl⟩
  | cons p l ih =>
    obtain ⟨q, hq, rfl⟩ := raw_of_vP (h p (List.mem_cons_self))
    obtain ⟨a, ha, rfl⟩ := ih (fun x hx => h x (List.mem_cons_of_mem _ hx))
    exact ⟨q :: a, by unfold allPos at *; simp [hq, ha], rfl⟩
theorem inP_raw (a : List Q) : inP (a.map raw) = (inL a : Int) := by
  induction a with
  | nil => rfl
  | cons q a ih => cases q <;> simp [inP, inL, in1, raw, ih]
theorem outP_raw (a : List Q) : outP (a.map raw) = (outL a : Int) := by
  induction a with
  | nil => rfl
  | cons q a ih => cases q <;> simp [outP, outL, out1, raw, ih, size_l]
theorem chkF_bad (i o : Int) (p : P) (r : List P) (h : vP p = false) : chkF i o (p :: r) = 2 := by rw [chkF, if_pos h]
theorem chkF_R (i o : Int) (n : Nat) (r : List P) (hn : 0 < n) (ho : o ≤ most) : chkF i o (⟨1, n, ⟨#[]⟩⟩ :: r) = if most - i < n then 5 else if most - o < n then 5 else chkF (i + n) (o + n) r := by
  have hv : ¬ vP ⟨1, (n : Int), ⟨#[]⟩⟩ = false := by rw [show vP ⟨1, (n : Int), ⟨#[]⟩⟩ = true from vP_raw (q := .R n) (by simpa [pos] using hn)]; simp
  rw [chkF, if_neg hv]
  by_cases c1 : most - i < (n : Int)
  · rw [if_pos ⟨show (1 : Int) ≠ 2 by decide, c1⟩, if_pos c1]
  · rw [if_neg (fun h => c1 h.2), if_neg c1]
    by_cases c2 : most - o < (n : Int)
    · rw [if_pos (.inl ⟨rfl, c2⟩), if_pos c2]
    · rw [if_neg (by rintro (⟨_, h⟩ | h); · exact c2 h
                     · rw [size_e] at h; omega), if_neg c2]
      show chkF (i + n) (o + n + ((⟨#[]⟩ : ByteArray).size : Int)) r = _
      rw [size_e]; simp
theorem chkF_I (i o : Int) (t : ByteArray) (r : List P) (ht : 0 < t.size) : chkF i o (⟨2, 0, t⟩ :: r) = if most - o < (t.size : Int) then 5 else chkF i (o + t.size) r := by
  have hv : ¬ vP ⟨2, 0, t⟩ = false := by rw [vP_two, decide_eq_true (show t.size ≠ 0 by omega)]; simp
  rw [chkF, if_neg hv, if_neg (fun h => h.1 rfl)]
  by_cases c2 : most - o < (t.size : Int)
  · rw [if_pos (.inr c2), if_pos c2]
  · rw [if_neg (by rintro (⟨h, _⟩ | h); · exact absurd (show (2 : Int) = 1 from h) (by decide)
                   · exact c2 h), if_neg c2]
    rfl
theorem chkF_D (i o : Int) (n : Nat) (r : List P) (hn : 0 < n) (ho : o ≤ most) : chkF i o (⟨3, n, ⟨#[]⟩⟩ :: r) = if most - i < n then 5 else chkF (i + n) o r := by
  have hv : ¬ vP ⟨3, (n : Int), ⟨#[]⟩⟩ = false := by rw [show vP ⟨3, (n : Int), ⟨#[]⟩⟩ = true from vP_raw (q := .D n) (by simpa [pos] using hn)]; simp
  rw [chkF, if_neg hv]
  by_cases c1 : most - i < (n : Int)
  · rw [if_pos ⟨show (3 : Int) ≠ 2 by decide, c1⟩, if_pos c1]
  · rw [if_neg (fun h => c1 h.2), if_neg c1, if_neg (by rintro (⟨h, _⟩ | h); · exact absurd (show (3 : Int) = 1 from h) (by decide)
                                                        · rw [size_e] at h; omega)]
    show chkF (i + n) (o + ((⟨#[]⟩ : ByteArray).size : Int)) r = _
    rw [size_e]; simp
/-- What makes a check succeed. -/
theorem chkF_ok (a : List Q) (pa : allPos a = true) : ∀ i o : Int, 0 ≤ i → i ≤ most → 0 ≤ o → o ≤ most → (chkF i o (a.map raw) = 0 ↔ i + inL a ≤ most ∧ o + outL a ≤ most) := by
  induction a with
  | nil => intro i o _ _ _ _; simp [chkF, inL, outL]; omega
  | cons q a ih =>
    intro i o h1 h2 h3 h4
    unfold allPos at pa
    simp only [List.all_cons, Bool.and_eq_true] at pa
    have ih' := ih pa.2
    cases q with
    | R n =>
      have hn : 0 < n := by simpa [pos] using pa.1
      rw [List.map_cons, raw, chkF_R i o n _ hn h4]
      simp only [inL, in1, outL, out1]
      by_cases c1 : most - i < (n : Int)
      · rw [if_pos c1]; simp; omega
      · rw [if_neg c1]
        by_cases c2 : most - o < (n : Int)
        · rw [if_pos c2]; simp; omega
        · rw [if_neg c2, ih' (i + n) (o + n) (by omega) (by omega) (by omega) (by omega)]; omega
    | I t =>
      have ht : 0 < t.length := by cases t with
        | nil => simp [pos] at pa
        | cons => simp
      rw [List.map_cons, raw, chkF_I i o _ _ (by rw [size_l]; exact ht), size_l]
      simp only [inL, in1, outL, out1]
      by_cases c2 : most - o < (t.length : Int)
      · rw [if_pos c2]; simp; omega
      · rw [if_neg c2, ih' i (o + t.length) (by omega) (by omega) (by omega) (by omega)]; omega
    | D n =>
      have hn : 0 < n := by simpa [pos] using pa.1
      rw [List.map_cons, raw, chkF_D i o n _ hn h4]
      simp only [inL, in1, outL, out1]
      by_cases c1 : most - i < (n : Int)
      · rw [if_pos c1]; simp; omega
      · rw [if_neg c1, ih' (i + n) o (by omega) (by omega) (by omega) (by omega)]; omega
theorem chkF_valid : ∀ (l : List P) (i o : Int), chkF i o l = 0 → ∀ p ∈ l, vP p = true
  | [], _, _, _, p, hp => by cases hp
  | q :: r, i, o, h, p, hp => by
    unfold chkF at h
    by_cases hv : vP q = false
    · simp [hv] at h
    · rw [if_neg hv] at h
      by_cases c1 : q.k ≠ 2 ∧ most - i < q.n
      · rw [if_pos c1] at h; cases h
      · rw [if_neg c1] at h
        by_cases c2 : (q.k = 1 ∧ most - o < q.n) ∨ most - o < (q.t.size : Int)
        · rw [if_pos c2] at h; cases h
        · rw [if_neg c2] at h
          rcases List.mem_cons.1 hp with rfl | hp
          · simpa using hv
          · exact chkF_valid r _ _ h p hp
/-- A delta is valid exactly if it is a list of valid pieces that are not too many and not too long. -/
theorem chk_iff (l : List P) : chk l = 0 ↔ ∃ a : List Q, allPos a = true ∧ a.map raw = l ∧ a.length ≤ 4096 ∧ inL a ≤ 1048576 ∧ outL a ≤ 1048576 := by
  unfold chk
  constructor
  · intro h
    by_cases hl : 4096 < l.length
    · rw [if_pos hl] at h; cases h
    · rw [if_neg hl] at h
      obtain ⟨a, pa, rfl⟩ := valid_raw l (chkF_valid l 0 0 h)
      have := (chkF_ok a pa 0 0 (by omega) (by unfold most; omega) (by omega) (by unfold most; omega)).1 h
      unfold most at this
      simp at hl
      exact ⟨a, pa, rfl, hl, by omega, by omega⟩
  · rintro ⟨a, pa, rfl, hl, hi, ho⟩
    rw [if_neg (by simp; omega)]
    exact (chkF_ok a pa 0 0 (by omega) (by unfold most; omega) (by omega) (by unfold most; omega)).2 ⟨by unfold most; omega, by unfold most; omega⟩
theorem chk_cases (l : List P) : chk l = 0 ∨ chk l = 2 ∨ chk l = 5 := by
  have key : ∀ (l : List P) (i o : Int), chkF i o l = 0 ∨ chkF i o l = 2 ∨ chkF i o l = 5 := by
    intro l
    induction l with
    | nil => intro i o; exact .inl rfl
    | cons p r ih =>
      intro i o
      unfold chkF
      split
      · exact .inr (.inl rfl)
      · split
        · exact .inr (.inr rfl)
        · split
          · exact .inr (.inr rfl)
          · exact ih _ _
  unfold chk
  split
  · exact .inr (.inr rfl)
  · exact key l 0 0
/-! ### Sizes of a beginning -/
theorem inP_snoc (l : List P) (k : Nat) (p : P) (h : l[k]? = some p) : inP (l.take (k + 1)) = inP (l.take k) + p.n := by
  have key : ∀ (a : List P) (p : P), inP (a ++ [p]) = inP a + p.n := by
    intro a p
    induction a with
    | nil => simp [inP]
    | cons q a ih => simp only [List.cons_append, inP, ih]; omega
  obtain ⟨hk, e⟩ := List.getElem?_eq_some_iff.1 h
  rw [List.take_succ_eq_append_getElem hk, e, key]
theorem outP_snoc (l : List P) (k : Nat) (p : P) (h : l[k]? = some p) : outP (l.take (k + 1)) = outP (l.take k) + (p.t.size : Int) + (if p.k = 1 then p.n else 0) := by
  have key : ∀ (a : List P) (p : P), outP (a ++ [p]) = outP a + (p.t.size : Int) + (if p.k = 1 then p.n else 0) := by
    intro a p
    induction a with
    | nil => simp only [List.nil_append, outP]; omega
    | cons q a ih => simp only [List.cons_append, outP, ih]; omega
  obtain ⟨hk, e⟩ := List.getElem?_eq_some_iff.1 h
  rw [List.take_succ_eq_append_getElem hk, e, key]
theorem sizes_bd (l : List P) (h : chk l = 0) (k : Nat) : 0 ≤ inP (l.take k) ∧ inP (l.take k) ≤ 1048576 ∧ 0 ≤ outP (l.take k) ∧ outP (l.take k) ≤ 1048576 := by
  obtain ⟨a, pa, rfl, _, hi, ho⟩ := (chk_iff l).1 h
  rw [← List.map_take, inP_raw, outP_raw]
  have e := List.take_append_drop k a
  have h1 : inL a = inL (a.take k) + inL (a.drop k) := by rw [← inL_append, e]
  have h2 : outL a = outL (a.take k) + outL (a.drop k) := by rw [← outL_append, e]
  omega
theorem piece_of_chk {l : List P} (h : chk l = 0) {k : Nat} {p : P} (hp : l[k]? = some p) : vP p = true := by
  unfold chk at h
  split at h
  · cases h
  · exact chkF_valid l 0 0 h p (List.mem_of_getElem? hp)
/-! ### The same pieces -/
def peq (p q : P) : Bool := p.k == q.k && p.n == q.n && p.t.data.toList == q.t.data.toList
theorem peq_iff (p q : P) : peq p q = true ↔ p = q := by
  obtain ⟨k, n, t⟩ := p
  obtain ⟨k', n', t'⟩ := q
  simp only [peq, Bool.and_eq_true, beq_iff_eq, P.mk.injEq, and_assoc]
  constructor
  · rintro ⟨h1, h2, h3⟩
    refine ⟨h1, h2, ?_⟩
    exact ByteArray.ext (Array.toList_inj.1 h3)
  · rintro ⟨h1, h2, h3⟩; exact ⟨h1, h2, by rw [h3]⟩
/-- Do the pieces agree from the k-th on? -/
def same : List P → List P → Bool
  | [], [] => true
  | p :: a, q :: b => peq p q && same a b
  | _, _ => false
theorem same_iff : ∀ (a b : List P), same a b = true ↔ a = b
  | [], [] => by simp [same]
  | [], _ :: _ => by simp [same]
  | _ :: _, [] => by simp [same]
  | p :: a, q :: b => by simp only [same, Bool.and_eq_true, peq_iff, same_iff a b, List.cons.injEq]
theorem same_len {a b : List P} (h : a.length ≠ b.length) : same a b = false := by
  rw [Bool.eq_false_iff]; intro e; exact h (by rw [(same_iff a b).1 e])
end Go.Proofs.YtlkkgjkbjjifmaaDoor.D
