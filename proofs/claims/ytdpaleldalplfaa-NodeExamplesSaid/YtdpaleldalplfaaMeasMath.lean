/- The plain mathematics of measures: how many of the first positions have a property, and which is the n-th that has it. It speaks of no program. -/
import Derived.Test.YtdpaleldalplfaaRunesMath
namespace Go.Proofs.Ytdpaleldalplfaa.M

/-- How many of the first k positions have p. -/
def num (p : Nat → Bool) : Nat → Nat
  | 0 => 0
  | k + 1 => num p k + if p k then 1 else 0
/-- The position below N that has p and before which n others have it. -/
def nth (p : Nat → Bool) (n : Int) : Nat → Option Nat
  | 0 => none
  | k + 1 => match nth p n k with
    | some x => some x
    | none => if p k && decide ((num p k : Int) = n) then some k else none

theorem num_succ (p : Nat → Bool) (k : Nat) : num p (k + 1) = num p k + if p k then 1 else 0 := rfl
theorem num_t {p : Nat → Bool} {k : Nat} (h : p k = true) : num p (k + 1) = num p k + 1 := by rw [num_succ, h]; rfl
theorem num_f {p : Nat → Bool} {k : Nat} (h : p k = false) : num p (k + 1) = num p k := by rw [num_succ, h]; rfl
theorem num_mono (p : Nat → Bool) {j k : Nat} (h : j ≤ k) : num p j ≤ num p k := by
  obtain ⟨d, rfl⟩ := Nat.le.dest h
  clear h
  induction d with
  | zero => exact Nat.le_refl _
  | succ d ih => rw [← Nat.add_assoc, num_succ]; omega
theorem num_le (p : Nat → Bool) (k : Nat) : num p k ≤ k := by
  induction k with
  | zero => exact Nat.le_refl _
  | succ k ih => rw [num_succ]; split <;> omega
theorem num_lt {p : Nat → Bool} {j k : Nat} (h : j < k) (hp : p j = true) : num p j < num p k := by
  have := num_mono p (show j + 1 ≤ k from h)
  rw [num_t hp] at this; omega
theorem num_congr {p q : Nat → Bool} {k : Nat} (h : ∀ i, i < k → p i = q i) : num p k = num q k := by
  induction k with
  | zero => rfl
  | succ k ih => rw [num_succ, num_succ, ih (fun i hi => h i (by omega)), h k (by omega)]
theorem num_le_of {p q : Nat → Bool} {k : Nat} (h : ∀ i, i < k → p i = true → q i = true) : num p k ≤ num q k := by
  induction k with
  | zero => exact Nat.le_refl _
  | succ k ih =>
    have := ih (fun i hi => h i (by omega))
    have hk := h k (by omega)
    rw [num_succ, num_succ]
    cases hp : p k with
    | false => simp; omega
    | true => rw [hk hp]; simp; omega
theorem num_shift (p q : Nat → Bool) (a : Nat) (h : ∀ i, p (a + i) = q i) (k : Nat) : num p (a + k) = num p a + num q k := by
  induction k with
  | zero => rfl
  | succ k ih => rw [← Nat.add_assoc, num_succ, num_succ, ih, h]; omega

theorem nth_spec {p : Nat → Bool} {n : Int} {N k : Nat} (h : nth p n N = some k) : k < N ∧ p k = true ∧ (num p k : Int) = n := by
  induction N with
  | zero => cases h
  | succ N ih =>
    unfold nth at h
    cases hn : nth p n N with
    | some x => rw [hn] at h; cases h; have := ih hn; exact ⟨by omega, this.2⟩
    | none =>
      rw [hn] at h
      by_cases hc : (p N && decide ((num p N : Int) = n)) = true
      · simp only [hc, if_true] at h; cases h; simp at hc; exact ⟨by omega, hc⟩
      · simp only [hc] at h; cases h
theorem nth_eq {p : Nat → Bool} {n : Int} {N k : Nat} (h : k < N) (hp : p k = true) (hn : (num p k : Int) = n) : nth p n N = some k := by
  induction N with
  | zero => omega
  | succ N ih =>
    by_cases e : k = N
    · subst e
      have hno : nth p n k = none := by
        cases hx : nth p n k with
        | none => rfl
        | some x =>
          have := nth_spec hx
          have h2 := num_lt this.1 this.2.1
          omega
      unfold nth
      rw [hno]
      have hc : (p k && decide ((num p k : Int) = n)) = true := by simp [hp, hn]
      simp only [hc, if_true]
    · unfold nth; rw [ih (by omega)]
theorem nth_step {p : Nat → Bool} {n : Int} {k : Nat} (h : nth p n k = none) (hc : p k = false ∨ (num p k : Int) ≠ n) : nth p n (k + 1) = none := by
  unfold nth
  rw [h]
  have : ¬ (p k && decide ((num p k : Int) = n)) = true := by
    rcases hc with hc | hc <;> simp [hc]
  exact if_neg this
theorem nth_exists (p : Nat → Bool) (n : Int) (N : Nat) (h0 : 0 ≤ n) (h1 : n < num p N) : ∃ k, nth p n N = some k := by
  have key : ∀ N : Nat, n < num p N → ∃ k, k < N ∧ p k = true ∧ (num p k : Int) = n := by
    intro N
    induction N with
    | zero => intro h; have : num p 0 = 0 := rfl; omega
    | succ N ih =>
      intro h
      by_cases hlt : n < num p N
      · obtain ⟨k, a, b⟩ := ih hlt; exact ⟨k, by omega, b⟩
      · cases hp : p N with
        | true => rw [num_t hp] at h; exact ⟨N, by omega, hp, by omega⟩
        | false => rw [num_f hp] at h; omega
  obtain ⟨k, a, b, c⟩ := key N h1
  exact ⟨k, nth_eq a b c⟩
theorem nth_none (p : Nat → Bool) (n : Int) (N : Nat) (h : n < 0 ∨ (num p N : Int) ≤ n) : nth p n N = none := by
  cases hx : nth p n N with
  | none => rfl
  | some x =>
    have := nth_spec hx
    have := num_lt this.1 this.2.1
    omega
theorem nth_none_imp {p : Nat → Bool} {n : Int} {N : Nat} (h : nth p n N = none) : n < 0 ∨ (num p N : Int) ≤ n := by
  by_cases hc : n < 0 ∨ (num p N : Int) ≤ n
  · exact hc
  · obtain ⟨k, hk⟩ := nth_exists p n N (by omega) (by omega)
    rw [h] at hk; cases hk
theorem nth_le {p : Nat → Bool} {n : Int} {N k : Nat} (h : nth p n (N + 1) = some k) : k ≤ N := by have := nth_spec h; omega
theorem nth_getD_le (p : Nat → Bool) (n : Int) (N : Nat) : (nth p n (N + 1)).getD 0 ≤ N := by
  cases h : nth p n (N + 1) with
  | none => exact Nat.zero_le _
  | some k => exact nth_le h

/-! ### Bytes, runes, lines -/
def any_ (_ : Nat) : Bool := true
def isLf (l : List UInt8) (k : Nat) : Bool := l.getD k 0 == 10
def lb (l : List UInt8) (k : Nat) : Bool := k == 0 || isLf l (k - 1)
def lfTo (l : List UInt8) (k : Nat) : Nat := num (isLf l) k
def lf (l : List UInt8) : Nat := lfTo l l.length

theorem num_any (k : Nat) : num any_ k = k := by
  induction k with
  | zero => rfl
  | succ k ih => rw [num_t rfl, ih]
theorem num_bnd (l : List UInt8) (k : Nat) (h : k ≤ l.length) : num (U.bndN l) k = U.cntTo l k := by
  induction k with
  | zero => rfl
  | succ k ih =>
    rw [num_succ, ih (by omega), U.cntTo_succ, U.bndN_lt l (by omega)]
    cases U.cont (l.getD k 0) <;> rfl
theorem num_bnd_all (l : List UInt8) : num (U.bndN l) (l.length + 1) = U.cnt l + 1 := by
  rw [num_t (U.bndN_len l), num_bnd l _ (Nat.le_refl _)]; rfl
theorem num_lb (l : List UInt8) (k : Nat) : num (lb l) (k + 1) = lfTo l k + 1 := by
  induction k with
  | zero => rfl
  | succ k ih =>
    rw [num_succ, ih]
    unfold lfTo
    rw [num_succ]
    have : lb l (k + 1) = isLf l k := by simp [lb]
    rw [this]; omega
theorem num_lb_all (l : List UInt8) : num (lb l) (l.length + 1) = lf l + 1 := num_lb l l.length
theorem lb_zero (l : List UInt8) : lb l 0 = true := rfl
theorem lb_succ (l : List UInt8) (k : Nat) : lb l (k + 1) = isLf l k := by simp [lb]
theorem lfTo_le (l : List UInt8) (k : Nat) : lfTo l k ≤ k := num_le _ k
theorem lf_le (l : List UInt8) : lf l ≤ U.cnt l := by
  have : lf l ≤ num (U.bndN l) l.length := num_le_of fun i hi h => by
    rw [U.bndN_lt l hi]
    simp only [isLf, beq_iff_eq] at h
    rw [h]; rfl
  rw [num_bnd l _ (Nat.le_refl _)] at this
  exact this
theorem cnt_le (l : List UInt8) : U.cnt l ≤ l.length := by
  have := num_le (U.bndN l) l.length
  rwa [num_bnd l _ (Nat.le_refl _)] at this
/-- The line feeds before a line's beginning are as many as its number. -/
theorem lfTo_of_lb {l : List UInt8} {k : Nat} (h : lb l k = true) : lfTo l k = num (lb l) k := by
  cases k with
  | zero => rfl
  | succ k =>
    rw [num_lb]
    rw [lb_succ] at h
    unfold lfTo
    rw [num_t h]
/-! ### A prefix -/
theorem getD_take (l : List UInt8) (a i : Nat) (h : i < a) : (l.take a).getD i 0 = l.getD i 0 := by
  simp [List.getD_eq_getElem?_getD, h]
theorem cnt_take (l : List UInt8) (a : Nat) (h : a ≤ l.length) : U.cnt (l.take a) = U.cntTo l a := by
  have hl : (l.take a).length = a := by simp [h]
  have : num (U.bndN (l.take a)) a = num (U.bndN l) a := num_congr fun i hi => by
    rw [U.bndN_lt _ (by omega), U.bndN_lt _ (by omega), getD_take l a i hi]
  rw [num_bnd _ _ (by omega), num_bnd _ _ h] at this
  unfold U.cnt; rw [hl]; exact this
theorem lf_take (l : List UInt8) (a : Nat) (h : a ≤ l.length) : lf (l.take a) = lfTo l a := by
  have hl : (l.take a).length = a := by simp [h]
  unfold lf; rw [hl]
  exact num_congr fun i hi => by unfold isLf; rw [getD_take l a i hi]
/-! ### A concatenation -/
theorem getD_app_l (a b : List UInt8) (i : Nat) (h : i < a.length) : (a ++ b).getD i 0 = a.getD i 0 := by
  simp [List.getD_eq_getElem?_getD, List.getElem?_append_left h]
theorem getD_app_r (a b : List UInt8) (i : Nat) : (a ++ b).getD (a.length + i) 0 = b.getD i 0 := by
  simp [List.getD_eq_getElem?_getD, List.getElem?_append_right]
theorem bnd_app_l (a b : List UInt8) (i : Nat) (h : i < a.length) : U.bndN (a ++ b) i = U.bndN a i := by
  rw [U.bndN_lt _ (by simp; omega), U.bndN_lt _ h, getD_app_l a b i h]
theorem bnd_app_r (a b : List UInt8) (i : Nat) : U.bndN (a ++ b) (a.length + i) = U.bndN b i := by
  unfold U.bndN
  rw [getD_app_r]
  congr 1
  · simp
  · congr 1
    rw [Bool.eq_iff_iff]; simp
theorem isLf_app_l (a b : List UInt8) (i : Nat) (h : i < a.length) : isLf (a ++ b) i = isLf a i := by unfold isLf; rw [getD_app_l a b i h]
theorem isLf_app_r (a b : List UInt8) (i : Nat) : isLf (a ++ b) (a.length + i) = isLf b i := by unfold isLf; rw [getD_app_r]
theorem cnt_app (a b : List UInt8) : U.cnt (a ++ b) = U.cnt a + U.cnt b := by
  have h := num_shift (U.bndN (a ++ b)) (U.bndN b) a.length (bnd_app_r a b) (b.length + 1)
  have e : a.length + (b.length + 1) = (a ++ b).length + 1 := by simp; omega
  rw [e, num_bnd_all, num_bnd_all, num_congr (fun i hi => bnd_app_l a b i hi), num_bnd _ _ (Nat.le_refl _)] at h
  have : U.cntTo a a.length = U.cnt a := rfl
  omega
theorem lf_app (a b : List UInt8) : lf (a ++ b) = lf a + lf b := by
  have h := num_shift (isLf (a ++ b)) (isLf b) a.length (isLf_app_r a b) b.length
  have e : a.length + b.length = (a ++ b).length := by simp
  rw [e, num_congr (fun i hi => isLf_app_l a b i hi)] at h
  exact h
/-- A rune of a concatenation: in the first part, if that has it. -/
theorem runeAt_app_l (a b : List UInt8) (n : Int) (h0 : 0 ≤ n) (h : n < U.cnt a) :
    nth (U.bndN (a ++ b)) n ((a ++ b).length + 1) = nth (U.bndN a) n (a.length + 1) ∧ ∃ k, nth (U.bndN a) n (a.length + 1) = some k := by
  obtain ⟨k, hk⟩ := nth_exists (U.bndN a) n (a.length + 1) h0 (by rw [num_bnd_all]; omega)
  obtain ⟨h1, h2, h3⟩ := nth_spec hk
  have hlt : k < a.length := by
    rcases Nat.lt_or_ge k a.length with h | h
    · exact h
    · have : k = a.length := by omega
      subst this
      rw [num_bnd a _ (Nat.le_refl _)] at h3
      have : U.cntTo a a.length = U.cnt a := rfl
      omega
  refine ⟨?_, k, hk⟩
  rw [hk]
  refine nth_eq (by simp; omega) (by rw [bnd_app_l a b k hlt]; exact h2) ?_
  rw [← h3]
  congr 1
  exact num_congr fun i hi => bnd_app_l a b i (by omega)
theorem nth_shift {p q : Nat → Bool} {a N : Nat} {n : Int} {c : Int} (hs : ∀ k, k ≤ N → q k = true → (num q k : Int) = n - c → p (a + k) = true ∧ (num p (a + k) : Int) = n)
    (hn : nth q (n - c) (N + 1) = none → nth p n (a + N + 1) = none) : nth p n (a + N + 1) = (nth q (n - c) (N + 1)).map (a + ·) := by
  cases h : nth q (n - c) (N + 1) with
  | none => rw [hn h]; rfl
  | some k =>
    obtain ⟨h1, h2, h3⟩ := nth_spec h
    obtain ⟨h4, h5⟩ := hs k (by omega) h2 h3
    rw [nth_eq (by omega) h4 h5]; rfl
theorem runeAt_app_r (a b : List UInt8) (n : Int) (h : (U.cnt a : Int) ≤ n) :
    nth (U.bndN (a ++ b)) n ((a ++ b).length + 1) = (nth (U.bndN b) (n - U.cnt a) (b.length + 1)).map (a.length + ·) := by
  have e : (a ++ b).length = a.length + b.length := by simp
  rw [e]
  have hc : num (U.bndN (a ++ b)) a.length = U.cnt a := by
    rw [num_congr (fun i hi => bnd_app_l a b i hi), num_bnd _ _ (Nat.le_refl _)]; rfl
  refine nth_shift (fun k hk h1 h2 => ⟨by rw [bnd_app_r]; exact h1, ?_⟩) fun hno => ?_
  · rw [num_shift _ (U.bndN b) a.length (bnd_app_r a b), hc]; omega
  · rcases nth_none_imp hno with h1 | h1
    · omega
    · refine nth_none _ _ _ (.inr ?_)
      rw [← e, num_bnd_all, cnt_app]
      rw [num_bnd_all] at h1
      omega
/-- A line of a concatenation: in the first part, if that has it. -/
theorem lb_app_l (a b : List UInt8) (i : Nat) (h : i ≤ a.length) : lb (a ++ b) i = lb a i := by
  cases i with
  | zero => rfl
  | succ i => rw [lb_succ, lb_succ, isLf_app_l a b i (by omega)]
theorem lb_app_r (a b : List UInt8) (i : Nat) (h : 0 < i) : lb (a ++ b) (a.length + i) = lb b i := by
  obtain ⟨j, rfl⟩ : ∃ j, i = j + 1 := ⟨i - 1, by omega⟩
  rw [← Nat.add_assoc, lb_succ, lb_succ, isLf_app_r]
theorem lineAt_app_l (a b : List UInt8) (n : Int) (h0 : 0 ≤ n) (h : n ≤ lf a) :
    nth (lb (a ++ b)) n ((a ++ b).length + 1) = nth (lb a) n (a.length + 1) ∧ ∃ k, nth (lb a) n (a.length + 1) = some k := by
  obtain ⟨k, hk⟩ := nth_exists (lb a) n (a.length + 1) h0 (by rw [num_lb_all]; omega)
  obtain ⟨h1, h2, h3⟩ := nth_spec hk
  refine ⟨?_, k, hk⟩
  rw [hk]
  refine nth_eq (by simp; omega) (by rw [lb_app_l a b k (by omega)]; exact h2) ?_
  rw [← h3]
  congr 1
  exact num_congr fun i hi => lb_app_l a b i (by omega)
theorem lineAt_app_r (a b : List UInt8) (n : Int) (h : (lf a : Int) < n) :
    nth (lb (a ++ b)) n ((a ++ b).length + 1) = (nth (lb b) (n - lf a) (b.length + 1)).map (a.length + ·) := by
  have e : (a ++ b).length = a.length + b.length := by simp
  rw [e]
  have hc : lfTo (a ++ b) a.length = lf a := by
    unfold lfTo; rw [num_congr (fun i hi => isLf_app_l a b i hi)]; rfl
  refine nth_shift (fun k hk h1 h2 => ?_) fun hno => ?_
  · cases k with
    | zero => have : num (lb b) 0 = 0 := rfl; omega
    | succ k =>
      refine ⟨by rw [lb_app_r a b _ (by omega)]; exact h1, ?_⟩
      rw [num_lb] at h2
      rw [← Nat.add_assoc, num_lb]
      have := num_shift (isLf (a ++ b)) (isLf b) a.length (isLf_app_r a b) k
      unfold lfTo at *
      rw [this]; omega
  · rcases nth_none_imp hno with h1 | h1
    · omega
    · refine nth_none _ _ _ (.inr ?_)
      rw [← e, num_lb_all, lf_app]
      rw [num_lb_all] at h1
      omega
/-! ### There and back -/
theorem rune_back (l : List UInt8) (n : Int) (h0 : 0 ≤ n) (h : n < U.cnt l) : ∃ k, k ≤ l.length ∧ nth (U.bndN l) n (l.length + 1) = some k ∧ (U.cntTo l k : Int) = n := by
  obtain ⟨k, hk⟩ := nth_exists (U.bndN l) n (l.length + 1) h0 (by rw [num_bnd_all]; omega)
  obtain ⟨h1, h2, h3⟩ := nth_spec hk
  exact ⟨k, by omega, hk, by rw [← num_bnd l k (by omega)]; exact h3⟩
theorem rune_from (l : List UInt8) (a : Nat) (h : a ≤ l.length) :
    ∃ b, a ≤ b ∧ b ≤ l.length ∧ nth (U.bndN l) (U.cntTo l a : Int) (l.length + 1) = some b ∧ (∀ i, a ≤ i → i < b → U.cont (l.getD i 0) = true) ∧ (b < l.length → U.cont (l.getD b 0) = false) := by
  have hle : U.cntTo l a ≤ U.cnt l := by
    have := num_mono (U.bndN l) h
    rwa [num_bnd l _ h, num_bnd l _ (Nat.le_refl _)] at this
  obtain ⟨b, hb⟩ := nth_exists (U.bndN l) (U.cntTo l a : Int) (l.length + 1) (by omega) (by rw [num_bnd_all]; omega)
  obtain ⟨h1, h2, h3⟩ := nth_spec hb
  rw [← num_bnd l a h] at h3
  have hab : a ≤ b := by
    rcases Nat.lt_or_ge b a with h | h
    · have := num_lt h h2; omega
    · exact h
  refine ⟨b, hab, by omega, hb, fun i hi1 hi2 => ?_, fun hlt => ?_⟩
  · cases hc : U.cont (l.getD i 0) with
    | true => rfl
    | false =>
      have hp : U.bndN l i = true := by rw [U.bndN_lt l (by omega), hc]; rfl
      have := num_lt hi2 hp
      have := num_mono (U.bndN l) hi1
      omega
  · rw [U.bndN_lt l hlt] at h2; simpa using h2
theorem line_back (l : List UInt8) (n : Nat) (h : n ≤ lf l) :
    ∃ k, k ≤ l.length ∧ nth (lb l) (n : Int) (l.length + 1) = some k ∧ lfTo l k = n ∧ (0 < n → 0 < k ∧ isLf l (k - 1) = true) := by
  obtain ⟨k, hk⟩ := nth_exists (lb l) (n : Int) (l.length + 1) (by omega) (by rw [num_lb_all]; omega)
  obtain ⟨h1, h2, h3⟩ := nth_spec hk
  refine ⟨k, by omega, hk, by rw [lfTo_of_lb h2]; omega, fun hn => ?_⟩
  cases k with
  | zero => have : num (lb l) 0 = 0 := rfl; omega
  | succ k => rw [lb_succ] at h2; exact ⟨by omega, by simpa using h2⟩
theorem line_lt (l : List UInt8) {m n : Int} {j k N : Nat} (hj : nth (lb l) m N = some j) (hk : nth (lb l) n N = some k) (h : m < n) : j < k := by
  obtain ⟨_, _, a⟩ := nth_spec hj
  obtain ⟨_, b, c⟩ := nth_spec hk
  rcases Nat.lt_or_ge j k with h | h
  · exact h
  · have := num_mono (lb l) h; omega
theorem line_from (l : List UInt8) (a : Nat) (h : a ≤ l.length) :
    ∃ b, b ≤ a ∧ nth (lb l) (lfTo l a : Int) (l.length + 1) = some b ∧ (∀ i, b ≤ i → i < a → isLf l i = false) := by
  have hle : lfTo l a ≤ lf l := num_mono (isLf l) h
  obtain ⟨b, hb⟩ := nth_exists (lb l) (lfTo l a : Int) (l.length + 1) (by omega) (by rw [num_lb_all]; omega)
  obtain ⟨h1, h2, h3⟩ := nth_spec hb
  have hn := num_lb l a
  have hba : b ≤ a := by
    rcases Nat.lt_or_ge a b with h | h
    · have := num_mono (lb l) (show a + 1 ≤ b from h); omega
    · exact h
  refine ⟨b, hba, hb, fun i hi1 hi2 => ?_⟩
  cases hc : isLf l i with
  | false => rfl
  | true =>
    have hp : lb l (i + 1) = true := by rw [lb_succ]; exact hc
    have q1 := num_lt (show i + 1 < i + 2 by omega) hp
    have q2 := num_mono (lb l) (show b + 1 ≤ i + 1 by omega)
    rw [num_t h2] at q2
    have q3 := num_mono (lb l) (show i + 2 ≤ a + 1 by omega)
    omega
theorem lfTo_mono (l : List UInt8) {a b : Nat} (h : a ≤ b) : lfTo l a ≤ lfTo l b := num_mono _ h
end Go.Proofs.Ytdpaleldalplfaa.M
