/- Texts joined: MeasMath MeasLeaf MeasUnit MeasOf MeasWith MeasAdd -/
import Derived.Test.YtniccjbcchdkoaaRunesMath
import Derived.Test.YtniccjbcchdkoaaProg
import Derived.WalkKit
import Derived.WalkSpells
import Derived.WalkLawsBesides
import Derived.LoopTactic
import Derived.Lib.Hide
import Derived.Shelf.Abstract
import Derived.StillTailTactics
import Derived.Outline
import Derived.Deep.RegionWith
/- MeasMath -/
namespace Go.Proofs.Ytniccjbcchdkoaa.M

/-- How many of the first k positions have p. -/
def num (p : Nat → Bool) : Nat → Nat
  | 0 => 0
  | k + 1 => num p k + if p k then 1 else 0
/-- The position below N that has p and before which n others have it. -/
def nth (p : Nat → Bool) (n : Int) : Nat → Option Nat
  | 0 => none
  | k + 1 => match nth p n k with
    | some x => some x
    | none => if p k && decide ((num p k : Int) = n) then some k else none

theorem num_succ (p : Nat → Bool) (k : Nat) : num p (k + 1) = num p k + if p k then 1 else 0 := rfl
theorem num_t {p : Nat → Bool} {k : Nat} (h : p k = true) : num p (k + 1) = num p k + 1 := by rw [num_succ, h]; rfl
theorem num_f {p : Nat → Bool} {k : Nat} (h : p k = false) : num p (k + 1) = num p k := by rw [num_succ, h]; rfl
theorem num_mono (p : Nat → Bool) {j k : Nat} (h : j ≤ k) : num p j ≤ num p k := by
  obtain ⟨d, rfl⟩ := Nat.le.dest h
  clear h
  induction d with
  | zero => exact Nat.le_refl _
  | succ d ih => rw [← Nat.add_assoc, num_succ]; omega
theorem num_le (p : Nat → Bool) (k : Nat) : num p k ≤ k := by
  induction k with
  | zero => exact Nat.le_refl _
  | succ k ih => rw [num_succ]; split <;> omega
theorem num_lt {p : Nat → Bool} {j k : Nat} (h : j < k) (hp : p j = true) : num p j < num p k := by
  have := num_mono p (show j + 1 ≤ k from h)
  rw [num_t hp] at this; omega
theorem num_congr {p q : Nat → Bool} {k : Nat} (h : ∀ i, i < k → p i = q i) : num p k = num q k := by
  induction k with
  | zero => rfl
  | succ k ih => rw [num_succ, num_succ, ih (fun i hi => h i (by omega)), h k (by omega)]
theorem num_le_of {p q : Nat → Bool} {k : Nat} (h : ∀ i, i < k → p i = true → q i = true) : num p k ≤ num q k := by
  induction k with
  | zero => exact Nat.le_refl _
  | succ k ih =>
    have := ih (fun i hi => h i (by omega))
    have hk := h k (by omega)
    rw [num_succ, num_succ]
    cases hp : p k with
    | false => simp; omega
    | true => rw [hk hp]; simp; omega
theorem num_shift (p q : Nat → Bool) (a : Nat) (h : ∀ i, p (a + i) = q i) (k : Nat) : num p (a + k) = num p a + num q k := by
  induction k with
  | zero => rfl
  | succ k ih => rw [← Nat.add_assoc, num_succ, num_succ, ih, h]; omega

theorem nth_spec {p : Nat → Bool} {n : Int} {N k : Nat} (h : nth p n N = some k) : k < N ∧ p k = true ∧ (num p k : Int) = n := by
  induction N with
  | zero => cases h
  | succ N ih =>
    unfold nth at h
    cases hn : nth p n N with
    | some x => rw [hn] at h; cases h; have := ih hn; exact ⟨by omega, this.2⟩
    | none =>
      rw [hn] at h
      by_cases hc : (p N && decide ((num p N : Int) = n)) = true
      · simp only [hc, if_true] at h; cases h; simp at hc; exact ⟨by omega, hc⟩
      · simp only [hc] at h; cases h
theorem nth_eq {p : Nat → Bool} {n : Int} {N k : Nat} (h : k < N) (hp : p k = true) (hn : (num p k : Int) = n) : nth p n N = some k := by
  induction N with
  | zero => omega
  | succ N ih =>
    by_cases e : k = N
    · subst e
      have hno : nth p n k = none := by
        cases hx : nth p n k with
        | none => rfl
        | some x =>
          have := nth_spec hx
          have h2 := num_lt this.1 this.2.1
          omega
      unfold nth
      rw [hno]
      have hc : (p k && decide ((num p k : Int) = n)) = true := by simp [hp, hn]
      simp only [hc, if_true]
    · unfold nth; rw [ih (by omega)]
theorem nth_step {p : Nat → Bool} {n : Int} {k : Nat} (h : nth p n k = none) (hc : p k = false ∨ (num p k : Int) ≠ n) : nth p n (k + 1) = none := by
  unfold nth
  rw [h]
  have : ¬ (p k && decide ((num p k : Int) = n)) = true := by
    rcases hc with hc | hc <;> simp [hc]
  exact if_neg this
theorem nth_exists (p : Nat → Bool) (n : Int) (N : Nat) (h0 : 0 ≤ n) (h1 : n < num p N) : ∃ k, nth p n N = some k := by
  have key : ∀ N : Nat, n < num p N → ∃ k, k < N ∧ p k = true ∧ (num p k : Int) = n := by
    intro N
    induction N with
    | zero => intro h; have : num p 0 = 0 := rfl; omega
    | succ N ih =>
      intro h
      by_cases hlt : n < num p N
      · obtain ⟨k, a, b⟩ := ih hlt; exact ⟨k, by omega, b⟩
      · cases hp : p N with
        | true => rw [num_t hp] at h; exact ⟨N, by omega, hp, by omega⟩
        | false => rw [num_f hp] at h; omega
  obtain ⟨k, a, b, c⟩ := key N h1
  exact ⟨k, nth_eq a b c⟩
theorem nth_none (p : Nat → Bool) (n : Int) (N : Nat) (h : n < 0 ∨ (num p N : Int) ≤ n) : nth p n N = none := by
  cases hx : nth p n N with
  | none => rfl
  | some x =>
    have := nth_spec hx
    have := num_lt this.1 this.2.1
    omega
theorem nth_none_imp {p : Nat → Bool} {n : Int} {N : Nat} (h : nth p n N = none) : n < 0 ∨ (num p N : Int) ≤ n := by
  by_cases hc : n < 0 ∨ (num p N : Int) ≤ n
  · exact hc
  · obtain ⟨k, hk⟩ := nth_exists p n N (by omega) (by omega)
    rw [h] at hk; cases hk
theorem nth_le {p : Nat → Bool} {n : Int} {N k : Nat} (h : nth p n (N + 1) = some k) : k ≤ N := by have := nth_spec h; omega
theorem nth_getD_le (p : Nat → Bool) (n : Int) (N : Nat) : (nth p n (N + 1)).getD 0 ≤ N := by
  cases h : nth p n (N + 1) with
  | none => exact Nat.zero_le _
  | some k => exact nth_le h

/-! ### Bytes, runes, lines -/
def any_ (_ : Nat) : Bool := true
def isLf (l : List UInt8) (k : Nat) : Bool := l.getD k 0 == 10
def lb (l : List UInt8) (k : Nat) : Bool := k == 0 || isLf l (k - 1)
def lfTo (l : List UInt8) (k : Nat) : Nat := num (isLf l) k
def lf (l : List UInt8) : Nat := lfTo l l.length

theorem num_any (k : Nat) : num any_ k = k := by
  induction k with
  | zero => rfl
  | succ k ih => rw [num_t rfl, ih]
theorem num_bnd (l : List UInt8) (k : Nat) (h : k ≤ l.length) : num (U.bndN l) k = U.cntTo l k := by
  induction k with
  | zero => rfl
  | succ k ih =>
    rw [num_succ, ih (by omega), U.cntTo_succ, U.bndN_lt l (by omega)]
    cases U.cont (l.getD k 0) <;> rfl
theorem num_bnd_all (l : List UInt8) : num (U.bndN l) (l.length + 1) = U.cnt l + 1 := by
  rw [num_t (U.bndN_len l), num_bnd l _ (Nat.le_refl _)]; rfl
theorem num_lb (l : List UInt8) (k : Nat) : num (lb l) (k + 1) = lfTo l k + 1 := by
  induction k with
  | zero => rfl
  | succ k ih =>
    rw [num_succ, ih]
    unfold lfTo
    rw [num_succ]
    have : lb l (k + 1) = isLf l k := by simp [lb]
    rw [this]; omega
theorem num_lb_all (l : List UInt8) : num (lb l) (l.length + 1) = lf l + 1 := num_lb l l.length
theorem lb_zero (l : List UInt8) : lb l 0 = true := rfl
theorem lb_succ (l : List UInt8) (k : Nat) : lb l (k + 1) = isLf l k := by simp [lb]
theorem lfTo_le (l : List UInt8) (k : Nat) : lfTo l k ≤ k := num_le _ k
theorem lf_le (l : List UInt8) : lf l ≤ U.cnt l := by
  have : lf l ≤ num (U.bndN l) l.length := num_le_of fun i hi h => by
    rw [U.bndN_lt l hi]
    simp only [isLf, beq_iff_eq] at h
    rw [h]; rfl
  rw [num_bnd l _ (Nat.le_refl _)] at this
  exact this
theorem cnt_le (l : List UInt8) : U.cnt l ≤ l.length := by
  have := num_le (U.bndN l) l.length
  rwa [num_bnd l _ (Nat.le_refl _)] at this
/-- The line feeds before a line's beginning are as many as its number. -/
theorem lfTo_of_lb {l : List UInt8} {k : Nat} (h : lb l k = true) : lfTo l k = num (lb l) k := by
  cases k with
  | zero => rfl
  | succ k =>
    rw [num_lb]
    rw [lb_succ] at h
    unfold lfTo
    rw [num_t h]
/-! ### A prefix -/
theorem getD_take (l : List UInt8) (a i : Nat) (h : i < a) : (l.take a).getD i 0 = l.getD i 0 := by
  simp [List.getD_eq_getElem?_getD, h]
theorem cnt_take (l : List UInt8) (a : Nat) (h : a ≤ l.length) : U.cnt (l.take a) = U.cntTo l a := by
  have hl : (l.take a).length = a := by simp [h]
  have : num (U.bndN (l.take a)) a = num (U.bndN l) a := num_congr fun i hi => by
    rw [U.bndN_lt _ (by omega), U.bndN_lt _ (by omega), getD_take l a i hi]
  rw [num_bnd _ _ (by omega), num_bnd _ _ h] at this
  unfold U.cnt; rw [hl]; exact this
theorem lf_take (l : List UInt8) (a : Nat) (h : a ≤ l.length) : lf (l.take a) = lfTo l a := by
  have hl : (l.take a).length = a := by simp [h]
  unfold lf; rw [hl]
  exact num_congr fun i hi => by unfold isLf; rw [getD_take l a i hi]
/-! ### A concatenation -/
theorem getD_app_l (a b : List UInt8) (i : Nat) (h : i < a.length) : (a ++ b).getD i 0 = a.getD i 0 := by
  simp [List.getD_eq_getElem?_getD, List.getElem?_append_left h]
theorem getD_app_r (a b : List UInt8) (i : Nat) : (a ++ b).getD (a.length + i) 0 = b.getD i 0 := by
  simp [List.getD_eq_getElem?_getD, List.getElem?_append_right]
theorem bnd_app_l (a b : List UInt8) (i : Nat) (h : i < a.length) : U.bndN (a ++ b) i = U.bndN a i := by
  rw [U.bndN_lt _ (by simp; omega), U.bndN_lt _ h, getD_app_l a b i h]
theorem bnd_app_r (a b : List UInt8) (i : Nat) : U.bndN (a ++ b) (a.length + i) = U.bndN b i := by
  unfold U.bndN
  rw [getD_app_r]
  congr 1
  · simp
  · congr 1
    rw [Bool.eq_iff_iff]; simp
theorem isLf_app_l (a b : List UInt8) (i : Nat) (h : i < a.length) : isLf (a ++ b) i = isLf a i := by unfold isLf; rw [getD_app_l a b i h]
theorem isLf_app_r (a b : List UInt8) (i : Nat) : isLf (a ++ b) (a.length + i) = isLf b i := by unfold isLf; rw [getD_app_r]
theorem cnt_app (a b : List UInt8) : U.cnt (a ++ b) = U.cnt a + U.cnt b := by
  have h := num_shift (U.bndN (a ++ b)) (U.bndN b) a.length (bnd_app_r a b) (b.length + 1)
  have e : a.length + (b.length + 1) = (a ++ b).length + 1 := by simp; omega
  rw [e, num_bnd_all, num_bnd_all, num_congr (fun i hi => bnd_app_l a b i hi), num_bnd _ _ (Nat.le_refl _)] at h
  have : U.cntTo a a.length = U.cnt a := rfl
  omega
theorem lf_app (a b : List UInt8) : lf (a ++ b) = lf a + lf b := by
  have h := num_shift (isLf (a ++ b)) (isLf b) a.length (isLf_app_r a b) b.length
  have e : a.length + b.length = (a ++ b).length := by simp
  rw [e, num_congr (fun i hi => isLf_app_l a b i hi)] at h
  exact h
/-- A rune of a concatenation: in the first part, if that has it. -/
theorem runeAt_app_l (a b : List UInt8) (n : Int) (h0 : 0 ≤ n) (h : n < U.cnt a) :
    nth (U.bndN (a ++ b)) n ((a ++ b).length + 1) = nth (U.bndN a) n (a.length + 1) ∧ ∃ k, nth (U.bndN a) n (a.length + 1) = some k := by
  obtain ⟨k, hk⟩ := nth_exists (U.bndN a) n (a.length + 1) h0 (by rw [num_bnd_all]; omega)
  obtain ⟨h1, h2, h3⟩ := nth_spec hk
  have hlt : k < a.length := by
    rcases Nat.lt_or_ge k a.length with h | h
    · exact h
    · have : k = a.length := by omega
      subst this
      rw [num_bnd a _ (Nat.le_refl _)] at h3
      have : U.cntTo a a.length = U.cnt a := rfl
      omega
  refine ⟨?_, k, hk⟩
  rw [hk]
  refine nth_eq (by simp; omega) (by rw [bnd_app_l a b k hlt]; exact h2) ?_
  rw [← h3]
  congr 1
  exact num_congr fun i hi => bnd_app_l a b i (by omega)
theorem nth_shift {p q : Nat → Bool} {a N : Nat} {n : Int} {c : Int} (hs : ∀ k, k ≤ N → q k = true → (num q k : Int) = n - c → p (a + k) = true ∧ (num p (a + k) : Int) = n)
    (hn : nth q (n - c) (N + 1) = none → nth p n (a + N + 1) = none) : nth p n (a + N + 1) = (nth q (n - c) (N + 1)).map (a + ·) := by
  cases h : nth q (n - c) (N + 1) with
  | none => rw [hn h]; rfl
  | some k =>
    obtain ⟨h1, h2, h3⟩ := nth_spec h
    obtain ⟨h4, h5⟩ := hs k (by omega) h2 h3
    rw [nth_eq (by omega) h4 h5]; rfl
theorem runeAt_app_r (a b : List UInt8) (n : Int) (h : (U.cnt a : Int) ≤ n) :
    nth (U.bndN (a ++ b)) n ((a ++ b).length + 1) = (nth (U.bndN b) (n - U.cnt a) (b.length + 1)).map (a.length + ·) := by
  have e : (a ++ b).length = a.length + b.length := by simp
  rw [e]
  have hc : num (U.bndN (a ++ b)) a.length = U.cnt a := by
    rw [num_congr (fun i hi => bnd_app_l a b i hi), num_bnd _ _ (Nat.le_refl _)]; rfl
  refine nth_shift (fun k hk h1 h2 => ⟨by rw [bnd_app_r]; exact h1, ?_⟩) fun hno => ?_
  · rw [num_shift _ (U.bndN b) a.length (bnd_app_r a b), hc]; omega
  · rcases nth_none_imp hno with h1 | h1
    · omega
    · refine nth_none _ _ _ (.inr ?_)
      rw [← e, num_bnd_all, cnt_app]
      rw [num_bnd_all] at h1
      omega
/-- A line of a concatenation: in the first part, if that has it. -/
theorem lb_app_l (a b : List UInt8) (i : Nat) (h : i ≤ a.length) : lb (a ++ b) i = lb a i := by
  cases i with
  | zero => rfl
  | succ i => rw [lb_succ, lb_succ, isLf_app_l a b i (by omega)]
theorem lb_app_r (a b : List UInt8) (i : Nat) (h : 0 < i) : lb (a ++ b) (a.length + i) = lb b i := by
  obtain ⟨j, rfl⟩ : ∃ j, i = j + 1 := ⟨i - 1, by omega⟩
  rw [← Nat.add_assoc, lb_succ, lb_succ, isLf_app_r]
theorem lineAt_app_l (a b : List UInt8) (n : Int) (h0 : 0 ≤ n) (h : n ≤ lf a) :
    nth (lb (a ++ b)) n ((a ++ b).length + 1) = nth (lb a) n (a.length + 1) ∧ ∃ k, nth (lb a) n (a.length + 1) = some k := by
  obtain ⟨k, hk⟩ := nth_exists (lb a) n (a.length + 1) h0 (by rw [num_lb_all]; omega)
  obtain ⟨h1, h2, h3⟩ := nth_spec hk
  refine ⟨?_, k, hk⟩
  rw [hk]
  refine nth_eq (by simp; omega) (by rw [lb_app_l a b k (by omega)]; exact h2) ?_
  rw [← h3]
  congr 1
  exact num_congr fun i hi => lb_app_l a b i (by omega)
theorem lineAt_app_r (a b : List UInt8) (n : Int) (h : (lf a : Int) < n) :
    nth (lb (a ++ b)) n ((a ++ b).length + 1) = (nth (lb b) (n - lf a) (b.length + 1)).map (a.length + ·) := by
  have e : (a ++ b).length = a.length + b.length := by simp
  rw [e]
  have hc : lfTo (a ++ b) a.length = lf a := by
    unfold lfTo; rw [num_congr (fun i hi => isLf_app_l a b i hi)]; rfl
  refine nth_shift (fun k hk h1 h2 => ?_) fun hno => ?_
  · cases k with
    | zero => have : num (lb b) 0 = 0 := rfl; omega
    | succ k =>
      refine ⟨by rw [lb_app_r a b _ (by omega)]; exact h1, ?_⟩
      rw [num_lb] at h2
      rw [← Nat.add_assoc, num_lb]
      have := num_shift (isLf (a ++ b)) (isLf b) a.length (isLf_app_r a b) k
      unfold lfTo at *
      rw [this]; omega
  · rcases nth_none_imp hno with h1 | h1
    · omega
    · refine nth_none _ _ _ (.inr ?_)
      rw [← e, num_lb_all, lf_app]
      rw [num_lb_all] at h1
      omega
/-! ### There and back -/
theorem rune_back (l : List UInt8) (n : Int) (h0 : 0 ≤ n) (h : n < U.cnt l) : ∃ k, k ≤ l.length ∧ nth (U.bndN l) n (l.length + 1) = some k ∧ (U.cntTo l k : Int) = n := by
  obtain ⟨k, hk⟩ := nth_exists (U.bndN l) n (l.length + 1) h0 (by rw [num_bnd_all]; omega)
  obtain ⟨h1, h2, h3⟩ := nth_spec hk
  exact ⟨k, by omega, hk, by rw [← num_bnd l k (by omega)]; exact h3⟩
theorem rune_from (l : List UInt8) (a : Nat) (h : a ≤ l.length) :
    ∃ b, a ≤ b ∧ b ≤ l.length ∧ nth (U.bndN l) (U.cntTo l a : Int) (l.length + 1) = some b ∧ (∀ i, a ≤ i → i < b → U.cont (l.getD i 0) = true) ∧ (b < l.length → U.cont (l.getD b 0) = false) := by
  have hle : U.cntTo l a ≤ U.cnt l := by
    have := num_mono (U.bndN l) h
    rwa [num_bnd l _ h, num_bnd l _ (Nat.le_refl _)] at this
  obtain ⟨b, hb⟩ := nth_exists (U.bndN l) (U.cntTo l a : Int) (l.length + 1) (by omega) (by rw [num_bnd_all]; omega)
  obtain ⟨h1, h2, h3⟩ := nth_spec hb
  rw [← num_bnd l a h] at h3
  have hab : a ≤ b := by
    rcases Nat.lt_or_ge b a with h | h
    · have := num_lt h h2; omega
    · exact h
  refine ⟨b, hab, by omega, hb, fun i hi1 hi2 => ?_, fun hlt => ?_⟩
  · cases hc : U.cont (l.getD i 0) with
    | true => rfl
    | false =>
      have hp : U.bndN l i = true := by rw [U.bndN_lt l (by omega), hc]; rfl
      have := num_lt hi2 hp
      have := num_mono (U.bndN l) hi1
      omega
  · rw [U.bndN_lt l hlt] at h2; simpa using h2
theorem line_back (l : List UInt8) (n : Nat) (h : n ≤ lf l) :
    ∃ k, k ≤ l.length ∧ nth (lb l) (n : Int) (l.length + 1) = some k ∧ lfTo l k = n ∧ (0 < n → 0 < k ∧ isLf l (k - 1) = true) := by
  obtain ⟨k, hk⟩ := nth_exists (lb l) (n : Int) (l.length + 1) (by omega) (by rw [num_lb_all]; omega)
  obtain ⟨h1, h2, h3⟩ := nth_spec hk
  refine ⟨k, by omega, hk, by rw [lfTo_of_lb h2]; omega, fun hn => ?_⟩
  cases k with
  | zero => have : num (lb l) 0 = 0 := rfl; omega
  | succ k => rw [lb_succ] at h2; exact ⟨by omega, by simpa using h2⟩
theorem line_lt (l : List UInt8) {m n : Int} {j k N : Nat} (hj : nth (lb l) m N = some j) (hk : nth (lb l) n N = some k) (h : m < n) : j < k := by
  obtain ⟨_, _, a⟩ := nth_spec hj
  obtain ⟨_, b, c⟩ := nth_spec hk
  rcases Nat.lt_or_ge j k with h | h
  · exact h
  · have := num_mono (lb l) h; omega
theorem line_from (l : List UInt8) (a : Nat) (h : a ≤ l.length) :
    ∃ b, b ≤ a ∧ nth (lb l) (lfTo l a : Int) (l.length + 1) = some b ∧ (∀ i, b ≤ i → i < a → isLf l i = false) := by
  have hle : lfTo l a ≤ lf l := num_mono (isLf l) h
  obtain ⟨b, hb⟩ := nth_exists (lb l) (lfTo l a : Int) (l.length + 1) (by omega) (by rw [num_lb_all]; omega)
  obtain ⟨h1, h2, h3⟩ := nth_spec hb
  have hn := num_lb l a
  have hba : b ≤ a := by
    rcases Nat.lt_or_ge a b with h | h
    · have := num_mono (lb l) (show a + 1 ≤ b from h); omega
    · exact h
  refine ⟨b, hba, hb, fun i hi1 hi2 => ?_⟩
  cases hc : isLf l i with
  | false => rfl
  | true =>
    have hp : lb l (i + 1) = true := by rw [lb_succ]; exact hc
    have q1 := num_lt (show i + 1 < i + 2 by omega) hp
    have q2 := num_mono (lb l) (show b + 1 ≤ i + 1 by omega)
    rw [num_t h2] at q2
    have q3 := num_mono (lb l) (show i + 2 ≤ a + 1 by omega)
    omega
theorem lfTo_mono (l : List UInt8) {a b : Nat} (h : a ≤ b) : lfTo l a ≤ lfTo l b := num_mono _ h
end Go.Proofs.Ytniccjbcchdkoaa.M
/- MeasLeaf -/
namespace Go.Proofs.Ytniccjbcchdkoaa
open Go.RowKit

theorem U.ret_bool {a b : Bool} (h : a = b) : Ending.returned (.bool a) = .returned (.bool b) := by rw [h]
theorem U.ret_int {k : IntKind} {a b : Int} (h : a = b) : Ending.returned (.int k a) = .returned (.int k b) := by rw [h]
theorem U.ret_str {a b : ByteArray} (h : a = b) : Ending.returned (.string a) = .returned (.string b) := by rw [h]
theorem continues_any (b : UInt8) (w : World) :
    Calls Try.prog 126 #[.int .u8 b.toNat] w fun e w' => e = .returned (.bool (U.cont b)) ∧ w = w' := by
  go_enter Try.func126, Try.ntmps126
  go_wp2
  all_goals
    go_ret
    refine ⟨U.ret_bool ?_, rfl⟩
    rw [Bool.eq_iff_iff]; simp [U.cont]; omega
theorem refCont_any (b : UInt8) (w : World) :
    Calls Try.prog 128 #[.int .u8 b.toNat] w fun e w' => e = .returned (.bool (U.cont b)) ∧ w = w' := by
  go_enter Try.func128, Try.ntmps128
  go_wp2
  all_goals
    go_ret
    refine ⟨U.ret_bool ?_, rfl⟩
    rw [Bool.eq_iff_iff]; simp [U.cont]; omega
theorem U.at_lt (s : ByteArray) (k : Nat) (h : k < s.size) : s.data.toList.getD k 0 = s[k] := by
  have h' : k < s.data.toList.length := by simpa using h
  rw [List.getD_eq_getElem?_getD, List.getElem?_eq_getElem h']; rfl
theorem U.len (s : ByteArray) : s.data.toList.length = s.size := by simp
theorem U.bnd_lo (l : List UInt8) {i : Int} (h : i < 0) : false = U.bnd l i := by
  have : ¬ 0 ≤ i := by omega
  simp [U.bnd, this]
theorem U.bnd_hi (l : List UInt8) {i : Int} (h : (l.length : Int) < i) : false = U.bnd l i := by
  have : ¬ i.toNat ≤ l.length := by omega
  simp [U.bnd, U.bndN, this]
theorem U.bnd_end (l : List UInt8) {i : Int} (h : i = l.length) : true = U.bnd l i := by
  subst h; simp [U.bnd, U.bndN]
theorem U.bnd_mid (s : ByteArray) {i : Int} (h0 : 0 ≤ i) (h : i.toNat < s.size) : (i == (s.size : Int) || !U.cont s[i.toNat]) = U.bnd s.data.toList i := by
  have h3 : (i == (s.size : Int)) = false := by simp; omega
  have h1 : (i.toNat == s.data.toList.length) = false := by simp; omega
  have h2 : i.toNat ≤ s.data.toList.length := by rw [U.len]; omega
  rw [U.bnd, U.bndN, U.at_lt s _ h, h1, decide_eq_true h0, decide_eq_true h2, h3]
  rfl
theorem boundary_any (s : ByteArray) (i : Int) (w : World) :
    Calls Try.prog 112 #[.string s, .int .i64 i] w fun e w' => e = .returned (.bool (U.bnd s.data.toList i)) ∧ w = w' := by
  go_enter Try.func112, Try.ntmps112
  go_wp2_with (go_at_call 126; refine (continues_any _ _).mono ?_; rintro e w' ⟨rfl, rfl⟩)
  all_goals
    go_ret
    refine ⟨U.ret_bool ?_, rfl⟩
    first
      | exact U.bnd_lo _ ‹_›
      | exact U.bnd_end _ (by rw [U.len]; assumption)
      | exact U.bnd_mid s ‹_› _
      | (refine U.bnd_hi _ ?_; rw [U.len]; omega)
set_option maxHeartbeats 1000000 in
theorem refCount_any (s : ByteArray) (w : World) (hs : s.size < 4611686018427387904) :
    Calls Try.prog 122 #[.string s] w fun e w' => e = .returned (.int .i64 (U.cnt s.data.toList)) ∧ w = w' := by
  go_enter Try.func122, Try.ntmps122
  go_wp2
  go_loop [3, 4] (fun n p => ∃ k : Nat, k ≤ s.size ∧ p = .int .i64 k ∧ n = .int .i64 (U.cntTo s.data.toList k)) (fun _ p => s.size - (intOf p).toNat)
  case atStart => exact ⟨0, Nat.zero_le _, rfl, rfl⟩
  case round =>
    obtain ⟨k, hk, rfl, rfl⟩ := hrel
    have hle := U.cntTo_le s.data.toList k
    by_cases hlt : k < s.size
    · have hstep : Hid (U.cntTo s.data.toList (k + 1) = U.cntTo s.data.toList k + if U.cont s[k] then 0 else 1) := by
        show _ = _; rw [U.cntTo_succ, U.at_lt s k hlt]
      cases hb : U.cont s[k] with
      | true =>
        have hs1 : Hid (U.cntTo s.data.toList (k + 1) = U.cntTo s.data.toList k) := by show _ = _; rw [hstep.out, hb]; rfl
        go_wp2_with (go_at_call 128; refine (refCont_any _ _).mono ?_; rintro e w' ⟨rfl, rfl⟩)
        go_round
        case rel => exact ⟨k + 1, by omega, by go_num, by rw [hs1.out]⟩
        case measure => simp [intOf]; omega
      | false =>
        have hs1 : Hid (U.cntTo s.data.toList (k + 1) = U.cntTo s.data.toList k + 1) := by show _ = _; rw [hstep.out, hb]; rfl
        go_wp2_with (go_at_call 128; refine (refCont_any _ _).mono ?_; rintro e w' ⟨rfl, rfl⟩)
        go_round
        case rel => exact ⟨k + 1, by omega, by go_num, by rw [hs1.out]; go_num⟩
        case measure => simp [intOf]; omega
    · obtain rfl : k = s.size := by omega
      have he : Hid (U.cnt s.data.toList = U.cntTo s.data.toList s.size) := by show _ = _; rw [U.cnt, U.len]
      go_wp2
      go_ret
      exact ⟨U.ret_int (by rw [he.out]), rfl⟩

theorem anywhere_any (s : ByteArray) (i : Int) (w : World) :
    Calls Try.prog 111 #[.string s, .int .i64 i] w fun e w' => e = .returned (.bool true) ∧ w = w' := by
  go_enter Try.func111, Try.ntmps111
  go_wp2
  go_ret
  exact ⟨rfl, rfl⟩
theorem M.lb_zero' (l : List UInt8) {k : Nat} (h : (k : Int) = 0) : true = M.lb l k := by
  have : k = 0 := by omega
  subst this; rfl
theorem M.lb_at (s : ByteArray) (k : Nat) (h : k < s.size) : ((k : Int) + 1 == 0 || (s[k].toNat : Int) == 10) = M.lb s.data.toList (k + 1) := by
  rw [M.lb_succ, M.isLf, U.at_lt s k h, Bool.eq_iff_iff]
  have h1 : ((k : Int) + 1 == 0) = false := by simp; omega
  rw [h1]
  simp only [Bool.false_or, beq_iff_eq]
  constructor
  · intro e; exact UInt8.toNat_inj.1 (by rw [show (10 : UInt8).toNat = 10 from rfl]; omega)
  · intro e; rw [e]; rfl
theorem lineBegins_any (s : ByteArray) (k : Nat) (w : World) (hk : k ≤ s.size) (hs : s.size < 4611686018427387904) :
    Calls Try.prog 113 #[.string s, .int .i64 k] w fun e w' => e = .returned (.bool (M.lb s.data.toList k)) ∧ w = w' := by
  cases k with
  | zero =>
    go_enter Try.func113, Try.ntmps113
    go_wp2
    go_ret
    exact ⟨rfl, rfl⟩
  | succ k =>
    go_enter Try.func113, Try.ntmps113
    go_wp2
    go_ret
    exact ⟨U.ret_bool (M.lb_at s k (by omega)), rfl⟩
end Go.Proofs.Ytniccjbcchdkoaa
/- MeasUnit -/
namespace Go.Proofs.Ytniccjbcchdkoaa
open Go.RowKit Go.Shelf

/-- A function value that answers whether an offset has p, and does nothing else. -/
def M.Asks (gf : Nat) (s : ByteArray) (p : Nat → Bool) : Prop :=
  ∀ (k : Nat) (W : World), k ≤ s.size → Calls Try.prog gf #[.string s, .int .i64 (k : Int)] W fun e W' => e = .returned (.bool (p k)) ∧ W = W'
def M.Enters (gf : Nat) : Prop := ∀ args w, (callFunc gf args).run Try.prog w = .ok (.enter gf args) w
theorem M.asks_any (s : ByteArray) : M.Asks 111 s M.any_ := fun _ W _ => anywhere_any s _ W
theorem M.asks_bnd (s : ByteArray) : M.Asks 112 s (U.bndN s.data.toList) := fun k W _ => (boundary_any s k W).mono fun _ _ h => by rw [U.bnd_natCast] at h; exact h
theorem M.asks_lb (s : ByteArray) (hs : s.size < 4611686018427387904) : M.Asks 113 s (M.lb s.data.toList) := fun k W hk => lineBegins_any s k W hk hs
theorem M.enters_any : M.Enters 111 := enters_of Try.func111 (by kernel_rfl) rfl
theorem M.enters_bnd : M.Enters 112 := enters_of Try.func112 (by kernel_rfl) rfl
theorem M.enters_lb : M.Enters 113 := enters_of Try.func113 (by kernel_rfl) rfl

set_option maxHeartbeats 1000000 in
theorem count_any (gf : Nat) (s : ByteArray) (p : Nat → Bool) (w : World) (hs : s.size < 4611686018427387904) (heg : M.Enters gf) (hp : M.Asks gf s p) :
    Calls Try.prog 110 #[.string s, .func (.func gf) #[] #[]] w fun e w' => e = .returned (.int .i64 ((M.num p (s.size + 1) : Int) - 1)) ∧ w = w' := by
  have Hp := Lib.hid hp
  clear hp
  unfold M.Enters at heg
  go_enter Try.func110, Try.ntmps110
  go_wp2
  go_loop [5, 10] (fun n i => ∃ k : Nat, k ≤ s.size + 1 ∧ i = .int .i64 k ∧ n = .int .i64 ((M.num p k : Int) - 1)) (fun _ i => s.size + 1 - (intOf i).toNat)
  case atStart => exact ⟨0, Nat.zero_le _, rfl, rfl⟩
  case round =>
    obtain ⟨k, hk, rfl, rfl⟩ := hrel
    have hle := M.num_le p k
    by_cases hlt : k ≤ s.size
    · cases hb : p k with
      | true =>
        have hc := Hp.out k w hlt
        rw [hb] at hc
        have Hn := Lib.hid (M.num_t hb)
        clear hb
        go_wp2_with fail
        refine hc.mono ?_
        rintro e w' ⟨rfl, rfl⟩
        go_wp2
        go_round
        case rel => exact ⟨k + 1, by omega, by go_num, by rw [Hn.out]; go_num⟩
        case measure => simp [intOf]; omega
      | false =>
        have hc := Hp.out k w hlt
        rw [hb] at hc
        have Hn := Lib.hid (M.num_f hb)
        clear hb
        go_wp2_with fail
        refine hc.mono ?_
        rintro e w' ⟨rfl, rfl⟩
        go_wp2
        go_round
        case rel => exact ⟨k + 1, by omega, by go_num, by rw [Hn.out]⟩
        case measure => simp [intOf]; omega
    · obtain rfl : k = s.size + 1 := by omega
      go_wp2
      go_ret
      exact ⟨rfl, rfl⟩

/-- The error beside what find answers. -/
def M.errOf (o : Option Nat) : Int := if o.isSome then 0 else 3
theorem M.ret_nth {o : Option Nat} {a e : Int} (h : o = if e = 0 then some a.toNat else none) (h0 : 0 ≤ a) (h1 : e ≠ 0 → a = 0 ∧ e = 3) :
    Ending.returned (.tuple #[.int .i64 a, .int .i64 e]) = .returned (.tuple #[.int .i64 (o.getD 0 : Nat), .int .i64 (M.errOf o)]) := by
  by_cases he : e = 0
  · subst he
    rw [if_pos rfl] at h
    subst h
    obtain ⟨n, rfl⟩ := Int.eq_ofNat_of_zero_le h0
    rfl
  · obtain ⟨rfl, rfl⟩ := h1 he
    rw [if_neg he] at h
    subst h; rfl
/-- What find answers. -/
def M.found (o : Option Nat) : Ending := .returned (.tuple #[.int .i64 (o.getD 0 : Nat), .int .i64 (M.errOf o)])
/-- What before answers, c being the number of units before the offset. -/
def M.told (s : ByteArray) (i : Int) (c : Nat → Nat) : Ending :=
  if 0 ≤ i ∧ i ≤ s.size then .returned (.tuple #[.int .i64 (c i.toNat : Nat), .int .i64 0]) else .returned (.tuple #[.int .i64 0, .int .i64 3])
theorem M.told_in {s : ByteArray} {k : Nat} (h : k ≤ s.size) (c : Nat → Nat) : M.told s (k : Int) c = .returned (.tuple #[.int .i64 (c k : Nat), .int .i64 0]) := by
  unfold M.told; rw [if_pos (by omega)]; rfl
theorem M.told_out {s : ByteArray} {i : Int} (h : ¬ (0 ≤ i ∧ i ≤ s.size)) (c : Nat → Nat) : M.told s i c = .returned (.tuple #[.int .i64 0, .int .i64 3]) := by
  unfold M.told; rw [if_neg h]
theorem M.size_take (s : ByteArray) (k : Nat) (h : k ≤ s.size) : (s.extract 0 k).size = k := by simp; omega
theorem M.data_take (s : ByteArray) (k : Nat) : (s.extract 0 k).data.toList = s.data.toList.take k := by
  simp
end Go.Proofs.Ytniccjbcchdkoaa
/- MeasOf -/
namespace Go.Proofs.Ytniccjbcchdkoaa
open Go.RowKit Go.Shelf

/-- A measure, as a value. -/
def M.val (b r l : Int) : Value := .agg #[.int .i64 b, .int .i64 r, .int .i64 l]
theorem M.bcell {W w1 : World} (hb : Below W.heap.size W w1) : (∀ b o, b < W.heap.size → w1.cell? ⟨b, o, none⟩ = W.cell? ⟨b, o, none⟩) ∧ (∀ b o, b < W.heap.size → w1.frozen? ⟨b, o, none⟩ = W.frozen? ⟨b, o, none⟩) :=
  ⟨fun b o h => hb.cell (p := ⟨b, o, none⟩) h, fun b o h => hb.frozen (p := ⟨b, o, none⟩) h⟩

set_option maxHeartbeats 1000000 in
theorem toMeasure_any (b r l : Int) (w : World) :
    Calls Try.prog 114 #[.agg #[.int .i64 b, .int .i64 r, .int .i64 l]] w fun e w' => e = .returned (.agg #[.int .i64 b, .int .i64 r, .int .i64 l]) ∧ Below w.heap.size w w' := by
  go_enter Try.func114, Try.ntmps114
  go_wp2
  exact bodyPost_ret (v := .agg #[.int .i64 b, .int .i64 r, .int .i64 l]) (by simp [results, Try.results114, go_sem]) rfl ⟨rfl, ((Below.refl _ _).alloc (Nat.le_refl _) _).alloc (by simp) _⟩
theorem countAny_any (s : ByteArray) (w : World) (hs : s.size < 4611686018427387904) :
    Calls Try.prog 110 #[.string s, .func (.func 111) #[] #[]] w fun e w' => e = .returned (.int .i64 (s.size : Int)) ∧ w = w' := by
  have h := count_any 111 s _ w hs M.enters_any (M.asks_any s)
  rw [M.num_any] at h
  have e : ((s.size + 1 : Nat) : Int) - 1 = s.size := by omega
  rwa [e] at h
theorem countBnd_any (s : ByteArray) (w : World) (hs : s.size < 4611686018427387904) :
    Calls Try.prog 110 #[.string s, .func (.func 112) #[] #[]] w fun e w' => e = .returned (.int .i64 (U.cnt s.data.toList : Int)) ∧ w = w' := by
  have h := count_any 112 s _ w hs M.enters_bnd (M.asks_bnd s)
  rw [show s.size = s.data.toList.length from (U.len s).symm, M.num_bnd_all] at h
  have e : ((U.cnt s.data.toList + 1 : Nat) : Int) - 1 = U.cnt s.data.toList := by omega
  rwa [e] at h
theorem countLb_any (s : ByteArray) (w : World) (hs : s.size < 4611686018427387904) :
    Calls Try.prog 110 #[.string s, .func (.func 113) #[] #[]] w fun e w' => e = .returned (.int .i64 (M.lf s.data.toList : Int)) ∧ w = w' := by
  have h := count_any 113 s _ w hs M.enters_lb (M.asks_lb s hs)
  rw [show s.size = s.data.toList.length from (U.len s).symm, M.num_lb_all] at h
  have e : ((M.lf s.data.toList + 1 : Nat) : Int) - 1 = M.lf s.data.toList := by omega
  rwa [e] at h
set_option maxHeartbeats 1000000 in
theorem of_any (s : ByteArray) (w : World) (hs : s.size < 4611686018427387904) :
    Calls Try.prog 92 #[.string s] w fun e w' => e = .returned (.agg #[.int .i64 (s.size : Int), .int .i64 (U.cnt s.data.toList : Int), .int .i64 (M.lf s.data.toList : Int)]) ∧ Below w.heap.size w w' := by
  have Hs := Lib.hid hs
  clear hs
  go_enter Try.func92, Try.ntmps92
  go_wp2_with fail
  refine (countAny_any _ _ Hs.out).mono ?_
  rintro e w' ⟨rfl, rfl⟩
  go_wp2_with fail
  refine (countBnd_any _ _ Hs.out).mono ?_
  rintro e w' ⟨rfl, rfl⟩
  go_wp2_with fail
  refine (countLb_any _ _ Hs.out).mono ?_
  rintro e w' ⟨rfl, rfl⟩
  go_wp2_with fail
  refine (toMeasure_any _ _ _ _).mono ?_
  rintro e w' ⟨rfl, hb⟩
  obtain ⟨hc, hf⟩ := M.bcell hb
  have hz : w.heap.size + 1 ≤ w'.heap.size := by have := hb.size; simp at this; omega
  go_wp2
  exact bodyPost_ret (v := .agg #[.int .i64 (s.size : Int), .int .i64 (U.cnt s.data.toList : Int), .int .i64 (M.lf s.data.toList : Int)]) (by simp [results, Try.results92, go_sem, hc]) rfl
    ⟨rfl, (((((Below.refl w.heap.size w).alloc (Nat.le_refl _) _).trans (hb.mono (by simp))).setCell (p := ⟨w.heap.size, 0, none⟩) (Nat.le_refl _) _).setCell (p := ⟨w.heap.size, 1, none⟩) (Nat.le_refl _) _).setCell (p := ⟨w.heap.size, 2, none⟩) (Nat.le_refl _) _⟩
end Go.Proofs.Ytniccjbcchdkoaa
/- MeasWith -/
namespace Go.Proofs.Ytniccjbcchdkoaa
open Go.RowKit Go.Shelf

/-- A function value on two numbers that answers f of them and does nothing else. -/
def M.Pairs (gf : Nat) (f : Int → Int → Int) : Prop :=
  ∀ (x y : Int) (W : World), Calls Try.prog gf #[.int .i64 x, .int .i64 y] W fun e W' => e = .returned (.int .i64 (f x y)) ∧ W' = W
/-- The first k parts are done: what lies in the receiver's block, in the argument's, in the result's. -/
structure M.Mid (f : Int → Int → Int) (A X : Nat → Int) (k B : Nat) (W : World) : Prop where
  own : ∀ j, j < 3 → W.cell? ⟨B, j, none⟩ = some (.int .i64 (if j < k then f (A j) (X j) else A j)) ∧ W.frozen? ⟨B, j, none⟩ = false
  arg : ∀ j, j < 3 → W.cell? ⟨B + 1, j, none⟩ = some (.int .i64 (X j))
  res : ∀ j, j < 3 → W.cell? ⟨B + 1 + 1, j, none⟩ = some (.int .i64 0) ∧ W.frozen? ⟨B + 1 + 1, j, none⟩ = false
theorem M.Mid.drew {f A X k B W} (h : M.Mid f A X k B W) : M.Mid f A X k B W.drew :=
  ⟨fun j hj => by rw [World.cell?_drew, World.frozen?_drew]; exact h.own j hj, fun j hj => by rw [World.cell?_drew]; exact h.arg j hj, fun j hj => by rw [World.cell?_drew, World.frozen?_drew]; exact h.res j hj⟩
theorem M.Mid.next {f A X k B W} (h : M.Mid f A X k B W) (hk : k < 3) : M.Mid f A X (k + 1) B (W.setCell ⟨B, k, none⟩ (.int .i64 (f (A k) (X k)))) := by
  refine ⟨fun j hj => ⟨?_, by rw [World.frozen?_setCell]; exact (h.own j hj).2⟩, fun j hj => ?_, fun j hj => ⟨?_, by rw [World.frozen?_setCell]; exact (h.res j hj).2⟩⟩
  · by_cases e : j = k
    · subst e
      rw [World.cell?_setCell_same' _ _ _ (by rw [(h.own j hj).1]; rfl), if_pos (by omega)]
    · rw [World.cell?_setCell_other _ _ _ _ (by simp), (h.own j hj).1]
      by_cases hlt : j < k
      · rw [if_pos hlt, if_pos (by omega)]
      · rw [if_neg hlt, if_neg (by omega)]
  · rw [World.cell?_setCell_other _ _ _ _ (by simp)]; exact h.arg j hj
  · rw [World.cell?_setCell_other _ _ _ _ (by intro h; simp at h)]; exact (h.res j hj).1
def M.at3 (a b c : Int) : Nat → Int | 0 => a | 1 => b | _ => c
end Go.Proofs.Ytniccjbcchdkoaa
/- MeasAdd -/
namespace Go.Proofs.Ytniccjbcchdkoaa
open Go.RowKit Go.Shelf

/-- n measures lie in a row: F i j is the j-th component of the i-th. -/
def M.Row (W : World) (ao : Option Addr) (n : Nat) (F : Nat → Nat → Int) : Prop :=
  ∀ i, i < n → ∃ b o, ao = some ⟨b, o, none⟩ ∧ b < W.heap.size ∧ ∀ j, j < 3 → W.cell? ⟨b, o + i * 3 + j, none⟩ = some (.int .i64 (F i j))
theorem M.Row.below {W W' : World} {ao n F} (h : M.Row W ao n F) (hb : Below W.heap.size W W') : M.Row W' ao n F := fun i hi => by
  obtain ⟨b, o, e, hlt, hc⟩ := h i hi
  refine ⟨b, o, e, Nat.lt_of_lt_of_le hlt hb.size, fun j hj => ?_⟩
  rw [(M.bcell hb).1 _ _ hlt]; exact hc j hj
/-- The sum of the first k of them, modulo 2^64. -/
def M.sum (F : Nat → Nat → Int) (j : Nat) : Nat → Int
  | 0 => 0
  | k + 1 => wrap64 (M.sum F j k + F k j)

/-- Block b holds three numbers, and may be written. -/
structure M.Own (W : World) (b : Nat) (x y z : Int) : Prop where
  lt : b < W.heap.size
  c0 : W.cell? ⟨b, 0, none⟩ = some (.int .i64 x)
  c1 : W.cell? ⟨b, 1, none⟩ = some (.int .i64 y)
  c2 : W.cell? ⟨b, 2, none⟩ = some (.int .i64 z)
  f0 : W.frozen? ⟨b, 0, none⟩ = false
  f1 : W.frozen? ⟨b, 1, none⟩ = false
  f2 : W.frozen? ⟨b, 2, none⟩ = false
theorem M.Own.new (W : World) (x y z : Int) (t : TypeId) : M.Own (W.alloc (.cells #[.int .i64 x, .int .i64 y, .int .i64 z] t)) W.heap.size x y z :=
  ⟨by simp, by simp [go_sem], by simp [go_sem], by simp [go_sem], by simp [go_sem], by simp [go_sem], by simp [go_sem]⟩
theorem M.Own.below {W W' : World} {b x y z} (h : M.Own W b x y z) (hb : Below W.heap.size W W') : M.Own W' b x y z := by
  obtain ⟨hc, hf⟩ := M.bcell hb
  exact ⟨Nat.lt_of_lt_of_le h.lt hb.size, (hc _ _ h.lt).trans h.c0, (hc _ _ h.lt).trans h.c1, (hc _ _ h.lt).trans h.c2, (hf _ _ h.lt).trans h.f0, (hf _ _ h.lt).trans h.f1, (hf _ _ h.lt).trans h.f2⟩
theorem M.Own.alloc {W : World} {b x y z} (h : M.Own W b x y z) (o : Obj) : M.Own (W.alloc o) b x y z := h.below ((Below.refl _ _).alloc (Nat.le_refl _) o)
theorem M.Own.drew {W : World} {b x y z} (h : M.Own W b x y z) : M.Own W.drew b x y z := h.below (Below.refl _ _).drew
/-- What three stores into the block leave. -/
@[reducible] def M.put3 (W : World) (b : Nat) (x y z : Int) : World := ((W.setCell ⟨b, 0, none⟩ (.int .i64 x)).setCell ⟨b, 1, none⟩ (.int .i64 y)).setCell ⟨b, 2, none⟩ (.int .i64 z)
theorem M.Own.put {W : World} {b x y z} (h : M.Own W b x y z) (x' y' z' : Int) : M.Own (M.put3 W b x' y' z') b x' y' z' := by
  unfold M.put3
  have k0 := h.c0
  have k1 := h.c1
  have k2 := h.c2
  refine ⟨by simpa using h.lt, ?_, ?_, ?_, by simp only [World.frozen?_setCell]; exact h.f0, by simp only [World.frozen?_setCell]; exact h.f1, by simp only [World.frozen?_setCell]; exact h.f2⟩
  · rw [World.cell?_setCell_other _ _ _ _ (by simp), World.cell?_setCell_other _ _ _ _ (by simp), World.cell?_setCell_same' _ _ _ (by rw [k0]; rfl)]
  · rw [World.cell?_setCell_other _ _ _ _ (by simp), World.cell?_setCell_same' _ _ _ (by rw [World.cell?_setCell_other _ _ _ _ (by simp), k1]; rfl)]
  · rw [World.cell?_setCell_same' _ _ _ (by rw [World.cell?_setCell_other _ _ _ _ (by simp), World.cell?_setCell_other _ _ _ _ (by simp), k2]; rfl)]
theorem M.Own.keep {W : World} {b x y z} (h : M.Own W b x y z) (c : Nat) (hc : c ≠ b) (x' y' z' : Int) : M.Own (M.put3 W c x' y' z') b x y z := by
  unfold M.put3
  refine ⟨by simpa using h.lt, ?_, ?_, ?_, by simp only [World.frozen?_setCell]; exact h.f0, by simp only [World.frozen?_setCell]; exact h.f1, by simp only [World.frozen?_setCell]; exact h.f2⟩
  · rw [World.cell?_setCell_other _ _ _ _ (by simp), World.cell?_setCell_other _ _ _ _ (by simp), World.cell?_setCell_other _ _ _ _ (by simp)]; exact h.c0
  · rw [World.cell?_setCell_other _ _ _ _ (by simp), World.cell?_setCell_other _ _ _ _ (by simp), World.cell?_setCell_other _ _ _ _ (by simp)]; exact h.c1
  · rw [World.cell?_setCell_other _ _ _ _ (by simp), World.cell?_setCell_other _ _ _ _ (by simp), World.cell?_setCell_other _ _ _ _ (by simp)]; exact h.c2
theorem M.put3_below {B : Nat} {w W : World} {b : Nat} (h : Below B w W) (hb : B ≤ b) (x y z : Int) : Below B w (M.put3 W b x y z) :=
  ((h.setCell (p := ⟨b, 0, none⟩) hb _).setCell (p := ⟨b, 1, none⟩) hb _).setCell (p := ⟨b, 2, none⟩) hb _
/-- What holds at the head of a round of Add. -/
structure M.Sum (w : World) (F : Nat → Nat → Int) (k : Nat) (wr : World) : Prop where
  res : M.Own wr w.heap.size 0 0 0
  acc : M.Own wr (w.heap.size + 1) (M.sum F 0 k) (M.sum F 1 k) (M.sum F 2 k)
  below : Below w.heap.size w wr
theorem M.Sum.step {w wr W1 W2 W3 : World} {F : Nat → Nat → Int} {k : Nat} (h : M.Sum w F k wr) (h1 : Below wr.heap.size wr W1) (h2 : Below W1.heap.size W1 W2) (h3 : Below W2.heap.size W2 W3) :
    M.Sum w F (k + 1) (M.put3 W3 (w.heap.size + 1) (wrap64 (M.sum F 0 k + F k 0)) (wrap64 (M.sum F 1 k + F k 1)) (wrap64 (M.sum F 2 k + F k 2))) := by
  have s1 := h1.size
  have s2 := h2.size
  have hb : Below wr.heap.size wr W3 := (h1.trans (h2.mono s1)).trans (h3.mono (Nat.le_trans s1 s2))
  exact ⟨(h.res.below hb).keep _ (by omega) _ _ _, (h.acc.below hb).put _ _ _, M.put3_below (h.below.trans (hb.mono h.below.size)) (by omega) _ _ _⟩

end Go.Proofs.Ytniccjbcchdkoaa
