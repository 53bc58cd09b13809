/- Texts joined: DiffMath DiffRows DiffCommon DiffRaw DiffPick -/
import Derived.Test.YtdilkoogjkabfaaPackMath
import Derived.Test.YtdilkoogjkabfaaRunesMath3
/- DiffMath -/
namespace Go.Proofs.Ytdilkoogjkabfaa.F
section
variable {α : Type} (w : α → Nat)
def sumW (l : List α) : Nat := (l.map w).sum
/-- c is the cost of some script from x to y. -/
inductive Ed : List α → List α → Nat → Prop
  | nil : Ed [] [] 0
  | keep (a : α) {x y : List α} {c : Nat} : Ed x y c → Ed (a :: x) (a :: y) c
  | del (a : α) {x y : List α} {c : Nat} : Ed x y c → Ed (a :: x) y (w a + c)
  | ins (b : α) {x y : List α} {c : Nat} : Ed x y c → Ed x (b :: y) (w b + c)
variable {w}
theorem Ed.append {x y x' y' : List α} {c c' : Nat} (h : Ed w x y c) (h' : Ed w x' y' c') : Ed w (x ++ x') (y ++ y') (c + c') := by
  induction h with
  | nil => simpa using h'
  | keep a _ ih => exact .keep a ih
  | del a _ ih => rw [Nat.add_assoc]; exact .del a ih
  | ins b _ ih => rw [Nat.add_assoc]; exact .ins b ih
theorem Ed.symm {x y : List α} {c : Nat} (h : Ed w x y c) : Ed w y x c := by
  induction h with
  | nil => exact .nil
  | keep a _ ih => exact .keep a ih
  | del a _ ih => exact .ins a ih
  | ins b _ ih => exact .del b ih
theorem Ed.refl (x : List α) : Ed w x x 0 := by
  induction x with
  | nil => exact .nil
  | cons a x ih => exact .keep a ih
theorem Ed.dels (x : List α) : Ed w x [] (sumW w x) := by
  induction x with
  | nil => exact .nil
  | cons a x ih => have e : sumW w (a :: x) = w a + sumW w x := by simp [sumW]
                   rw [e]; exact .del a ih
theorem Ed.inss (x : List α) : Ed w [] x (sumW w x) := (Ed.dels x).symm
theorem Ed.all (x y : List α) : Ed w x y (sumW w x + sumW w y) := by
  have := (Ed.dels (w := w) x).append (Ed.inss y)
  simpa using this
theorem Ed.rev {x y : List α} {c : Nat} (h : Ed w x y c) : Ed w x.reverse y.reverse c := by
  induction h with
  | nil => exact .nil
  | keep a _ ih => have := ih.append (Ed.keep a (Ed.nil (w := w)))
                   simpa using this
  | del a _ ih => have := ih.append (Ed.del a (Ed.nil (w := w)))
                  simpa [Nat.add_comm] using this
  | ins b _ ih => have := ih.append (Ed.ins b (Ed.nil (w := w)))
                  simpa [Nat.add_comm] using this
theorem Ed.from_nil {y : List α} {c : Nat} (h : Ed w [] y c) : c = sumW w y := by
  generalize hx : ([] : List α) = x at h
  induction h with
  | nil => rfl
  | keep a _ _ => cases hx
  | del a _ _ => cases hx
  | ins b _ ih => rw [ih hx]; simp [sumW]
theorem Ed.to_nil {x : List α} {c : Nat} (h : Ed w x [] c) : c = sumW w x := h.symm.from_nil
/-- A script that leads on from where another one ends. -/
theorem Ed.trans {x y z : List α} {c d : Nat} (h : Ed w x y c) (k : Ed w y z d) : ∃ e, e ≤ c + d ∧ Ed w x z e := by
  induction h generalizing z d with
  | nil => exact ⟨d, by omega, k⟩
  | @del a x y c h ih =>
    obtain ⟨e, he, hE⟩ := ih k
    exact ⟨w a + e, by omega, .del a hE⟩
  | @keep a x y c h ih =>
    generalize hy : a :: y = Y at k
    induction k with
    | nil => cases hy
    | @keep a' Y z d k _ =>
      cases hy
      obtain ⟨e, he, hE⟩ := ih k
      exact ⟨e, he, .keep a hE⟩
    | @del a' Y z d k _ =>
      cases hy
      obtain ⟨e, he, hE⟩ := ih k
      exact ⟨w a + e, by omega, .del a hE⟩
    | @ins b Y z d k ihk =>
      obtain ⟨e, he, hE⟩ := ihk hy
      exact ⟨w b + e, by omega, .ins b hE⟩
  | @ins a x y c h ih =>
    generalize hy : a :: y = Y at k
    induction k with
    | nil => cases hy
    | @keep a' Y z d k _ =>
      cases hy
      obtain ⟨e, he, hE⟩ := ih k
      exact ⟨w a + e, by omega, .ins a hE⟩
    | @del a' Y z d k _ =>
      cases hy
      obtain ⟨e, he, hE⟩ := ih k
      exact ⟨e, by omega, hE⟩
    | @ins b Y z d k ihk =>
      obtain ⟨e, he, hE⟩ := ihk hy
      exact ⟨w b + e, by omega, .ins b hE⟩
/-- Zero only between equal lists, where each element of both weighs something. -/
theorem Ed.zero {x y : List α} {c : Nat} (h : Ed w x y c) (hx : ∀ a ∈ x, 0 < w a) (hy : ∀ a ∈ y, 0 < w a) (h0 : c = 0) : x = y := by
  induction h with
  | nil => rfl
  | keep a _ ih => rw [ih (fun b hb => hx b (List.mem_cons_of_mem _ hb)) (fun b hb => hy b (List.mem_cons_of_mem _ hb)) h0]
  | del a _ _ => have := hx a List.mem_cons_self; omega
  | ins b _ _ => have := hy b List.mem_cons_self; omega
theorem Ed.le {x y : List α} {c : Nat} (h : Ed w x y c) : c ≤ sumW w x + sumW w y := by
  induction h with
  | nil => omega
  | keep a _ ih => simp only [sumW, List.map_cons, List.sum_cons] at ih ⊢; omega
  | del a _ ih => simp only [sumW, List.map_cons, List.sum_cons] at ih ⊢; omega
  | ins b _ ih => simp only [sumW, List.map_cons, List.sum_cons] at ih ⊢; omega

variable (w) [DecidableEq α]
/-- The least cost. -/
def lc : List α → List α → Nat
  | [], y => sumW w y
  | a :: x, [] => sumW w (a :: x)
  | a :: x, b :: y => if a = b then min (lc x y) (min (w a + lc x (b :: y)) (w b + lc (a :: x) y)) else min (w a + lc x (b :: y)) (w b + lc (a :: x) y)
termination_by x y => x.length + y.length
variable {w}
theorem lc_nil (y : List α) : lc w [] y = sumW w y := by unfold lc; rfl
theorem lc_nil' (x : List α) : lc w x [] = sumW w x := by cases x <;> unfold lc <;> rfl
theorem lc_ed (x y : List α) : Ed w x y (lc w x y) := by
  fun_induction lc w x y with
  | case1 y => exact .inss y
  | case2 a x => exact .dels _
  | case3 x a y ih1 ih2 ih3 =>
    rcases Nat.le_total (lc w x y) (min (w a + lc w x (a :: y)) (w a + lc w (a :: x) y)) with h | h
    · rw [Nat.min_eq_left h]; exact .keep a ih1
    · rw [Nat.min_eq_right h]
      rcases Nat.le_total (w a + lc w x (a :: y)) (w a + lc w (a :: x) y) with h | h
      · rw [Nat.min_eq_left h]; exact .del a ih2
      · rw [Nat.min_eq_right h]; exact .ins a ih3
  | case4 a x b y _ ih2 ih3 =>
    rcases Nat.le_total (w a + lc w x (b :: y)) (w b + lc w (a :: x) y) with h | h
    · rw [Nat.min_eq_left h]; exact .del a ih2
    · rw [Nat.min_eq_right h]; exact .ins b ih3
theorem lc_le {x y : List α} {c : Nat} (h : Ed w x y c) : lc w x y ≤ c := by
  induction h with
  | nil => rw [lc_nil]; simp [sumW]
  | @keep a x y c _ ih => unfold lc; rw [if_pos rfl]; omega
  | @del a x y c h ih =>
    cases y with
    | nil => rw [lc_nil'] at ih ⊢; simp only [sumW, List.map_cons, List.sum_cons] at ih ⊢; omega
    | cons b y => unfold lc; split <;> omega
  | @ins b x y c h ih =>
    cases x with
    | nil => rw [lc_nil] at ih ⊢; simp only [sumW, List.map_cons, List.sum_cons] at ih ⊢; omega
    | cons a x => unfold lc; split
                  · rename_i e; subst e; omega
                  · omega
/-- What is the cost of a script and at most every script's cost is the least cost. -/
theorem lc_eq {x y : List α} {c : Nat} (h : Ed w x y c) (k : ∀ d, Ed w x y d → c ≤ d) : lc w x y = c := by
  have := lc_le h
  have := k _ (lc_ed x y)
  omega
theorem lc_symm (x y : List α) : lc w x y = lc w y x := by
  have := lc_le (lc_ed (w := w) x y).symm
  have := lc_le (lc_ed (w := w) y x).symm
  omega
theorem lc_rev (x y : List α) : lc w x.reverse y.reverse = lc w x y := by
  have := lc_le (lc_ed (w := w) x y).rev
  have h := (lc_ed (w := w) x.reverse y.reverse).rev
  simp only [List.reverse_reverse] at h
  have := lc_le h
  omega
theorem lc_tri (x y z : List α) : lc w x z ≤ lc w x y + lc w y z := by
  obtain ⟨e, he, hE⟩ := (lc_ed (w := w) x y).trans (lc_ed y z)
  have := lc_le hE
  omega
theorem lc_sum (x y : List α) : lc w x y ≤ sumW w x + sumW w y := lc_le (.all x y)
theorem lc_self (x : List α) : lc w x x = 0 := by have := lc_le (Ed.refl (w := w) x); omega
theorem lc_zero {x y : List α} (hx : ∀ a ∈ x, 0 < w a) (hy : ∀ a ∈ y, 0 < w a) : lc w x y = 0 ↔ x = y :=
  ⟨fun h => (lc_ed (w := w) x y).zero hx hy h, fun h => by rw [h]; exact lc_self y⟩
/-- Equal heads may be kept. -/
theorem lc_keep (a : α) (x y : List α) : lc w (a :: x) (a :: y) = lc w x y := by
  have h1 := lc_le (Ed.keep a (lc_ed (w := w) x y))
  have h2 : lc w x y ≤ w a + lc w x (a :: y) := by
    have := lc_tri (w := w) x (a :: y) y
    have := lc_le (Ed.del a (Ed.refl (w := w) y))
    omega
  have h3 : lc w x y ≤ w a + lc w (a :: x) y := by
    have := lc_tri (w := w) x (a :: x) y
    have := lc_le (Ed.ins a (Ed.refl (w := w) x))
    omega
  have h4 : lc w (a :: x) (a :: y) = min (lc w x y) (min (w a + lc w x (a :: y)) (w a + lc w (a :: x) y)) := by
    conv => lhs; unfold lc
    rw [if_pos rfl]
  omega
theorem lc_cons {a b : α} (h : ¬ a = b) (x y : List α) : lc w (a :: x) (b :: y) = min (w a + lc w x (b :: y)) (w b + lc w (a :: x) y) := by
  conv => lhs; unfold lc
  rw [if_neg h]
theorem lc_keeps (p x y : List α) : lc w (p ++ x) (p ++ y) = lc w x y := by
  induction p with
  | nil => rfl
  | cons a p ih => rw [List.cons_append, List.cons_append, lc_keep, ih]
theorem lc_snoc_keep (a : α) (x y : List α) : lc w (x ++ [a]) (y ++ [a]) = lc w x y := by
  rw [← lc_rev]; simp only [List.reverse_append, List.reverse_cons, List.reverse_nil, List.nil_append, List.singleton_append]
  rw [lc_keep, lc_rev]
theorem lc_ends (p x y : List α) : lc w (x ++ p) (y ++ p) = lc w x y := by
  rw [← lc_rev]; simp only [List.reverse_append]
  rw [lc_keeps, lc_rev]
theorem lc_snoc {a b : α} (h : ¬ a = b) (x y : List α) : lc w (x ++ [a]) (y ++ [b]) = min (w a + lc w x (y ++ [b])) (w b + lc w (x ++ [a]) y) := by
  rw [← lc_rev]; simp only [List.reverse_append, List.reverse_cons, List.reverse_nil, List.nil_append, List.singleton_append]
  rw [lc_cons h, ← lc_rev (w := w) x, ← lc_rev (w := w) _ y]; simp only [List.reverse_append, List.reverse_cons, List.reverse_nil, List.nil_append, List.singleton_append]
/-- The reference's step: the least of three, whether or not the first is needed. -/
theorem lc_step (a b : α) (x y : List α) : lc w (x ++ [a]) (y ++ [b]) = if a = b then min (min (w a + lc w x (y ++ [b])) (w b + lc w (x ++ [a]) y)) (lc w x y) else min (w a + lc w x (y ++ [b])) (w b + lc w (x ++ [a]) y) := by
  split
  · rename_i e; subst e
    rw [lc_snoc_keep]
    have h2 : lc w x y ≤ w a + lc w x (y ++ [a]) := by
      have := lc_tri (w := w) x (y ++ [a]) y
      have := lc_le ((Ed.refl (w := w) y).append (Ed.del a (Ed.nil (w := w))))
      simp only [List.append_nil] at this
      omega
    have h3 : lc w x y ≤ w a + lc w (x ++ [a]) y := by
      have := lc_tri (w := w) x (x ++ [a]) y
      have := lc_le ((Ed.refl (w := w) x).append (Ed.ins a (Ed.nil (w := w))))
      simp only [List.append_nil] at this
      omega
    omega
  · rename_i h; exact lc_snoc h x y
end
end Go.Proofs.Ytdilkoogjkabfaa.F
/- DiffRows -/
namespace Go.Proofs.Ytdilkoogjkabfaa.F
open Go.Proofs.Ytdilkoogjkabfaa.D

/-- The lines. -/
def rows : List UInt8 → List (List UInt8)
  | [] => []
  | c :: s => if c = 10 then [10] :: rows s else match rows s with
    | [] => [[c]]
    | r :: l => (c :: r) :: l
theorem rows_join : ∀ s : List UInt8, (rows s).flatten = s
  | [] => rfl
  | c :: s => by
    have ih := rows_join s
    unfold rows
    split
    · rename_i h; simp [ih, h]
    · split
      · rename_i h; rw [h] at ih; simp at ih ⊢; exact ih
      · rename_i h; rw [h] at ih; simp at ih ⊢; exact ih
theorem rows_ne : ∀ (s : List UInt8), ∀ r ∈ rows s, r ≠ []
  | [], r, h => by simp [rows] at h
  | c :: s, r, h => by
    unfold rows at h
    split at h
    · rcases List.mem_cons.1 h with h | h
      · rw [h]; simp
      · exact rows_ne s r h
    · split at h
      · rw [List.mem_singleton.1 h]; simp
      · rename_i e
        rcases List.mem_cons.1 h with h | h
        · rw [h]; simp
        · exact rows_ne s r (e ▸ List.mem_cons_of_mem _ h)
theorem rows_pos (s : List UInt8) : ∀ r ∈ rows s, 0 < r.length := fun r h => List.length_pos_iff.2 (rows_ne s r h)
theorem sum_flat (l : List (List UInt8)) : sumW List.length l = l.flatten.length := by
  unfold sumW; rw [List.length_flatten]
theorem sum_rows (s : List UInt8) : sumW List.length (rows s) = s.length := by rw [sum_flat, rows_join]
theorem rows_nil {s : List UInt8} : rows s = [] ↔ s = [] := by
  constructor
  · intro h; have := rows_join s; rw [h] at this; exact this.symm
  · intro h; rw [h]; rfl
theorem rows_inj {s t : List UInt8} (h : rows s = rows t) : s = t := by rw [← rows_join s, h, rows_join]
/-- A string that ends with a line feed, or has no byte, ends its last line. -/
theorem rows_append : ∀ (s t : List UInt8), (s = [] ∨ s.getLast? = some 10) → rows (s ++ t) = rows s ++ rows t
  | [], t, _ => rfl
  | [c], t, h => by
    rcases h with h | h
    · cases h
    · have : c = 10 := by simpa using h
      subst this
      simp [rows]
  | c :: d :: s, t, h => by
    have ih := rows_append (d :: s) t (Or.inr (by
      rcases h with h | h
      · cases h
      · simpa [List.getLast?_cons_cons] using h))
    rw [List.cons_append, rows]
    by_cases e : c = 10
    · rw [if_pos e, ih]; conv => rhs; rw [rows, if_pos e]
      rfl
    · rw [if_neg e, ih]; conv => rhs; rw [rows, if_neg e]
      cases h' : rows (d :: s) with
      | nil => exact absurd (rows_nil.1 h') (by simp)
      | cons r l => rfl
theorem rows_snoc (s : List UInt8) (h : s = [] ∨ s.getLast? = some 10) (l : List UInt8) (h1 : l ≠ []) (h2 : ∀ c ∈ l, c ≠ 10) : rows (s ++ l) = rows s ++ [l] ∧ rows (s ++ l ++ [10]) = rows s ++ [l ++ [10]] := by
  have k1 : ∀ l : List UInt8, l ≠ [] → (∀ c ∈ l, c ≠ 10) → rows l = [l] := by
    intro l h1 h2
    induction l with
    | nil => exact absurd rfl h1
    | cons c l ih =>
      rw [rows, if_neg (h2 c List.mem_cons_self)]
      cases l with
      | nil => rfl
      | cons d l => rw [ih (by simp) (fun c hc => h2 c (List.mem_cons_of_mem _ hc))]
  have k2 : ∀ l : List UInt8, (∀ c ∈ l, c ≠ 10) → rows (l ++ [10]) = [l ++ [10]] := by
    intro l h2
    induction l with
    | nil => rfl
    | cons c l ih =>
      rw [List.cons_append, rows, if_neg (h2 c List.mem_cons_self), ih (fun c hc => h2 c (List.mem_cons_of_mem _ hc))]
  refine ⟨by rw [rows_append _ _ h, k1 l h1 h2], by rw [List.append_assoc, rows_append _ _ h, k2 l h2]⟩
theorem rows_feed (s : List UInt8) (h : s = [] ∨ s.getLast? = some 10) (l : List UInt8) (h2 : ∀ c ∈ l, c ≠ 10) : rows (s ++ (l ++ [10])) = rows s ++ [l ++ [10]] := by
  cases l with
  | nil => rw [rows_append _ _ h]; rfl
  | cons c l => rw [← List.append_assoc]; exact (rows_snoc s h (c :: l) (by simp) h2).2

/-- An offset between two lines, at the beginning or at the end. -/
def Edge (s : List UInt8) (k : Nat) : Prop := k = 0 ∨ k = s.length ∨ (k < s.length ∧ s[k - 1]? = some 10)
theorem edge_zero (s : List UInt8) : Edge s 0 := Or.inl rfl
theorem edge_len (s : List UInt8) : Edge s s.length := Or.inr (Or.inl rfl)
theorem edge_le {s : List UInt8} {k : Nat} (h : Edge s k) : k ≤ s.length := by
  rcases h with h | h | h <;> omega
theorem edge_cut {s : List UInt8} {k : Nat} (h : Edge s k) : rows s = rows (s.take k) ++ rows (s.drop k) := by
  rcases h with h | h | ⟨hk, h⟩
  · subst h; simp [rows]
  · subst h; simp [rows]
  · by_cases k0 : k = 0
    · subst k0; simp [rows]
    · rw [← rows_append _ _ (Or.inr _), List.take_append_drop]
      rw [List.getLast?_eq_getElem?, List.length_take, List.getElem?_take, if_pos (by omega)]
      rw [Nat.min_eq_left (by omega)]; exact h
/-- The other way: where the lines of a string are cut in two, there is an edge. -/
theorem edge_of {s : List UInt8} {k : Nat} (hk : k ≤ s.length) (h : s.take k = [] ∨ (s.take k).getLast? = some 10) : Edge s k := by
  rcases h with h | h
  · have := congrArg List.length h
    rw [List.length_take] at this
    simp only [List.length_nil] at this
    rcases Nat.eq_zero_or_pos k with e | e
    · exact Or.inl e
    · exact Or.inr (Or.inl (by omega))
  · by_cases e : k = s.length
    · exact Or.inr (Or.inl e)
    · by_cases k0 : k = 0
      · exact Or.inl k0
      refine Or.inr (Or.inr ⟨by omega, ?_⟩)
      rw [List.getLast?_eq_getElem?, List.length_take, List.getElem?_take, Nat.min_eq_left (by omega), if_pos (by omega)] at h
      exact h
/-- The end of each line is an edge. -/
theorem edge_rows : ∀ (s : List UInt8) (l m : List (List UInt8)), rows s = l ++ m → Edge s l.flatten.length ∧ rows (s.take l.flatten.length) = l ∧ rows (s.drop l.flatten.length) = m
  | [], l, m, h => by
    have : l = [] ∧ m = [] := by simpa [rows] using h.symm
    obtain ⟨rfl, rfl⟩ := this
    exact ⟨Or.inl rfl, rfl, rfl⟩
  | c :: s, [], m, h => ⟨Or.inl rfl, rfl, by simpa using h⟩
  | c :: s, r :: l, m, h => by
    rw [rows] at h
    split at h
    · rename_i e; subst e
      rw [List.cons_append, List.cons.injEq] at h
      obtain ⟨rfl, h⟩ := h
      obtain ⟨h1, h2, h3⟩ := edge_rows s l m h
      have e : ([10] :: l : List (List UInt8)).flatten.length = l.flatten.length + 1 := by simp
      rw [e]
      refine ⟨?_, ?_, h3⟩
      · rcases h1 with h1 | h1 | ⟨h0, h1⟩
        · rw [h1]; rcases Nat.eq_zero_or_pos s.length with z | z
          · exact Or.inr (Or.inl (by simp [z]))
          · exact Or.inr (Or.inr ⟨by simp; omega, by simp⟩)
        · exact Or.inr (Or.inl (by simp [h1]))
        · by_cases z : l.flatten.length = 0
          · rw [z]; exact Or.inr (Or.inr ⟨by simp; omega, by simp⟩)
          · refine Or.inr (Or.inr ⟨by simp only [List.length_cons]; omega, ?_⟩)
            rw [Nat.add_sub_cancel, show l.flatten.length = (l.flatten.length - 1) + 1 by omega, List.getElem?_cons_succ]
            exact h1
      · rw [List.take_succ_cons, rows, if_pos rfl, h2]
    · rename_i e
      cases hs : rows s with
      | nil =>
        rw [hs] at h
        have : s = [] := rows_nil.1 hs
        subst this
        rw [List.cons_append, List.cons.injEq] at h
        obtain ⟨rfl, h⟩ := h
        obtain ⟨rfl, rfl⟩ : l = [] ∧ m = [] := by simpa using h.symm
        exact ⟨Or.inr (Or.inl rfl), by simp [rows, e], rfl⟩
      | cons q t =>
        rw [hs] at h
        rw [List.cons_append, List.cons.injEq] at h
        obtain ⟨rfl, h⟩ := h
        have h' : rows s = (q :: l) ++ m := by rw [hs, h]; rfl
        obtain ⟨h1, h2, h3⟩ := edge_rows s (q :: l) m h'
        have q0 : 0 < q.length := rows_pos s q (by rw [hs]; exact List.mem_cons_self)
        have f : ((c :: q) :: l : List (List UInt8)).flatten.length = (q :: l).flatten.length + 1 := by simp
        have g : (q :: l : List (List UInt8)).flatten.length = q.length + l.flatten.length := by simp
        rw [f]
        refine ⟨?_, ?_, h3⟩
        · rcases h1 with h1 | h1 | ⟨h0, h1⟩
          · omega
          · exact Or.inr (Or.inl (by simp only [List.length_cons]; omega))
          · refine Or.inr (Or.inr ⟨by simp only [List.length_cons]; omega, ?_⟩)
            rw [Nat.add_sub_cancel, show (q :: l : List (List UInt8)).flatten.length = ((q :: l : List (List UInt8)).flatten.length - 1) + 1 by omega, List.getElem?_cons_succ]
            exact h1
        · rw [List.take_succ_cons, rows, if_neg e, h2]
termination_by s => s.length

/-- Do all pieces of a delta end at edges? -/
def byE (A B : Nat → Prop) : Nat → Nat → List Q → Prop
  | _, _, [] => True
  | i, o, q :: r => A (i + in1 q) ∧ B (o + out1 q) ∧ byE A B (i + in1 q) (o + out1 q) r
theorem byE_push {A B : Nat → Prop} {i o : Nat} (q : Q) (l : List Q) (ha : A i) (hb : B o) (h : byE A B i o (q :: l)) : byE A B i o (push q l) := by
  cases q with
  | R n =>
    match l with
    | [] => exact h
    | .R m :: r => simp only [push, pR, byE, in1, out1, Nat.add_assoc] at h ⊢; exact h.2.2
    | .I t :: r => exact h
    | .D m :: r => exact h
  | I t =>
    match l with
    | [] => exact h
    | .R m :: r => exact h
    | .I u :: r => simp only [push, pI, byE, in1, out1, List.length_append, Nat.add_assoc, Nat.add_zero] at h ⊢; exact h.2.2
    | .D m :: r => exact h
  | D n =>
    match l with
    | [] => exact h
    | .R m :: r => exact h
    | [.I t] => simp only [push, pD, byE, in1, out1, Nat.add_zero] at h ⊢; exact ⟨ha, h.2.2.2.1, h.1, h.2.2.2.1, trivial⟩
    | .I t :: .R m :: r => simp only [push, pD, byE, in1, out1, Nat.add_zero] at h ⊢; exact ⟨ha, h.2.2.2.1, h.1, h.2.2.2.1, h.2.2.2.2⟩
    | .I t :: .I u :: r => simp only [push, pD, byE, in1, out1, Nat.add_zero] at h ⊢; exact ⟨ha, h.2.2.2.1, h.1, h.2.2.2.1, h.2.2.2.2⟩
    | .I t :: .D m :: r => simp only [push, pD, byE, in1, out1, Nat.add_zero, Nat.add_assoc] at h ⊢; exact ⟨ha, h.2.2.2.1, h.2.2.2.2⟩
    | .D m :: r => simp only [push, pD, byE, in1, out1, Nat.add_zero, Nat.add_assoc] at h ⊢; exact ⟨h.2.2.1, hb, h.2.2.2.2⟩
theorem byE_nf {A B : Nat → Prop} : ∀ (l : List Q) (i o : Nat), A i → B o → byE A B i o l → byE A B i o (nf l)
  | [], _, _, _, _, _ => trivial
  | q :: r, _, _, ha, hb, h => byE_push q (nf r) ha hb ⟨h.1, h.2.1, byE_nf r _ _ h.1 h.2.1 h.2.2⟩
theorem byE_shift {A B : Nat → Prop} (u v : Nat) : ∀ (l : List Q) (i o : Nat), byE (fun k => A (u + k)) (fun k => B (v + k)) i o l ↔ byE A B (u + i) (v + o) l
  | [], _, _ => Iff.rfl
  | q :: r, i, o => by
    simp only [byE]
    rw [byE_shift u v r, Nat.add_assoc, Nat.add_assoc]
theorem byE_mono {A B A' B' : Nat → Prop} (ha : ∀ k, A k → A' k) (hb : ∀ k, B k → B' k) : ∀ (l : List Q) (i o : Nat), byE A B i o l → byE A' B' i o l
  | [], _, _, _ => trivial
  | _ :: r, _, _, h => ⟨ha _ h.1, hb _ h.2.1, byE_mono ha hb r _ _ h.2.2⟩
/-- The cost of a delta. -/
def cst1 : Q → Nat
  | .R _ => 0
  | .I t => t.length
  | .D n => n
def cst : List Q → Nat
  | [] => 0
  | q :: r => cst1 q + cst r
theorem cst_push (q : Q) (l : List Q) : cst (push q l) = cst1 q + cst l := by
  cases q with
  | R n =>
    match l with
    | [] => rfl
    | .R m :: r => simp [push, pR, cst, cst1]
    | .I t :: r => rfl
    | .D m :: r => rfl
  | I t =>
    match l with
    | [] => rfl
    | .R m :: r => rfl
    | .I u :: r => simp only [push, pI, cst, cst1, List.length_append]; omega
    | .D m :: r => rfl
  | D n =>
    match l with
    | [] => rfl
    | .R m :: r => rfl
    | [.I t] => simp only [push, pD, cst, cst1]; omega
    | .I t :: .R m :: r => simp only [push, pD, cst, cst1]; omega
    | .I t :: .I u :: r => simp only [push, pD, cst, cst1]; omega
    | .I t :: .D m :: r => simp only [push, pD, cst, cst1]; omega
    | .D m :: r => simp only [push, pD, cst, cst1]; omega
theorem cst_nf : ∀ l : List Q, cst (nf l) = cst l
  | [] => rfl
  | q :: r => by rw [nf_cons, cst_push, cst_nf r]; rfl
theorem cst_append (a b : List Q) : cst (a ++ b) = cst a + cst b := by
  induction a with
  | nil => simp [cst]
  | cons q a ih => simp only [List.cons_append, cst, ih]; omega

/-- A delta goes by lines. -/
structure By (a b : List UInt8) (l : List Q) : Prop where
  fit : inL l = a.length
  res : apl a l = b
  edges : byE (Edge a) (Edge b) 0 0 l
theorem edge_behind {a c : List UInt8} {k : Nat} (h : Edge (a ++ c) (a.length + k)) : Edge c k := by
  rcases h with h | h | ⟨hk, h⟩
  · exact Or.inl (by omega)
  · exact Or.inr (Or.inl (by rw [List.length_append] at h; omega))
  · by_cases k0 : k = 0
    · exact Or.inl k0
    · refine Or.inr (Or.inr ⟨by rw [List.length_append] at hk; omega, ?_⟩)
      rw [List.getElem?_append_right (by omega), show a.length + k - 1 - a.length = k - 1 by omega] at h
      exact h
theorem By.tail {a1 a2 b1 b2 : List UInt8} {q : Q} {r : List Q} (h : By (a1 ++ a2) (b1 ++ b2) (q :: r)) (hi : in1 q = a1.length) (ho : out1 q = b1.length) (hr : apl a2 r = b2) : By a2 b2 r := by
  refine ⟨?_, hr, ?_⟩
  · have := h.fit; simp only [inL, List.length_append] at this; omega
  · have := h.edges.2.2
    rw [Nat.zero_add, Nat.zero_add, hi, ho] at this
    have := (byE_shift a1.length b1.length r 0 0).2 this
    exact byE_mono (fun k hk => edge_behind hk) (fun k hk => edge_behind hk) _ _ _ this
/-- What goes by lines is a script over lines, of the same cost. -/
theorem By.ed : ∀ (l : List Q) (a b : List UInt8), By a b l → Ed List.length (rows a) (rows b) (cst l)
  | [], a, b, h => by
    have := h.fit
    have e : a = [] := List.eq_nil_of_length_eq_zero this.symm
    subst e
    have : b = [] := h.res.symm
    subst this
    exact .nil
  | .R n :: r, a, b, h => by
    have hn : n ≤ a.length := by have := h.fit; simp only [inL, in1] at this; omega
    have hb : b = a.take n ++ apl (a.drop n) r := h.res.symm
    have ha : a = a.take n ++ a.drop n := (List.take_append_drop n a).symm
    have hl : (a.take n).length = n := by rw [List.length_take]; omega
    have h' : By (a.take n ++ a.drop n) (a.take n ++ apl (a.drop n) r) (.R n :: r) := by rw [← hb, ← ha]; exact h
    have ih := By.ed r _ _ (h'.tail hl.symm hl.symm rfl)
    have ea : Edge a n := by have := h.edges.1; simpa [in1] using this
    have eb : Edge b n := by have := h.edges.2.1; simpa [out1] using this
    have ta : rows a = rows (a.take n) ++ rows (a.drop n) := edge_cut ea
    have tb : rows b = rows (a.take n) ++ rows (apl (a.drop n) r) := by
      rw [edge_cut eb, hb, List.take_append_of_le_length (by omega), List.take_of_length_le (by omega), List.drop_append_of_le_length (by omega), List.drop_of_length_le (by omega), List.nil_append]
    rw [ta, tb]
    have := (Ed.refl (w := List.length) (rows (a.take n))).append ih
    simpa [cst, cst1] using this
  | .I t :: r, a, b, h => by
    have hb : b = t ++ apl a r := h.res.symm
    have h' : By ([] ++ a) (t ++ apl a r) (.I t :: r) := by rw [← hb]; exact h
    have ih := By.ed r _ _ (h'.tail rfl rfl rfl)
    have eb : Edge b t.length := by have := h.edges.2.1; simpa [out1] using this
    have tb : rows b = rows t ++ rows (apl a r) := by
      rw [edge_cut eb, hb, List.take_append_of_le_length (by omega), List.take_of_length_le (by omega), List.drop_append_of_le_length (by omega), List.drop_of_length_le (by omega), List.nil_append]
    rw [tb]
    have := (Ed.inss (w := List.length) (rows t)).append ih
    rw [sum_rows] at this
    simpa [cst, cst1] using this
  | .D n :: r, a, b, h => by
    have hn : n ≤ a.length := by have := h.fit; simp only [inL, in1] at this; omega
    have hb : b = apl (a.drop n) r := h.res.symm
    have ha : a = a.take n ++ a.drop n := (List.take_append_drop n a).symm
    have hl : (a.take n).length = n := by rw [List.length_take]; omega
    have h' : By (a.take n ++ a.drop n) ([] ++ apl (a.drop n) r) (.D n :: r) := by rw [List.nil_append, ← hb, ← ha]; exact h
    have ih := By.ed r _ _ (h'.tail hl.symm rfl rfl)
    have ea : Edge a n := by have := h.edges.1; simpa [in1] using this
    have ta : rows a = rows (a.take n) ++ rows (a.drop n) := edge_cut ea
    rw [ta]
    have := (Ed.dels (w := List.length) (rows (a.take n))).append ih
    rw [sum_rows, hl] at this
    rw [hb]
    simpa [cst, cst1] using this
/-- No delta that goes by lines costs less. -/
theorem By.least {a b : List UInt8} {l : List Q} (h : By a b l) : lc List.length (rows a) (rows b) ≤ cst l := lc_le (By.ed l a b h)
theorem By.nf {a b : List UInt8} {l : List Q} (h : By a b l) : By a b (D.nf l) :=
  ⟨by rw [inL_nf]; exact h.fit, by rw [apl_nf]; exact h.res, byE_nf l 0 0 (edge_zero a) (edge_zero b) h.edges⟩

/-- A script over lines as a list of operations. -/
inductive Op where
  | keep (r : List UInt8)
  | del (r : List UInt8)
  | ins (r : List UInt8)
def opQ : Op → Q
  | .keep r => .R r.length
  | .del r => .D r.length
  | .ins r => .I r
def frm : List Op → List (List UInt8)
  | [] => []
  | .keep r :: l => r :: frm l
  | .del r :: l => r :: frm l
  | .ins _ :: l => frm l
def too : List Op → List (List UInt8)
  | [] => []
  | .keep r :: l => r :: too l
  | .del _ :: l => too l
  | .ins r :: l => r :: too l
def opC : List Op → Nat
  | [] => 0
  | .keep _ :: l => opC l
  | .del r :: l => r.length + opC l
  | .ins r :: l => r.length + opC l
theorem opC_ed : ∀ l : List Op, Ed List.length (frm l) (too l) (opC l)
  | [] => .nil
  | .keep r :: l => .keep r (opC_ed l)
  | .del r :: l => .del r (opC_ed l)
  | .ins r :: l => .ins r (opC_ed l)
theorem op_cst : ∀ l : List Op, cst (l.map opQ) = opC l
  | [] => rfl
  | .keep r :: l => by simp [cst, opQ, cst1, opC, op_cst l]
  | .del r :: l => by simp [cst, opQ, cst1, opC, op_cst l]
  | .ins r :: l => by simp [cst, opQ, cst1, opC, op_cst l]
theorem op_in : ∀ l : List Op, inL (l.map opQ) = (frm l).flatten.length
  | [] => rfl
  | .keep r :: l => by simp [inL, opQ, in1, frm, op_in l]
  | .del r :: l => by simp [inL, opQ, in1, frm, op_in l]
  | .ins r :: l => by simp [inL, opQ, in1, frm, op_in l]
theorem op_out : ∀ l : List Op, outL (l.map opQ) = (too l).flatten.length
  | [] => rfl
  | .keep r :: l => by simp [outL, opQ, out1, too, op_out l]
  | .del r :: l => by simp [outL, opQ, out1, too, op_out l]
  | .ins r :: l => by simp [outL, opQ, out1, too, op_out l]
theorem op_apl : ∀ l : List Op, apl (frm l).flatten (l.map opQ) = (too l).flatten
  | [] => rfl
  | .keep r :: l => by simp [apl, opQ, frm, too, op_apl l]
  | .del r :: l => by simp [apl, opQ, frm, too, op_apl l]
  | .ins r :: l => by simp [apl, opQ, frm, too, op_apl l]
theorem op_edges (a b : List UInt8) : ∀ (l : List Op) (x y : List (List UInt8)), rows a = x ++ frm l → rows b = y ++ too l → byE (Edge a) (Edge b) x.flatten.length y.flatten.length (l.map opQ)
  | [], _, _, _, _ => trivial
  | .keep r :: l, x, y, hx, hy => by
    have hx' : rows a = (x ++ [r]) ++ frm l := by rw [hx]; simp [frm]
    have hy' : rows b = (y ++ [r]) ++ too l := by rw [hy]; simp [too]
    have ih := op_edges a b l _ _ hx' hy'
    have ea := (edge_rows a _ _ hx').1
    have eb := (edge_rows b _ _ hy').1
    simp only [List.flatten_append, List.length_append, List.flatten_cons, List.flatten_nil, List.append_nil] at ih ea eb
    exact ⟨ea, eb, ih⟩
  | .del r :: l, x, y, hx, hy => by
    have hx' : rows a = (x ++ [r]) ++ frm l := by rw [hx]; simp [frm]
    have hy' : rows b = y ++ too l := by rw [hy]; simp [too]
    have ih := op_edges a b l _ _ hx' hy'
    have ea := (edge_rows a _ _ hx').1
    have eb := (edge_rows b _ _ hy').1
    simp only [List.flatten_append, List.length_append, List.flatten_cons, List.flatten_nil, List.append_nil] at ih ea
    exact ⟨ea, eb, ih⟩
  | .ins r :: l, x, y, hx, hy => by
    have hx' : rows a = x ++ frm l := by rw [hx]; simp [frm]
    have hy' : rows b = (y ++ [r]) ++ too l := by rw [hy]; simp [too]
    have ih := op_edges a b l _ _ hx' hy'
    have ea := (edge_rows a _ _ hx').1
    have eb := (edge_rows b _ _ hy').1
    simp only [List.flatten_append, List.length_append, List.flatten_cons, List.flatten_nil, List.append_nil] at ih eb
    exact ⟨ea, eb, ih⟩
/-- A script over lines goes by lines. -/
theorem op_by {a b : List UInt8} {l : List Op} (hx : frm l = rows a) (hy : too l = rows b) : By a b (l.map opQ) := by
  refine ⟨by rw [op_in, hx, rows_join], ?_, ?_⟩
  · have := op_apl l; rw [hx, hy, rows_join, rows_join] at this; exact this
  · have := op_edges a b l [] [] (by rw [hx]; rfl) (by rw [hy]; rfl); exact this
theorem op_pos (l : List Op) (hx : ∀ r ∈ frm l, r ≠ []) (hy : ∀ r ∈ too l, r ≠ []) : allPos (l.map opQ) = true := by
  induction l with
  | nil => rfl
  | cons o l ih =>
    cases o with
    | keep r =>
      have h := hx r (by simp [frm]); have := List.length_pos_iff.2 h
      have ih := ih (fun s hs => hx s (by simp [frm, hs])) (fun s hs => hy s (by simp [too, hs]))
      simp only [allPos, List.map_cons, List.all_cons] at ih ⊢; rw [ih]; simp [opQ, pos]; omega
    | del r =>
      have h := hx r (by simp [frm]); have := List.length_pos_iff.2 h
      have ih := ih (fun s hs => hx s (by simp [frm, hs])) (fun s hs => hy s (by simp [too, hs]))
      simp only [allPos, List.map_cons, List.all_cons] at ih ⊢; rw [ih]; simp [opQ, pos]; omega
    | ins r =>
      have h := hy r (by simp [too])
      have ih := ih (fun s hs => hx s (by simp [frm, hs])) (fun s hs => hy s (by simp [too, hs]))
      simp only [allPos, List.map_cons, List.all_cons] at ih ⊢; rw [ih]; simp [opQ, pos, h]
/-- Any script has a list of operations. -/
theorem Ed.ops {x y : List (List UInt8)} {c : Nat} (h : Ed List.length x y c) : ∃ l : List Op, frm l = x ∧ too l = y ∧ opC l = c := by
  induction h with
  | nil => exact ⟨[], rfl, rfl, rfl⟩
  | keep a _ ih => obtain ⟨l, rfl, rfl, rfl⟩ := ih; exact ⟨.keep a :: l, rfl, rfl, rfl⟩
  | del a _ ih => obtain ⟨l, rfl, rfl, rfl⟩ := ih; exact ⟨.del a :: l, rfl, rfl, rfl⟩
  | ins a _ ih => obtain ⟨l, rfl, rfl, rfl⟩ := ih; exact ⟨.ins a :: l, rfl, rfl, rfl⟩
theorem op_len : ∀ l : List Op, l.length ≤ (frm l).length + (too l).length
  | [] => by simp
  | .keep r :: l => by have := op_len l; simp only [frm, too, List.length_cons]; omega
  | .del r :: l => by have := op_len l; simp only [frm, too, List.length_cons]; omega
  | .ins r :: l => by have := op_len l; simp only [frm, too, List.length_cons]; omega
/-- A normal form that costs nothing keeps all. -/
theorem cst_zero {l : List Q} (hn : isN l = true) (hp : allPos l = true) (h : cst l = 0) : l = [] ∨ ∃ n, 0 < n ∧ l = [.R n] := by
  match l with
  | [] => exact Or.inl rfl
  | .R n :: r =>
    have pn : 0 < n := by simp only [allPos, List.all_cons, Bool.and_eq_true, pos, decide_eq_true_eq] at hp; exact hp.1
    match r with
    | [] => exact Or.inr ⟨n, pn, rfl⟩
    | .R m :: s => exact absurd (isN_ok hn) (by simp [D.ok])
    | .I t :: s => simp only [allPos, List.all_cons, Bool.and_eq_true, pos] at hp; simp only [cst, cst1] at h; have : t = [] := List.eq_nil_of_length_eq_zero (by omega); subst this; simp at hp
    | .D m :: s => simp only [allPos, List.all_cons, Bool.and_eq_true, pos, decide_eq_true_eq] at hp; simp only [cst, cst1] at h; omega
  | .I t :: s => simp only [allPos, List.all_cons, Bool.and_eq_true, pos] at hp; simp only [cst, cst1] at h; have : t = [] := List.eq_nil_of_length_eq_zero (by omega); subst this; simp at hp
  | .D m :: s => simp only [allPos, List.all_cons, Bool.and_eq_true, pos, decide_eq_true_eq] at hp; simp only [cst, cst1] at h; omega
end Go.Proofs.Ytdilkoogjkabfaa.F
/- DiffCommon -/
namespace Go.Proofs.Ytdilkoogjkabfaa.F
open Go.Proofs.Ytdilkoogjkabfaa.D

/-- The greatest number up to n with a property, 0 if there is none. -/
def gr (P : Nat → Bool) : Nat → Nat
  | 0 => 0
  | n + 1 => if P (n + 1) = true then n + 1 else gr P n
theorem gr_le (P : Nat → Bool) : ∀ n, gr P n ≤ n
  | 0 => Nat.le_refl _
  | n + 1 => by unfold gr; split
                · exact Nat.le_refl _
                · exact Nat.le_succ_of_le (gr_le P n)
theorem gr_is (P : Nat → Bool) : ∀ n, gr P n = 0 ∨ P (gr P n) = true
  | 0 => Or.inl rfl
  | n + 1 => by unfold gr; split
                · rename_i h; exact Or.inr h
                · exact gr_is P n
theorem gr_none (P : Nat → Bool) : ∀ n k, gr P n < k → k ≤ n → P k = false
  | 0, k, h, h' => by omega
  | n + 1, k, h, h' => by
    unfold gr at h
    split at h
    · omega
    · rename_i e
      by_cases c : k = n + 1
      · subst c; simpa using e
      · exact gr_none P n k h (by omega)
theorem gr_eq {P : Nat → Bool} {n m : Nat} (h1 : m ≤ n) (h2 : m = 0 ∨ P m = true) (h3 : ∀ k, m < k → k ≤ n → P k = false) : gr P n = m := by
  have a := gr_le P n
  rcases Nat.lt_trichotomy (gr P n) m with h | h | h
  · rcases h2 with h2 | h2
    · omega
    · rw [gr_none P n m h h1] at h2; cases h2
  · exact h
  · rcases gr_is P n with e | e
    · omega
    · rw [h3 _ h a] at e; cases e
/-- Behind the greatest one found so far. -/
theorem gr_succ (P : Nat → Bool) (n : Nat) : gr P (n + 1) = if P (n + 1) = true then n + 1 else gr P n := rfl
theorem gr_congr {P R : Nat → Bool} : ∀ {n : Nat}, (∀ k, 0 < k → k ≤ n → P k = R k) → gr P n = gr R n
  | 0, _ => rfl
  | n + 1, h => by unfold gr; rw [h (n + 1) (by omega) (Nat.le_refl _), gr_congr fun k h1 h2 => h k h1 (by omega)]

/-- How many bytes two strings begin with in common. -/
def sm : List UInt8 → List UInt8 → Nat
  | a :: x, b :: y => if a = b then sm x y + 1 else 0
  | _, _ => 0
theorem sm_le : ∀ x y : List UInt8, sm x y ≤ x.length ∧ sm x y ≤ y.length
  | [], _ => by simp [sm]
  | _ :: _, [] => by simp [sm]
  | a :: x, b :: y => by
    have := sm_le x y
    unfold sm; split
    · simp only [List.length_cons]; omega
    · simp
theorem sm_take : ∀ (x y : List UInt8) (p : Nat), p ≤ sm x y → x.take p = y.take p
  | [], y, p, h => by have : p = 0 := by simpa [sm] using h
                      subst this; rfl
  | a :: x, [], p, h => by have : p = 0 := by simpa [sm] using h
                           subst this; rfl
  | a :: x, b :: y, 0, _ => rfl
  | a :: x, b :: y, p + 1, h => by
    unfold sm at h
    split at h
    · rename_i e; rw [List.take_succ_cons, List.take_succ_cons, e, sm_take x y p (by omega)]
    · omega
theorem sm_at (x y : List UInt8) (i : Nat) (h : i < sm x y) : x[i]? = y[i]? := by
  have := sm_take x y (i + 1) h
  have h1 : (x.take (i + 1))[i]? = x[i]? := by rw [List.getElem?_take, if_pos (by omega)]
  have h2 : (y.take (i + 1))[i]? = y[i]? := by rw [List.getElem?_take, if_pos (by omega)]
  rw [← h1, this, h2]
theorem sm_eq : ∀ (x y : List UInt8) (m : Nat), m ≤ x.length → m ≤ y.length → (∀ i, i < m → x[i]? = y[i]?) → (m = x.length ∨ m = y.length ∨ x[m]? ≠ y[m]?) → sm x y = m
  | [], y, m, h1, _, _, _ => by have : m = 0 := by simpa using h1
                                subst this; simp [sm]
  | a :: x, [], m, _, h2, _, _ => by have : m = 0 := by simpa using h2
                                     subst this; simp [sm]
  | a :: x, b :: y, 0, _, _, _, h4 => by
    unfold sm
    rcases h4 with h4 | h4 | h4
    · simp at h4
    · simp at h4
    · rw [if_neg (by simpa using h4)]
  | a :: x, b :: y, m + 1, h1, h2, h3, h4 => by
    unfold sm
    have e := h3 0 (by omega)
    rw [if_pos (by simpa using e)]
    rw [sm_eq x y m (by simpa using h1) (by simpa using h2) (fun i hi => by have := h3 (i + 1) (by omega); simpa using this) (by simpa using h4)]
theorem sm_self (x : List UInt8) : sm x x = x.length := sm_eq x x x.length (Nat.le_refl _) (Nat.le_refl _) (fun _ _ => rfl) (Or.inl rfl)
theorem sm_comm : ∀ x y : List UInt8, sm x y = sm y x
  | [], [] => rfl
  | [], _ :: _ => rfl
  | _ :: _, [] => rfl
  | a :: x, b :: y => by
    unfold sm; rw [sm_comm x y]
    by_cases h : a = b
    · rw [if_pos h, if_pos h.symm]
    · rw [if_neg h, if_neg (fun e => h e.symm)]

/-- Is the offset a boundary of both? -/
def bb (a b : List UInt8) (p : Nat) : Bool := U.bndN a p && U.bndN b p
/-- Are the offsets k before the ends boundaries? -/
def be (a b : List UInt8) (k : Nat) : Bool := U.bndN a (a.length - k) && U.bndN b (b.length - k)
/-- P8.1: the two numbers. -/
def pre (a b : List UInt8) : Nat := gr (bb a b) (sm a b)
/-- How far the ends are the same, in what the beginning leaves. -/
def sme (a b : List UInt8) : Nat := min (sm a.reverse b.reverse) (min a.length b.length - pre a b)
def suf (a b : List UInt8) : Nat := gr (be a b) (sme a b)
theorem pre_le (a b : List UInt8) : pre a b ≤ sm a b ∧ pre a b ≤ a.length ∧ pre a b ≤ b.length := by
  have := gr_le (bb a b) (sm a b)
  have := sm_le a b
  unfold pre; omega
theorem suf_le (a b : List UInt8) : suf a b ≤ sm a.reverse b.reverse ∧ pre a b + suf a b ≤ a.length ∧ pre a b + suf a b ≤ b.length := by
  have h1 := gr_le (be a b) (sme a b)
  have h2 := pre_le a b
  unfold sme at h1
  unfold suf sme
  omega
theorem pre_take (a b : List UInt8) : a.take (pre a b) = b.take (pre a b) := sm_take a b _ (pre_le a b).1
theorem rev_take (x : List UInt8) (k : Nat) : x.reverse.take k = (x.drop (x.length - k)).reverse := by
  rw [List.take_reverse]
theorem suf_drop (a b : List UInt8) : a.drop (a.length - suf a b) = b.drop (b.length - suf a b) := by
  have h := suf_le a b
  have := sm_take a.reverse b.reverse _ h.1
  rw [rev_take, rev_take] at this
  exact List.reverse_inj.1 this
theorem pre_self (a : List UInt8) : pre a a = a.length := by
  unfold pre; rw [sm_self]
  exact gr_eq (Nat.le_refl _) (Or.inr (by unfold bb; rw [U.bndN_len]; rfl)) (fun k h1 h2 => by omega)
theorem suf_self (a : List UInt8) : suf a a = 0 := by have := (suf_le a a).2.1; rw [pre_self] at this; omega
/-- The byte k before the end. -/
theorem rev_at (x : List UInt8) (k : Nat) (h : k < x.length) : x.reverse[k]? = x[x.length - (k + 1)]? := by
  rw [List.getElem?_reverse h]; congr 1; omega

/-- What stands in the middle. -/
def mid (a b : List UInt8) : List UInt8 := (b.drop (pre a b)).take (b.length - pre a b - suf a b)
theorem whole (a b : List UInt8) : a.take (pre a b) ++ mid a b ++ a.drop (a.length - suf a b) = b := by
  have h := suf_le a b
  rw [pre_take, suf_drop]
  unfold mid
  have e : b.drop (b.length - suf a b) = (b.drop (pre a b)).drop (b.length - pre a b - suf a b) := by
    rw [List.drop_drop]; congr 1; omega
  rw [e, List.append_assoc, List.take_append_drop, List.take_append_drop]
theorem mid_len (a b : List UInt8) : (mid a b).length = b.length - pre a b - suf a b := by
  have h := suf_le a b
  unfold mid; rw [List.length_take, List.length_drop]; omega
/-- P8.2: the error and the delta. -/
def btE (a b : List UInt8) : Int := mkE a.length (pre a b : Nat) ((a.length - pre a b - suf a b : Nat) : Int) (mid a b)
def btP (a b : List UInt8) : List P := mkP a.length (pre a b : Nat) ((a.length - pre a b - suf a b : Nat) : Int) (mid a b)
theorem btE_eq (a b : List UInt8) : btE a b = if 1048576 < a.length ∨ 1048576 < b.length then 5 else 0 := by
  have h := suf_le a b
  have hm := mid_len a b
  unfold btE mkE
  rw [if_neg (by omega)]
  by_cases c : 1048576 < a.length ∨ 1048576 < b.length
  · rw [if_pos c, if_pos (by omega)]
  · rw [if_neg c, if_neg (by omega)]
theorem btP_bad {a b : List UInt8} (h : btE a b ≠ 0) : btP a b = [] := if_neg h
theorem bt_leads {a b : List UInt8} (h : btE a b = 0) : fitE a (btP a b) = 0 ∧ resP a (btP a b) = b := by
  have k := mk_does (s := a) h
  have l := suf_le a b
  refine ⟨k.1, k.2.trans ?_⟩
  rw [Int.toNat_natCast, Int.toNat_natCast, show pre a b + (a.length - pre a b - suf a b) = a.length - suf a b by omega]
  exact whole a b
theorem bt_qs {a b : List UInt8} (h : btE a b = 0) : qs (btP a b) = nf (edit a.length (pre a b) (a.length - pre a b - suf a b) (mid a b)) := (mkP_ok h).2
/-- The identity. -/
theorem bt_self {a : List UInt8} (h : btE a a = 0) : btP a a = (if a.length = 0 then [] else [.R a.length] : List Q).map raw := by
  have h' := h
  unfold btE at h'
  unfold btP mkP
  rw [if_pos h', pre_self, suf_self]
  have m0 : mid a a = [] := List.eq_nil_of_length_eq_zero (by rw [mid_len, pre_self, suf_self]; omega)
  rw [m0]
  unfold edit
  simp only [Int.toNat_natCast, Nat.sub_self, Nat.add_zero, if_true, Nat.lt_irrefl, if_false, List.append_nil]
  by_cases c : a.length = 0
  · rw [if_neg (by omega), if_pos c]; rfl
  · rw [if_pos (by omega), if_neg c]; rfl
theorem in_R (n : Nat) : inL (if 0 < n then [Q.R n] else []) = n ∧ outL (if 0 < n then [Q.R n] else []) = n := by
  split <;> simp [inL, outL, in1, out1] <;> omega
theorem in_D (n : Nat) : inL (if 0 < n then [Q.D n] else []) = n ∧ outL (if 0 < n then [Q.D n] else []) = 0 := by
  split <;> simp [inL, outL, in1, out1] <;> omega
theorem in_I (t : List UInt8) : inL (if t = [] then [] else [Q.I t]) = 0 ∧ outL (if t = [] then [] else [Q.I t]) = t.length := by
  split <;> simp_all [inL, outL, in1, out1]
/-- The pieces of the delta end at boundaries where both strings are valid. -/
theorem bt_bounds {a b : List UInt8} (ha : U.valid a = true) (hb : U.valid b = true) (h : btE a b = 0) : byE (fun k => U.bndN a k = true) (fun k => U.bndN b k = true) 0 0 (qs (btP a b)) := by
  have l := suf_le a b
  have hp : U.bndN a (pre a b) = true ∧ U.bndN b (pre a b) = true := by
    rcases gr_is (bb a b) (sm a b) with e | e
    · have e' : pre a b = 0 := e
      rw [e']; exact ⟨U.bndN_zero_of_valid _ ha, U.bndN_zero_of_valid _ hb⟩
    · exact Bool.and_eq_true_iff.1 e
  have hs : U.bndN a (a.length - suf a b) = true ∧ U.bndN b (b.length - suf a b) = true := by
    rcases gr_is (be a b) (sme a b) with e | e
    · have e' : suf a b = 0 := e
      rw [e', Nat.sub_zero, Nat.sub_zero]; exact ⟨U.bndN_len _, U.bndN_len _⟩
    · exact Bool.and_eq_true_iff.1 e
  rw [bt_qs h]
  refine byE_nf _ 0 0 (U.bndN_zero_of_valid _ ha) (U.bndN_zero_of_valid _ hb) ?_
  have app : ∀ (x y : List Q) (i o : Nat), byE (fun k => U.bndN a k = true) (fun k => U.bndN b k = true) i o x → byE (fun k => U.bndN a k = true) (fun k => U.bndN b k = true) (i + inL x) (o + outL x) y → byE (fun k => U.bndN a k = true) (fun k => U.bndN b k = true) i o (x ++ y) := by
    intro x
    induction x with
    | nil => intro y i o _ k; exact k
    | cons q x ih => intro y i o hx hy; exact ⟨hx.1, hx.2.1, ih y _ _ hx.2.2 (by rw [Nat.add_assoc, Nat.add_assoc]; exact hy)⟩
  have ml := mid_len a b
  unfold edit
  refine app _ _ _ _ (app _ _ _ _ (app _ _ _ _ ?_ ?_) ?_) ?_
  · split
    · exact ⟨by simpa [in1] using hp.1, by simpa [out1] using hp.2, trivial⟩
    · trivial
  · rw [(in_R _).1, (in_R _).2]
    split
    · trivial
    · refine ⟨by simpa [in1] using hp.1, ?_, trivial⟩
      show U.bndN b (0 + pre a b + (mid a b).length) = true
      rw [ml, show 0 + pre a b + (b.length - pre a b - suf a b) = b.length - suf a b by omega]
      exact hs.2
  · rw [inL_append, outL_append, (in_R _).1, (in_R _).2, (in_I _).1, (in_I _).2, ml, Nat.add_zero, show pre a b + (b.length - pre a b - suf a b) = b.length - suf a b by omega]
    split
    · refine ⟨?_, ?_, trivial⟩
      · show U.bndN a (0 + pre a b + (a.length - pre a b - suf a b)) = true
        rw [show 0 + pre a b + (a.length - pre a b - suf a b) = a.length - suf a b by omega]; exact hs.1
      · show U.bndN b (0 + (b.length - suf a b) + 0) = true
        rw [Nat.zero_add, Nat.add_zero]; exact hs.2
    · trivial
  · rw [inL_append, outL_append, inL_append, outL_append, (in_R _).1, (in_R _).2, (in_I _).1, (in_I _).2, (in_D _).1, (in_D _).2, ml, Nat.add_zero, Nat.add_zero, show pre a b + (b.length - pre a b - suf a b) = b.length - suf a b by omega, show pre a b + (a.length - pre a b - suf a b) = a.length - suf a b by omega]
    split
    · have e1 : 0 + (a.length - suf a b) + (a.length - pre a b - (a.length - pre a b - suf a b)) = a.length := by omega
      have e2 : 0 + (b.length - suf a b) + (a.length - pre a b - (a.length - pre a b - suf a b)) = b.length := by omega
      refine ⟨?_, ?_, trivial⟩
      · show U.bndN a (0 + (a.length - suf a b) + (a.length - pre a b - (a.length - pre a b - suf a b))) = true
        rw [e1]; exact U.bndN_len a
      · show U.bndN b (0 + (b.length - suf a b) + (a.length - pre a b - (a.length - pre a b - suf a b))) = true
        rw [e2]; exact U.bndN_len b
    · trivial
/-- A part of a valid string between two boundaries is valid. -/
theorem valid_part {l : List UInt8} {i j : Nat} (h : U.valid l = true) (hi : U.bndN l i = true) (hj : U.bndN l (i + j) = true) : U.valid ((l.drop i).take j) = true := by
  have li := U.bndN_le _ hi
  have lj := U.bndN_le _ hj
  have h1 := (U.valid_cut_yes l.length l i (Nat.le_refl _) h li hi).2
  exact (U.valid_cut_yes (l.drop i).length (l.drop i) j (Nat.le_refl _) h1 (by rw [List.length_drop]; omega) (by rw [U.bndN_drop l i j li]; exact hj)).1
end Go.Proofs.Ytdilkoogjkabfaa.F
/- DiffRaw -/
namespace Go.Proofs.Ytdilkoogjkabfaa.F
open Go.Proofs.Ytdilkoogjkabfaa.D

/-! ### Cost -/
/-- What a piece adds to the cost. -/
def cs1 (p : P) : Int := (p.t.size : Int) + (if p.k = 3 then p.n else 0)
def cs : List P → Int
  | [] => 0
  | p :: r => cs1 p + cs r
theorem cs1_raw (q : Q) : cs1 (raw q) = (cst1 q : Int) := by
  cases q with
  | R n => rfl
  | I t => simp [cs1, raw, cst1, size_l]
  | D n => show ((0 : Nat) : Int) + (if (3 : Int) = 3 then (n : Int) else 0) = (n : Int)
           rw [if_pos rfl]; omega
theorem cs_raw : ∀ l : List Q, cs (l.map raw) = (cst l : Int)
  | [] => rfl
  | q :: r => by rw [List.map_cons, cs, cs1_raw, cs_raw r, cst]; omega
theorem cs_append (a b : List P) : cs (a ++ b) = cs a + cs b := by
  induction a with
  | nil => simp [cs]
  | cons p a ih => rw [List.cons_append, cs, ih, cs]; omega
theorem cs_snoc (l : List P) (k : Nat) (p : P) (h : l[k]? = some p) : cs (l.take (k + 1)) = cs (l.take k) + (p.t.size : Int) + (if p.k = 3 then p.n else 0) := by
  rw [List.take_add_one, h, cs_append]
  show cs (l.take k) + (cs1 p + 0) = _
  unfold cs1; omega
theorem cs_qs {l : List P} (h : chk l = 0) : cs l = (cst (qs l) : Int) := by
  rw [← cs_raw, (valid_qs h).1]
theorem cst_le : ∀ l : List Q, cst l ≤ inL l + outL l
  | [] => Nat.le_refl _
  | q :: r => by
    have := cst_le r
    cases q <;> simp only [cst, cst1, inL, in1, outL, out1] <;> omega
theorem cs_bd {l : List P} (h : chk l = 0) (k : Nat) : 0 ≤ cs (l.take k) ∧ cs (l.take k) ≤ 2097152 := by
  obtain ⟨a, pa, rfl, h4, hi, ho⟩ := (chk_iff l).1 h
  rw [← List.map_take, cs_raw]
  have h1 := cst_le (a.take k)
  have h2 : inL (a.take k) ≤ inL a := by conv => rhs; rw [← List.take_append_drop k a, inL_append]
                                         omega
  have h3 : outL (a.take k) ≤ outL a := by conv => rhs; rw [← List.take_append_drop k a, outL_append]
                                           omega
  omega
/-- P8.4. -/
def costP (l : List P) : Int := if chk l = 0 then cs l else 0
theorem costP_ok {l : List P} (h : chk l = 0) : costP l = (cst (qs l) : Int) := by unfold costP; rw [if_pos h, cs_qs h]

/-! ### By lines -/
/-- Is an offset between two lines, at the beginning or at the end? -/
def edgeB (s : List UInt8) (k : Int) : Bool := k == 0 || k == (s.length : Int) || (decide (0 < k) && decide (k < s.length) && s.getD (k - 1).toNat 0 == 10)
theorem edgeB_iff (s : List UInt8) (k : Nat) : edgeB s (k : Int) = true ↔ Edge s k := by
  unfold edgeB Edge
  simp only [Bool.or_eq_true, beq_iff_eq, Bool.and_eq_true, decide_eq_true_eq]
  constructor
  · rintro ((h | h) | ⟨⟨h1, h2⟩, h3⟩)
    · exact Or.inl (by omega)
    · exact Or.inr (Or.inl (by omega))
    · refine Or.inr (Or.inr ⟨by omega, ?_⟩)
      rw [show ((k : Int) - 1).toNat = k - 1 by omega] at h3
      rw [List.getD_eq_getElem?_getD, List.getElem?_eq_getElem (by omega)] at h3
      rw [List.getElem?_eq_getElem (by omega)]
      exact congrArg some h3
  · rintro (h | h | ⟨h1, h2⟩)
    · exact Or.inl (Or.inl (by omega))
    · exact Or.inl (Or.inr (by omega))
    · rcases Nat.eq_zero_or_pos k with c | c
      · exact Or.inl (Or.inl (by omega))
      · refine Or.inr ⟨⟨by omega, by omega⟩, ?_⟩
        rw [show ((k : Int) - 1).toNat = k - 1 by omega, List.getD_eq_getElem?_getD, h2]
        rfl
theorem byE_iff {A B : Nat → Prop} : ∀ (l : List Q) (i o : Nat), byE A B i o l ↔ ∀ j, j < l.length → A (i + inL (l.take (j + 1))) ∧ B (o + outL (l.take (j + 1)))
  | [], i, o => by simp [byE]
  | q :: r, i, o => by
    unfold byE
    rw [byE_iff r]
    constructor
    · rintro ⟨h1, h2, h3⟩ j hj
      cases j with
      | zero => simpa [inL, outL] using ⟨h1, h2⟩
      | succ j =>
        have := h3 j (by simpa using hj)
        rw [List.take_succ_cons]; simp only [inL, outL]
        rw [← Nat.add_assoc, ← Nat.add_assoc]; exact this
    · intro h
      have h0 := h 0 (by simp)
      simp only [Nat.zero_add, List.take_succ_cons, List.take_zero, inL, outL, Nat.add_zero] at h0
      refine ⟨h0.1, h0.2, fun j hj => ?_⟩
      have := h (j + 1) (by simpa using hj)
      rw [List.take_succ_cons] at this; simp only [inL, outL] at this
      rw [Nat.add_assoc, Nat.add_assoc]; exact this
/-- Do the first k pieces end at edges? -/
def allE (a b : List UInt8) (l : List P) (k : Nat) : Prop := ∀ j, j < k → edgeB a (inP (l.take (j + 1))) = true ∧ edgeB b (outP (l.take (j + 1))) = true
theorem allE_zero (a b : List UInt8) (l : List P) : allE a b l 0 := fun j h => by omega
theorem allE_succ {a b : List UInt8} {l : List P} {k : Nat} (h : allE a b l k) (h1 : edgeB a (inP (l.take (k + 1))) = true) (h2 : edgeB b (outP (l.take (k + 1))) = true) : allE a b l (k + 1) := fun j hj => by
  rcases Nat.lt_or_ge j k with c | c
  · exact h j c
  · have : j = k := by omega
    subst this; exact ⟨h1, h2⟩
theorem by_iff {a b : List UInt8} {l : List P} (h : chk l = 0) : By a b (qs l) ↔ fitE a l = 0 ∧ resP a l = b ∧ allE a b l l.length := by
  have hv := valid_qs h
  have hE : byE (Edge a) (Edge b) 0 0 (qs l) ↔ allE a b l l.length := by
    rw [byE_iff, hv.2.2.1]
    have e : ∀ j, inP (l.take j) = (inL ((qs l).take j) : Int) ∧ outP (l.take j) = (outL ((qs l).take j) : Int) := by
      intro j
      have : l.take j = ((qs l).take j).map raw := by rw [List.map_take, hv.1]
      rw [this, inP_raw, outP_raw]; exact ⟨rfl, rfl⟩
    unfold allE
    refine forall_congr' fun j => forall_congr' fun _ => ?_
    rw [(e _).1, (e _).2, edgeB_iff, edgeB_iff, Nat.zero_add, Nat.zero_add]
  constructor
  · intro k
    have f := fitE_of h k.fit
    exact ⟨f, by rw [resP_eq f]; exact k.res, hE.1 k.edges⟩
  · rintro ⟨f, r, k⟩
    exact ⟨(fitE_zero f).2, by rw [← resP_eq f]; exact r, hE.2 k⟩
/-- The least cost between two strings. -/
def dist (a b : List UInt8) : Nat := lc List.length (rows a) (rows b)
theorem dist_symm (a b : List UInt8) : dist a b = dist b a := lc_symm _ _
theorem dist_tri (a b c : List UInt8) : dist a c ≤ dist a b + dist b c := lc_tri _ _ _
theorem dist_le (a b : List UInt8) : dist a b ≤ a.length + b.length := by
  have := lc_sum (w := List.length) (rows a) (rows b)
  rw [sum_rows, sum_rows] at this; exact this
theorem dist_zero (a b : List UInt8) : dist a b = 0 ↔ a = b := by
  unfold dist
  rw [lc_zero (rows_pos a) (rows_pos b)]
  exact ⟨rows_inj, fun h => by rw [h]⟩
/-- P8.3: what Lines may return. -/
structure Ln (a b : List UInt8) (l : List P) : Prop where
  ok : chk l = 0
  nrm : normP l = l
  lines : By a b (qs l)
  least : cst (qs l) = dist a b
theorem Ln.cost {a b : List UInt8} {l : List P} (h : Ln a b l) : costP l = (dist a b : Int) := by rw [costP_ok h.ok, h.least]
theorem Ln.leads {a b : List UInt8} {l : List P} (h : Ln a b l) : fitE a l = 0 ∧ resP a l = b := by
  have := (by_iff h.ok).1 h.lines; exact ⟨this.1, this.2.1⟩
theorem least_of {a b : List UInt8} {l : List P} (h : chk l = 0) (k : By a b (qs l)) : (dist a b : Int) ≤ costP l := by
  rw [costP_ok h]; have := k.least; unfold dist; omega
theorem Ln.self {a : List UInt8} {l : List P} (h : Ln a a l) : l = (if a.length = 0 then [] else [.R a.length] : List Q).map raw := by
  have hv := valid_qs h.ok
  have hn : isN (qs l) = true := by
    rw [isN_iff]
    have := h.nrm
    unfold normP at this
    exact map_raw_inj (this.trans hv.1.symm)
  have c0 : cst (qs l) = 0 := by rw [h.least]; exact (dist_zero a a).2 rfl
  have hf := h.lines.fit
  rcases cst_zero hn hv.2.1 c0 with e | ⟨n, pn, e⟩
  · rw [e] at hf
    have : a.length = 0 := hf.symm
    rw [if_pos this, ← hv.1, e]
  · rw [e] at hf
    have hn : n + 0 = a.length := hf
    rw [if_neg (by omega), ← hv.1, e, ← hn]; rfl
/-- A script of least cost makes such a delta. -/
theorem ln_of {a b : List UInt8} {o : List Op} (ha : a.length ≤ 1048576) (hb : b.length ≤ 1048576) (ra : (rows a).length ≤ 1024) (rb : (rows b).length ≤ 1024)
    (hx : frm o = rows a) (hy : too o = rows b) (hc : opC o = dist a b) : Ln a b ((nf (o.map opQ)).map raw) := by
  have hb' := op_by hx hy
  have hp : allPos (o.map opQ) = true := op_pos o (by rw [hx]; exact rows_ne a) (by rw [hy]; exact rows_ne b)
  have hl := op_len o
  rw [hx, hy] at hl
  have hi : inL (o.map opQ) = a.length := hb'.fit
  have hr : outL (o.map opQ) = b.length := by rw [op_out, hy, rows_join]
  have ok : chk ((nf (o.map opQ)).map raw) = 0 := by
    have l1 := nf_length (o.map opQ)
    rw [List.length_map] at l1
    rw [chk_pos _ (allPos_nf _ hp) (by omega), inL_nf, outL_nf, if_pos (by omega)]
  refine ⟨ok, by rw [normP_raw, nf_nf], ?_, ?_⟩
  · rw [qs_raw]; exact hb'.nf
  · rw [qs_raw, cst_nf, op_cst, hc]
/-- The same, where pieces are as the operations are before they are normalized. -/
theorem ln_exists {a b : List UInt8} (ha : a.length ≤ 1048576) (hb : b.length ≤ 1048576) (ra : (rows a).length ≤ 1024) (rb : (rows b).length ≤ 1024) : ∃ l, Ln a b l := by
  obtain ⟨o, hx, hy, hc⟩ := (lc_ed (w := List.length) (rows a) (rows b)).ops
  exact ⟨_, ln_of ha hb ra rb hx hy hc⟩

/-! ### The table of costs -/
section
variable {α : Type} {w : α → Nat} [DecidableEq α]
omit [DecidableEq α] in
theorem sumW_append (x y : List α) : sumW w (x ++ y) = sumW w x + sumW w y := by unfold sumW; rw [List.map_append, List.sum_append]
omit [DecidableEq α] in
theorem sumW_take (x : List α) (i : Nat) : sumW w (x.take i) ≤ sumW w x := by
  conv => rhs; rw [← List.take_append_drop i x, sumW_append]
  omega
omit [DecidableEq α] in
theorem sumW_drop (x : List α) (i : Nat) : sumW w (x.drop i) ≤ sumW w x := by
  conv => rhs; rw [← List.take_append_drop i x, sumW_append]
  omega
/-- From the first i elements to the first k. -/
def tab (w : α → Nat) (x y : List α) (i k : Nat) : Nat := lc w (x.take i) (y.take k)
theorem tab_00 (x y : List α) : tab w x y 0 0 = 0 := by unfold tab; rw [List.take_zero, List.take_zero, lc_nil]; rfl
theorem tab_0k (x y : List α) (k : Nat) (b : α) (h : y[k]? = some b) : tab w x y 0 (k + 1) = tab w x y 0 k + w b := by
  unfold tab; rw [List.take_zero, lc_nil, lc_nil, List.take_add_one, h, sumW_append]; simp [sumW]
theorem tab_i0 (x y : List α) (i : Nat) (a : α) (h : x[i]? = some a) : tab w x y (i + 1) 0 = tab w x y i 0 + w a := by
  unfold tab; rw [List.take_zero, lc_nil', lc_nil', List.take_add_one, h, sumW_append]; simp [sumW]
theorem tab_step (x y : List α) (i k : Nat) (a b : α) (ha : x[i]? = some a) (hb : y[k]? = some b) : tab w x y (i + 1) (k + 1) =
    if a = b then min (min (w a + tab w x y i (k + 1)) (w b + tab w x y (i + 1) k)) (tab w x y i k) else min (w a + tab w x y i (k + 1)) (w b + tab w x y (i + 1) k) := by
  unfold tab
  have e1 : x.take (i + 1) = x.take i ++ [a] := by rw [List.take_add_one, ha]; rfl
  have e2 : y.take (k + 1) = y.take k ++ [b] := by rw [List.take_add_one, hb]; rfl
  rw [e1, e2, lc_step]
/-- Equal elements at the end: keep them. -/
theorem tab_keep (x y : List α) (i k : Nat) (a : α) (ha : x[i]? = some a) (hb : y[k]? = some a) : tab w x y (i + 1) (k + 1) = tab w x y i k := by
  unfold tab
  have e1 : x.take (i + 1) = x.take i ++ [a] := by rw [List.take_add_one, ha]; rfl
  have e2 : y.take (k + 1) = y.take k ++ [a] := by rw [List.take_add_one, hb]; rfl
  rw [e1, e2, lc_snoc_keep]
theorem tab_other (x y : List α) (i k : Nat) (a b : α) (ha : x[i]? = some a) (hb : y[k]? = some b) (h : ¬ a = b) : tab w x y (i + 1) (k + 1) = min (w a + tab w x y i (k + 1)) (w b + tab w x y (i + 1) k) := by
  rw [tab_step x y i k a b ha hb, if_neg h]
theorem tab_le (x y : List α) (i k : Nat) : tab w x y i k ≤ sumW w x + sumW w y := by
  have := lc_sum (w := w) (x.take i) (y.take k)
  have := sumW_take (w := w) x i
  have := sumW_take (w := w) y k
  unfold tab; omega
theorem tab_end (x y : List α) : tab w x y x.length y.length = lc w x y := by unfold tab; rw [List.take_length, List.take_length]
/-- From what is behind the first i elements to what is behind the first k. -/
def bat (w : α → Nat) (x y : List α) (i k : Nat) : Nat := lc w (x.drop i) (y.drop k)
omit [DecidableEq α] in
theorem drop_at (x : List α) (i : Nat) (a : α) (h : x[i]? = some a) : x.drop i = a :: x.drop (i + 1) := by
  obtain ⟨hl, e⟩ := List.getElem?_eq_some_iff.1 h
  rw [List.drop_eq_getElem_cons hl, e]
theorem bat_end (x y : List α) : bat w x y x.length y.length = 0 := by unfold bat; rw [List.drop_length, List.drop_length, lc_nil]; rfl
theorem bat_nk (x y : List α) (k : Nat) (b : α) (h : y[k]? = some b) : bat w x y x.length k = w b + bat w x y x.length (k + 1) := by
  unfold bat; rw [List.drop_length, lc_nil, lc_nil, drop_at y k b h]; simp [sumW]
theorem bat_in (x y : List α) (i : Nat) (a : α) (h : x[i]? = some a) : bat w x y i y.length = w a + bat w x y (i + 1) y.length := by
  unfold bat; rw [List.drop_length, lc_nil', lc_nil', drop_at x i a h]; simp [sumW]
theorem bat_keep (x y : List α) (i k : Nat) (a : α) (ha : x[i]? = some a) (hb : y[k]? = some a) : bat w x y i k = bat w x y (i + 1) (k + 1) := by
  unfold bat; rw [drop_at x i a ha, drop_at y k a hb, lc_keep]
theorem bat_other (x y : List α) (i k : Nat) (a b : α) (ha : x[i]? = some a) (hb : y[k]? = some b) (h : ¬ a = b) : bat w x y i k = min (w a + bat w x y (i + 1) k) (w b + bat w x y i (k + 1)) := by
  unfold bat
  rw [drop_at x i a ha, drop_at y k b hb, lc_cons h]
theorem bat_step (x y : List α) (i k : Nat) (a b : α) (ha : x[i]? = some a) (hb : y[k]? = some b) : bat w x y i k =
    if a = b then min (min (w a + bat w x y (i + 1) k) (w b + bat w x y i (k + 1))) (bat w x y (i + 1) (k + 1)) else min (w a + bat w x y (i + 1) k) (w b + bat w x y i (k + 1)) := by
  split
  · rename_i e; subst e
    rw [bat_keep x y i k a ha hb]
    have h2 : bat w x y (i + 1) (k + 1) ≤ w a + bat w x y (i + 1) k := by
      unfold bat; rw [drop_at y k a hb]
      have := lc_tri (w := w) (x.drop (i + 1)) (a :: y.drop (k + 1)) (y.drop (k + 1))
      have := lc_le (Ed.del a (Ed.refl (w := w) (y.drop (k + 1))))
      omega
    have h3 : bat w x y (i + 1) (k + 1) ≤ w a + bat w x y i (k + 1) := by
      unfold bat; rw [drop_at x i a ha]
      have := lc_tri (w := w) (x.drop (i + 1)) (a :: x.drop (i + 1)) (y.drop (k + 1))
      have := lc_le (Ed.ins a (Ed.refl (w := w) (x.drop (i + 1))))
      omega
    omega
  · rename_i h; exact bat_other x y i k a b ha hb h
theorem bat_le (x y : List α) (i k : Nat) : bat w x y i k ≤ sumW w x + sumW w y := by
  have := lc_sum (w := w) (x.drop i) (y.drop k)
  have := sumW_drop (w := w) x i
  have := sumW_drop (w := w) y k
  unfold bat; omega
theorem bat_00 (x y : List α) : bat w x y 0 0 = lc w x y := rfl
end

/-! ### Finding lines -/
/-- The line that begins at k has no end before i. -/
structure RL (s : List UInt8) (k i : Nat) : Prop where
  le : k ≤ i
  start : k = 0 ∨ s[k - 1]? = some 10
  none : ∀ j, k ≤ j → j < i → s[j]? ≠ some 10
theorem RL.zero (s : List UInt8) : RL s 0 0 := ⟨Nat.le_refl _, Or.inl rfl, fun _ _ h => by omega⟩
theorem RL.ends {s : List UInt8} {k i : Nat} (h : RL s k i) (hk : k ≤ s.length) : s.take k = [] ∨ (s.take k).getLast? = some 10 := by
  rcases h.start with e | e
  · subst e; exact Or.inl rfl
  · by_cases k0 : k = 0
    · subst k0; exact Or.inl rfl
    · refine Or.inr ?_
      rw [List.getLast?_eq_getElem?, List.length_take, List.getElem?_take, Nat.min_eq_left hk, if_pos (by omega)]; exact e
theorem RL.skip {s : List UInt8} {k i : Nat} (h : RL s k i) (hs : s[i]? ≠ some 10) : RL s k (i + 1) :=
  ⟨Nat.le_succ_of_le h.le, h.start, fun j h1 h2 => by
    rcases Nat.lt_or_ge j i with c | c
    · exact h.none j h1 c
    · have : j = i := by omega
      subst this; exact hs⟩
theorem RL.plain {s : List UInt8} {k i : Nat} (h : RL s k i) : ∀ c ∈ (s.drop k).take (i - k), c ≠ 10 := by
  intro c hc e
  obtain ⟨j, hj, e1⟩ := List.getElem_of_mem hc
  rw [List.length_take] at hj
  have hj' : j < i - k := by omega
  have : ((s.drop k).take (i - k))[j]? = some c := by rw [List.getElem?_eq_getElem (by rw [List.length_take]; omega), e1]
  rw [List.getElem?_take, if_pos hj', List.getElem?_drop, e] at this
  exact h.none (k + j) (by omega) (by omega) this
theorem take_more (s : List UInt8) (k i : Nat) (h : k ≤ i) : s.take i = s.take k ++ (s.drop k).take (i - k) := by
  conv => lhs; rw [show i = k + (i - k) by omega, List.take_add]
/-- A line feed ends the line. -/
theorem RL.feed {s : List UInt8} {k i : Nat} (h : RL s k i) (hs : s[i]? = some 10) : rows (s.take (i + 1)) = rows (s.take k) ++ [(s.drop k).take (i + 1 - k)] ∧ RL s (i + 1) (i + 1) := by
  have hi : i < s.length := (List.getElem?_eq_some_iff.1 hs).1
  have hle := h.le
  refine ⟨?_, ⟨Nat.le_refl _, Or.inr hs, fun _ _ h => by omega⟩⟩
  have e : (s.drop k).take (i + 1 - k) = (s.drop k).take (i - k) ++ [10] := by
    rw [show i + 1 - k = (i - k) + 1 by omega, List.take_add_one, List.getElem?_drop, show k + (i - k) = i by omega, hs]; rfl
  rw [take_more s k (i + 1) (by omega), e]
  exact rows_feed _ (h.ends (by omega)) _ h.plain
/-- The last line has no line feed. -/
theorem RL.last {s : List UInt8} {k : Nat} (h : RL s k s.length) (hk : k < s.length) : rows s = rows (s.take k) ++ [s.drop k] := by
  have e : (s.drop k).take (s.length - k) = s.drop k := List.take_of_length_le (by rw [List.length_drop]; omega)
  have := h.plain
  rw [e] at this
  have r := (rows_snoc (s.take k) (h.ends (by omega)) (s.drop k) (fun c => by have := congrArg List.length c; rw [List.length_drop] at this; simp at this; omega) this).1
  rw [List.take_append_drop] at r; exact r
theorem RL.done {s : List UInt8} {k : Nat} (hk : k = s.length) : rows s = rows (s.take k) := by rw [hk, List.take_length]
theorem rows_len (s : List UInt8) : (rows s).length ≤ s.length := by
    have h := sum_rows s
    have k : ∀ l : List (List UInt8), (∀ r ∈ l, 0 < r.length) → l.length ≤ sumW List.length l := by
      intro l hl
      induction l with
      | nil => exact Nat.zero_le _
      | cons r l ih =>
        have h1 := hl r List.mem_cons_self
        have h2 := ih fun r hr => hl r (List.mem_cons_of_mem _ hr)
        simp only [sumW, List.length_cons, List.map_cons, List.sum_cons] at h2 ⊢; omega
    have := k (rows s) (rows_pos s)
    omega
/-- The number of lines: the line feeds, and one more if the last line has none. -/
theorem rows_count : ∀ s : List UInt8, (rows s).length = s.count 10 + (if s = [] ∨ s.getLast? = some 10 then 0 else 1)
  | [] => rfl
  | [c] => by
    by_cases h : c = 10
    · subst h; rfl
    · rw [rows, if_neg h]; simp [rows, h]
  | c :: d :: s => by
    have ih := rows_count (d :: s)
    have e : ((c :: d :: s) = [] ∨ (c :: d :: s).getLast? = some 10) ↔ ((d :: s) = [] ∨ (d :: s).getLast? = some 10) := by
      rw [List.getLast?_cons_cons]; simp
    have ei : (if (c :: d :: s) = [] ∨ (c :: d :: s).getLast? = some 10 then 0 else 1) = (if (d :: s) = [] ∨ (d :: s).getLast? = some 10 then 0 else 1) := by
      by_cases k : (d :: s) = [] ∨ (d :: s).getLast? = some 10
      · rw [if_pos k, if_pos (e.2 k)]
      · rw [if_neg k, if_neg (fun x => k (e.1 x))]
    rw [ei, List.count_cons]
    have b1 : ((10 : UInt8) == 10) = true := rfl
    by_cases h : c = 10
    · have : rows (c :: d :: s) = [10] :: rows (d :: s) := by rw [rows, if_pos h]
      rw [this, List.length_cons, ih, h, b1]; simp only [if_true]; omega
    · have : (rows (c :: d :: s)).length = (rows (d :: s)).length := by
        rw [rows, if_neg h]
        cases h' : rows (d :: s) with
        | nil => exact absurd (rows_nil.1 h') (by simp)
        | cons r l => rfl
      have b2 : (c == 10) = false := by simpa using h
      rw [this, ih, b2]; simp
end Go.Proofs.Ytdilkoogjkabfaa.F
/- DiffPick -/
namespace Go.Proofs.Ytdilkoogjkabfaa.F
open Go.Proofs.Ytdilkoogjkabfaa.D

/-- What is done, from x to y. -/
def pk : List (List UInt8) → List (List UInt8) → List Op
  | [], [] => []
  | [], b :: y => .ins b :: pk [] y
  | a :: x, [] => .del a :: pk x []
  | a :: x, b :: y => if a = b then .keep a :: pk x y
      else if b.length + lc List.length (a :: x) y = lc List.length (a :: x) (b :: y) then .ins b :: pk (a :: x) y else .del a :: pk x (b :: y)
termination_by x y => x.length + y.length
decreasing_by all_goals (simp only [List.length_cons, List.length_nil]; omega)
theorem pk_nn : pk [] [] = [] := by rw [pk]
theorem pk_nc (b : List UInt8) (y : List (List UInt8)) : pk [] (b :: y) = .ins b :: pk [] y := by rw [pk]
theorem pk_cn (a : List UInt8) (x : List (List UInt8)) : pk (a :: x) [] = .del a :: pk x [] := by rw [pk]
theorem pk_keep (a : List UInt8) (x y : List (List UInt8)) : pk (a :: x) (a :: y) = .keep a :: pk x y := by rw [pk, if_pos rfl]
theorem pk_ins {a b : List UInt8} {x y : List (List UInt8)} (h : ¬ a = b) (k : b.length + lc List.length (a :: x) y = lc List.length (a :: x) (b :: y)) : pk (a :: x) (b :: y) = .ins b :: pk (a :: x) y := by rw [pk, if_neg h, if_pos k]
theorem pk_del {a b : List UInt8} {x y : List (List UInt8)} (h : ¬ a = b) (k : ¬ b.length + lc List.length (a :: x) y = lc List.length (a :: x) (b :: y)) : pk (a :: x) (b :: y) = .del a :: pk x (b :: y) := by rw [pk, if_neg h, if_neg k]
theorem pk_is (n : Nat) : ∀ x y : List (List UInt8), x.length + y.length ≤ n → frm (pk x y) = x ∧ too (pk x y) = y ∧ opC (pk x y) = lc List.length x y := by
  induction n with
  | zero =>
    intro x y h
    obtain rfl : x = [] := List.length_eq_zero_iff.1 (by omega)
    obtain rfl : y = [] := List.length_eq_zero_iff.1 (by omega)
    rw [pk_nn, lc_nil]; exact ⟨rfl, rfl, rfl⟩
  | succ n ih =>
    intro x y h
    cases x with
    | nil =>
      cases y with
      | nil => rw [pk_nn, lc_nil]; exact ⟨rfl, rfl, rfl⟩
      | cons b y =>
        obtain ⟨h1, h2, h3⟩ := ih [] y (by simp only [List.length_cons, List.length_nil] at h ⊢; omega)
        rw [pk_nc]
        refine ⟨h1, by rw [too, h2], ?_⟩
        rw [opC, h3, lc_nil, lc_nil]; simp [sumW]
    | cons a x =>
      cases y with
      | nil =>
        obtain ⟨h1, h2, h3⟩ := ih x [] (by simp only [List.length_cons, List.length_nil] at h ⊢; omega)
        rw [pk_cn]
        refine ⟨by rw [frm, h1], h2, ?_⟩
        rw [opC, h3, lc_nil', lc_nil']; simp [sumW]
      | cons b y =>
        simp only [List.length_cons] at h
        by_cases e : a = b
        · subst e
          obtain ⟨h1, h2, h3⟩ := ih x y (by omega)
          rw [pk_keep]
          exact ⟨by rw [frm, h1], by rw [too, h2], by rw [opC, h3, lc_keep]⟩
        · by_cases k : b.length + lc List.length (a :: x) y = lc List.length (a :: x) (b :: y)
          · obtain ⟨h1, h2, h3⟩ := ih (a :: x) y (by simp only [List.length_cons]; omega)
            rw [pk_ins e k]
            exact ⟨by rw [frm, h1], by rw [too, h2], by rw [opC, h3, k]⟩
          · obtain ⟨h1, h2, h3⟩ := ih x (b :: y) (by simp only [List.length_cons]; omega)
            rw [pk_del e k]
            refine ⟨by rw [frm, h1], by rw [too, h2], ?_⟩
            rw [opC, h3]
            have := lc_cons (w := List.length) e x y
            omega
theorem pk_frm (x y : List (List UInt8)) : frm (pk x y) = x := (pk_is _ x y (Nat.le_refl _)).1
theorem pk_too (x y : List (List UInt8)) : too (pk x y) = y := (pk_is _ x y (Nat.le_refl _)).2.1
theorem pk_cost (x y : List (List UInt8)) : opC (pk x y) = lc List.length x y := (pk_is _ x y (Nat.le_refl _)).2.2
theorem pk_len (x y : List (List UInt8)) : (pk x y).length ≤ x.length + y.length := by have := op_len (pk x y); rw [pk_frm, pk_too] at this; exact this

/-! ### The table -/
/-- What cannot be done. -/
def never : Int := 9223372036854775807
theorem never_is : never = 9223372036854775807 := rfl
/-- The cost of those that keep first. -/
def kV (x y : List (List UInt8)) (i j : Nat) : Int := if i < x.length ∧ j < y.length ∧ x[i]? = y[j]? then (bat List.length x y (i + 1) (j + 1) : Nat) else never
def iV (x y : List (List UInt8)) (i j : Nat) : Int := match y[j]? with | some b => ((b.length + bat List.length x y i (j + 1) : Nat) : Int) | none => never
def dV (x y : List (List UInt8)) (i j : Nat) : Int := match x[i]? with | some a => ((a.length + bat List.length x y (i + 1) j : Nat) : Int) | none => never
def bV (x y : List (List UInt8)) (i j : Nat) : Int := (bat List.length x y i j : Nat)
/-- The kind that comes first. -/
def fst (x y : List (List UInt8)) (i j : Nat) : Nat := if kV x y i j = bV x y i j then 1 else if iV x y i j = bV x y i j then 2 else 3
theorem bV_bd {x y : List (List UInt8)} (hx : sumW List.length x ≤ 1048576) (hy : sumW List.length y ≤ 1048576) (i j : Nat) : 0 ≤ bV x y i j ∧ bV x y i j ≤ 2097152 := by
  have := bat_le (w := List.length) x y i j
  unfold bV; omega
theorem sum_at {x : List (List UInt8)} {i : Nat} {a : List UInt8} (h : x[i]? = some a) : a.length ≤ sumW List.length x := by
  have h1 := sumW_drop (w := List.length) x i
  rw [drop_at x i a h] at h1
  simp only [sumW, List.map_cons, List.sum_cons] at h1 ⊢
  omega
theorem step_least {x y : List (List UInt8)} (hx : sumW List.length x ≤ 1048576) (hy : sumW List.length y ≤ 1048576) {i j : Nat} (hi : i ≤ x.length) (hj : j ≤ y.length) (hn : ¬ (i = x.length ∧ j = y.length)) :
    bV x y i j = min (min (kV x y i j) (iV x y i j)) (dV x y i j) := by
  have b1 := bV_bd hx hy (i + 1) (j + 1)
  have b2 := bV_bd hx hy i (j + 1)
  have b3 := bV_bd hx hy (i + 1) j
  unfold bV at *
  unfold kV iV dV never
  by_cases h1 : i < x.length
  · obtain ⟨a, ha⟩ : ∃ a, x[i]? = some a := ⟨_, List.getElem?_eq_getElem h1⟩
    have la := sum_at ha
    by_cases h2 : j < y.length
    · obtain ⟨b, hb⟩ : ∃ b, y[j]? = some b := ⟨_, List.getElem?_eq_getElem h2⟩
      have lb := sum_at hb
      have st := bat_step (w := List.length) x y i j a b ha hb
      rw [ha, hb]
      by_cases e : a = b
      · subst e
        rw [if_pos rfl] at st
        rw [if_pos ⟨h1, h2, rfl⟩, st]
        simp only
        omega
      · rw [if_neg e] at st
        rw [if_neg (by rintro ⟨_, _, k⟩; exact e (Option.some.inj k)), st]
        simp only
        omega
    · obtain rfl : j = y.length := by omega
      have st := bat_in (w := List.length) x y i a ha
      have hb : y[y.length]? = none := List.getElem?_eq_none (Nat.le_refl _)
      rw [ha, hb, if_neg (by omega), st]
      simp only
      omega
  · obtain rfl : i = x.length := by omega
    have h2 : j < y.length := by omega
    obtain ⟨b, hb⟩ : ∃ b, y[j]? = some b := ⟨_, List.getElem?_eq_getElem h2⟩
    have lb := sum_at hb
    have st := bat_nk (w := List.length) x y j b hb
    have ha : x[x.length]? = none := List.getElem?_eq_none (Nat.le_refl _)
    rw [ha, hb, if_neg (by omega), st]
    simp only
    omega
/-- What the table's first kind says of the script. -/
theorem fst_pk {x y : List (List UInt8)} (hx : sumW List.length x ≤ 1048576) (hy : sumW List.length y ≤ 1048576) {i j : Nat} (hi : i ≤ x.length) (hj : j ≤ y.length) (hn : ¬ (i = x.length ∧ j = y.length)) :
    (fst x y i j = 1 ∧ ∃ a, i < x.length ∧ j < y.length ∧ x[i]? = some a ∧ y[j]? = some a ∧ pk (x.drop i) (y.drop j) = .keep a :: pk (x.drop (i + 1)) (y.drop (j + 1))) ∨
    (fst x y i j = 2 ∧ ∃ b, j < y.length ∧ y[j]? = some b ∧ pk (x.drop i) (y.drop j) = .ins b :: pk (x.drop i) (y.drop (j + 1))) ∨
    (fst x y i j = 3 ∧ ∃ a, i < x.length ∧ x[i]? = some a ∧ pk (x.drop i) (y.drop j) = .del a :: pk (x.drop (i + 1)) (y.drop j)) := by
  have b0 := bV_bd hx hy i j
  have b1 := bV_bd hx hy (i + 1) (j + 1)
  have b2 := bV_bd hx hy i (j + 1)
  have b3 := bV_bd hx hy (i + 1) j
  unfold fst
  by_cases h1 : i < x.length
  · obtain ⟨a, ha⟩ : ∃ a, x[i]? = some a := ⟨_, List.getElem?_eq_getElem h1⟩
    have la := sum_at ha
    have da := drop_at x i a ha
    by_cases h2 : j < y.length
    · obtain ⟨b, hb⟩ : ∃ b, y[j]? = some b := ⟨_, List.getElem?_eq_getElem h2⟩
      have lb := sum_at hb
      have db := drop_at y j b hb
      by_cases e : a = b
      · subst e
        have hk : kV x y i j = bV x y i j := by
          unfold kV bV; rw [ha, hb, if_pos ⟨h1, h2, rfl⟩, bat_keep x y i j a ha hb]
        left
        rw [if_pos hk]
        exact ⟨rfl, a, h1, h2, ha, hb, by rw [da, db, pk_keep]⟩
      · have hk : ¬ kV x y i j = bV x y i j := by
          have : kV x y i j = never := by unfold kV; rw [ha, hb, if_neg (by rintro ⟨_, _, k⟩; exact e (Option.some.inj k))]
          rw [this]; unfold never; omega
        right
        rw [if_neg hk]
        have hI : iV x y i j = ((b.length + bat List.length x y i (j + 1) : Nat) : Int) := by unfold iV; rw [hb]
        by_cases c : iV x y i j = bV x y i j
        · left
          rw [if_pos c]
          refine ⟨rfl, b, h2, hb, ?_⟩
          rw [hI] at c
          unfold bV bat at c
          rw [da, db] at c
          rw [da, db, pk_ins e (by omega)]
        · right
          rw [if_neg c]
          refine ⟨rfl, a, h1, ha, ?_⟩
          rw [hI] at c
          unfold bV bat at c
          rw [da, db] at c
          rw [da, db, pk_del e (by omega)]
    · obtain rfl : j = y.length := by omega
      have hb : y[y.length]? = none := List.getElem?_eq_none (Nat.le_refl _)
      have hk : ¬ kV x y i y.length = bV x y i y.length := by
        have : kV x y i y.length = never := by unfold kV; rw [if_neg (by omega)]
        rw [this]; unfold never; omega
      have hI : ¬ iV x y i y.length = bV x y i y.length := by
        have : iV x y i y.length = never := by unfold iV; rw [hb]
        rw [this]; unfold never; omega
      rw [if_neg hk, if_neg hI]
      exact .inr (.inr ⟨rfl, a, h1, ha, by rw [da, List.drop_length, pk_cn]⟩)
  · obtain rfl : i = x.length := by omega
    have h2 : j < y.length := by omega
    obtain ⟨b, hb⟩ : ∃ b, y[j]? = some b := ⟨_, List.getElem?_eq_getElem h2⟩
    have db := drop_at y j b hb
    have hk : ¬ kV x y x.length j = bV x y x.length j := by
      have : kV x y x.length j = never := by unfold kV; rw [if_neg (by omega)]
      rw [this]; unfold never; omega
    have hI : iV x y x.length j = bV x y x.length j := by unfold iV bV; rw [hb, bat_nk (w := List.length) x y j b hb]
    rw [if_neg hk, if_pos hI]
    exact .inr (.inl ⟨rfl, b, h2, hb, by rw [db, List.drop_length, pk_nc]⟩)
/-- The kind of an operation. -/
def opK : Op → Nat
  | .keep _ => 1
  | .ins _ => 2
  | .del _ => 3
/-- P8.3, as the program answers. -/
def lnP (a b : List UInt8) : List P := (nf ((pk (rows a) (rows b)).map opQ)).map raw
theorem lnP_ln {a b : List UInt8} (ha : a.length ≤ 1048576) (hb : b.length ≤ 1048576) (ra : (rows a).length ≤ 1024) (rb : (rows b).length ≤ 1024) : Ln a b (lnP a b) :=
  ln_of ha hb ra rb (pk_frm _ _) (pk_too _ _) (pk_cost _ _)
end Go.Proofs.Ytdilkoogjkabfaa.F
