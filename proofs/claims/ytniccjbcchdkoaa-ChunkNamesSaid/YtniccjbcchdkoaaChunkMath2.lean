/- More of the mathematics of chunks: the number of groups by division and remainder, rows that are filled from the front, and what the laws ask of sizes. It speaks of no program. -/
import Derived.Test.YtniccjbcchdkoaaChunkMath
namespace Go.Proofs.Ytniccjbcchdkoaa.C14

/-- The number of groups, by division and remainder. -/
def cnt (n m : Nat) : Nat := n / m + (if 0 < n % m then 1 else 0)
theorem cnt_zero (m : Nat) : cnt 0 m = 0 := by unfold cnt; rw [Nat.zero_div, Nat.zero_mod, if_neg (by omega)]
theorem cnt_pos {n m : Nat} (hn : 1 ≤ n) (hm : 1 ≤ m) : cnt n m = groups n m := by
  unfold cnt groups
  have e := Nat.div_add_mod n m
  have l := Nat.mod_lt n (show m > 0 by omega)
  generalize n / m = q at e
  generalize hr : n % m = r at e l
  by_cases h : 0 < r
  · rw [if_pos h]
    have : (n - 1) / m = q := by
      have e1 : n - 1 = r - 1 + m * q := by omega
      rw [e1, Nat.add_mul_div_left _ _ (by omega), Nat.div_eq_of_lt (by omega)]; omega
    omega
  · rw [if_neg h]
    have r0 : r = 0 := by omega
    subst r0
    obtain ⟨p, rfl⟩ : ∃ p, q = p + 1 := ⟨q - 1, by
      have : q ≠ 0 := fun h0 => by rw [h0] at e; omega
      omega⟩
    have : (n - 1) / m = p := by
      have e1 : n - 1 = m - 1 + m * p := by rw [Nat.mul_add, Nat.mul_one] at e; omega
      rw [e1, Nat.add_mul_div_left _ _ (by omega), Nat.div_eq_of_lt (by omega)]; omega
    omega
theorem sizes_cnt (n : Nat) {m : Nat} (hm : 1 ≤ m) : sizes n m = (List.range (cnt n m)).map (size n (cnt n m)) := by
  by_cases h : n = 0
  · subst h; rw [cnt_zero]; rfl
  · rw [sizes_pos (by omega), cnt_pos (by omega) hm]
theorem len_sizes (n : Nat) {m : Nat} (hm : 1 ≤ m) : (sizes n m).length = cnt n m := by rw [sizes_cnt n hm, List.length_map, List.length_range]
theorem at_sizes (n : Nat) {m i : Nat} (hm : 1 ≤ m) (hi : i < cnt n m) : (sizes n m)[i]? = some (size n (cnt n m) i) := by rw [sizes_cnt n hm, List.getElem?_map, List.getElem?_range hi]; rfl
theorem cnt_le (n : Nat) {m : Nat} (hm : 1 ≤ m) : cnt n m ≤ n := by
  by_cases h : n = 0
  · subst h; rw [cnt_zero]; exact Nat.le_refl _
  · rw [cnt_pos (by omega) hm]; exact (groups_bd (by omega) hm).2.2.2
theorem cnt_16 (n : Nat) : cnt n 16 = (n + 15) / 16 ∧ cnt n 16 * 16 ≤ n + 15 := by
  unfold cnt; constructor <;> (split <;> omega)
theorem len_chunks (s : List UInt8) : (chunks s).length = cnt s.length 16 := by unfold chunks; rw [cut_len, len_sizes _ (by decide)]
/-- The chunk with a number, and what is behind it. -/
def rest (s : List UInt8) (i : Nat) : List UInt8 := s.drop ((sizes s.length 16).take i).sum
theorem rest_zero (s : List UInt8) : rest s 0 = s := rfl
theorem sum_take_le (l : List Nat) (i : Nat) : (l.take i).sum ≤ l.sum := by
  have := congrArg List.sum (List.take_append_drop i l)
  rw [List.sum_append] at this; omega
theorem rest_at {s : List UInt8} {i : Nat} (hi : i < cnt s.length 16) : ∃ k, (sizes s.length 16)[i]? = some k ∧ k = size s.length (cnt s.length 16) i ∧ k ≤ (rest s i).length ∧ (chunks s)[i]? = some ((rest s i).take k) ∧ rest s (i + 1) = (rest s i).drop k := by
  have h := at_sizes s.length (m := 16) (by decide) hi
  refine ⟨_, h, rfl, ?_, cut_at _ _ _ _ h, ?_⟩
  · have e := sizes_sum s.length (m := 16) (by decide)
    have t := sum_take_le (sizes s.length 16) (i + 1)
    rw [List.take_add_one, h, List.sum_append, e] at t
    unfold rest; rw [List.length_drop]
    simp at t; omega
  · unfold rest; rw [List.drop_drop, List.take_add_one, h, List.sum_append]; simp
/-! ### Rows that are filled from the front -/
def fill {α : Type} (l : List α) (z : α) (i : Nat) : List α := l.take i ++ List.replicate (l.length - i) z
theorem fill_zero {α : Type} (l : List α) (z : α) : fill l z 0 = List.replicate l.length z := by simp [fill]
theorem fill_end {α : Type} (l : List α) (z : α) : fill l z l.length = l := by simp [fill]
theorem fill_len {α : Type} (l : List α) (z : α) {i : Nat} (h : i ≤ l.length) : (fill l z i).length = l.length := by simp [fill]; omega
theorem fill_set {α : Type} {l : List α} {z x : α} {i : Nat} (h : l[i]? = some x) : (fill l z i).set i x = fill l z (i + 1) := by
  have hi := (List.getElem?_eq_some_iff.1 h).1
  unfold fill
  have e : l.length - i = (l.length - (i + 1)) + 1 := by omega
  rw [e, List.replicate_succ, List.set_append_right _ _ (by rw [List.length_take]; omega), List.length_take, Nat.min_eq_left (by omega), Nat.sub_self, List.set_cons_zero, List.take_add_one, h]
  simp
theorem fill_at {α : Type} {l : List α} {z : α} {i : Nat} (h : i < l.length) : (fill l z i)[i]? = some z := by
  unfold fill
  rw [List.getElem?_append_right (by rw [List.length_take]; omega), List.length_take, Nat.min_eq_left (by omega), Nat.sub_self, List.getElem?_replicate, if_pos (by omega)]
/-! ### What the laws ask of sizes (P14.5) -/
structure Fair (n m : Nat) (i x : Nat) : Prop where
  one : 1 ≤ x
  most : x ≤ m
  first : x ≤ size n (cnt n m) 0
  near : size n (cnt n m) 0 ≤ x + 1
  prev : 0 < i → x ≤ size n (cnt n m) (i - 1)
  half : 1 < cnt n m → m / 2 ≤ x
theorem fair {n m i : Nat} (hm : 1 ≤ m) (hi : i < cnt n m) : Fair n m i (size n (cnt n m) i) := by
  have hn : 1 ≤ n := by have := cnt_le n hm; omega
  have b := size_bd hn hm i
  rw [← cnt_pos hn hm] at b
  refine ⟨b.1, b.2, (size_mono _ _ (Nat.zero_le i)).1, (size_mono _ _ (Nat.zero_le i)).2, fun h => (size_mono _ _ (show i - 1 ≤ i by omega)).1, fun h => ?_⟩
  have := size_half hn hm (by rw [← cnt_pos hn hm]; exact h) i
  rw [← cnt_pos hn hm] at this; exact this
/-- One group less would not do. -/
theorem fewest {n m : Nat} (hm : 1 ≤ m) (h : 2 ≤ cnt n m) : (cnt n m - 1) * m < n ∧ m < n := by
  have hn : 1 ≤ n := by have := cnt_le n hm; omega
  have := (groups_bd hn hm).1
  rw [← cnt_pos hn hm] at this
  refine ⟨this, Nat.lt_of_le_of_lt ?_ this⟩
  have : 1 * m ≤ (cnt n m - 1) * m := Nat.mul_le_mul_right _ (by omega)
  omega
theorem cnt_iff (n : Nat) {m : Nat} (hm : 1 ≤ m) : cnt n m = 0 ↔ n = 0 := by
  constructor
  · intro h
    by_cases c : n = 0
    · exact c
    · have := (groups_bd (show 1 ≤ n by omega) hm).2.2.1
      rw [← cnt_pos (by omega) hm] at this; omega
  · intro h; subst h; exact cnt_zero m
/-! ### Join by chunks, Cut -/
theorem sizes_one : ∀ n, n < 17 → 1 ≤ n → sizes n 16 = [n] := by decide
theorem sizes_two : ∀ n, n < 33 → 17 ≤ n → sizes n 16 = [(n + 1) / 2, n - (n + 1) / 2] := by decide
theorem chunks_one {t : List UInt8} (h1 : 1 ≤ t.length) (h2 : t.length ≤ 16) : chunks t = [t] := by
  unfold chunks; rw [sizes_one _ (by omega) h1]
  simp [cut]
theorem chunks_two {t : List UInt8} (h1 : 17 ≤ t.length) (h2 : t.length ≤ 32) : chunks t = [t.take ((t.length + 1) / 2), t.drop ((t.length + 1) / 2)] := by
  unfold chunks; rw [sizes_two _ (by omega) h1]
  simp only [cut]
  rw [List.take_of_length_le (l := t.drop ((t.length + 1) / 2)) (by rw [List.length_drop]; exact Nat.le_refl _)]
theorem chunks_join {a b : List UInt8} (ha : leaf a = true) (hb : leaf b = true) (h : ¬ (16 < a.length + b.length ∧ 8 ≤ a.length ∧ 8 ≤ b.length)) : chunks (a ++ b) = join a b := by
  have la := (leaf_iff a).1 ha
  have lb := (leaf_iff b).1 hb
  have e : (a ++ b).length = a.length + b.length := List.length_append
  unfold join
  by_cases c : (a ++ b).length ≤ 16
  · rw [if_pos c, chunks_one (by omega) c]
  · rw [if_neg c, if_neg (by omega), chunks_two (by omega) (by omega)]
theorem join_two {a b : List UInt8} (h : 16 < a.length + b.length ∧ 8 ≤ a.length ∧ 8 ≤ b.length) : join a b = [a, b] := by
  have e : (a ++ b).length = a.length + b.length := List.length_append
  unfold join
  rw [if_neg (by omega), if_pos h.2]
def ctL (s : List UInt8) (k : Int) : List UInt8 := if ctE s k = 0 then s.take k.toNat else []
def ctR (s : List UInt8) (k : Int) : List UInt8 := if ctE s k = 0 then s.drop k.toNat else []
end Go.Proofs.Ytniccjbcchdkoaa.C14
