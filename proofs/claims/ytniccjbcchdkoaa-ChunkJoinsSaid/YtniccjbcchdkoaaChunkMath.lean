/- The plain mathematics of chunks: even sizes, cutting into them, joining two texts. It speaks of no program. -/
namespace Go.Proofs.Ytniccjbcchdkoaa.C14

def groups (n m : Nat) : Nat := (n - 1) / m + 1
def size (n g i : Nat) : Nat := n / g + (if i < n % g then 1 else 0)
/-- P14.1. -/
def sizes (n m : Nat) : List Nat := if n = 0 then [] else (List.range (groups n m)).map (size n (groups n m))
theorem groups_bd {n m : Nat} (hn : 1 ≤ n) (hm : 1 ≤ m) : (groups n m - 1) * m < n ∧ n ≤ groups n m * m ∧ 1 ≤ groups n m ∧ groups n m ≤ n := by
  have e := Nat.div_add_mod (n - 1) m
  have l := Nat.mod_lt (n - 1) (show m > 0 by omega)
  have k : (n - 1) / m ≤ n - 1 := Nat.div_le_self _ _
  rw [Nat.mul_comm] at e
  unfold groups
  generalize (n - 1) % m = r at e l
  generalize (n - 1) / m = q at e k
  refine ⟨?_, ?_, by omega, by omega⟩
  · rw [Nat.add_sub_cancel]; omega
  · rw [Nat.add_mul, Nat.one_mul]; omega
theorem size_bd {n m : Nat} (hn : 1 ≤ n) (hm : 1 ≤ m) (i : Nat) : 1 ≤ size n (groups n m) i ∧ size n (groups n m) i ≤ m := by
  obtain ⟨_, h2, h3, h4⟩ := groups_bd hn hm
  generalize groups n m = g at h2 h3 h4
  have e := Nat.div_add_mod n g
  have l := Nat.mod_lt n (show g > 0 by omega)
  have q1 : 1 ≤ n / g := (Nat.le_div_iff_mul_le (by omega)).2 (by omega)
  have q2 : n / g ≤ m := Nat.div_le_of_le_mul h2
  unfold size
  split
  · rename_i c
    refine ⟨by omega, ?_⟩
    have : n / g ≠ m := fun k => by rw [k] at e; omega
    omega
  · exact ⟨by omega, by omega⟩
theorem size_half {n m : Nat} (hn : 1 ≤ n) (hm : 1 ≤ m) (h : 2 ≤ groups n m) (i : Nat) : m / 2 ≤ size n (groups n m) i := by
  obtain ⟨h1, _, _, _⟩ := groups_bd hn hm
  generalize groups n m = g at h h1
  have k : m / 2 ≤ n / g := by
    rw [Nat.le_div_iff_mul_le (by omega)]
    have a : m / 2 * g ≤ m / 2 * (2 * (g - 1)) := Nat.mul_le_mul_left _ (by omega)
    have b : m / 2 * (2 * (g - 1)) = (g - 1) * (m / 2 * 2) := by rw [← Nat.mul_assoc, Nat.mul_comm]
    have c : (g - 1) * (m / 2 * 2) ≤ (g - 1) * m := Nat.mul_le_mul_left _ (by omega)
    omega
  unfold size; omega
theorem size_mono (n g : Nat) {i j : Nat} (h : i ≤ j) : size n g j ≤ size n g i ∧ size n g i ≤ size n g j + 1 := by
  unfold size; split <;> split <;> omega
theorem sum_sizes (n g : Nat) : ∀ k, ((List.range k).map (size n g)).sum = k * (n / g) + min k (n % g)
  | 0 => by simp
  | k + 1 => by
    rw [List.range_succ, List.map_append, List.sum_append, sum_sizes n g k, Nat.succ_mul]
    have e : ([k].map (size n g)).sum = size n g k := by simp
    rw [e]
    unfold size; split <;> omega
theorem sizes_zero (m : Nat) : sizes 0 m = [] := rfl
theorem sizes_pos {n : Nat} (h : 1 ≤ n) (m : Nat) : sizes n m = (List.range (groups n m)).map (size n (groups n m)) := by unfold sizes; rw [if_neg (by omega)]
theorem sizes_len {n : Nat} (h : 1 ≤ n) (m : Nat) : (sizes n m).length = groups n m := by rw [sizes_pos h, List.length_map, List.length_range]
theorem sizes_at {n m i : Nat} (h : 1 ≤ n) (hi : i < groups n m) : (sizes n m)[i]? = some (size n (groups n m) i) := by rw [sizes_pos h, List.getElem?_map, List.getElem?_range hi]; rfl
theorem sizes_sum (n : Nat) {m : Nat} (hm : 1 ≤ m) : (sizes n m).sum = n := by
  by_cases h : n = 0
  · subst h; rfl
  · obtain ⟨_, _, h3, _⟩ := groups_bd (show 1 ≤ n by omega) hm
    rw [sizes_pos (by omega), sum_sizes]
    generalize groups n m = g at h3
    have e := Nat.div_add_mod n g
    have l := Nat.mod_lt n (show g > 0 by omega)
    omega
/-- P14.1: the error and the sizes. -/
def evE (n m : Int) : Int := if n < 0 ∨ m < 1 then 2 else if 65536 < n then 5 else 0
def evL (n m : Int) : List Nat := if evE n m = 0 then sizes n.toNat m.toNat else []
theorem evE_iff (n m : Int) : evE n m = 0 ↔ 0 ≤ n ∧ n ≤ 65536 ∧ 1 ≤ m := by
  unfold evE
  constructor
  · intro h
    split at h
    · cases h
    · split at h
      · cases h
      · omega
  · intro h; rw [if_neg (by omega), if_neg (by omega)]

/-! ### Cutting into sizes (P14.2, P14.5) -/
def cut : List Nat → List UInt8 → List (List UInt8)
  | [], _ => []
  | k :: r, s => s.take k :: cut r (s.drop k)
theorem cut_len : ∀ (l : List Nat) (s : List UInt8), (cut l s).length = l.length
  | [], _ => rfl
  | k :: r, s => by rw [cut, List.length_cons, cut_len r, List.length_cons]
theorem cut_flat : ∀ (l : List Nat) (s : List UInt8), l.sum = s.length → (cut l s).flatten = s
  | [], s, h => by have : s = [] := List.eq_nil_of_length_eq_zero h.symm
                   rw [this]; rfl
  | k :: r, s, h => by
    rw [List.sum_cons] at h
    rw [cut, List.flatten_cons, cut_flat r (s.drop k) (by rw [List.length_drop]; omega), List.take_append_drop]
theorem cut_sizes : ∀ (l : List Nat) (s : List UInt8), l.sum = s.length → (cut l s).map List.length = l
  | [], _, _ => rfl
  | k :: r, s, h => by
    rw [List.sum_cons] at h
    rw [cut, List.map_cons, cut_sizes r (s.drop k) (by rw [List.length_drop]; omega), List.length_take, Nat.min_eq_left (by omega)]
/-- The part with a number. -/
theorem cut_at : ∀ (l : List Nat) (s : List UInt8) (i k : Nat), l[i]? = some k → (cut l s)[i]? = some ((s.drop (l.take i).sum).take k)
  | [], _, _, _, h => by cases h
  | a :: r, s, 0, k, h => by cases h; rfl
  | a :: r, s, i + 1, k, h => by
    rw [cut, List.getElem?_cons_succ, cut_at r (s.drop a) i k (by simpa using h), List.drop_drop, List.take_succ_cons, List.sum_cons]
def chunks (s : List UInt8) : List (List UInt8) := cut (sizes s.length 16) s
theorem chunks_flat (s : List UInt8) : (chunks s).flatten = s := cut_flat _ s (sizes_sum _ (by decide))
theorem chunks_sizes (s : List UInt8) : (chunks s).map List.length = sizes s.length 16 := cut_sizes _ s (sizes_sum _ (by decide))
theorem chunks_bd {s : List UInt8} {t : List UInt8} (h : t ∈ chunks s) : 1 ≤ t.length ∧ t.length ≤ 16 ∧ (8 ≤ s.length → 8 ≤ t.length) := by
  have hm : t.length ∈ sizes s.length 16 := by rw [← chunks_sizes]; exact List.mem_map_of_mem h
  by_cases c : s.length = 0
  · rw [c] at hm; cases hm
  · rw [sizes_pos (by omega)] at hm
    obtain ⟨i, hi, e⟩ := List.mem_map.1 hm
    have b := size_bd (n := s.length) (m := 16) (by omega) (by decide) i
    rw [e] at b
    refine ⟨b.1, b.2, fun h8 => ?_⟩
    by_cases g2 : 2 ≤ groups s.length 16
    · have := size_half (n := s.length) (m := 16) (by omega) (by decide) g2 i
      rw [e] at this; exact this
    · have g1 : groups s.length 16 = 1 := by have := (groups_bd (n := s.length) (m := 16) (by omega) (by decide)).2.2.1; omega
      rw [g1] at e
      unfold size at e
      rw [Nat.div_one, Nat.mod_one, if_neg (by omega)] at e
      omega

/-! ### Joining and cutting (P14.3, P14.4, P14.6) -/
def leaf (s : List UInt8) : Bool := decide (1 ≤ s.length) && decide (s.length ≤ 16)
theorem leaf_iff (s : List UInt8) : leaf s = true ↔ 1 ≤ s.length ∧ s.length ≤ 16 := by unfold leaf; simp
def join (a b : List UInt8) : List (List UInt8) :=
  if (a ++ b).length ≤ 16 then [a ++ b] else if 8 ≤ a.length ∧ 8 ≤ b.length then [a, b] else [(a ++ b).take (((a ++ b).length + 1) / 2), (a ++ b).drop (((a ++ b).length + 1) / 2)]
def jnE (a b : List UInt8) : Int := if leaf a = true ∧ leaf b = true then 0 else 2
def jnL (a b : List UInt8) : List (List UInt8) := if jnE a b = 0 then join a b else []
structure Jn (a b : List UInt8) : Prop where
  flat : (join a b).flatten = a ++ b
  one : (join a b).length = 1 ↔ a.length + b.length ≤ 16
  two : a.length + b.length > 16 → ∃ x y, join a b = [x, y] ∧ 8 ≤ x.length ∧ x.length ≤ 16 ∧ 8 ≤ y.length ∧ y.length ≤ 16 ∧ join x y = [x, y]
theorem join_does {a b : List UInt8} (ha : leaf a = true) (hb : leaf b = true) : Jn a b := by
  have la := (leaf_iff a).1 ha
  have lb := (leaf_iff b).1 hb
  have e : (a ++ b).length = a.length + b.length := List.length_append
  refine ⟨?_, ?_, fun h => ?_⟩
  · unfold join; split
    · simp
    · split
      · simp
      · rw [List.flatten_cons, List.flatten_cons, List.flatten_nil, List.append_nil, List.take_append_drop]
  · unfold join; rw [e]; split
    · simp; assumption
    · rename_i c; split <;> simp <;> omega
  · by_cases c : 8 ≤ a.length ∧ 8 ≤ b.length
    · refine ⟨a, b, ?_, c.1, la.2, c.2, lb.2, ?_⟩ <;> (unfold join; rw [if_neg (by omega), if_pos c])
    · have e2 : join a b = [(a ++ b).take (((a ++ b).length + 1) / 2), (a ++ b).drop (((a ++ b).length + 1) / 2)] := by unfold join; rw [if_neg (by omega), if_neg c]
      have l1 : ((a ++ b).take (((a ++ b).length + 1) / 2)).length = ((a ++ b).length + 1) / 2 := by rw [List.length_take]; omega
      have l2 : ((a ++ b).drop (((a ++ b).length + 1) / 2)).length = (a ++ b).length - ((a ++ b).length + 1) / 2 := List.length_drop
      refine ⟨_, _, e2, by omega, by omega, by omega, by omega, ?_⟩
      generalize (a ++ b).take (((a ++ b).length + 1) / 2) = x at l1
      generalize (a ++ b).drop (((a ++ b).length + 1) / 2) = y at l2
      have e3 : (x ++ y).length = x.length + y.length := List.length_append
      unfold join
      rw [if_neg (by omega), if_pos (by omega)]
def ctE (s : List UInt8) (k : Int) : Int := if leaf s = true then (if k < 0 ∨ (s.length : Int) < k then 3 else 0) else 2
theorem ctE_iff (s : List UInt8) (k : Int) : ctE s k = 0 ↔ leaf s = true ∧ 0 ≤ k ∧ k ≤ s.length := by
  unfold ctE
  constructor
  · intro h
    split at h
    · split at h
      · cases h
      · exact ⟨by assumption, by omega, by omega⟩
    · cases h
  · rintro ⟨h1, h2, h3⟩; rw [if_pos h1, if_neg (by omega)]
theorem join_cut {s : List UInt8} {k : Nat} (h : leaf s = true) : join (s.take k) (s.drop k) = [s] := by
  unfold join; rw [List.take_append_drop, if_pos ((leaf_iff s).1 h).2]
end Go.Proofs.Ytniccjbcchdkoaa.C14
