/- Plain mathematics for the walk over all boundaries. It speaks of no program. -/
import Derived.Test.YtnbijhmkhdjkiaaDoorRunesMath3
namespace Go.Proofs.YtnbijhmkhdjkiaaDoor.U

/-- The boundaries before A, in ascending order. -/
def bs (l : List UInt8) (A : Nat) : List Nat := ups l 0 A
theorem bs_zero (l : List UInt8) : bs l 0 = [] := rfl
theorem bs_succ (l : List UInt8) (A : Nat) : bs l (A + 1) = bs l A ++ (if bndN l A then [A] else []) := ups_succ l 0 A (Nat.zero_le _)
theorem bs_length (l : List UInt8) (A : Nat) : (bs l A).length ≤ A := by
  unfold bs ups
  have := List.length_filter_le (fun i => decide (0 ≤ i) && bndN l i) (List.range A)
  simpa using this
theorem bs_gap (l : List UInt8) (A n : Nat) (h : A ≤ n) (hn : ∀ k, A ≤ k → k < n → bndN l k = false) : bs l n = bs l A := by
  obtain ⟨d, rfl⟩ := Nat.exists_eq_add_of_le h
  induction d with
  | zero => rfl
  | succ d ih =>
    rw [← Nat.add_assoc, bs_succ, hn (A + d) (by omega) (by omega), ih (by omega) (fun k h1 h2 => hn k h1 (by omega))]
    simp
theorem bs_step (l : List UInt8) (A n : Nat) (h : A ≤ n) (hb : bndN l n = true) (hn : ∀ k, A ≤ k → k < n → bndN l k = false) : bs l (n + 1) = bs l A ++ [n] := by
  rw [bs_succ, hb, bs_gap l A n h hn]; simp
theorem bs_cnt (l : List UInt8) : (bs l (l.length + 1)).length = cnt l + 1 := cnt_of_ups l

theorem nxt_at (l : List UInt8) (A : Nat) (h : A ≤ l.length) : ∃ n, nxt l ((A : Int) - 1) = some n ∧ A ≤ n ∧ n ≤ l.length ∧ bndN l n = true ∧ (∀ k, A ≤ k → k < n → bndN l k = false) := by
  cases hn : nxt l ((A : Int) - 1) with
  | none =>
    unfold nxt at hn
    rw [List.find?_eq_none] at hn
    have := hn l.length (by simp)
    rw [bndN_len, decide_eq_true (by omega)] at this
    simp at this
  | some n =>
    unfold nxt at hn
    rw [List.find?_range_eq_some] at hn
    obtain ⟨h1, h2, h3⟩ := hn
    simp only [Bool.and_eq_true, decide_eq_true_eq] at h1
    simp only [List.mem_range] at h2
    refine ⟨n, rfl, by omega, by omega, h1.2, fun k hk1 hk2 => ?_⟩
    have := h3 k hk2
    rw [decide_eq_true (by omega)] at this
    simpa using this
theorem nxt_end (l : List UInt8) (at_ : Int) (h : (l.length : Int) ≤ at_) : nxt l at_ = none := by
  unfold nxt
  rw [List.find?_eq_none]
  intro k hk
  simp only [List.mem_range] at hk
  rw [decide_eq_false (by omega)]
  simp

theorem prv_last (l : List UInt8) (A : Nat) (h : A ≤ l.length + 1) : prv l (A : Int) = (bs l A).getLast? := by
  rw [← prv_of_dns l A A (by omega)]
  have : dns l A = (bs l A).reverse := by
    unfold dns bs ups
    rw [List.filter_reverse]
    simp
  rw [this, List.head?_reverse]
theorem bs_snoc (l : List UInt8) : ∀ (A : Nat) (L : List Nat) (x : Nat), bs l A = L ++ [x] → x < A ∧ bndN l x = true ∧ bs l x = L
  | 0, L, x, h => by
    rw [bs_zero] at h
    simp at h
  | A + 1, L, x, h => by
    rw [bs_succ] at h
    cases hb : bndN l A with
    | true =>
      rw [hb, if_pos rfl] at h
      obtain ⟨h1, h2⟩ := List.append_inj' h rfl
      simp only [List.cons.injEq, and_true] at h2
      subst h2
      exact ⟨by omega, hb, h1⟩
    | false =>
      rw [hb, if_neg (by simp), List.append_nil] at h
      obtain ⟨h1, h2, h3⟩ := bs_snoc l A L x h
      exact ⟨by omega, h2, h3⟩
theorem bs_prefix (l : List UInt8) (a b : Nat) (h : a ≤ b) : bs l a <+: bs l b := ups_prefix l 0 a b h
theorem bs_at (l : List UInt8) (b A : Nat) (hb : bndN l b = true) (h : b < A) : (bs l A)[(bs l b).length]? = some b := by
  obtain ⟨t, ht⟩ := bs_prefix l (b + 1) A h
  rw [← ht, bs_succ, hb]
  simp
/-- Where the j-th boundary lies: what is known of it, and of the boundaries before it. -/
theorem bs_take (l : List UInt8) : ∀ (A j : Nat), j < (bs l A).length → ∃ x, (bs l A)[j]? = some x ∧ x < A ∧ bndN l x = true ∧ (bs l x).length = j
  | 0, j, h => by rw [bs_zero] at h; simp at h
  | A + 1, j, h => by
    rw [bs_succ] at h ⊢
    cases hb : bndN l A with
    | true =>
      rw [hb, if_pos rfl] at h
      rw [if_pos rfl]
      by_cases hj : j < (bs l A).length
      · obtain ⟨x, h1, h2, h3, h4⟩ := bs_take l A j hj
        exact ⟨x, by rw [List.getElem?_append_left hj]; exact h1, by omega, h3, h4⟩
      · have : j = (bs l A).length := by simp at h; omega
        subst this
        exact ⟨A, by simp, by omega, hb, rfl⟩
    | false =>
      rw [hb, if_neg (by simp), List.append_nil] at h
      rw [if_neg (by simp), List.append_nil]
      obtain ⟨x, h1, h2, h3, h4⟩ := bs_take l A j h
      exact ⟨x, h1, by omega, h3, h4⟩

/-- In a valid string Decode leads from a boundary to the next one. -/
theorem dec_next (l : List UInt8) (b : Nat) (hv : valid l = true) (hb : bndN l b = true) (h : b < l.length) :
    decB (l.drop b) = true ∧ b + decN (l.drop b) ≤ l.length ∧ bndN l (b + decN (l.drop b)) = true ∧ bs l (b + decN (l.drop b)) = bs l (b + 1) := by
  have hd := (valid_cut_yes _ l b (Nat.le_refl _) hv (Nat.le_of_lt h) hb).2
  have hne : l.drop b ≠ [] := by
    intro e
    have := congrArg List.length e
    simp at this; omega
  cases hdec : decB (l.drop b) with
  | false => rw [valid_no _ hne hdec] at hd; cases hd
  | true =>
    have hl := decB_len _ hdec
    rw [List.length_drop] at hl
    have hv2 : valid ((l.drop b).drop (decN (l.drop b))) = true := by rw [← valid_yes _ hne hdec]; exact hd
    have hz := bndN_zero_of_valid _ hv2
    rw [List.drop_drop, bndN_drop l _ 0 (by omega), Nat.add_zero] at hz
    refine ⟨rfl, by omega, hz, bs_gap l (b + 1) _ (by omega) fun k h1 h2 => ?_⟩
    obtain ⟨d, rfl⟩ := Nat.exists_eq_add_of_le (show b ≤ k by omega)
    have hc := dec_rest _ hdec d (by omega) (by omega)
    rw [getD_drop] at hc
    rw [bndN_lt l (by omega), hc]; rfl
end Go.Proofs.YtnbijhmkhdjkiaaDoor.U
