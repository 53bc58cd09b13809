/- Plain mathematics of UTF-8, for the statements without a reference: rounds, order, cuts and concatenations. It speaks of no program. -/
import Derived.Test.YtdilkoogjkabfaaDoorRunesMath2
namespace Go.Proofs.YtdilkoogjkabfaaDoor.U

/-! ### What a decoding depends on -/
theorem dec_prefix (l m : List UInt8) (h : decB l = true) (hp : l.take (decN l) <+: m) : decB m = true ∧ decN m = decN l ∧ decR m = decR l := by
  have hl := decB_len l h
  have hn : decN l = ext (l.getD 0 0) := by rw [decN, if_pos h]
  obtain ⟨t, rfl⟩ := hp
  have e0 : (l.take (decN l) ++ t).getD 0 0 = l.getD 0 0 := by
    rcases l with _ | ⟨b, l⟩
    · simp at hl; omega
    · obtain ⟨k, hk⟩ := Nat.exists_eq_add_of_le hl.1
      rw [hk, show 0 + 1 + k = k + 1 by omega]; rfl
  have e1 : ∀ q, ((l.take (decN l) ++ q).drop 1).take (ext (l.getD 0 0) - 1) = (l.drop 1).take (ext (l.getD 0 0) - 1) := by
    intro q
    rcases l with _ | ⟨b, l⟩
    · simp at hl; omega
    · obtain ⟨k, hk⟩ := Nat.exists_eq_add_of_le hl.1
      have hk' : ext ((b :: l).getD 0 0) = k + 1 := by omega
      have hk2 : decN (b :: l) = k + 1 := by omega
      rw [hk', hk2]
      simp only [List.take_succ_cons, List.cons_append, List.drop_succ_cons, List.drop_zero, Nat.add_sub_cancel]
      rw [List.take_append_of_le_length (by simp [hk2] at hl; simp; omega), List.take_take]
      simp
  have e2 : raw (l.take (decN l) ++ t) = raw l := by unfold raw; rw [e0, e1 t]
  have hd : decB (l.take (decN l) ++ t) = true := by
    have hle : ext (l.getD 0 0) ≤ (l.take (decN l) ++ t).length := by rw [List.length_append, List.length_take]; omega
    unfold decB at h ⊢
    rw [e0, e1 t, e2]
    simp only [Bool.and_eq_true, decide_eq_true_eq] at h ⊢
    exact ⟨⟨⟨⟨h.1.1.1.1, hle⟩, h.1.1.2⟩, h.1.2⟩, h.2⟩
  exact ⟨hd, by rw [decN, if_pos hd, e0, hn], by rw [decR, if_pos hd, e2, decR, if_pos h]⟩
theorem dec_append (l q : List UInt8) (h : decB l = true) : decB (l ++ q) = true ∧ decN (l ++ q) = decN l ∧ decR (l ++ q) = decR l :=
  dec_prefix l (l ++ q) h ((List.take_prefix _ _).trans (List.prefix_append _ _))
theorem dec_first (l : List UInt8) (h : decB l = true) : cont (l.getD 0 0) = false := by
  have hp := ext_pos_of_dec l h
  have := ext_range (l.getD 0 0)
  cases hc : cont (l.getD 0 0) with
  | false => rfl
  | true =>
    have hx := (cont_iff _).1 hc
    rcases ext_cases (l.getD 0 0) with e | e | e | e | e <;> omega
/-- The bytes behind the first one of an encoding are continuation bytes. -/
theorem dec_rest (l : List UInt8) (h : decB l = true) (k : Nat) (h1 : 1 ≤ k) (hk : k < decN l) : cont (l.getD k 0) = true := by
  have hl := decB_len l h
  have hn : decN l = ext (l.getD 0 0) := by rw [decN, if_pos h]
  have hc : conK l (decN l) = true := by
    rw [hn]
    cases hc : conK l (ext (l.getD 0 0)) with
    | true => rfl
    | false => rw [decB_conK l (Nat.le_refl _) hc] at h; cases h
  have := conK_mono l (show k + 1 ≤ decN l by omega) hc
  rw [conK_succ l k h1 (by omega), Bool.and_eq_true] at this
  exact this.2

/-! ### Rounds -/
theorem round_enc (r : Int) (hr : isR r = true) (t : List UInt8) : decE (encL r ++ t) = 0 ∧ decR (encL r ++ t) = r ∧ decN (encL r ++ t) = (encL r).length := by
  obtain ⟨h1, h2, h3⟩ := dec_enc r hr t
  have hne : encL r ++ t ≠ [] := by
    intro e
    rw [e] at h1; simp [decB, ext] at h1
  refine ⟨by rw [decE, if_neg hne, if_pos h1], by rw [decR, if_pos h1, h2], by rw [decN, if_pos h1, h3, encL_length r hr]⟩
theorem enc_len (r : Int) (hr : isR r = true) : 1 ≤ (encL r).length ∧ (encL r).length ≤ 4 := by
  rw [encL_length r hr]
  have := wid_cases r ((isR_iff r).1 hr).1
  omega
theorem valid_enc (r : Int) (hr : isR r = true) : valid (encL r) = true := by
  have hl := enc_len r hr
  have hne : encL r ≠ [] := by intro e; rw [e] at hl; simp at hl
  have h := dec_enc r hr []
  have h2 := round_enc r hr []
  rw [List.append_nil] at h h2
  rw [valid_yes _ hne h.1, h2.2.2, List.drop_length, valid_nil]
theorem round_dec (l : List UInt8) (h : decB l = true) : isR (decR l) = true ∧ encL (decR l) = l.take (decN l) := by
  have hp := ext_pos_of_dec l h
  have hl := decB_len l h
  have hn : decN l = ext (l.getD 0 0) := by rw [decN, if_pos h]
  have hx : decR l = raw l := by rw [decR, if_pos h]
  have hc : conK l (ext (l.getD 0 0)) = true := by
    cases hc : conK l (ext (l.getD 0 0)) with
    | true => rfl
    | false => rw [decB_conK l (Nat.le_refl _) hc] at h; cases h
  have hd := decB_end l hp (by omega) hc
  rw [h, ← raw_eq] at hd
  have hd' := Bool.and_eq_true_iff.1 hd.symm
  rw [hx, hn]
  exact ⟨hd'.1, (enc_raw l hp (by omega) hc hd'.1).2 (by simpa using hd'.2)⟩

/-! ### Valid strings: concatenation, and cuts -/
theorem valid_append : ∀ (k : Nat) (a b : List UInt8), a.length ≤ k → valid a = true → (valid (a ++ b) = valid b) := by
  intro k
  induction k with
  | zero => intro a b hk _; rw [List.length_eq_zero_iff.1 (Nat.le_zero.1 hk)]; rfl
  | succ k ih =>
    intro a b hk ha
    by_cases hn : a = []
    · rw [hn]; rfl
    · cases hd : decB a with
      | false => rw [valid_no a hn hd] at ha; cases ha
      | true =>
        have hl := decB_len a hd
        rw [valid_yes a hn hd] at ha
        have hab := dec_append a b hd
        rw [valid_yes (a ++ b) (by simp [hn]) hab.1, hab.2.1, List.drop_append_of_le_length hl.2.1]
        exact ih _ _ (by simp; omega) ha
theorem valid_both (a b : List UInt8) (ha : valid a = true) (hb : valid b = true) : valid (a ++ b) = true := by
  rw [valid_append a.length a b (Nat.le_refl _) ha, hb]
theorem bndN_zero_of_valid (l : List UInt8) (h : valid l = true) : bndN l 0 = true := by
  by_cases hn : l = []
  · rw [hn]; rfl
  · cases hd : decB l with
    | false => rw [valid_no l hn hd] at h; cases h
    | true =>
      rw [bndN_lt l (List.length_pos_iff.2 hn), dec_first l hd]; rfl
theorem getD_drop (l : List UInt8) (n k : Nat) : (l.drop n).getD k 0 = l.getD (n + k) 0 := by
  simp [List.getD_eq_getElem?_getD, List.getElem?_drop]
theorem bndN_drop (l : List UInt8) (n k : Nat) (h : n ≤ l.length) : bndN (l.drop n) k = bndN l (n + k) := by
  unfold bndN
  rw [getD_drop, List.length_drop]
  congr 1
  · rw [decide_eq_decide]; omega
  · congr 1
    rw [Bool.eq_iff_iff]; simp; omega
theorem valid_cut_yes : ∀ (k : Nat) (l : List UInt8) (n : Nat), l.length ≤ k → valid l = true → n ≤ l.length → bndN l n = true → valid (l.take n) = true ∧ valid (l.drop n) = true := by
  intro k
  induction k with
  | zero =>
    intro l n hk _ hn _
    have : l = [] := List.length_eq_zero_iff.1 (by omega)
    subst this
    simp [valid_nil]
  | succ k ih =>
    intro l n hk hv hn hb
    rcases Nat.eq_zero_or_pos n with rfl | hpos
    · exact ⟨by simp [valid_nil], by simpa using hv⟩
    · have hne : l ≠ [] := by intro e; rw [e] at hn; simp at hn; omega
      cases hd : decB l with
      | false => rw [valid_no l hne hd] at hv; cases hv
      | true =>
        have hl := decB_len l hd
        have hge : decN l ≤ n := by
          rcases Nat.lt_or_ge n (decN l) with h | h
          · have hc := dec_rest l hd n hpos h
            rw [bndN_lt l (by omega), hc] at hb; cases hb
          · exact h
        rw [valid_yes l hne hd] at hv
        obtain ⟨m, rfl⟩ := Nat.exists_eq_add_of_le hge
        have := ih (l.drop (decN l)) m (by simp; omega) hv (by simp; omega) (by rw [bndN_drop l _ _ hl.2.1]; exact hb)
        refine ⟨?_, by rw [← List.drop_drop]; exact this.2⟩
        have hp : l.take (decN l) <+: l.take (decN l + m) := List.take_prefix_take_left (by omega)
        obtain ⟨h1, h2, _⟩ := dec_prefix l (l.take (decN l + m)) hd hp
        have hne' : l.take (decN l + m) ≠ [] := by
          intro e; rw [e] at h1; simp [decB, ext] at h1
        rw [valid_yes _ hne' h1, h2, List.drop_take]
        rw [show decN l + m - decN l = m by omega]
        exact this.1
theorem valid_cut_no (l : List UInt8) (n : Nat) (hv : valid l = true) (hn : n ≤ l.length) (hb : bndN l n = false) : valid (l.take n) = false ∧ valid (l.drop n) = false := by
  have hd : valid (l.drop n) = false := by
    cases h : valid (l.drop n) with
    | false => rfl
    | true =>
      have := bndN_zero_of_valid _ h
      rw [bndN_drop l n 0 hn, Nat.add_zero, hb] at this; cases this
  refine ⟨?_, hd⟩
  cases h : valid (l.take n) with
  | false => rfl
  | true =>
    have := valid_append _ (l.take n) (l.drop n) (Nat.le_refl _) h
    rw [List.take_append_drop, hv, hd] at this; cases this
theorem valid_cut (l : List UInt8) (n : Nat) (hv : valid l = true) (hn : n ≤ l.length) : valid (l.take n) = bndN l n ∧ valid (l.drop n) = bndN l n := by
  cases hb : bndN l n with
  | true => exact valid_cut_yes _ l n (Nat.le_refl _) hv hn hb
  | false => exact valid_cut_no l n hv hn hb

/-! ### Order -/
theorem enc_prefix (a b : Int) (ha : isR a = true) (hb : isR b = true) (h : encL a <+: encL b) : a = b := by
  obtain ⟨t, ht⟩ := h
  have h1 := (round_enc a ha t).2.1
  have h2 := (round_enc b hb []).2.1
  rw [List.append_nil] at h2
  rw [ht, h2] at h1
  exact h1.symm
theorem enc_apart (a b : Int) (ha : isR a = true) (hb : isR b = true) (h : a ≠ b) : (encL a).take (min (encL a).length (encL b).length) ≠ (encL b).take (min (encL a).length (encL b).length) := by
  intro e
  rcases Nat.le_total (encL a).length (encL b).length with hl | hl
  · rw [Nat.min_eq_left hl, List.take_length] at e
    exact h (enc_prefix a b ha hb (e ▸ List.take_prefix _ _))
  · rw [Nat.min_eq_right hl, List.take_length] at e
    exact h (enc_prefix b a hb ha (e ▸ List.take_prefix _ _)).symm
end Go.Proofs.YtdilkoogjkabfaaDoor.U
