/- More plain mathematics of UTF-8: encoding and decoding are inverse to each other. It speaks of no program. -/
import Derived.Test.YtdilkoogjkabfaaDoorRunesMath
namespace Go.Proofs.YtdilkoogjkabfaaDoor.U

theorem isR_iff (r : Int) : isR r = true ↔ (0 ≤ r ∧ r ≤ 1114111 ∧ (r < 55296 ∨ 57343 < r)) := by
  simp [isR, and_assoc]
theorem wid_cases (r : Int) (h : 0 ≤ r) : (wid r = 1 ∧ r < 128) ∨ (wid r = 2 ∧ 128 ≤ r ∧ r < 2048) ∨ (wid r = 3 ∧ 2048 ≤ r ∧ r < 65536) ∨ (wid r = 4 ∧ 65536 ≤ r) := by
  unfold wid; (repeat' split) <;> omega
theorem encN_length (r : Int) (h : 0 ≤ r) : (encN r.toNat).length = wid r := by
  unfold encN
  rcases wid_cases r h with ⟨e, h1⟩ | ⟨e, h1, h2⟩ | ⟨e, h1, h2⟩ | ⟨e, h1⟩
  · rw [if_pos (by omega), e]; rfl
  · rw [if_neg (by omega), if_pos (by omega), e]; rfl
  · rw [if_neg (by omega), if_neg (by omega), if_pos (by omega), e]; rfl
  · rw [if_neg (by omega), if_neg (by omega), if_neg (by omega), e]; rfl
theorem encL_length (r : Int) (h : isR r = true) : (encL r).length = wid r := by
  rw [encL, if_pos h, List.length_map, encN_length r ((isR_iff r).1 h).1]
theorem ofNat_eq {n : Nat} {b : UInt8} (h : n = b.toNat) : UInt8.ofNat n = b := by
  rw [h]; exact UInt8.ofNat_toNat
theorem base1 : base 1 = 0 := rfl
theorem base2 : base 2 = 192 := rfl
theorem base3 : base 3 = 224 := rfl
theorem base4 : base 4 = 240 := rfl
theorem ext_range (b : UInt8) : (ext b = 1 → b.toNat < 128) ∧ (ext b = 2 → 192 ≤ b.toNat ∧ b.toNat < 224) ∧ (ext b = 3 → 224 ≤ b.toNat ∧ b.toNat < 240) ∧ (ext b = 4 → 240 ≤ b.toNat ∧ b.toNat < 248) ∧
    (ext b = 0 → (128 ≤ b.toNat ∧ b.toNat < 192) ∨ 248 ≤ b.toNat) := by
  unfold ext; (repeat' split) <;> omega
theorem ext_of (b : UInt8) : (b.toNat < 128 → ext b = 1) ∧ (192 ≤ b.toNat → b.toNat < 224 → ext b = 2) ∧ (224 ≤ b.toNat → b.toNat < 240 → ext b = 3) ∧ (240 ≤ b.toNat → b.toNat < 248 → ext b = 4) := by
  unfold ext; (repeat' split) <;> omega

/-- The bytes that an encoding has are those that were decoded, exactly if the widths agree. -/
theorem enc_raw (l : List UInt8) (h0 : 0 < ext (l.getD 0 0)) (h1 : ext (l.getD 0 0) ≤ l.length) (hc : conK l (ext (l.getD 0 0)) = true) (hr : isR (raw l) = true) :
    encL (raw l) = l.take (ext (l.getD 0 0)) ↔ wid (raw l) = ext (l.getD 0 0) := by
  constructor
  · intro h
    rw [← encL_length _ hr, h, List.length_take]; omega
  · intro h
    have hb := ((isR_iff _).1 hr).1
    have hx := ext_range (l.getD 0 0)
    unfold raw at *
    unfold conK at hc
    rw [encL, if_pos hr]
    rcases l with _ | ⟨b0, t⟩
    · exact absurd (Nat.lt_of_lt_of_le h0 h1) (by simp)
    · have e0 : (b0 :: t).getD 0 0 = b0 := rfl
      rw [e0] at h0 h1 hc hr h hb hx ⊢
      clear e0
      rcases ext_cases b0 with e | e | e | e | e
      · omega
      · rw [e] at h0 h1 hc hr h hb hx ⊢
        have hw := wid_cases _ hb
        simp only [base1, acc, Nat.sub_self, List.drop_one, List.tail_cons, List.take_zero] at *
        unfold encN
        rw [if_pos (by omega)]
        simp
      · rw [e] at h0 h1 hc hr h hb hx ⊢
        rcases t with _ | ⟨b1, t⟩
        · simp at h1
        have hw := wid_cases _ hb
        simp only [base2, acc, List.drop_one, List.tail_cons, List.take_succ_cons, List.take_zero, List.all_cons, List.all_nil, Bool.and_true, cont_iff] at *
        unfold encN
        rw [if_neg (by omega), if_pos (by omega)]
        simp only [List.map_cons, List.map_nil, List.cons.injEq, and_true]
        exact ⟨ofNat_eq (by omega), ofNat_eq (by omega)⟩
      · rw [e] at h0 h1 hc hr h hb hx ⊢
        rcases t with _ | ⟨b1, _ | ⟨b2, t⟩⟩
        · simp at h1
        · simp at h1
        have hw := wid_cases _ hb
        simp only [base3, acc, List.drop_one, List.tail_cons, List.take_succ_cons, List.take_zero, List.all_cons, List.all_nil, Bool.and_true, Bool.and_eq_true, cont_iff] at *
        unfold encN
        rw [if_neg (by omega), if_neg (by omega), if_pos (by omega)]
        simp only [List.map_cons, List.map_nil, List.cons.injEq, and_true]
        exact ⟨ofNat_eq (by omega), ofNat_eq (by omega), ofNat_eq (by omega)⟩
      · rw [e] at h0 h1 hc hr h hb hx ⊢
        rcases t with _ | ⟨b1, _ | ⟨b2, _ | ⟨b3, t⟩⟩⟩
        · simp at h1
        · simp at h1
        · simp at h1
        have hw := wid_cases _ hb
        simp only [base4, acc, List.drop_one, List.tail_cons, List.take_succ_cons, List.take_zero, List.all_cons, List.all_nil, Bool.and_true, Bool.and_eq_true, cont_iff] at *
        unfold encN
        rw [if_neg (by omega), if_neg (by omega), if_neg (by omega)]
        simp only [List.map_cons, List.map_nil, List.cons.injEq, and_true]
        exact ⟨ofNat_eq (by omega), ofNat_eq (by omega), ofNat_eq (by omega), ofNat_eq (by omega)⟩

/-- Decoding what was encoded, whatever follows. -/
theorem dec_enc (r : Int) (hr : isR r = true) (t : List UInt8) : decB (encL r ++ t) = true ∧ raw (encL r ++ t) = r ∧ ext ((encL r ++ t).getD 0 0) = wid r := by
  have hb := (isR_iff _).1 hr
  have key : ∀ l : List UInt8, ext (l.getD 0 0) = wid r → wid r ≤ l.length → 0 < wid r → conK l (wid r) = true → raw l = r → decB l = true ∧ raw l = r ∧ ext (l.getD 0 0) = wid r := by
    intro l h1 h2 h3 h4 h5
    refine ⟨?_, h5, h1⟩
    rw [decB_end l (by omega) (by omega) (by rw [h1]; exact h4), ← raw_eq, h5, hr, h1]
    simp
  rw [encL, if_pos hr]
  unfold encN
  rcases wid_cases r hb.1 with ⟨e, h1⟩ | ⟨e, h1, h2⟩ | ⟨e, h1, h2⟩ | ⟨e, h1⟩
  · rw [if_pos (by omega)]
    have x0 : (UInt8.ofNat r.toNat).toNat = r.toNat := ofNat_toNat (by omega)
    have ee : ext (UInt8.ofNat r.toNat) = 1 := (ext_of _).1 (by omega)
    refine key _ (ee.trans e.symm) (by rw [e]; simp) (by omega) (by rw [e]; simp [conK]) ?_
    simp [raw, ee, base1, acc, x0]; omega
  · rw [if_neg (by omega), if_pos (by omega)]
    have x0 : (UInt8.ofNat (192 + r.toNat / 64)).toNat = 192 + r.toNat / 64 := ofNat_toNat (by omega)
    have x1 : (UInt8.ofNat (128 + r.toNat % 64)).toNat = 128 + r.toNat % 64 := ofNat_toNat (by omega)
    simp only [List.map_cons, List.map_nil, List.cons_append, List.nil_append]
    generalize UInt8.ofNat (192 + r.toNat / 64) = b0 at *
    generalize UInt8.ofNat (128 + r.toNat % 64) = b1 at *
    have ee : ext b0 = 2 := (ext_of _).2.1 (by omega) (by omega)
    refine key _ (ee.trans e.symm) (by rw [e]; simp) (by omega) (by rw [e]; simp [conK, cont_iff]; omega) ?_
    simp [raw, ee, base2, acc, x0, x1]; omega
  · rw [if_neg (by omega), if_neg (by omega), if_pos (by omega)]
    have x0 : (UInt8.ofNat (224 + r.toNat / 4096)).toNat = 224 + r.toNat / 4096 := ofNat_toNat (by omega)
    have x1 : (UInt8.ofNat (128 + r.toNat / 64 % 64)).toNat = 128 + r.toNat / 64 % 64 := ofNat_toNat (by omega)
    have x2 : (UInt8.ofNat (128 + r.toNat % 64)).toNat = 128 + r.toNat % 64 := ofNat_toNat (by omega)
    simp only [List.map_cons, List.map_nil, List.cons_append, List.nil_append]
    generalize UInt8.ofNat (224 + r.toNat / 4096) = b0 at *
    generalize UInt8.ofNat (128 + r.toNat / 64 % 64) = b1 at *
    generalize UInt8.ofNat (128 + r.toNat % 64) = b2 at *
    have ee : ext b0 = 3 := (ext_of _).2.2.1 (by omega) (by omega)
    refine key _ (ee.trans e.symm) (by rw [e]; simp) (by omega) (by rw [e]; simp [conK, cont_iff]; omega) ?_
    simp [raw, ee, base3, acc, x0, x1, x2]; omega
  · rw [if_neg (by omega), if_neg (by omega), if_neg (by omega)]
    have x0 : (UInt8.ofNat (240 + r.toNat / 262144)).toNat = 240 + r.toNat / 262144 := ofNat_toNat (by omega)
    have x1 : (UInt8.ofNat (128 + r.toNat / 4096 % 64)).toNat = 128 + r.toNat / 4096 % 64 := ofNat_toNat (by omega)
    have x2 : (UInt8.ofNat (128 + r.toNat / 64 % 64)).toNat = 128 + r.toNat / 64 % 64 := ofNat_toNat (by omega)
    have x3 : (UInt8.ofNat (128 + r.toNat % 64)).toNat = 128 + r.toNat % 64 := ofNat_toNat (by omega)
    simp only [List.map_cons, List.map_nil, List.cons_append, List.nil_append]
    generalize UInt8.ofNat (240 + r.toNat / 262144) = b0 at *
    generalize UInt8.ofNat (128 + r.toNat / 4096 % 64) = b1 at *
    generalize UInt8.ofNat (128 + r.toNat / 64 % 64) = b2 at *
    generalize UInt8.ofNat (128 + r.toNat % 64) = b3 at *
    have ee : ext b0 = 4 := (ext_of _).2.2.2 (by omega) (by omega)
    refine key _ (ee.trans e.symm) (by rw [e]; simp) (by omega) (by rw [e]; simp [conK, cont_iff]; omega) ?_
    simp [raw, ee, base4, acc, x0, x1, x2, x3]; omega

/-! ### Validity -/
theorem decB_len (l : List UInt8) (h : decB l = true) : 0 < decN l ∧ decN l ≤ l.length ∧ decN l ≤ 4 := by
  have h4 := ext_le (l.getD 0 0)
  rw [decN, if_pos h]
  unfold decB at h
  simp only [Bool.and_eq_true, decide_eq_true_eq] at h
  exact ⟨h.1.1.1.1, h.1.1.1.2, h4⟩
theorem validF_fuel : ∀ (k m : Nat) (l : List UInt8), l.length ≤ k → l.length ≤ m → validF k l = validF m l := by
  intro k
  induction k with
  | zero =>
    intro m l hk _
    have : l = [] := List.length_eq_zero_iff.1 (by omega)
    subst this
    cases m <;> rfl
  | succ k ih =>
    intro m l hk hm
    cases m with
    | zero =>
      have : l = [] := List.length_eq_zero_iff.1 (by omega)
      subst this; rfl
    | succ m =>
      cases hd : decB l with
      | false => simp [validF, hd]
      | true =>
        have hl := decB_len l hd
        simp only [validF, hd, Bool.true_and]
        rw [ih m (l.drop (decN l)) (by simp; omega) (by simp; omega)]
theorem valid_nil : valid [] = true := rfl
theorem valid_step (l : List UInt8) (h : l ≠ []) : valid l = (decB l && valid (l.drop (decN l))) := by
  have hpos : 0 < l.length := List.length_pos_iff.2 h
  have he : l.isEmpty = false := by cases l with | nil => exact absurd rfl h | cons _ _ => rfl
  unfold valid
  rw [validF_fuel l.length ((l.length - 1) + 1) l (Nat.le_refl _) (by omega)]
  simp only [validF, he, Bool.false_or]
  cases hd : decB l with
  | false => simp
  | true =>
    have hl := decB_len l hd
    rw [Bool.true_and, Bool.true_and]
    exact validF_fuel _ _ _ (by simp; omega) (Nat.le_refl _)
theorem valid_no (l : List UInt8) (h : l ≠ []) (hd : decB l = false) : valid l = false := by rw [valid_step l h, hd]; rfl
theorem valid_yes (l : List UInt8) (h : l ≠ []) (hd : decB l = true) : valid l = valid (l.drop (decN l)) := by rw [valid_step l h, hd]; rfl

/-! ### The searches of the reference -/
def nxtP (l : List UInt8) (at_ : Int) (i : Nat) : Bool := decide (at_ < (i : Int)) && bndN l i
def prvP (l : List UInt8) (at_ : Int) (i : Nat) : Bool := decide ((i : Int) < at_) && bndN l i
theorem nxt_some (l : List UInt8) (at_ : Int) (k : Nat) (hk : k ≤ l.length) (hp : nxtP l at_ k = true) (h : ∀ j, j < k → nxtP l at_ j = false) : nxt l at_ = some k := by
  unfold nxt
  rw [List.find?_range_eq_some]
  exact ⟨hp, by simp; omega, fun j hj => by rw [show (decide (at_ < (j : Int)) && bndN l j) = false from h j hj]; rfl⟩
theorem nxt_none (l : List UInt8) (at_ : Int) (h : ∀ j, j < l.length + 1 → nxtP l at_ j = false) : nxt l at_ = none := by
  unfold nxt
  rw [List.find?_eq_none]
  intro j hj
  rw [show (decide (at_ < (j : Int)) && bndN l j) = false from h j (by simpa using hj)]
  simp
def prvTo (l : List UInt8) (at_ : Int) (k : Nat) : Option Nat := (List.range k).reverse.find? fun i => decide ((i : Int) < at_) && bndN l i
theorem prvTo_succ (l : List UInt8) (at_ : Int) (k : Nat) : prvTo l at_ (k + 1) = if prvP l at_ k then some k else prvTo l at_ k := by
  unfold prvTo
  rw [List.range_succ, List.reverse_append, List.reverse_singleton, List.singleton_append, List.find?_cons]
  cases h : prvP l at_ k with
  | true => rw [show (decide ((k : Int) < at_) && bndN l k) = true from h]; rfl
  | false => rw [show (decide ((k : Int) < at_) && bndN l k) = false from h]; rfl
theorem prvTo_zero (l : List UInt8) (at_ : Int) : prvTo l at_ 0 = none := rfl
theorem prvTo_all (l : List UInt8) (at_ : Int) : prvTo l at_ (l.length + 1) = prv l at_ := rfl
theorem prvTo_lt (l : List UInt8) (at_ : Int) (k : Nat) : (prvTo l at_ k).getD 0 ≤ k - 1 := by
  induction k with
  | zero => exact Nat.zero_le _
  | succ k ih =>
    rw [prvTo_succ]
    split
    · simp
    · omega
theorem clipN_le (l : List UInt8) (n : Int) : clipN l n ≤ l.length := by
  have := prvTo_lt l (n + 1) (l.length + 1)
  rw [prvTo_all] at this
  unfold clipN; omega

/-! ### Decoding as the reference does it -/
def rn (b : UInt8) : Nat := if 240 ≤ b.toNat then 4 else if 224 ≤ b.toNat then 3 else if 192 ≤ b.toNat then 2 else 1
def rb (b : UInt8) : Int := if 240 ≤ b.toNat then (b.toNat : Int) - 240 else if 224 ≤ b.toNat then (b.toNat : Int) - 224 else if 192 ≤ b.toNat then (b.toNat : Int) - 192 else b.toNat
def accG (r : Int) (l : List UInt8) (k : Nat) : Int := acc r ((l.drop 1).take (k - 1))
theorem accG_one (r : Int) (l : List UInt8) : accG r l 1 = r := by simp [accG, acc]
theorem accG_succ (r : Int) (l : List UInt8) (k : Nat) (h1 : 1 ≤ k) (h : k < l.length) : accG r l (k + 1) = 64 * accG r l k + (((l.getD k 0).toNat : Int) - 128) := by
  unfold accG; rw [take_snoc l k h1 h, acc_append]; rfl
theorem accG_bd (r : Int) (l : List UInt8) (hr : 0 ≤ r ∧ r < 256) (k : Nat) (h1 : 1 ≤ k) (h : k ≤ l.length) (h4 : k ≤ 4) (hc : conK l k = true) : 0 ≤ accG r l k ∧ accG r l k < 67108864 ∧ (k = 4 → 262144 * r ≤ accG r l k) := by
  have e1 := accG_one r l
  have step : ∀ j, 1 ≤ j → j < k → accG r l (j + 1) = 64 * accG r l j + (((l.getD j 0).toNat : Int) - 128) ∧ 128 ≤ (l.getD j 0).toNat ∧ (l.getD j 0).toNat < 192 := by
    intro j hj hk
    refine ⟨accG_succ r l j hj (by omega), ?_⟩
    have := conK_mono l (show j + 1 ≤ k by omega) hc
    rw [conK_succ l j hj (by omega), Bool.and_eq_true] at this
    exact (cont_iff _).1 this.2
  have s1 : 1 < k → accG r l 2 = 64 * accG r l 1 + (((l.getD 1 0).toNat : Int) - 128) ∧ 128 ≤ (l.getD 1 0).toNat ∧ (l.getD 1 0).toNat < 192 := step 1 (by omega)
  have s2 : 2 < k → accG r l 3 = 64 * accG r l 2 + (((l.getD 2 0).toNat : Int) - 128) ∧ 128 ≤ (l.getD 2 0).toNat ∧ (l.getD 2 0).toNat < 192 := step 2 (by omega)
  have s3 : 3 < k → accG r l 4 = 64 * accG r l 3 + (((l.getD 3 0).toNat : Int) - 128) ∧ 128 ≤ (l.getD 3 0).toNat ∧ (l.getD 3 0).toNat < 192 := step 3 (by omega)
  have hk : k = 1 ∨ k = 2 ∨ k = 3 ∨ k = 4 := by omega
  rcases hk with rfl | rfl | rfl | rfl
  · omega
  · have := s1 (by omega); omega
  · have := s1 (by omega); have := s2 (by omega); omega
  · have := s1 (by omega); have := s2 (by omega); have := s3 (by omega); omega
theorem rn_le (b : UInt8) : 1 ≤ rn b ∧ rn b ≤ 4 := by unfold rn; (repeat' split) <;> omega
theorem rb_bd (b : UInt8) : 0 ≤ rb b ∧ rb b < 256 := by
  have := lt256 b
  unfold rb; (repeat' split) <;> omega
theorem rn_ext (b : UInt8) (h : 0 < ext b) : rn b = ext b ∧ rb b = (b.toNat : Int) - base (ext b) := by
  unfold rn rb ext base at *
  (repeat' split at h) <;> (repeat' split) <;> simp_all <;> omega
theorem rn_zero (b : UInt8) (h : ext b = 0) : (rn b = 1 ∧ rb b = b.toNat ∧ 128 ≤ b.toNat ∧ b.toNat < 192) ∨ (rn b = 4 ∧ 8 ≤ rb b) := by
  unfold rn rb ext at *
  (repeat' split at h) <;> (repeat' split) <;> omega
theorem ext_pos_of_dec (l : List UInt8) (h : decB l = true) : 0 < ext (l.getD 0 0) := by
  unfold decB at h
  simp only [Bool.and_eq_true, decide_eq_true_eq] at h
  exact h.1.1.1.1
theorem dec_rn (l : List UInt8) (h : decB l = true) : rn (l.getD 0 0) ≤ l.length ∧ conK l (rn (l.getD 0 0)) = true ∧ rn (l.getD 0 0) = decN l ∧ accG (rb (l.getD 0 0)) l (rn (l.getD 0 0)) = decR l := by
  have hp := ext_pos_of_dec l h
  have hr := rn_ext _ hp
  have hn : decN l = ext (l.getD 0 0) := by rw [decN, if_pos h]
  have hx : decR l = raw l := by rw [decR, if_pos h]
  have hl := decB_len l h
  rw [hr.1, hr.2, hn, hx]
  refine ⟨by omega, ?_, rfl, rfl⟩
  cases hc : conK l (ext (l.getD 0 0)) with
  | true => rfl
  | false => rw [decB_conK l (Nat.le_refl _) hc] at h; cases h
theorem ref_end (l : List UInt8) (hl : rn (l.getD 0 0) ≤ l.length) (hc : conK l (rn (l.getD 0 0)) = true) :
    decB l = true ↔ (isR (accG (rb (l.getD 0 0)) l (rn (l.getD 0 0))) = true ∧ encL (accG (rb (l.getD 0 0)) l (rn (l.getD 0 0))) = l.take (rn (l.getD 0 0))) := by
  constructor
  · intro h
    have hp := ext_pos_of_dec l h
    have hr := rn_ext _ hp
    have hx : accG (rb (l.getD 0 0)) l (rn (l.getD 0 0)) = raw l := by rw [hr.1, hr.2]; rfl
    rw [hx, hr.1]
    rw [hr.1] at hl hc
    have hd := decB_end l hp hl hc
    rw [h, ← raw_eq] at hd
    have hd' := Bool.and_eq_true_iff.1 hd.symm
    exact ⟨hd'.1, (enc_raw l hp hl hc hd'.1).2 (by simpa using hd'.2)⟩
  · rintro ⟨h1, h2⟩
    have hlen := encL_length _ h1
    rw [h2, List.length_take, Nat.min_eq_left hl] at hlen
    have hi := (isR_iff _).1 h1
    have hp : 0 < ext (l.getD 0 0) := by
      rcases Nat.eq_zero_or_pos (ext (l.getD 0 0)) with hz | hp
      · exfalso
        rcases rn_zero _ hz with ⟨e1, e2, e3, e4⟩ | ⟨e1, e2⟩
        · rw [e1, e2, accG_one] at hlen hi
          have := wid_cases _ hi.1
          omega
        · have hb := accG_bd (rb (l.getD 0 0)) l (rb_bd _) (rn (l.getD 0 0)) (by omega) hl (by omega) hc
          have := hb.2.2 e1
          omega
      · exact hp
    have hr := rn_ext _ hp
    have hx : accG (rb (l.getD 0 0)) l (rn (l.getD 0 0)) = raw l := by rw [hr.1, hr.2]; rfl
    rw [hx, hr.1] at h2
    rw [hx] at h1
    rw [hr.1] at hl hc
    rw [decB_end l hp hl hc, ← raw_eq, h1, (enc_raw l hp hl hc h1).1 h2]
    simp
end Go.Proofs.YtdilkoogjkabfaaDoor.U
