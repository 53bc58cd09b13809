/- What the functions of layer 4 answer, said of pieces as they come, and the mathematics of its laws. It speaks of no program. -/
import Derived.Test.YtlkkgjkbjjifmaaDoorDeltaForm
import Derived.Test.YtlkkgjkbjjifmaaDoorApplyTell
namespace Go.Proofs.YtlkkgjkbjjifmaaDoor.D

def fitE (s : List UInt8) (l : List P) : Int := if chk l = 0 then (if inP l = s.length then 0 else 21) else chk l
def resP (s : List UInt8) (l : List P) : List UInt8 := if fitE s l = 0 then apl s (qs l) else []
def remP (s : List UInt8) (l : List P) : List UInt8 := if fitE s l = 0 then gone s (qs l) else []
def insP (l : List P) : List UInt8 := if chk l = 0 then insd (qs l) else []
def invP (s : List UInt8) (l : List P) : List P := if fitE s l = 0 then (nf (inv s (qs l))).map raw else []
theorem inP_qs {l : List P} (h : chk l = 0) : inP l = (inL (qs l) : Int) := by
  have := inP_raw (qs l)
  rwa [(valid_qs h).1] at this
theorem fitE_zero {s : List UInt8} {l : List P} (h : fitE s l = 0) : chk l = 0 ∧ inL (qs l) = s.length := by
  unfold fitE at h
  by_cases hc : chk l = 0
  · rw [if_pos hc] at h
    refine ⟨hc, ?_⟩
    by_cases hi : inP l = s.length
    · have := inP_qs hc; omega
    · rw [if_neg hi] at h; exact absurd h (by decide)
  · rw [if_neg hc] at h; exact absurd h hc
theorem fitE_of {s : List UInt8} {l : List P} (h : chk l = 0) (hi : inL (qs l) = s.length) : fitE s l = 0 := by
  unfold fitE
  rw [if_pos h, if_pos (by have := inP_qs h; omega)]
theorem resP_eq {s : List UInt8} {l : List P} (h : fitE s l = 0) : resP s l = apl s (qs l) := if_pos h
theorem remP_eq {s : List UInt8} {l : List P} (h : fitE s l = 0) : remP s l = gone s (qs l) := if_pos h
theorem invP_eq {s : List UInt8} {l : List P} (h : fitE s l = 0) : invP s l = (nf (inv s (qs l))).map raw := if_pos h
theorem insP_eq {l : List P} (h : chk l = 0) : insP l = insd (qs l) := if_pos h
theorem inv_length (a : List Q) : ∀ s : List UInt8, (inv s a).length = a.length := by
  induction a with
  | nil => intro s; rfl
  | cons p r ih => intro s; cases p <;> simp [inv, ih]
/-! ### One piece more -/
theorem apl_app (x y : List Q) : ∀ s : List UInt8, apl s (x ++ y) = apl s x ++ apl (s.drop (inL x)) y := by
  induction x with
  | nil => intro s; rfl
  | cons p r ih =>
    intro s
    have hr : inL (p :: r) = in1 p + inL r := rfl
    cases p <;> simp only [in1] at hr <;> rw [hr] <;> simp only [List.cons_append, apl, ih, List.append_assoc, List.drop_drop, Nat.zero_add]
theorem gone_app (x y : List Q) : ∀ s : List UInt8, gone s (x ++ y) = gone s x ++ gone (s.drop (inL x)) y := by
  induction x with
  | nil => intro s; rfl
  | cons p r ih =>
    intro s
    have hr : inL (p :: r) = in1 p + inL r := rfl
    cases p <;> simp only [in1] at hr <;> rw [hr] <;> simp only [List.cons_append, gone, ih, List.append_assoc, List.drop_drop, Nat.zero_add]
theorem inv_app (x y : List Q) : ∀ s : List UInt8, inv s (x ++ y) = inv s x ++ inv (s.drop (inL x)) y := by
  induction x with
  | nil => intro s; rfl
  | cons p r ih =>
    intro s
    have hr : inL (p :: r) = in1 p + inL r := rfl
    cases p <;> simp only [in1] at hr <;> rw [hr] <;> simp only [List.cons_append, inv, ih, List.drop_drop, Nat.zero_add]
theorem insd_app (x y : List Q) : insd (x ++ y) = insd x ++ insd y := by
  induction x with
  | nil => rfl
  | cons p r ih => cases p <;> simp only [List.cons_append, insd, ih, List.append_assoc]
/-- The bytes that a piece takes. -/
def part (s : List UInt8) (a : List Q) (k : Nat) (q : Q) : List UInt8 := (s.drop (inL (a.take k))).take (in1 q)
theorem take_snoc {a : List Q} {k : Nat} {q : Q} (h : a[k]? = some q) : a.take (k + 1) = a.take k ++ [q] := by rw [List.take_add_one, h]; rfl
theorem apl_snoc (s : List UInt8) (a : List Q) (k : Nat) (q : Q) (h : a[k]? = some q) : apl s (a.take (k + 1)) = apl s (a.take k) ++ txt1 q ++ (if isR q = true then part s a k q else []) := by
  rw [take_snoc h, apl_app, List.append_assoc]
  cases q <;> simp [apl, txt1, isR, part, in1]
theorem gone_snoc (s : List UInt8) (a : List Q) (k : Nat) (q : Q) (h : a[k]? = some q) : gone s (a.take (k + 1)) = gone s (a.take k) ++ (if isR q = true then [] else part s a k q) := by
  rw [take_snoc h, gone_app]
  cases q <;> simp [gone, isR, part, in1]
theorem insd_snoc (a : List Q) (k : Nat) (q : Q) (h : a[k]? = some q) : insd (a.take (k + 1)) = insd (a.take k) ++ txt1 q := by
  rw [take_snoc h, insd_app]
  cases q <;> simp [insd, txt1]
def inv1 (s : List UInt8) (a : List Q) (k : Nat) : Q → Q
  | .R n => .R n
  | .I t => .D t.length
  | .D n => .I (part s a k (.D n))
theorem inv_snoc (s : List UInt8) (a : List Q) (k : Nat) (q : Q) (h : a[k]? = some q) : inv s (a.take (k + 1)) = inv s (a.take k) ++ [inv1 s a k q] := by
  rw [take_snoc h, inv_app]
  cases q <;> rfl
theorem apl_take_len (s : List UInt8) (a : List Q) (k : Nat) : (apl s (a.take k)).length ≤ s.length + outL a := by
  have key : ∀ (b : List Q) (s : List UInt8), (apl s b).length ≤ outL b := by
    intro b
    induction b with
    | nil => intro s; exact Nat.zero_le _
    | cons p r ih =>
      intro s
      cases p with
      | R n => have := ih (s.drop n); simp only [apl, outL, out1, List.length_append, List.length_take]; omega
      | I t => have := ih s; simp only [apl, outL, out1, List.length_append]; omega
      | D n => have := ih (s.drop n); simp only [apl, outL, out1]; omega
  have h1 := key (a.take k) s
  have e := outL_append (a.take k) (a.drop k)
  rw [List.take_append_drop] at e
  omega
theorem gone_take_len (s : List UInt8) (a : List Q) (k : Nat) : (gone s (a.take k)).length ≤ inL a := by
  have key : ∀ (b : List Q) (s : List UInt8), (gone s b).length ≤ inL b := by
    intro b
    induction b with
    | nil => intro s; exact Nat.zero_le _
    | cons p r ih =>
      intro s
      cases p with
      | R n => have := ih (s.drop n); simp only [gone, inL, in1]; omega
      | I t => have := ih s; simp only [gone, inL, in1]; omega
      | D n => have := ih (s.drop n); simp only [gone, inL, in1, List.length_append, List.length_take]; omega
  have h1 := key (a.take k) s
  have e := inL_append (a.take k) (a.drop k)
  rw [List.take_append_drop] at e
  omega
theorem insd_take_len (a : List Q) (k : Nat) : (insd (a.take k)).length ≤ outL a := by
  have key : ∀ (b : List Q), (insd b).length ≤ outL b := by
    intro b
    induction b with
    | nil => exact Nat.zero_le _
    | cons p r ih => cases p <;> simp only [insd, outL, out1, List.length_append] <;> omega
  have h1 := key (a.take k)
  have e := outL_append (a.take k) (a.drop k)
  rw [List.take_append_drop] at e
  omega
theorem inL_take_le (a : List Q) (k : Nat) (q : Q) (h : a[k]? = some q) : inL (a.take (k + 1)) = inL (a.take k) + in1 q ∧ inL (a.take k) + in1 q ≤ inL a := by
  have e1 : inL (a.take (k + 1)) = inL (a.take k) + in1 q := by rw [take_snoc h, inL_append]; rfl
  have e := inL_append (a.take (k + 1)) (a.drop (k + 1))
  rw [List.take_append_drop] at e
  exact ⟨e1, by omega⟩
theorem out1_le (a : List Q) (k : Nat) (q : Q) (h : a[k]? = some q) : out1 q ≤ outL a := by
  have e1 : outL (a.take (k + 1)) = outL (a.take k) + out1 q := by rw [take_snoc h, outL_append]; rfl
  have e := outL_append (a.take (k + 1)) (a.drop (k + 1))
  rw [List.take_append_drop] at e
  omega
theorem raw_t (q : Q) : (raw q).t = ⟨(txt1 q).toArray⟩ := by cases q <;> rfl
theorem raw_n1 (q : Q) : (raw q).n = (in1 q : Int) := by cases q <;> rfl
theorem part_bytes (s : ByteArray) (i n : Nat) : (s.extract i (i + n)).data.toList = (s.data.toList.drop i).take n := by
  simp [List.take_drop]
theorem txt1_out (q : Q) : (txt1 q).length ≤ out1 q := by cases q <;> simp [txt1, out1]
/-! ### P4.4 -/
structure Back (s : List UInt8) (l : List P) : Prop where
  valid : chk (invP s l) = 0
  fit : fitE (resP s l) (invP s l) = 0
  res : resP (resP s l) (invP s l) = s
  inv2 : invP (resP s l) (invP s l) = normP l
  ins : insP (invP s l) = remP s l
  rem : remP (resP s l) (invP s l) = insP l
theorem chk_inv {s : List UInt8} {l : List P} (h : fitE s l = 0) : chk ((inv s (qs l)).map raw) = 0 := by
  obtain ⟨h0, h1⟩ := fitE_zero h
  obtain ⟨_, pa, _, h4, h5, h6⟩ := valid_qs h0
  refine (chk_iff _).2 ⟨_, allPos_inv _ s h1 pa, rfl, ?_, ?_, ?_⟩
  · rw [inv_length]; unfold qs; rw [List.length_map]; exact h4
  · rw [inL_inv _ _ h1]; exact h6
  · rw [outL_inv _ _ h1]; exact h5
theorem normP_inv {s : List UInt8} {l : List P} (h : fitE s l = 0) : normP ((inv s (qs l)).map raw) = invP s l := by rw [invP_eq h, normP_raw]
theorem back {s : List UInt8} {l : List P} (h : fitE s l = 0) : Back s l := by
  have hv : chk (invP s l) = 0 := by rw [← normP_inv h]; exact chk_normP (chk_inv h)
  obtain ⟨h0, h1⟩ := fitE_zero h
  have hq : qs (invP s l) = nf (inv s (qs l)) := by rw [invP_eq h, qs_raw]
  have hi : inL (qs (invP s l)) = (resP s l).length := by rw [hq, inL_nf, inL_inv _ _ h1, resP_eq h, apl_length _ _ h1]
  have hf := fitE_of hv hi
  refine ⟨hv, hf, ?_, ?_, ?_, ?_⟩
  · rw [resP_eq hf, hq, apl_nf, resP_eq h, apl_inv _ _ h1]
  · rw [invP_eq hf, hq, inv_nf _ _ (by rw [← inL_nf, ← hq]; omega), resP_eq h, inv_inv _ _ h1]; rfl
  · rw [insP_eq hv, hq, insd_nf, insd_inv, remP_eq h]
  · rw [remP_eq hf, hq, gone_nf, resP_eq h, gone_inv _ _ h1, insP_eq h0]
/-! ### P4.5 -/
theorem same_norm {s : List UInt8} {l : List P} (h : fitE s l = 0) : fitE s (normP l) = 0 ∧ resP s (normP l) = resP s l := by
  obtain ⟨h0, h1⟩ := fitE_zero h
  have hq : qs (normP l) = nf (qs l) := by unfold normP; rw [qs_raw]
  have hf : fitE s (normP l) = 0 := fitE_of (chk_normP h0) (by rw [hq, inL_nf]; exact h1)
  exact ⟨hf, by rw [resP_eq hf, resP_eq h, hq, apl_nf]⟩
theorem same_eqv {s : List UInt8} {l m : List P} (h : fitE s l = 0) (hm : chk m = 0) (e : normP l = normP m) : fitE s m = 0 ∧ resP s m = resP s l := by
  obtain ⟨h0, h1⟩ := fitE_zero h
  have e' : nf (qs l) = nf (qs m) := map_raw_inj e
  have hi : inL (qs m) = s.length := by rw [← inL_nf, ← e', inL_nf]; exact h1
  have hf := fitE_of hm hi
  exact ⟨hf, by rw [resP_eq hf, resP_eq h, ← apl_nf (qs m), ← e', apl_nf]⟩
theorem res_tells {S : List UInt8} {l m : List P} (hl : chk l = 0) (hm : chk m = 0) (il : inL (qs l) = S.length) (im : inL (qs m) = S.length) (hn : S.Nodup) (fl : ∀ c ∈ insP l, c ∉ S) (fm : ∀ c ∈ insP m, c ∉ S) :
    resP S l = resP S m ↔ normP l = normP m := by
  rw [insP_eq hl] at fl
  rw [insP_eq hm] at fm
  rw [resP_eq (fitE_of hl il), resP_eq (fitE_of hm im), tells S _ _ (valid_qs hl).2.1 (valid_qs hm).2.1 il im hn fl fm]
  exact ⟨fun e => by unfold normP; rw [e], fun e => map_raw_inj e⟩
/-! ### P4.6 -/
theorem len_parts {s : List UInt8} {l : List P} (h : fitE s l = 0) : ((resP s l).length : Int) = (s.length : Int) + (insP l).length - (remP s l).length := by
  obtain ⟨h0, h1⟩ := fitE_zero h
  have := len_change (qs l) s h1
  rw [resP_eq h, insP_eq h0, remP_eq h]
  omega
theorem res_len {s : List UInt8} {l : List P} (h : fitE s l = 0) : (resP s l).length ≤ 1048576 ∧ s.length ≤ 1048576 ∧ (insP l).length ≤ 1048576 ∧ (remP s l).length ≤ 1048576 := by
  obtain ⟨h0, h1⟩ := fitE_zero h
  obtain ⟨_, pa, _, h4, h5, h6⟩ := valid_qs h0
  have hb := len_change (qs l) s h1
  have hl := apl_length (qs l) s h1
  have hi : (insd (qs l)).length ≤ outL (qs l) := by
    have key : ∀ a : List Q, (insd a).length ≤ outL a := by
      intro a
      induction a with
      | nil => exact Nat.le_refl _
      | cons p r ih => cases p <;> simp [insd, outL, out1] <;> omega
    exact key _
  rw [resP_eq h, insP_eq h0, remP_eq h]
  omega
theorem ins_len (l : List P) : (insP l).length ≤ 1048576 := by
  by_cases h0 : chk l = 0
  · obtain ⟨_, _, _, _, _, h6⟩ := valid_qs h0
    have key : ∀ a : List Q, (insd a).length ≤ outL a := by
      intro a
      induction a with
      | nil => exact Nat.le_refl _
      | cons p r ih => cases p <;> simp [insd, outL, out1] <;> omega
    rw [insP_eq h0]
    have := key (qs l)
    omega
  · unfold insP; rw [if_neg h0]; simp
theorem res_join {s t : List UInt8} {l m x : List P} (hl : fitE s l = 0) (hm : fitE t m = 0) (hx : chk x = 0) (e : x = normP (l ++ m)) : fitE (s ++ t) x = 0 ∧ resP (s ++ t) x = resP s l ++ resP t m := by
  obtain ⟨h0, h1⟩ := fitE_zero hl
  obtain ⟨g0, g1⟩ := fitE_zero hm
  have hq : qs x = nf (qs l ++ qs m) := by rw [e]; unfold normP; rw [qs_raw]; unfold qs; rw [List.map_append]
  have hf : fitE (s ++ t) x = 0 := fitE_of hx (by rw [hq, inL_nf, inL_append, List.length_append]; omega)
  exact ⟨hf, by rw [resP_eq hf, hq, apl_nf, apl_append _ _ _ _ h1, resP_eq hl, resP_eq hm]⟩
/-! ### P4.3, P4.7 -/
theorem chkF_ne (a : List Q) (pa : allPos a = true) : ∀ i o : Int, o ≤ most → chkF i o (a.map raw) ≠ 2 := by
  induction a with
  | nil => intro i o _; simp [chkF]
  | cons q a ih =>
    intro i o ho
    unfold allPos at pa
    simp only [List.all_cons, Bool.and_eq_true] at pa
    have ih' := ih pa.2
    cases q with
    | R n =>
      have hn : 0 < n := by simpa [pos] using pa.1
      rw [List.map_cons, raw, chkF_R i o n _ hn ho]
      split
      · decide
      · split
        · decide
        · exact ih' _ _ (by omega)
    | I t =>
      have ht : 0 < t.length := by cases t with
        | nil => simp [pos] at pa
        | cons => simp
      rw [List.map_cons, raw, chkF_I i o _ _ (by rw [size_l]; exact ht)]
      split
      · decide
      · exact ih' _ _ (by omega)
    | D n =>
      have hn : 0 < n := by simpa [pos] using pa.1
      rw [List.map_cons, raw, chkF_D i o n _ hn ho]
      split
      · decide
      · exact ih' _ _ ho
theorem chk_pos (a : List Q) (pa : allPos a = true) (hl : a.length ≤ 4096) : chk (a.map raw) = if inL a ≤ 1048576 ∧ outL a ≤ 1048576 then 0 else 5 := by
  by_cases h : inL a ≤ 1048576 ∧ outL a ≤ 1048576
  · rw [if_pos h]; exact (chk_iff _).2 ⟨a, pa, rfl, hl, h.1, h.2⟩
  · rw [if_neg h]
    rcases chk_cases (a.map raw) with h0 | h0 | h0
    · obtain ⟨b, _, e, _, h1, h2⟩ := (chk_iff _).1 h0
      rw [map_raw_inj e] at h1 h2
      exact absurd ⟨h1, h2⟩ h
    · unfold chk at h0
      rw [if_neg (by rw [List.length_map]; omega)] at h0
      exact absurd h0 (chkF_ne a pa 0 0 (by unfold most; omega))
    · exact h0
/-- The error of a single edit. -/
def mkE (n a k : Int) (t : List UInt8) : Int := if a < 0 ∨ n < a ∨ k < 0 ∨ n - a < k then 3 else if 1048576 < n ∨ 1048576 - (n - k) < t.length then 5 else 0
/-- Its delta. -/
def mkP (n a k : Int) (t : List UInt8) : List P := if mkE n a k t = 0 then (nf (edit n.toNat a.toNat k.toNat t)).map raw else []
theorem edit_pos (n a k : Nat) (t : List UInt8) : allPos (edit n a k t) = true := by
  unfold edit allPos
  simp only [List.all_append, Bool.and_eq_true]
  refine ⟨⟨⟨?_, ?_⟩, ?_⟩, ?_⟩
  · split
    · rename_i h; simp [pos, h]
    · rfl
  · split
    · rfl
    · rename_i h; cases t with
      | nil => exact absurd rfl h
      | cons => simp [pos]
  · split
    · rename_i h; simp [pos, h]
    · rfl
  · split
    · rename_i h; simp [pos]; omega
    · rfl
theorem edit_len (n a k : Nat) (t : List UInt8) : (edit n a k t).length ≤ 4 := by
  unfold edit
  rw [List.length_append, List.length_append, List.length_append]
  split <;> split <;> split <;> split <;> simp
theorem edit_outL (n a k : Nat) (t : List UInt8) (h : a + k ≤ n) : outL (edit n a k t) = n - k + t.length := by
  unfold edit
  rw [outL_append, outL_append, outL_append]
  split <;> split <;> split <;> split <;> simp_all [outL, out1] <;> omega
/-- The four pieces of which an edit is made, empty ones among them. -/
def four (n a k : Nat) (t : ByteArray) : List P := [⟨1, a, ⟨#[]⟩⟩, ⟨2, 0, t⟩, ⟨3, k, ⟨#[]⟩⟩, ⟨1, ((n - a - k : Nat) : Int), ⟨#[]⟩⟩]
def emptyP (p : P) : Bool := p.n == 0 && p.t.size == 0
theorem kept_cons (p : P) (l : List P) : (p :: l).filter (fun p => !emptyP p) = (if emptyP p = true then [] else [p]) ++ l.filter (fun p => !emptyP p) := by
  rw [List.filter_cons]
  cases emptyP p <;> rfl
theorem emptyP_n (i : Int) (m : Nat) : emptyP ⟨i, m, ⟨#[]⟩⟩ = true ↔ m = 0 := by
  have e0 : ((⟨#[]⟩ : ByteArray).size == 0) = true := rfl
  unfold emptyP
  simp only [e0, Bool.and_true, beq_iff_eq]
  omega
theorem emptyP_t (i : Int) (t : ByteArray) : emptyP ⟨i, 0, t⟩ = true ↔ t.data.toList = [] := by
  have h : t.data.toList = [] ↔ t.size = 0 := by
    constructor
    · intro e; have : t.data.toList.length = t.size := by simp
      rw [e] at this; exact this.symm
    · intro e; rw [empty_of_size e]
  rw [h]
  unfold emptyP
  simp
theorem four_kept (n a k : Nat) (t : ByteArray) (h : a + k ≤ n) : (four n a k t).filter (fun p => !emptyP p) = (edit n a k t.data.toList).map raw := by
  unfold four edit
  rw [kept_cons, kept_cons, kept_cons, kept_cons, List.filter_nil, List.append_nil, List.map_append, List.map_append, List.map_append, List.append_assoc, List.append_assoc]
  congr 1
  · by_cases c : a = 0
    · rw [if_pos ((emptyP_n 1 a).2 c), if_neg (by omega)]; rfl
    · rw [if_neg (fun e => c ((emptyP_n 1 a).1 e)), if_pos (by omega)]; rfl
  congr 1
  · by_cases c : t.data.toList = []
    · rw [if_pos ((emptyP_t 2 t).2 c), if_pos c]; rfl
    · rw [if_neg (fun e => c ((emptyP_t 2 t).1 e)), if_neg c]; simp [raw]
  congr 1
  · by_cases c : k = 0
    · rw [if_pos ((emptyP_n 3 k).2 c), if_neg (by omega)]; rfl
    · rw [if_neg (fun e => c ((emptyP_n 3 k).1 e)), if_pos (by omega)]; rfl
  · by_cases c : n - a - k = 0
    · rw [if_pos ((emptyP_n 1 _).2 c), if_neg (by omega)]; rfl
    · rw [if_neg (fun e => c ((emptyP_n 1 _).1 e)), if_pos (by omega)]; rfl
structure Mk (n a k : Nat) (t : List UInt8) : Prop where
  range : a + k ≤ n
  err : chk ((edit n a k t).map raw) = mkE n a k t
  one : mkE n a k t = 0 ∨ mkE n a k t = 5
  made : mkE n a k t = 0 → normP ((edit n a k t).map raw) = mkP n a k t
theorem mk_in {n a k : Nat} (t : List UInt8) (h : a + k ≤ n) : Mk n a k t := by
  have hE : mkE n a k t = if inL (edit n a k t) ≤ 1048576 ∧ outL (edit n a k t) ≤ 1048576 then 0 else 5 := by
    unfold mkE
    rw [if_neg (by omega), edit_inL n a k t h, edit_outL n a k t h]
    by_cases c : n ≤ 1048576 ∧ n - k + t.length ≤ 1048576
    · rw [if_pos c, if_neg (by omega)]
    · rw [if_neg c, if_pos (by omega)]
  have hC := chk_pos (edit n a k t) (edit_pos n a k t) (Nat.le_trans (edit_len n a k t) (by omega))
  refine ⟨h, by rw [hC, hE], by rw [hE]; split <;> simp, fun h0 => ?_⟩
  unfold mkP
  rw [if_pos h0, normP_raw]
  rfl
theorem mk_cases (n a k : Int) (t : List UInt8) : (mkE n a k t = 3 ∧ mkP n a k t = [] ∧ (a < 0 ∨ n < a ∨ k < 0 ∨ n - a < k)) ∨ ∃ n' a' k' : Nat, n = n' ∧ a = a' ∧ k = k' ∧ Mk n' a' k' t := by
  by_cases h : a < 0 ∨ n < a ∨ k < 0 ∨ n - a < k
  · have : mkE n a k t = 3 := if_pos h
    exact .inl ⟨this, by unfold mkP; rw [this]; rfl, h⟩
  · refine .inr ⟨n.toNat, a.toNat, k.toNat, by omega, by omega, by omega, mk_in t (by omega)⟩
theorem mkE_in {n a k : Int} {t : List UInt8} (h : mkE n a k t = 0) : 0 ≤ a ∧ a ≤ n ∧ 0 ≤ k ∧ k ≤ n - a ∧ n ≤ 1048576 ∧ n - k + t.length ≤ 1048576 := by
  unfold mkE at h
  split at h
  · cases h
  · split at h
    · cases h
    · omega
theorem mkP_ok {n a k : Nat} {t : List UInt8} (h : mkE n a k t = 0) : chk (mkP n a k t) = 0 ∧ qs (mkP n a k t) = nf (edit n a k t) := by
  have hr : a + k ≤ n := by have := mkE_in h; omega
  have m := mk_in t hr
  refine ⟨?_, ?_⟩
  · rw [← m.made h]; exact chk_normP (by rw [m.err]; exact h)
  · unfold mkP; rw [if_pos h, qs_raw]; rfl
/-- What a single edit does. -/
theorem mk_does {s : List UInt8} {a k : Int} {t : List UInt8} (h : mkE s.length a k t = 0) : fitE s (mkP s.length a k t) = 0 ∧ resP s (mkP s.length a k t) = s.take a.toNat ++ t ++ s.drop (a.toNat + k.toNat) := by
  have hb := mkE_in h
  obtain ⟨a, rfl⟩ := Int.eq_ofNat_of_zero_le hb.1
  obtain ⟨k, rfl⟩ := Int.eq_ofNat_of_zero_le hb.2.2.1
  have hr : a + k ≤ s.length := by omega
  obtain ⟨h0, hq⟩ := mkP_ok h
  have hf := fitE_of h0 (by rw [hq, inL_nf, edit_inL _ _ _ _ hr])
  refine ⟨hf, ?_⟩
  rw [resP_eq hf, hq, apl_nf, edit_apl s a k t hr]
  rfl
end Go.Proofs.YtlkkgjkbjjifmaaDoor.D
