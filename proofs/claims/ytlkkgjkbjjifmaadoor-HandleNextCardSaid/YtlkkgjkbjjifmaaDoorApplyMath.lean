/- The plain mathematics of applying deltas: the result, what is removed and inserted, the inverse. It speaks of no program. -/
import Derived.Test.YtlkkgjkbjjifmaaDoorDeltaMath
namespace Go.Proofs.YtlkkgjkbjjifmaaDoor.D

/-- The result for a string. -/
def apl : List UInt8 → List Q → List UInt8
  | _, [] => []
  | s, .R n :: r => s.take n ++ apl (s.drop n) r
  | s, .I t :: r => t ++ apl s r
  | s, .D n :: r => apl (s.drop n) r
/-- What is removed. -/
def gone : List UInt8 → List Q → List UInt8
  | _, [] => []
  | s, .R n :: r => gone (s.drop n) r
  | s, .I _ :: r => gone s r
  | s, .D n :: r => s.take n ++ gone (s.drop n) r
/-- What is inserted. -/
def insd : List Q → List UInt8
  | [] => []
  | .I t :: r => t ++ insd r
  | .R _ :: r => insd r
  | .D _ :: r => insd r
/-- The inverse, piece by piece. -/
def inv : List UInt8 → List Q → List Q
  | _, [] => []
  | s, .R n :: r => .R n :: inv (s.drop n) r
  | s, .I t :: r => .D t.length :: inv s r
  | s, .D n :: r => .I (s.take n) :: inv (s.drop n) r
theorem apl_push (s : List UInt8) (p : Q) (l : List Q) : apl s (push p l) = apl s (p :: l) := by
  cases p with
  | R n =>
    match l with
    | [] => rfl
    | .R m :: r => simp only [push, pR, apl, List.take_add, List.append_assoc, List.drop_drop]
    | .I t :: r => rfl
    | .D m :: r => rfl
  | I t =>
    match l with
    | [] => rfl
    | .R m :: r => rfl
    | .I u :: r => simp only [push, pI, apl, List.append_assoc]
    | .D m :: r => rfl
  | D n =>
    match l with
    | [] => rfl
    | .R m :: r => rfl
    | [.I t] => simp only [push, pD, apl]
    | .I t :: .R m :: r => simp only [push, pD, apl]
    | .I t :: .I u :: r => simp only [push, pD, apl]
    | .I t :: .D m :: r => simp only [push, pD, apl, List.drop_drop]
    | .D m :: r => simp only [push, pD, apl, List.drop_drop]
theorem gone_push (s : List UInt8) (p : Q) (l : List Q) : gone s (push p l) = gone s (p :: l) := by
  cases p with
  | R n =>
    match l with
    | [] => rfl
    | .R m :: r => simp only [push, pR, gone, List.drop_drop]
    | .I t :: r => rfl
    | .D m :: r => rfl
  | I t =>
    match l with
    | [] => rfl
    | .R m :: r => rfl
    | .I u :: r => simp only [push, pI, gone]
    | .D m :: r => rfl
  | D n =>
    match l with
    | [] => rfl
    | .R m :: r => rfl
    | [.I t] => simp only [push, pD, gone]
    | .I t :: .R m :: r => simp only [push, pD, gone]
    | .I t :: .I u :: r => simp only [push, pD, gone]
    | .I t :: .D m :: r => simp only [push, pD, gone, List.take_add, List.append_assoc, List.drop_drop]
    | .D m :: r => simp only [push, pD, gone, List.take_add, List.append_assoc, List.drop_drop]
theorem insd_push (p : Q) (l : List Q) : insd (push p l) = insd (p :: l) := by
  cases p with
  | R n =>
    match l with
    | [] => rfl
    | .R m :: r => rfl
    | .I t :: r => rfl
    | .D m :: r => rfl
  | I t =>
    match l with
    | [] => rfl
    | .R m :: r => rfl
    | .I u :: r => simp only [push, pI, insd, List.append_assoc]
    | .D m :: r => rfl
  | D n =>
    match l with
    | [] => rfl
    | .R m :: r => rfl
    | [.I t] => rfl
    | .I t :: .R m :: r => rfl
    | .I t :: .I u :: r => rfl
    | .I t :: .D m :: r => rfl
    | .D m :: r => rfl
theorem nf_R (n : Nat) (a : List Q) : nf (.R n :: a) = pR n (nf a) := rfl
theorem nf_I (t : List UInt8) (a : List Q) : nf (.I t :: a) = pI t (nf a) := rfl
theorem nf_D (n : Nat) (a : List Q) : nf (.D n :: a) = pD n (nf a) := rfl
theorem push_R (n : Nat) (l : List Q) : push (.R n) l = pR n l := rfl
theorem push_I (t : List UInt8) (l : List Q) : push (.I t) l = pI t l := rfl
theorem push_D (n : Nat) (l : List Q) : push (.D n) l = pD n l := rfl
/-- The inverse of a normal form is that of the pieces, up to the normal form. -/
theorem inv_push (s : List UInt8) (p : Q) (l : List Q) : nf (inv s (push p l)) = nf (inv s (p :: l)) := by
  cases p with
  | R n =>
    match l with
    | [] => rfl
    | .R m :: r => rw [push_R, pR, inv, inv, inv, nf_R, nf_R, nf_R, List.drop_drop, pR_pR]
    | .I t :: r => rfl
    | .D m :: r => rfl
  | I t =>
    match l with
    | [] => rfl
    | .R m :: r => rfl
    | .I u :: r => rw [push_I, pI, inv, inv, inv, nf_D, nf_D, nf_D, List.length_append, pD_pD]
    | .D m :: r => rfl
  | D n =>
    match l with
    | [] => rfl
    | .R m :: r => rfl
    | [.I t] => exact pD_pI t.length (s.take n) []
    | .I t :: .R m :: r => exact pD_pI _ _ _
    | .I t :: .I u :: r => exact pD_pI _ _ _
    | .I t :: .D m :: r =>
      show pD t.length (pI (s.take (n + m)) (nf (inv (s.drop (n + m)) r))) = pI (s.take n) (pD t.length (pI ((s.drop n).take m) (nf (inv ((s.drop n).drop m) r))))
      rw [List.take_add, ← pI_pI, pD_pI, List.drop_drop]
    | .D m :: r =>
      show pI (s.take (n + m)) (nf (inv (s.drop (n + m)) r)) = pI (s.take n) (pI ((s.drop n).take m) (nf (inv ((s.drop n).drop m) r)))
      rw [List.take_add, ← pI_pI, List.drop_drop]
theorem apl_nf (a : List Q) : ∀ s, apl s (nf a) = apl s a := by
  induction a with
  | nil => intro s; rfl
  | cons p r ih =>
    intro s
    rw [nf_cons, apl_push]
    cases p <;> simp only [apl, ih]
theorem gone_nf (a : List Q) : ∀ s, gone s (nf a) = gone s a := by
  induction a with
  | nil => intro s; rfl
  | cons p r ih =>
    intro s
    rw [nf_cons, gone_push]
    cases p <;> simp only [gone, ih]
theorem insd_nf (a : List Q) : insd (nf a) = insd a := by
  induction a with
  | nil => rfl
  | cons p r ih =>
    rw [nf_cons, insd_push]
    cases p <;> simp only [insd, ih]
theorem inv_nf (a : List Q) : ∀ s : List UInt8, inL a ≤ s.length → nf (inv s (nf a)) = nf (inv s a) := by
  induction a with
  | nil => intro s _; rfl
  | cons p r ih =>
    intro s h
    have hr : inL (p :: r) = in1 p + inL r := rfl
    rw [nf_cons, inv_push s p (nf r)]
    cases p with
    | R n => simp only [in1] at hr; simp only [inv, nf_cons]; rw [ih _ (by rw [List.length_drop]; omega)]
    | I t => simp only [in1] at hr; simp only [inv, nf_cons]; rw [ih _ (by omega)]
    | D n => simp only [in1] at hr; simp only [inv, nf_cons]; rw [ih _ (by rw [List.length_drop]; omega)]
theorem apl_inv (a : List Q) : ∀ s : List UInt8, inL a = s.length → apl (apl s a) (inv s a) = s := by
  induction a with
  | nil => intro s h; have : s.length = 0 := h.symm; rw [List.eq_nil_of_length_eq_zero this]; rfl
  | cons p r ih =>
    intro s h
    have hr : inL (p :: r) = in1 p + inL r := rfl
    cases p with
    | R n =>
      simp only [in1] at hr
      have hn : (s.take n).length = n := by rw [List.length_take]; omega
      simp only [apl, inv]
      rw [List.take_left' hn, List.drop_left' hn, ih _ (by rw [List.length_drop]; omega), List.take_append_drop]
    | I t =>
      simp only [in1] at hr
      simp only [apl, inv]
      rw [List.drop_left' rfl, ih _ (by omega)]
    | D n =>
      simp only [in1] at hr
      simp only [apl, inv]
      rw [ih _ (by rw [List.length_drop]; omega), List.take_append_drop]
theorem inv_inv (a : List Q) : ∀ s : List UInt8, inL a = s.length → inv (apl s a) (inv s a) = a := by
  induction a with
  | nil => intro s h; rfl
  | cons p r ih =>
    intro s h
    have hr : inL (p :: r) = in1 p + inL r := rfl
    cases p with
    | R n =>
      simp only [in1] at hr
      have hn : (s.take n).length = n := by rw [List.length_take]; omega
      simp only [apl, inv]
      rw [List.drop_left' hn, ih _ (by rw [List.length_drop]; omega)]
    | I t =>
      simp only [in1] at hr
      simp only [apl, inv]
      rw [List.take_left' rfl, List.drop_left' rfl, ih _ (by omega)]
    | D n =>
      simp only [in1] at hr
      have hn : (s.take n).length = n := by rw [List.length_take]; omega
      simp only [apl, inv]
      rw [ih _ (by rw [List.length_drop]; omega), hn]
theorem gone_inv (a : List Q) : ∀ s : List UInt8, inL a = s.length → gone (apl s a) (inv s a) = insd a := by
  induction a with
  | nil => intro s h; rfl
  | cons p r ih =>
    intro s h
    have hr : inL (p :: r) = in1 p + inL r := rfl
    cases p with
    | R n =>
      simp only [in1] at hr
      have hn : (s.take n).length = n := by rw [List.length_take]; omega
      simp only [apl, inv, gone, insd]
      rw [List.drop_left' hn, ih _ (by rw [List.length_drop]; omega)]
    | I t =>
      simp only [in1] at hr
      simp only [apl, inv, gone, insd]
      rw [List.take_left' rfl, List.drop_left' rfl, ih _ (by omega)]
    | D n =>
      simp only [in1] at hr
      simp only [apl, inv, gone, insd]
      rw [ih _ (by rw [List.length_drop]; omega)]
theorem insd_inv (a : List Q) : ∀ s : List UInt8, insd (inv s a) = gone s a := by
  induction a with
  | nil => intro s; rfl
  | cons p r ih => intro s; cases p <;> simp only [inv, insd, gone, ih]
theorem inL_inv (a : List Q) : ∀ s : List UInt8, inL a = s.length → inL (inv s a) = outL a := by
  induction a with
  | nil => intro s _; rfl
  | cons p r ih =>
    intro s h
    have hr : inL (p :: r) = in1 p + inL r := rfl
    cases p with
    | R n => simp only [in1] at hr; simp only [inv, inL, outL, in1, out1]; rw [ih _ (by rw [List.length_drop]; omega)]
    | I t => simp only [in1] at hr; simp only [inv, inL, outL, in1, out1]; rw [ih _ (by omega)]
    | D n => simp only [in1] at hr; simp only [inv, inL, outL, in1, out1]; rw [ih _ (by rw [List.length_drop]; omega)]
theorem outL_inv (a : List Q) : ∀ s : List UInt8, inL a = s.length → outL (inv s a) = inL a := by
  induction a with
  | nil => intro s _; rfl
  | cons p r ih =>
    intro s h
    have hr : inL (p :: r) = in1 p + inL r := rfl
    cases p with
    | R n => simp only [in1] at hr; simp only [inv, inL, outL, in1, out1]; rw [ih _ (by rw [List.length_drop]; omega)]
    | I t => simp only [in1] at hr; simp only [inv, inL, outL, in1, out1]; rw [ih _ (by omega)]
    | D n => simp only [in1] at hr; simp only [inv, inL, outL, in1, out1]; rw [ih _ (by rw [List.length_drop]; omega), List.length_take]; omega
theorem allPos_inv (a : List Q) : ∀ s : List UInt8, inL a = s.length → allPos a = true → allPos (inv s a) = true := by
  induction a with
  | nil => intro s _ _; rfl
  | cons p r ih =>
    intro s h hp
    have hr : inL (p :: r) = in1 p + inL r := rfl
    have hp1 : pos p = true ∧ allPos r = true := by unfold allPos at hp ⊢; rw [List.all_cons, Bool.and_eq_true] at hp; exact hp
    have mk : ∀ (q : Q) (l : List Q), pos q = true → allPos l = true → allPos (q :: l) = true := fun q l h1 h2 => by unfold allPos at h2 ⊢; rw [List.all_cons, h1, h2]; rfl
    cases p with
    | R n => simp only [in1] at hr; exact mk _ _ hp1.1 (ih _ (by rw [List.length_drop]; omega) hp1.2)
    | I t =>
      simp only [in1] at hr
      refine mk _ _ ?_ (ih _ (by omega) hp1.2)
      have := hp1.1
      cases t with
      | nil => simp [pos] at this
      | cons c u => simp [pos]
    | D n =>
      simp only [in1] at hr
      refine mk _ _ ?_ (ih _ (by rw [List.length_drop]; omega) hp1.2)
      have h1 : 0 < n := by simpa [pos] using hp1.1
      cases s with
      | nil => simp at h; omega
      | cons c u => cases n with
        | zero => omega
        | succ n => simp [pos]
theorem apl_append (a b : List Q) : ∀ s t : List UInt8, inL a = s.length → apl (s ++ t) (a ++ b) = apl s a ++ apl t b := by
  induction a with
  | nil => intro s t h; have : s.length = 0 := h.symm; rw [List.eq_nil_of_length_eq_zero this]; rfl
  | cons p r ih =>
    intro s t h
    have hr : inL (p :: r) = in1 p + inL r := rfl
    cases p with
    | R n =>
      simp only [in1] at hr
      simp only [List.cons_append, apl, List.append_assoc]
      rw [List.take_append_of_le_length (by omega), List.drop_append_of_le_length (by omega), ih _ _ (by rw [List.length_drop]; omega)]
    | I u => simp only [in1] at hr; simp only [List.cons_append, apl, List.append_assoc]; rw [ih _ _ (by omega)]
    | D n =>
      simp only [in1] at hr
      simp only [List.cons_append, apl]
      rw [List.drop_append_of_le_length (by omega), ih _ _ (by rw [List.length_drop]; omega)]
theorem apl_length (a : List Q) : ∀ s : List UInt8, inL a = s.length → (apl s a).length = outL a := by
  induction a with
  | nil => intro s _; rfl
  | cons p r ih =>
    intro s h
    have hr : inL (p :: r) = in1 p + inL r := rfl
    cases p with
    | R n => simp only [in1] at hr; simp only [apl, outL, out1, List.length_append, List.length_take]; rw [ih _ (by rw [List.length_drop]; omega)]; omega
    | I t => simp only [in1] at hr; simp only [apl, outL, out1, List.length_append]; rw [ih _ (by omega)]
    | D n => simp only [in1] at hr; simp only [apl, outL, out1]; rw [ih _ (by rw [List.length_drop]; omega)]; omega
theorem len_change (a : List Q) : ∀ s : List UInt8, inL a = s.length → (apl s a).length + (gone s a).length = s.length + (insd a).length := by
  induction a with
  | nil => intro s h; have : s.length = 0 := h.symm; rw [List.eq_nil_of_length_eq_zero this]; rfl
  | cons p r ih =>
    intro s h
    have hr : inL (p :: r) = in1 p + inL r := rfl
    cases p with
    | R n => simp only [in1] at hr; have := ih (s.drop n) (by rw [List.length_drop]; omega); rw [List.length_drop] at this; simp only [apl, gone, insd, List.length_append, List.length_take]; omega
    | I t => simp only [in1] at hr; have := ih s (by omega); simp only [apl, gone, insd, List.length_append]; omega
    | D n => simp only [in1] at hr; have := ih (s.drop n) (by rw [List.length_drop]; omega); rw [List.length_drop] at this; simp only [apl, gone, insd, List.length_append, List.length_take]; omega
end Go.Proofs.YtlkkgjkbjjifmaaDoor.D
