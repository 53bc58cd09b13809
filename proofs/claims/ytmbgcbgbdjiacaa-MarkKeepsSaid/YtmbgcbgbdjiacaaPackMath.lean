/- Texts joined: DeltaMath ApplyMath ApplyTell ComposeMath ComposeInv ComposeStep ComposeCount DeltaRaw DeltaForm DeltaNz ApplyRaw ShiftMath ShiftMath2 ShiftSpan -/
/- DeltaMath -/
namespace Go.Proofs.Ytmbgcbgbdjiacaa.D

/-- A valid piece: keep n bytes, insert a text, remove n bytes. -/
inductive Q where
  | R (n : Nat)
  | I (t : List UInt8)
  | D (n : Nat)

def pR (n : Nat) : List Q → List Q
  | .R m :: r => .R (n + m) :: r
  | l => .R n :: l
def pI (t : List UInt8) : List Q → List Q
  | .I s :: r => .I (t ++ s) :: r
  | l => .I t :: l
def pD (n : Nat) : List Q → List Q
  | .I s :: .D m :: r => .I s :: .D (n + m) :: r
  | .I s :: r => .I s :: .D n :: r
  | .D m :: r => .D (n + m) :: r
  | l => .D n :: l
def push : Q → List Q → List Q
  | .R n, l => pR n l
  | .I t, l => pI t l
  | .D n, l => pD n l
/-- All pieces of a list, pushed onto another one, the last one first. -/
def ap (a x : List Q) : List Q := a.foldr push x
/-- The normal form. -/
def nf (a : List Q) : List Q := ap a []

/-- May q directly follow p in a normal form? -/
def ok : Q → Q → Bool
  | .R _, .R _ => false
  | .I _, .I _ => false
  | .D _, .D _ => false
  | .D _, .I _ => false
  | _, _ => true
def isN : List Q → Bool
  | p :: q :: r => ok p q && isN (q :: r)
  | _ => true
def pos : Q → Bool
  | .R n => decide (0 < n)
  | .I t => !t.isEmpty
  | .D n => decide (0 < n)
def allPos (l : List Q) : Bool := l.all pos
def in1 : Q → Nat
  | .R n => n
  | .I _ => 0
  | .D n => n
def out1 : Q → Nat
  | .R n => n
  | .I t => t.length
  | .D _ => 0
def inL : List Q → Nat
  | [] => 0
  | p :: r => in1 p + inL r
def outL : List Q → Nat
  | [] => 0
  | p :: r => out1 p + outL r
def neg (b : UInt8) : Int := -1 - (b.toNat : Int)
/-- The bytes of the result: the index of the byte that is kept, or -1 less the byte that is inserted. -/
def atoms (k : Nat) : List Q → List Int
  | [] => []
  | .R n :: r => ((List.range n).map fun i => ((k + i : Nat) : Int)) ++ atoms (k + n) r
  | .I t :: r => t.map neg ++ atoms k r
  | .D n :: r => atoms (k + n) r

/-! ### Pushing -/
theorem pR_pR (n m : Nat) (l : List Q) : pR n (pR m l) = pR (n + m) l := by
  cases l with
  | nil => rfl
  | cons p r => cases p <;> simp [pR, Nat.add_assoc]
theorem pI_pI (s t : List UInt8) (l : List Q) : pI s (pI t l) = pI (s ++ t) l := by
  cases l with
  | nil => rfl
  | cons p r => cases p <;> simp [pI]
theorem pD_pD (n m : Nat) (l : List Q) : pD n (pD m l) = pD (n + m) l := by
  match l with
  | [] => rfl
  | .R k :: r => rfl
  | .D k :: r => simp [pD, Nat.add_assoc]
  | [.I s] => rfl
  | .I s :: .D k :: r => simp [pD, Nat.add_assoc]
  | .I s :: .R k :: r => rfl
  | .I s :: .I u :: r => rfl
theorem pD_pI (n : Nat) (t : List UInt8) (l : List Q) : pD n (pI t l) = pI t (pD n l) := by
  match l with
  | [] => rfl
  | .R k :: r => rfl
  | .D k :: r => rfl
  | [.I s] => rfl
  | .I s :: .D k :: r => rfl
  | .I s :: .R k :: r => rfl
  | .I s :: .I u :: r => rfl
theorem ap_cons (p : Q) (a x : List Q) : ap (p :: a) x = push p (ap a x) := rfl
theorem ap_append (a b x : List Q) : ap (a ++ b) x = ap a (ap b x) := by unfold ap; rw [List.foldr_append]
theorem ap_push (p : Q) (l x : List Q) : ap (push p l) x = push p (ap l x) := by
  cases p with
  | R n =>
    cases l with
    | nil => rfl
    | cons q r =>
      cases q with
      | R m => show pR (n + m) (ap r x) = pR n (pR m (ap r x)); rw [pR_pR]
      | I t => rfl
      | D m => rfl
  | I t =>
    cases l with
    | nil => rfl
    | cons q r =>
      cases q with
      | I s => show pI (t ++ s) (ap r x) = pI t (pI s (ap r x)); rw [pI_pI]
      | R t => rfl
      | D m => rfl
  | D n =>
    match l with
    | [] => rfl
    | .R k :: r => rfl
    | .D k :: r => show pD (n + k) (ap r x) = pD n (pD k (ap r x)); rw [pD_pD]
    | [.I s] => show pI s (pD n x) = pD n (pI s x); rw [pD_pI]
    | .I s :: .D k :: r => show pI s (pD (n + k) (ap r x)) = pD n (pI s (pD k (ap r x))); rw [pD_pI, pD_pD]
    | .I s :: .R k :: r => show pI s (pD n (pR k (ap r x))) = pD n (pI s (pR k (ap r x))); rw [pD_pI]
    | .I s :: .I u :: r => show pI s (pD n (pI u (ap r x))) = pD n (pI s (pI u (ap r x))); rw [pD_pI n s]
theorem ap_nf (a x : List Q) : ap (nf a) x = ap a x := by
  induction a with
  | nil => rfl
  | cons p a ih => show ap (push p (nf a)) x = push p (ap a x); rw [ap_push, ih]
theorem nf_append (a b : List Q) : nf (a ++ b) = ap a (nf b) := ap_append a b []
theorem nf_nf (a : List Q) : nf (nf a) = nf a := ap_nf a []
theorem nf_left (a b : List Q) : nf (nf a ++ b) = nf (a ++ b) := by rw [nf_append, nf_append, ap_nf]
theorem nf_right (a b : List Q) : nf (a ++ nf b) = nf (a ++ b) := by rw [nf_append, nf_append, nf_nf]
theorem nf_cons (p : Q) (a : List Q) : nf (p :: a) = push p (nf a) := rfl

/-! ### The normal form is one -/
theorem isN_tail {p : Q} {r : List Q} (h : isN (p :: r) = true) : isN r = true := by
  cases r with
  | nil => rfl
  | cons q r => simp only [isN, Bool.and_eq_true] at h; exact h.2
theorem isN_cons {p q : Q} {r : List Q} (h : ok p q = true) (hr : isN (q :: r) = true) : isN (p :: q :: r) = true := by simp only [isN, Bool.and_eq_true]; exact ⟨h, hr⟩
theorem isN_ok {p q : Q} {r : List Q} (h : isN (p :: q :: r) = true) : ok p q = true := by simp only [isN, Bool.and_eq_true] at h; exact h.1
/-- Replacing the first piece by one of its kind. -/
theorem isN_head {p p' : Q} {r : List Q} (hk : ∀ q, ok p q = true → ok p' q = true) (h : isN (p :: r) = true) : isN (p' :: r) = true := by
  cases r with
  | nil => rfl
  | cons q r => exact isN_cons (hk q (isN_ok h)) (isN_tail h)
theorem isN_push (p : Q) (l : List Q) (h : isN l = true) : isN (push p l) = true := by
  cases p with
  | R n =>
    cases l with
    | nil => rfl
    | cons q r =>
      cases q with
      | R m => exact isN_head (fun q => by cases q <;> simp [ok]) h
      | I t => exact isN_cons rfl h
      | D m => exact isN_cons rfl h
  | I t =>
    cases l with
    | nil => rfl
    | cons q r =>
      cases q with
      | I s => exact isN_head (fun q => by cases q <;> simp [ok]) h
      | R m => exact isN_cons rfl h
      | D m => exact isN_cons rfl h
  | D n =>
    match l, h with
    | [], _ => rfl
    | .R k :: r, h => exact isN_cons rfl h
    | .D k :: r, h => exact isN_head (fun q => by cases q <;> simp [ok]) h
    | [.I s], _ => rfl
    | .I s :: .D k :: r, h => exact isN_cons rfl (isN_head (fun q => by cases q <;> simp [ok]) (isN_tail h))
    | .I s :: .R k :: r, h => exact isN_cons rfl (isN_cons rfl (isN_tail h))
    | .I s :: .I u :: r, h => have := isN_ok h; simp [ok] at this
theorem isN_nf (a : List Q) : isN (nf a) = true := by
  induction a with
  | nil => rfl
  | cons p a ih => exact isN_push p _ ih
theorem push_ok {p q : Q} {r : List Q} (h : ok p q = true) : push p (q :: r) = p :: q :: r := by
  cases p <;> cases q <;> simp [ok] at h <;> rfl
theorem nf_of_isN (a : List Q) (h : isN a = true) : nf a = a := by
  induction a with
  | nil => rfl
  | cons p a ih =>
    rw [nf_cons, ih (isN_tail h)]
    cases a with
    | nil => cases p <;> rfl
    | cons q r => exact push_ok (isN_ok h)
theorem isN_iff (a : List Q) : isN a = true ↔ nf a = a := ⟨nf_of_isN a, fun h => by rw [← h]; exact isN_nf a⟩
theorem push_length (p : Q) (l : List Q) : (push p l).length ≤ l.length + 1 := by
  cases p with
  | R n => cases l with
    | nil => simp [push, pR]
    | cons q r => cases q <;> simp [push, pR]
  | I t => cases l with
    | nil => simp [push, pI]
    | cons q r => cases q <;> simp [push, pI]
  | D n =>
    match l with
    | [] => simp [push, pD]
    | .R k :: r => simp [push, pD]
    | .D k :: r => simp [push, pD]
    | [.I s] => simp [push, pD]
    | .I s :: .D k :: r => simp [push, pD]
    | .I s :: .R k :: r => simp [push, pD]
    | .I s :: .I u :: r => simp [push, pD]
theorem nf_length (a : List Q) : (nf a).length ≤ a.length := by
  induction a with
  | nil => exact Nat.le_refl _
  | cons p a ih => have := push_length p (nf a); rw [nf_cons]; simp only [List.length_cons]; omega
theorem inL_push (p : Q) (l : List Q) : inL (push p l) = in1 p + inL l := by
  cases p with
  | R n => cases l with
    | nil => rfl
    | cons q r => cases q <;> simp [push, pR, inL, in1, Nat.add_assoc]
  | I t => cases l with
    | nil => rfl
    | cons q r => cases q <;> simp [push, pI, inL, in1]
  | D n =>
    match l with
    | [] => rfl
    | .R k :: r => rfl
    | .D k :: r => simp [push, pD, inL, in1, Nat.add_assoc]
    | [.I s] => simp [push, pD, inL, in1]
    | .I s :: .D k :: r => simp [push, pD, inL, in1, Nat.add_assoc]
    | .I s :: .R k :: r => simp [push, pD, inL, in1]
    | .I s :: .I u :: r => simp [push, pD, inL, in1]
theorem outL_push (p : Q) (l : List Q) : outL (push p l) = out1 p + outL l := by
  cases p with
  | R n => cases l with
    | nil => rfl
    | cons q r => cases q <;> simp [push, pR, outL, out1, Nat.add_assoc]
  | I t => cases l with
    | nil => rfl
    | cons q r => cases q <;> simp [push, pI, outL, out1, Nat.add_assoc]
  | D n =>
    match l with
    | [] => rfl
    | .R k :: r => rfl
    | .D k :: r => simp [push, pD, outL, out1]
    | [.I s] => simp [push, pD, outL, out1]
    | .I s :: .D k :: r => simp [push, pD, outL, out1]
    | .I s :: .R k :: r => simp [push, pD, outL, out1]
    | .I s :: .I u :: r => simp [push, pD, outL, out1]
theorem inL_nf (a : List Q) : inL (nf a) = inL a := by
  induction a with
  | nil => rfl
  | cons p a ih => rw [nf_cons, inL_push, ih]; rfl
theorem outL_nf (a : List Q) : outL (nf a) = outL a := by
  induction a with
  | nil => rfl
  | cons p a ih => rw [nf_cons, outL_push, ih]; rfl
theorem inL_append (a b : List Q) : inL (a ++ b) = inL a + inL b := by
  induction a with
  | nil => simp [inL]
  | cons p a ih => simp only [List.cons_append, inL, ih]; omega
theorem outL_append (a b : List Q) : outL (a ++ b) = outL a + outL b := by
  induction a with
  | nil => simp [outL]
  | cons p a ih => simp only [List.cons_append, outL, ih]; omega
theorem allPos_push (p : Q) (l : List Q) (hp : pos p = true) (hl : allPos l = true) : allPos (push p l) = true := by
  unfold allPos at *
  cases p with
  | R n => cases l with
    | nil => simpa [push, pR] using hp
    | cons q r => cases q <;> simp_all [push, pR, pos] <;> omega
  | I t => cases l with
    | nil => simpa [push, pI] using hp
    | cons q r => cases q <;> simp_all [push, pI, pos]
  | D n =>
    match l with
    | [] => simpa [push, pD] using hp
    | .R k :: r => simp_all [push, pD, pos]
    | .D k :: r => simp_all [push, pD, pos]; omega
    | [.I s] => simp_all [push, pD, pos]
    | .I s :: .D k :: r => simp_all [push, pD, pos]; omega
    | .I s :: .R k :: r => simp_all [push, pD, pos]
    | .I s :: .I u :: r => simp_all [push, pD, pos]
theorem allPos_nf (a : List Q) (h : allPos a = true) : allPos (nf a) = true := by
  induction a with
  | nil => rfl
  | cons p a ih =>
    unfold allPos at h
    simp only [List.all_cons, Bool.and_eq_true] at h
    exact allPos_push p _ h.1 (ih h.2)

/-! ### What a delta keeps and inserts -/
theorem atoms_push (k : Nat) (p : Q) (l : List Q) : atoms k (push p l) = atoms k (p :: l) := by
  cases p with
  | R n => cases l with
    | nil => rfl
    | cons q r =>
      cases q with
      | R m =>
        show atoms k (.R (n + m) :: r) = _
        simp only [atoms]
        rw [List.range_add, List.map_append, List.map_map, List.append_assoc, Nat.add_assoc]
        congr 2
        apply List.map_congr_left
        intro i _
        show ((k + (n + i) : Nat) : Int) = ((k + n + i : Nat) : Int)
        rw [Nat.add_assoc]
      | I t => rfl
      | D m => rfl
  | I t => cases l with
    | nil => rfl
    | cons q r =>
      cases q with
      | I s => simp [push, pI, atoms]
      | R m => rfl
      | D m => rfl
  | D n =>
    match l with
    | [] => rfl
    | .R j :: r => rfl
    | .D j :: r => simp [push, pD, atoms, Nat.add_assoc]
    | [.I s] => rfl
    | .I s :: .D j :: r => simp [push, pD, atoms, Nat.add_assoc]
    | .I s :: .R j :: r => rfl
    | .I s :: .I u :: r => rfl
theorem atoms_cons_congr (k : Nat) (p : Q) {a b : List Q} (h : ∀ k, atoms k a = atoms k b) : atoms k (p :: a) = atoms k (p :: b) := by
  cases p <;> simp only [atoms, h]
theorem atoms_nf (a : List Q) : ∀ k, atoms k (nf a) = atoms k a := by
  induction a with
  | nil => intro k; rfl
  | cons p a ih => intro k; rw [nf_cons, atoms_push]; exact atoms_cons_congr k p ih
theorem atoms_append (a b : List Q) : ∀ k, atoms k (a ++ b) = atoms k a ++ atoms (k + inL a) b := by
  induction a with
  | nil => intro k; rfl
  | cons p a ih =>
    intro k
    cases p with
    | R n => simp only [List.cons_append, atoms, ih, inL, in1, List.append_assoc, Nat.add_assoc]
    | I t => simp only [List.cons_append, atoms, ih, inL, in1, List.append_assoc, Nat.zero_add]
    | D n => simp only [List.cons_append, atoms, ih, inL, in1, Nat.add_assoc]
theorem atoms_length (a : List Q) : ∀ k, (atoms k a).length = outL a := by
  induction a with
  | nil => intro k; rfl
  | cons p a ih => intro k; cases p <;> simp [atoms, ih, outL, out1]
theorem neg_lt (b : UInt8) : neg b < 0 := by unfold neg; omega
theorem neg_inj {a b : UInt8} (h : neg a = neg b) : a = b := by unfold neg at h; exact UInt8.toNat_inj.1 (by omega)

/-- The first atom of a normal form that does not begin with an insertion is a byte that is kept, at least at the start; directly at the start exactly if it begins with a piece that keeps. -/
def first : List Q → Option Nat
  | .R _ :: _ => some 0
  | .D n :: .R _ :: _ => some n
  | _ => none
theorem head_atoms (k : Nat) (a : List Q) (hn : isN a = true) (hp : allPos a = true) (hi : ∀ t r, a ≠ .I t :: r) : (atoms k a).head? = (first a).map fun i => ((k + i : Nat) : Int) := by
  unfold allPos at hp
  match a, hn, hp, hi with
  | [], _, _, _ => rfl
  | .I t :: r, _, _, hi => exact absurd rfl (hi t r)
  | .R n :: r, _, hp, _ =>
    simp only [List.all_cons, Bool.and_eq_true, pos, decide_eq_true_eq] at hp
    obtain ⟨m, rfl⟩ : ∃ m, n = m + 1 := ⟨n - 1, by omega⟩
    simp [atoms, first, List.range_succ_eq_map]
  | [.D n], _, _, _ => rfl
  | .D n :: .R m :: r, _, hp, _ =>
    simp only [List.all_cons, Bool.and_eq_true, pos, decide_eq_true_eq] at hp
    obtain ⟨j, rfl⟩ : ∃ j, m = j + 1 := ⟨m - 1, by omega⟩
    simp [atoms, first, List.range_succ_eq_map]
  | .D n :: .I t :: r, hn, _, _ => have := isN_ok hn; simp [ok] at this
  | .D n :: .D m :: r, hn, _, _ => have := isN_ok hn; simp [ok] at this
/-- The negative atoms at the beginning: what a first insertion inserts. -/
theorem split_neg {s t : List UInt8} {x y : List Int} (h : s.map neg ++ x = t.map neg ++ y) (hx : ∀ v, x.head? = some v → 0 ≤ v) (hy : ∀ v, y.head? = some v → 0 ≤ v) : s = t ∧ x = y := by
  induction s generalizing t with
  | nil =>
    cases t with
    | nil => exact ⟨rfl, h⟩
    | cons b t =>
      simp only [List.map_nil, List.nil_append, List.map_cons, List.cons_append] at h
      have := hx (neg b) (by rw [h]; rfl)
      have := neg_lt b
      omega
  | cons a s ih =>
    cases t with
    | nil =>
      simp only [List.map_nil, List.nil_append, List.map_cons, List.cons_append] at h
      have := hy (neg a) (by rw [← h]; rfl)
      have := neg_lt a
      omega
    | cons b t =>
      simp only [List.map_cons, List.cons_append, List.cons.injEq] at h
      obtain ⟨h1, h2⟩ := ih h.2
      exact ⟨by rw [neg_inj h.1, h1], h2⟩
theorem notI_of_I {t : List UInt8} {r : List Q} (hn : isN (.I t :: r) = true) : ∀ s u, r ≠ .I s :: u := fun s u e => by
  subst e; have := isN_ok hn; simp [ok] at this
theorem head_nonneg (k : Nat) (a : List Q) (hn : isN a = true) (hp : allPos a = true) (hi : ∀ t r, a ≠ .I t :: r) : ∀ v, (atoms k a).head? = some v → 0 ≤ v := fun v hv => by
  rw [head_atoms k a hn hp hi] at hv
  cases hf : first a with
  | none => rw [hf] at hv; cases hv
  | some i => rw [hf] at hv; cases hv; exact Int.natCast_nonneg _
theorem inL_pos_of_first {a : List Q} {i : Nat} (h : first a = some i) : ∃ n r, (a = .R n :: r ∧ i = 0) ∨ ∃ m, a = .D m :: .R n :: r ∧ i = m := by
  match a, h with
  | .R n :: r, h => simp only [first, Option.some.injEq] at h; exact ⟨n, r, .inl ⟨rfl, h.symm⟩⟩
  | .D m :: .R n :: r, h => simp only [first, Option.some.injEq] at h; exact ⟨n, r, .inr ⟨m, rfl, h.symm⟩⟩
/-- A run of indices, and what goes on otherwise. -/
theorem run_eq {k n m : Nat} {x y : List Int} (h : ((List.range n).map fun i => ((k + i : Nat) : Int)) ++ x = ((List.range m).map fun i => ((k + i : Nat) : Int)) ++ y) (hx : x.head? ≠ some ((k + n : Nat) : Int)) (hy : y.head? ≠ some ((k + m : Nat) : Int)) : n = m ∧ x = y := by
  have key : ∀ (n m : Nat) (x y : List Int), ((List.range n).map fun i => ((k + i : Nat) : Int)) ++ x = ((List.range m).map fun i => ((k + i : Nat) : Int)) ++ y → x.head? ≠ some ((k + n : Nat) : Int) → ¬ n < m := by
    intro n m x y h hx hlt
    have h1 : (((List.range n).map fun i => ((k + i : Nat) : Int)) ++ x)[n]? = (((List.range m).map fun i => ((k + i : Nat) : Int)) ++ y)[n]? := by rw [h]
    rw [List.getElem?_append_right (by simp), List.getElem?_append_left (by simpa using hlt)] at h1
    simp only [List.length_map, List.length_range, Nat.sub_self, List.getElem?_map, List.getElem?_range hlt, Option.map_some] at h1
    rw [List.head?_eq_getElem?] at hx
    exact hx h1
  have h1 := key n m x y h hx
  have h2 := key m n y x h.symm hy
  have e : n = m := by omega
  subst e
  exact ⟨rfl, List.append_cancel_left h⟩
theorem not_run (k n : Nat) (r : List Q) (hn : isN (.R n :: r) = true) (hp : allPos r = true) : (atoms (k + n) r).head? ≠ some ((k + n : Nat) : Int) := by
  match r, hn, hp with
  | [], _, _ => simp [atoms]
  | .R m :: r, hn, _ => have := isN_ok hn; simp [ok] at this
  | .I [] :: r, _, hp => simp [allPos, pos] at hp
  | .I (b :: t) :: r, _, _ =>
    simp only [atoms, List.map_cons, List.cons_append, List.head?_cons, ne_eq, Option.some.injEq]
    have := neg_lt b; omega
  | .D m :: r, hn, hp =>
    have hh := head_atoms (k + n) (.D m :: r) (isN_tail hn) hp (fun _ _ e => by cases e)
    rw [hh]
    have hm : 0 < m := by simp [allPos, pos] at hp; exact hp.1
    match r with
    | [] => simp [first]
    | .R j :: r => simp only [first, Option.map_some, ne_eq, Option.some.injEq]; omega
    | .I t :: r => simp [first]
    | .D j :: r => simp [first]
/-- Lengths and atoms determine the normal form. -/
theorem nf_unique : ∀ (a b : List Q) (k : Nat), isN a = true → isN b = true → allPos a = true → allPos b = true → inL a = inL b → atoms k a = atoms k b → a = b := by
  intro a
  induction a with
  | nil =>
    intro b k _ hb _ pb hin hat
    match b, hb, pb, hin, hat with
    | [], _, _, _, _ => rfl
    | .R n :: r, _, pb, hin, _ => simp [allPos, pos] at pb; simp [inL, in1] at hin; omega
    | .D n :: r, _, pb, hin, _ => simp [allPos, pos] at pb; simp [inL, in1] at hin; omega
    | .I [] :: r, _, pb, _, _ => simp [allPos, pos] at pb
    | .I (c :: t) :: r, _, _, _, hat => simp [atoms] at hat
  | cons p a ih =>
    intro b k ha hb pa pb hin hat
    have pa' : allPos a = true := by unfold allPos at *; simp only [List.all_cons, Bool.and_eq_true] at pa; exact pa.2
    have pp : pos p = true := by unfold allPos at pa; simp only [List.all_cons, Bool.and_eq_true] at pa; exact pa.1
    cases b with
    | nil =>
      exfalso
      match p, pp, hin, hat with
      | .R n, pp, hin, _ => simp [pos] at pp; simp [inL, in1] at hin; omega
      | .D n, pp, hin, _ => simp [pos] at pp; simp [inL, in1] at hin; omega
      | .I [], pp, _, _ => simp [pos] at pp
      | .I (c :: t), _, _, hat => simp [atoms] at hat
    | cons q b =>
      have pb' : allPos b = true := by unfold allPos at *; simp only [List.all_cons, Bool.and_eq_true] at pb; exact pb.2
      have pq : pos q = true := by unfold allPos at pb; simp only [List.all_cons, Bool.and_eq_true] at pb; exact pb.1
      have headI : ∀ (k : Nat) (t : List UInt8) (r : List Q) (c : List Q), pos (.I t) = true → isN c = true → allPos c = true → (∀ s u, c ≠ .I s :: u) → atoms k (.I t :: r) = atoms k c → False := by
        intro k t r c ht hc pc hi h
        match t, ht with
        | [], ht => simp [pos] at ht
        | v :: t, _ =>
          have := head_nonneg k c hc pc hi (neg v) (by rw [← h]; rfl)
          have := neg_lt v
          omega
      cases p with
      | I s =>
        cases q with
        | I t =>
          have h := hat
          simp only [atoms] at h
          obtain ⟨e1, e2⟩ := split_neg h (head_nonneg k a (isN_tail ha) pa' (notI_of_I ha)) (head_nonneg k b (isN_tail hb) pb' (notI_of_I hb))
          subst e1
          rw [ih b k (isN_tail ha) (isN_tail hb) pa' pb' (by simpa [inL, in1] using hin) e2]
        | R m => exact (headI k s a _ pp hb pb (fun _ _ e => by cases e) hat).elim
        | D m => exact (headI k s a _ pp hb pb (fun _ _ e => by cases e) hat).elim
      | R n =>
        cases q with
        | I t => exact (headI k t b _ pq ha pa (fun _ _ e => by cases e) hat.symm).elim
        | R m =>
          have h := hat
          simp only [atoms] at h
          obtain ⟨e1, e2⟩ := run_eq h (not_run k n a ha pa') (not_run k m b hb pb')
          subst e1
          rw [ih b (k + n) (isN_tail ha) (isN_tail hb) pa' pb' (by simpa [inL, in1] using hin) e2]
        | D m =>
          exfalso
          have h1 := head_atoms k _ ha pa (fun _ _ e => by cases e)
          have h2 := head_atoms k _ hb pb (fun _ _ e => by cases e)
          rw [hat, h2] at h1
          simp [pos] at pq
          match b, h1 with
          | [], h1 => simp [first] at h1
          | .R j :: r, h1 => simp only [first, Option.map_some, Option.some.injEq] at h1; omega
          | .I t :: r, h1 => simp [first] at h1
          | .D j :: r, h1 => simp [first] at h1
      | D n =>
        cases q with
        | I t => exact (headI k t b _ pq ha pa (fun _ _ e => by cases e) hat.symm).elim
        | R m =>
          exfalso
          have h1 := head_atoms k _ ha pa (fun _ _ e => by cases e)
          have h2 := head_atoms k _ hb pb (fun _ _ e => by cases e)
          rw [← hat, h1] at h2
          simp [pos] at pp
          match a, h2 with
          | [], h2 => simp [first] at h2
          | .R j :: r, h2 => simp only [first, Option.map_some, Option.some.injEq] at h2; omega
          | .I t :: r, h2 => simp [first] at h2
          | .D j :: r, h2 => simp [first] at h2
        | D m =>
          have h1 := head_atoms k _ ha pa (fun _ _ e => by cases e)
          have h2 := head_atoms k _ hb pb (fun _ _ e => by cases e)
          rw [hat, h2] at h1
          match a, b, ha, hb, pa', pb', h1, hin, hat, ih with
          | [], [], _, _, _, _, _, hin, _, _ => simp [inL, in1] at hin; rw [hin]
          | .D _ :: _, _, ha, _, _, _, _, _, _, _ => have := isN_ok ha; simp [ok] at this
          | .I _ :: _, _, ha, _, _, _, _, _, _, _ => have := isN_ok ha; simp [ok] at this
          | _, .D _ :: _, _, hb, _, _, _, _, _, _ => have := isN_ok hb; simp [ok] at this
          | _, .I _ :: _, _, hb, _, _, _, _, _, _ => have := isN_ok hb; simp [ok] at this
          | [], .R _ :: _, _, _, _, _, h1, _, _, _ => simp [first] at h1
          | .R _ :: _, [], _, _, _, _, h1, _, _, _ => simp [first] at h1
          | .R x :: a, .R y :: b, ha, hb, pa', pb', h1, hin, hat, ih =>
            simp only [first, Option.map_some, Option.some.injEq] at h1
            have e : n = m := by omega
            subst e
            have h := hat
            rw [show atoms k (.D n :: .R x :: a) = atoms (k + n) (.R x :: a) from rfl, show atoms k (.D n :: .R y :: b) = atoms (k + n) (.R y :: b) from rfl] at h
            rw [ih (.R y :: b) (k + n) (isN_tail ha) (isN_tail hb) pa' pb' (by simpa [inL, in1] using hin) h]
/-- Two lists of valid pieces have the same normal form exactly if they have the same input length and the same atoms. -/
theorem nf_iff (a b : List Q) (pa : allPos a = true) (pb : allPos b = true) : nf a = nf b ↔ inL a = inL b ∧ atoms 0 a = atoms 0 b := by
  constructor
  · intro h
    exact ⟨by rw [← inL_nf a, ← inL_nf b, h], by rw [← atoms_nf a 0, ← atoms_nf b 0, h]⟩
  · intro ⟨h1, h2⟩
    exact nf_unique (nf a) (nf b) 0 (isN_nf a) (isN_nf b) (allPos_nf a pa) (allPos_nf b pb) (by rw [inL_nf, inL_nf, h1]) (by rw [atoms_nf, atoms_nf, h2])
end Go.Proofs.Ytmbgcbgbdjiacaa.D
/- ApplyMath -/
namespace Go.Proofs.Ytmbgcbgbdjiacaa.D

/-- The result for a string. -/
def apl : List UInt8 → List Q → List UInt8
  | _, [] => []
  | s, .R n :: r => s.take n ++ apl (s.drop n) r
  | s, .I t :: r => t ++ apl s r
  | s, .D n :: r => apl (s.drop n) r
/-- What is removed. -/
def gone : List UInt8 → List Q → List UInt8
  | _, [] => []
  | s, .R n :: r => gone (s.drop n) r
  | s, .I _ :: r => gone s r
  | s, .D n :: r => s.take n ++ gone (s.drop n) r
/-- What is inserted. -/
def insd : List Q → List UInt8
  | [] => []
  | .I t :: r => t ++ insd r
  | .R _ :: r => insd r
  | .D _ :: r => insd r
/-- The inverse, piece by piece. -/
def inv : List UInt8 → List Q → List Q
  | _, [] => []
  | s, .R n :: r => .R n :: inv (s.drop n) r
  | s, .I t :: r => .D t.length :: inv s r
  | s, .D n :: r => .I (s.take n) :: inv (s.drop n) r
theorem apl_push (s : List UInt8) (p : Q) (l : List Q) : apl s (push p l) = apl s (p :: l) := by
  cases p with
  | R n =>
    match l with
    | [] => rfl
    | .R m :: r => simp only [push, pR, apl, List.take_add, List.append_assoc, List.drop_drop]
    | .I t :: r => rfl
    | .D m :: r => rfl
  | I t =>
    match l with
    | [] => rfl
    | .R m :: r => rfl
    | .I u :: r => simp only [push, pI, apl, List.append_assoc]
    | .D m :: r => rfl
  | D n =>
    match l with
    | [] => rfl
    | .R m :: r => rfl
    | [.I t] => simp only [push, pD, apl]
    | .I t :: .R m :: r => simp only [push, pD, apl]
    | .I t :: .I u :: r => simp only [push, pD, apl]
    | .I t :: .D m :: r => simp only [push, pD, apl, List.drop_drop]
    | .D m :: r => simp only [push, pD, apl, List.drop_drop]
theorem gone_push (s : List UInt8) (p : Q) (l : List Q) : gone s (push p l) = gone s (p :: l) := by
  cases p with
  | R n =>
    match l with
    | [] => rfl
    | .R m :: r => simp only [push, pR, gone, List.drop_drop]
    | .I t :: r => rfl
    | .D m :: r => rfl
  | I t =>
    match l with
    | [] => rfl
    | .R m :: r => rfl
    | .I u :: r => simp only [push, pI, gone]
    | .D m :: r => rfl
  | D n =>
    match l with
    | [] => rfl
    | .R m :: r => rfl
    | [.I t] => simp only [push, pD, gone]
    | .I t :: .R m :: r => simp only [push, pD, gone]
    | .I t :: .I u :: r => simp only [push, pD, gone]
    | .I t :: .D m :: r => simp only [push, pD, gone, List.take_add, List.append_assoc, List.drop_drop]
    | .D m :: r => simp only [push, pD, gone, List.take_add, List.append_assoc, List.drop_drop]
theorem insd_push (p : Q) (l : List Q) : insd (push p l) = insd (p :: l) := by
  cases p with
  | R n =>
    match l with
    | [] => rfl
    | .R m :: r => rfl
    | .I t :: r => rfl
    | .D m :: r => rfl
  | I t =>
    match l with
    | [] => rfl
    | .R m :: r => rfl
    | .I u :: r => simp only [push, pI, insd, List.append_assoc]
    | .D m :: r => rfl
  | D n =>
    match l with
    | [] => rfl
    | .R m :: r => rfl
    | [.I t] => rfl
    | .I t :: .R m :: r => rfl
    | .I t :: .I u :: r => rfl
    | .I t :: .D m :: r => rfl
    | .D m :: r => rfl
theorem nf_R (n : Nat) (a : List Q) : nf (.R n :: a) = pR n (nf a) := rfl
theorem nf_I (t : List UInt8) (a : List Q) : nf (.I t :: a) = pI t (nf a) := rfl
theorem nf_D (n : Nat) (a : List Q) : nf (.D n :: a) = pD n (nf a) := rfl
theorem push_R (n : Nat) (l : List Q) : push (.R n) l = pR n l := rfl
theorem push_I (t : List UInt8) (l : List Q) : push (.I t) l = pI t l := rfl
theorem push_D (n : Nat) (l : List Q) : push (.D n) l = pD n l := rfl
/-- The inverse of a normal form is that of the pieces, up to the normal form. -/
theorem inv_push (s : List UInt8) (p : Q) (l : List Q) : nf (inv s (push p l)) = nf (inv s (p :: l)) := by
  cases p with
  | R n =>
    match l with
    | [] => rfl
    | .R m :: r => rw [push_R, pR, inv, inv, inv, nf_R, nf_R, nf_R, List.drop_drop, pR_pR]
    | .I t :: r => rfl
    | .D m :: r => rfl
  | I t =>
    match l with
    | [] => rfl
    | .R m :: r => rfl
    | .I u :: r => rw [push_I, pI, inv, inv, inv, nf_D, nf_D, nf_D, List.length_append, pD_pD]
    | .D m :: r => rfl
  | D n =>
    match l with
    | [] => rfl
    | .R m :: r => rfl
    | [.I t] => exact pD_pI t.length (s.take n) []
    | .I t :: .R m :: r => exact pD_pI _ _ _
    | .I t :: .I u :: r => exact pD_pI _ _ _
    | .I t :: .D m :: r =>
      show pD t.length (pI (s.take (n + m)) (nf (inv (s.drop (n + m)) r))) = pI (s.take n) (pD t.length (pI ((s.drop n).take m) (nf (inv ((s.drop n).drop m) r))))
      rw [List.take_add, ← pI_pI, pD_pI, List.drop_drop]
    | .D m :: r =>
      show pI (s.take (n + m)) (nf (inv (s.drop (n + m)) r)) = pI (s.take n) (pI ((s.drop n).take m) (nf (inv ((s.drop n).drop m) r)))
      rw [List.take_add, ← pI_pI, List.drop_drop]
theorem apl_nf (a : List Q) : ∀ s, apl s (nf a) = apl s a := by
  induction a with
  | nil => intro s; rfl
  | cons p r ih =>
    intro s
    rw [nf_cons, apl_push]
    cases p <;> simp only [apl, ih]
theorem gone_nf (a : List Q) : ∀ s, gone s (nf a) = gone s a := by
  induction a with
  | nil => intro s; rfl
  | cons p r ih =>
    intro s
    rw [nf_cons, gone_push]
    cases p <;> simp only [gone, ih]
theorem insd_nf (a : List Q) : insd (nf a) = insd a := by
  induction a with
  | nil => rfl
  | cons p r ih =>
    rw [nf_cons, insd_push]
    cases p <;> simp only [insd, ih]
theorem inv_nf (a : List Q) : ∀ s : List UInt8, inL a ≤ s.length → nf (inv s (nf a)) = nf (inv s a) := by
  induction a with
  | nil => intro s _; rfl
  | cons p r ih =>
    intro s h
    have hr : inL (p :: r) = in1 p + inL r := rfl
    rw [nf_cons, inv_push s p (nf r)]
    cases p with
    | R n => simp only [in1] at hr; simp only [inv, nf_cons]; rw [ih _ (by rw [List.length_drop]; omega)]
    | I t => simp only [in1] at hr; simp only [inv, nf_cons]; rw [ih _ (by omega)]
    | D n => simp only [in1] at hr; simp only [inv, nf_cons]; rw [ih _ (by rw [List.length_drop]; omega)]
theorem apl_inv (a : List Q) : ∀ s : List UInt8, inL a = s.length → apl (apl s a) (inv s a) = s := by
  induction a with
  | nil => intro s h; have : s.length = 0 := h.symm; rw [List.eq_nil_of_length_eq_zero this]; rfl
  | cons p r ih =>
    intro s h
    have hr : inL (p :: r) = in1 p + inL r := rfl
    cases p with
    | R n =>
      simp only [in1] at hr
      have hn : (s.take n).length = n := by rw [List.length_take]; omega
      simp only [apl, inv]
      rw [List.take_left' hn, List.drop_left' hn, ih _ (by rw [List.length_drop]; omega), List.take_append_drop]
    | I t =>
      simp only [in1] at hr
      simp only [apl, inv]
      rw [List.drop_left' rfl, ih _ (by omega)]
    | D n =>
      simp only [in1] at hr
      simp only [apl, inv]
      rw [ih _ (by rw [List.length_drop]; omega), List.take_append_drop]
theorem inv_inv (a : List Q) : ∀ s : List UInt8, inL a = s.length → inv (apl s a) (inv s a) = a := by
  induction a with
  | nil => intro s h; rfl
  | cons p r ih =>
    intro s h
    have hr : inL (p :: r) = in1 p + inL r := rfl
    cases p with
    | R n =>
      simp only [in1] at hr
      have hn : (s.take n).length = n := by rw [List.length_take]; omega
      simp only [apl, inv]
      rw [List.drop_left' hn, ih _ (by rw [List.length_drop]; omega)]
    | I t =>
      simp only [in1] at hr
      simp only [apl, inv]
      rw [List.take_left' rfl, List.drop_left' rfl, ih _ (by omega)]
    | D n =>
      simp only [in1] at hr
      have hn : (s.take n).length = n := by rw [List.length_take]; omega
      simp only [apl, inv]
      rw [ih _ (by rw [List.length_drop]; omega), hn]
theorem gone_inv (a : List Q) : ∀ s : List UInt8, inL a = s.length → gone (apl s a) (inv s a) = insd a := by
  induction a with
  | nil => intro s h; rfl
  | cons p r ih =>
    intro s h
    have hr : inL (p :: r) = in1 p + inL r := rfl
    cases p with
    | R n =>
      simp only [in1] at hr
      have hn : (s.take n).length = n := by rw [List.length_take]; omega
      simp only [apl, inv, gone, insd]
      rw [List.drop_left' hn, ih _ (by rw [List.length_drop]; omega)]
    | I t =>
      simp only [in1] at hr
      simp only [apl, inv, gone, insd]
      rw [List.take_left' rfl, List.drop_left' rfl, ih _ (by omega)]
    | D n =>
      simp only [in1] at hr
      simp only [apl, inv, gone, insd]
      rw [ih _ (by rw [List.length_drop]; omega)]
theorem insd_inv (a : List Q) : ∀ s : List UInt8, insd (inv s a) = gone s a := by
  induction a with
  | nil => intro s; rfl
  | cons p r ih => intro s; cases p <;> simp only [inv, insd, gone, ih]
theorem inL_inv (a : List Q) : ∀ s : List UInt8, inL a = s.length → inL (inv s a) = outL a := by
  induction a with
  | nil => intro s _; rfl
  | cons p r ih =>
    intro s h
    have hr : inL (p :: r) = in1 p + inL r := rfl
    cases p with
    | R n => simp only [in1] at hr; simp only [inv, inL, outL, in1, out1]; rw [ih _ (by rw [List.length_drop]; omega)]
    | I t => simp only [in1] at hr; simp only [inv, inL, outL, in1, out1]; rw [ih _ (by omega)]
    | D n => simp only [in1] at hr; simp only [inv, inL, outL, in1, out1]; rw [ih _ (by rw [List.length_drop]; omega)]
theorem outL_inv (a : List Q) : ∀ s : List UInt8, inL a = s.length → outL (inv s a) = inL a := by
  induction a with
  | nil => intro s _; rfl
  | cons p r ih =>
    intro s h
    have hr : inL (p :: r) = in1 p + inL r := rfl
    cases p with
    | R n => simp only [in1] at hr; simp only [inv, inL, outL, in1, out1]; rw [ih _ (by rw [List.length_drop]; omega)]
    | I t => simp only [in1] at hr; simp only [inv, inL, outL, in1, out1]; rw [ih _ (by omega)]
    | D n => simp only [in1] at hr; simp only [inv, inL, outL, in1, out1]; rw [ih _ (by rw [List.length_drop]; omega), List.length_take]; omega
theorem allPos_inv (a : List Q) : ∀ s : List UInt8, inL a = s.length → allPos a = true → allPos (inv s a) = true := by
  induction a with
  | nil => intro s _ _; rfl
  | cons p r ih =>
    intro s h hp
    have hr : inL (p :: r) = in1 p + inL r := rfl
    have hp1 : pos p = true ∧ allPos r = true := by unfold allPos at hp ⊢; rw [List.all_cons, Bool.and_eq_true] at hp; exact hp
    have mk : ∀ (q : Q) (l : List Q), pos q = true → allPos l = true → allPos (q :: l) = true := fun q l h1 h2 => by unfold allPos at h2 ⊢; rw [List.all_cons, h1, h2]; rfl
    cases p with
    | R n => simp only [in1] at hr; exact mk _ _ hp1.1 (ih _ (by rw [List.length_drop]; omega) hp1.2)
    | I t =>
      simp only [in1] at hr
      refine mk _ _ ?_ (ih _ (by omega) hp1.2)
      have := hp1.1
      cases t with
      | nil => simp [pos] at this
      | cons c u => simp [pos]
    | D n =>
      simp only [in1] at hr
      refine mk _ _ ?_ (ih _ (by rw [List.length_drop]; omega) hp1.2)
      have h1 : 0 < n := by simpa [pos] using hp1.1
      cases s with
      | nil => simp at h; omega
      | cons c u => cases n with
        | zero => omega
        | succ n => simp [pos]
theorem apl_append (a b : List Q) : ∀ s t : List UInt8, inL a = s.length → apl (s ++ t) (a ++ b) = apl s a ++ apl t b := by
  induction a with
  | nil => intro s t h; have : s.length = 0 := h.symm; rw [List.eq_nil_of_length_eq_zero this]; rfl
  | cons p r ih =>
    intro s t h
    have hr : inL (p :: r) = in1 p + inL r := rfl
    cases p with
    | R n =>
      simp only [in1] at hr
      simp only [List.cons_append, apl, List.append_assoc]
      rw [List.take_append_of_le_length (by omega), List.drop_append_of_le_length (by omega), ih _ _ (by rw [List.length_drop]; omega)]
    | I u => simp only [in1] at hr; simp only [List.cons_append, apl, List.append_assoc]; rw [ih _ _ (by omega)]
    | D n =>
      simp only [in1] at hr
      simp only [List.cons_append, apl]
      rw [List.drop_append_of_le_length (by omega), ih _ _ (by rw [List.length_drop]; omega)]
theorem apl_length (a : List Q) : ∀ s : List UInt8, inL a = s.length → (apl s a).length = outL a := by
  induction a with
  | nil => intro s _; rfl
  | cons p r ih =>
    intro s h
    have hr : inL (p :: r) = in1 p + inL r := rfl
    cases p with
    | R n => simp only [in1] at hr; simp only [apl, outL, out1, List.length_append, List.length_take]; rw [ih _ (by rw [List.length_drop]; omega)]; omega
    | I t => simp only [in1] at hr; simp only [apl, outL, out1, List.length_append]; rw [ih _ (by omega)]
    | D n => simp only [in1] at hr; simp only [apl, outL, out1]; rw [ih _ (by rw [List.length_drop]; omega)]; omega
theorem len_change (a : List Q) : ∀ s : List UInt8, inL a = s.length → (apl s a).length + (gone s a).length = s.length + (insd a).length := by
  induction a with
  | nil => intro s h; have : s.length = 0 := h.symm; rw [List.eq_nil_of_length_eq_zero this]; rfl
  | cons p r ih =>
    intro s h
    have hr : inL (p :: r) = in1 p + inL r := rfl
    cases p with
    | R n => simp only [in1] at hr; have := ih (s.drop n) (by rw [List.length_drop]; omega); rw [List.length_drop] at this; simp only [apl, gone, insd, List.length_append, List.length_take]; omega
    | I t => simp only [in1] at hr; have := ih s (by omega); simp only [apl, gone, insd, List.length_append]; omega
    | D n => simp only [in1] at hr; have := ih (s.drop n) (by rw [List.length_drop]; omega); rw [List.length_drop] at this; simp only [apl, gone, insd, List.length_append, List.length_take]; omega
end Go.Proofs.Ytmbgcbgbdjiacaa.D
/- ApplyTell -/
namespace Go.Proofs.Ytmbgcbgbdjiacaa.D

/-- The byte that an entry of 'atoms' stands for. -/
def vb (S : List UInt8) (i : Int) : UInt8 := if i < 0 then UInt8.ofNat (-1 - i).toNat else S.getD i.toNat 0
theorem vb_neg (S : List UInt8) (c : UInt8) : vb S (neg c) = c := by
  unfold vb neg
  rw [if_pos (by omega)]
  have : (-1 - (-1 - (c.toNat : Int))).toNat = c.toNat := by omega
  rw [this, UInt8.ofNat_toNat]
theorem vb_at (S : List UInt8) (k : Nat) : vb S (k : Int) = S.getD k 0 := by
  unfold vb
  rw [if_neg (by omega), Int.toNat_natCast]
theorem map_vb_run (S : List UInt8) (k n : Nat) (h : k + n ≤ S.length) : ((List.range n).map fun i => ((k + i : Nat) : Int)).map (vb S) = (S.drop k).take n := by
  rw [List.map_map]
  refine List.ext_getElem (by simp; omega) fun i h1 h2 => ?_
  simp only [List.length_map, List.length_range] at h1
  rw [List.getElem_map, List.getElem_range, List.getElem_take, List.getElem_drop]
  show vb S ((k + i : Nat) : Int) = _
  rw [vb_at, List.getD_eq_getElem?_getD, List.getElem?_eq_getElem (by omega)]
  rfl
theorem apl_atoms (S : List UInt8) (a : List Q) : ∀ k, k + inL a ≤ S.length → apl (S.drop k) a = (atoms k a).map (vb S) := by
  induction a with
  | nil => intro k _; rfl
  | cons p r ih =>
    intro k h
    have hr : inL (p :: r) = in1 p + inL r := rfl
    cases p with
    | R n =>
      simp only [in1] at hr
      simp only [apl, atoms, List.map_append]
      rw [map_vb_run S k n (by omega), List.drop_drop, ih _ (by omega)]
    | I t =>
      simp only [in1] at hr
      simp only [apl, atoms, List.map_append, List.map_map]
      rw [ih _ (by omega)]
      have : t.map (vb S ∘ neg) = t := by
        rw [show (vb S ∘ neg) = id from funext fun c => vb_neg S c, List.map_id]
      rw [this]
    | D n =>
      simp only [in1] at hr
      simp only [apl, atoms]
      rw [List.drop_drop, ih _ (by omega)]
theorem atoms_good (a : List Q) : ∀ k, ∀ x ∈ atoms k a, (∃ c ∈ insd a, x = neg c) ∨ ∃ i : Nat, x = (i : Int) ∧ k ≤ i ∧ i < k + inL a := by
  induction a with
  | nil => intro k x hx; cases hx
  | cons p r ih =>
    intro k x hx
    have hr : inL (p :: r) = in1 p + inL r := rfl
    cases p with
    | R n =>
      simp only [in1] at hr
      simp only [atoms, List.mem_append] at hx
      rcases hx with hx | hx
      · obtain ⟨i, hi, rfl⟩ := List.mem_map.1 hx
        have := List.mem_range.1 hi
        exact .inr ⟨k + i, rfl, by omega, by omega⟩
      · rcases ih _ x hx with ⟨c, hc, e⟩ | ⟨i, e, h1, h2⟩
        · exact .inl ⟨c, hc, e⟩
        · exact .inr ⟨i, e, by omega, by omega⟩
    | I t =>
      simp only [in1] at hr
      simp only [atoms, List.mem_append] at hx
      rcases hx with hx | hx
      · obtain ⟨c, hc, rfl⟩ := List.mem_map.1 hx
        exact .inl ⟨c, by simp only [insd, List.mem_append]; exact .inl hc, rfl⟩
      · rcases ih _ x hx with ⟨c, hc, e⟩ | ⟨i, e, h1, h2⟩
        · exact .inl ⟨c, by simp only [insd, List.mem_append]; exact .inr hc, e⟩
        · exact .inr ⟨i, e, by omega, by omega⟩
    | D n =>
      simp only [in1] at hr
      simp only [atoms] at hx
      rcases ih _ x hx with ⟨c, hc, e⟩ | ⟨i, e, h1, h2⟩
      · exact .inl ⟨c, hc, e⟩
      · exact .inr ⟨i, e, by omega, by omega⟩
theorem map_inj_on {f : Int → UInt8} : ∀ (la lb : List Int), (∀ x ∈ la, ∀ y ∈ lb, f x = f y → x = y) → la.map f = lb.map f → la = lb
  | [], [], _, _ => rfl
  | [], _ :: _, _, e => by simp at e
  | _ :: _, [], _, e => by simp at e
  | x :: la, y :: lb, h, e => by
    simp only [List.map_cons, List.cons.injEq] at e
    rw [h x (by simp) y (by simp) e.1, map_inj_on la lb (fun u hu v hv => h u (by simp [hu]) v (by simp [hv])) e.2]
/-- For a string of different bytes that no text has, two deltas have the same result exactly if they have the same normal form. -/
theorem tells (S : List UInt8) (a b : List Q) (pa : allPos a = true) (pb : allPos b = true) (ha : inL a = S.length) (hb : inL b = S.length) (hn : S.Nodup) (fa : ∀ c ∈ insd a, c ∉ S) (fb : ∀ c ∈ insd b, c ∉ S) :
    apl S a = apl S b ↔ nf a = nf b := by
  constructor
  · intro e
    rw [nf_iff a b pa pb]
    refine ⟨by omega, ?_⟩
    have e1 := apl_atoms S a 0 (by omega)
    have e2 := apl_atoms S b 0 (by omega)
    rw [List.drop_zero] at e1 e2
    rw [e1, e2] at e
    refine map_inj_on _ _ (fun x hx y hy hxy => ?_) e
    rcases atoms_good a 0 x hx with ⟨c, hc, rfl⟩ | ⟨i, rfl, _, h2⟩ <;> rcases atoms_good b 0 y hy with ⟨d, hd, rfl⟩ | ⟨j, rfl, _, h4⟩
    · rw [vb_neg, vb_neg] at hxy; rw [hxy]
    · rw [vb_neg, vb_at, List.getD_eq_getElem?_getD, List.getElem?_eq_getElem (by omega)] at hxy
      exact absurd (hxy ▸ List.getElem_mem _) (fa c hc)
    · rw [vb_neg, vb_at, List.getD_eq_getElem?_getD, List.getElem?_eq_getElem (by omega)] at hxy
      exact absurd (hxy.symm ▸ List.getElem_mem _) (fb d hd)
    · rw [vb_at, vb_at, List.getD_eq_getElem?_getD, List.getElem?_eq_getElem (by omega), List.getD_eq_getElem?_getD, List.getElem?_eq_getElem (by omega)] at hxy
      have : i = j := (List.getElem_inj hn).1 hxy
      rw [this]
  · intro e
    rw [← apl_nf a, ← apl_nf b, e]
/-- A single edit: k bytes at an offset replaced by a text, in a string of n bytes. -/
def edit (n at_ k : Nat) (t : List UInt8) : List Q :=
  (if 0 < at_ then [.R at_] else []) ++ (if t = [] then [] else [.I t]) ++ (if 0 < k then [.D k] else []) ++ (if at_ + k < n then [.R (n - at_ - k)] else [])
theorem edit_inL (n at_ k : Nat) (t : List UInt8) (h : at_ + k ≤ n) : inL (edit n at_ k t) = n := by
  unfold edit
  rw [inL_append, inL_append, inL_append]
  split <;> split <;> split <;> split <;> simp [inL, in1] <;> omega
theorem edit_apl (s : List UInt8) (at_ k : Nat) (t : List UInt8) (h : at_ + k ≤ s.length) : apl s (edit s.length at_ k t) = s.take at_ ++ t ++ s.drop (at_ + k) := by
  unfold edit
  have e0 : ∀ x y : List Q, ∀ u v : List UInt8, inL x = u.length → apl (u ++ v) (x ++ y) = apl u x ++ apl v y := fun x y u v hu => apl_append x y u v hu
  have hs : s = s.take at_ ++ ([] ++ ((s.drop at_).take k ++ s.drop (at_ + k))) := by
    rw [List.nil_append, ← List.drop_drop, List.take_append_drop, List.take_append_drop]
  have l1 : (s.take at_).length = at_ := by rw [List.length_take]; omega
  have l2 : ((s.drop at_).take k).length = k := by rw [List.length_take, List.length_drop]; omega
  have l3 : (s.drop (at_ + k)).length = s.length - at_ - k := by rw [List.length_drop]; omega
  conv => lhs; arg 1; rw [hs]
  rw [List.append_assoc, List.append_assoc, e0 _ _ _ _ (by rw [l1]; split <;> simp [inL, in1] <;> omega), e0 _ _ _ _ (by split <;> simp [inL, in1]), e0 _ _ _ _ (by rw [l2]; split <;> simp [inL, in1] <;> omega)]
  have p1 : apl (s.take at_) (if 0 < at_ then [.R at_] else []) = s.take at_ := by
    split
    · simp only [apl, List.append_nil]; rw [List.take_take, Nat.min_self]
    · rw [show at_ = 0 by omega]; rfl
  have p2 : apl [] (if t = [] then [] else [.I t]) = t := by
    split
    · rename_i e; rw [e]; rfl
    · simp [apl]
  have p3 : apl ((s.drop at_).take k) (if 0 < k then [.D k] else []) = [] := by split <;> rfl
  have p4 : apl (s.drop (at_ + k)) (if at_ + k < s.length then [.R (s.length - at_ - k)] else []) = s.drop (at_ + k) := by
    split
    · simp only [apl, List.append_nil]; rw [← l3, List.take_length]
    · rw [List.drop_eq_nil_iff.2 (by omega)]; rfl
  rw [p1, p2, p3, p4, List.nil_append, List.append_assoc]
end Go.Proofs.Ytmbgcbgbdjiacaa.D
/- ComposeMath -/
namespace Go.Proofs.Ytmbgcbgbdjiacaa.D

/-- The entries of a delta: inserted bytes, and kept positions from k on and below n, in order. -/
def good (n : Nat) : Nat → List Int → Prop
  | _, [] => True
  | k, x :: r => ((∃ b : UInt8, x = neg b) ∧ good n k r) ∨ ∃ i : Nat, x = (i : Int) ∧ k ≤ i ∧ i < n ∧ good n (i + 1) r
theorem good_mono {n k j : Nat} {L : List Int} (h : good n k L) (hj : j ≤ k) : good n j L := by
  induction L generalizing k j with
  | nil => trivial
  | cons x r ih =>
    rcases h with ⟨h1, h2⟩ | ⟨i, e, h1, h2, h3⟩
    · exact .inl ⟨h1, ih h2 hj⟩
    · exact .inr ⟨i, e, by omega, h2, h3⟩
theorem good_negs {n k : Nat} (t : List UInt8) {L : List Int} (h : good n k L) : good n k (t.map neg ++ L) := by
  induction t with
  | nil => exact h
  | cons b r ih => exact .inl ⟨⟨b, rfl⟩, ih⟩
theorem good_run {n k : Nat} (m : Nat) {L : List Int} (h : good n (k + m) L) (hk : k + m ≤ n) : good n k (((List.range m).map fun i => ((k + i : Nat) : Int)) ++ L) := by
  induction m generalizing k with
  | zero => simpa using h
  | succ m ih =>
    rw [List.range_succ_eq_map, List.map_cons, List.cons_append, List.map_map]
    refine .inr ⟨k, by simp, Nat.le_refl _, by omega, ?_⟩
    have := ih (k := k + 1) (by rw [show k + 1 + m = k + (m + 1) by omega]; exact h) (by omega)
    have e : ((fun i => ((k + i : Nat) : Int)) ∘ Nat.succ) = fun i => ((k + 1 + i : Nat) : Int) := by funext i; simp; omega
    rw [e]; exact this
theorem good_atoms (n : Nat) (a : List Q) : ∀ k, k + inL a ≤ n → good n k (atoms k a) := by
  induction a with
  | nil => intro k _; trivial
  | cons p r ih =>
    intro k h
    have hr : inL (p :: r) = in1 p + inL r := rfl
    cases p with
    | R m => simp only [in1] at hr; exact good_run m (ih _ (by omega)) (by omega)
    | I t => simp only [in1] at hr; exact good_negs t (ih _ (by omega))
    | D m => simp only [in1] at hr; exact good_mono (ih (k + m) (by omega)) (by omega)
/-- The pieces, one for each entry. -/
def ofQ (n : Nat) : Nat → List Int → List Q
  | k, [] => if k < n then [.D (n - k)] else []
  | k, x :: r => if x < 0 then .I [UInt8.ofNat (-1 - x).toNat] :: ofQ n k r else (if k < x.toNat then [.D (x.toNat - k)] else []) ++ .R 1 :: ofQ n (x.toNat + 1) r
theorem neg_byte (b : UInt8) : UInt8.ofNat (-1 - neg b).toNat = b := by
  unfold neg
  have : (-1 - (-1 - (b.toNat : Int))).toNat = b.toNat := by omega
  rw [this, UInt8.ofNat_toNat]
theorem ofQ_neg (n k : Nat) (b : UInt8) (r : List Int) : ofQ n k (neg b :: r) = .I [b] :: ofQ n k r := by
  rw [ofQ, if_pos (neg_lt b), neg_byte]
theorem ofQ_nat (n k i : Nat) (r : List Int) : ofQ n k ((i : Int) :: r) = (if k < i then [.D (i - k)] else []) ++ .R 1 :: ofQ n (i + 1) r := by
  rw [ofQ, if_neg (by omega)]; rfl
theorem ofQ_spec (n : Nat) (L : List Int) : ∀ k, k ≤ n → good n k L → atoms k (ofQ n k L) = L ∧ inL (ofQ n k L) = n - k ∧ allPos (ofQ n k L) = true := by
  induction L with
  | nil =>
    intro k hk _
    unfold ofQ
    split
    · rename_i h; exact ⟨rfl, by simp [inL, in1], by simp [allPos, pos]; omega⟩
    · exact ⟨rfl, by simp [inL]; omega, rfl⟩
  | cons x r ih =>
    intro k hk h
    rcases h with ⟨⟨b, rfl⟩, h2⟩ | ⟨i, rfl, h1, h2, h3⟩
    · obtain ⟨i1, i2, i3⟩ := ih k hk h2
      rw [ofQ_neg]
      refine ⟨by simp [atoms, i1], by simp [inL, in1, i2], ?_⟩
      unfold allPos at i3 ⊢
      simp [pos, i3]
    · obtain ⟨i1, i2, i3⟩ := ih (i + 1) (by omega) h3
      rw [ofQ_nat]
      unfold allPos at i3 ⊢
      by_cases hc : k < i
      · rw [if_pos hc]
        have e : k + (i - k) = i := by omega
        refine ⟨by simp [atoms, e, i1], by simp [inL, in1, i2]; omega, by simp [pos, i3]; omega⟩
      · rw [if_neg hc]
        have e : k = i := by omega
        subst e
        refine ⟨by simp [atoms, i1], by simp [inL, in1, i2]; omega, by simp [pos, i3]⟩
/-- An entry of the second delta, seen through the first one. -/
def pick (M : List Int) (x : Int) : Int := if x < 0 then x else M.getD x.toNat 0
def cmpA (M L : List Int) : List Int := L.map (pick M)
theorem pick_neg (M : List Int) (b : UInt8) : pick M (neg b) = neg b := if_pos (neg_lt b)
theorem pick_nat (M : List Int) (i : Nat) : pick M (i : Int) = M.getD i 0 := by unfold pick; rw [if_neg (by omega)]; rfl
/-- What good entries are, one by one. -/
theorem good_get {n k : Nat} {M : List Int} (h : good n k M) : ∀ i, i < M.length → (∃ b : UInt8, M.getD i 0 = neg b) ∨ ∃ y : Nat, M.getD i 0 = (y : Int) ∧ k ≤ y ∧ y < n ∧ ∀ j, i < j → j < M.length → 0 ≤ M.getD j 0 → (y : Int) < M.getD j 0 := by
  induction M generalizing k with
  | nil => intro i hi; simp at hi
  | cons x r ih =>
    intro i hi
    rcases h with ⟨⟨b, rfl⟩, h2⟩ | ⟨z, rfl, h1, h2, h3⟩
    · cases i with
      | zero => exact .inl ⟨b, rfl⟩
      | succ i =>
        rcases ih h2 i (by simpa using hi) with ⟨c, e⟩ | ⟨y, e, a1, a2, a3⟩
        · exact .inl ⟨c, by simpa using e⟩
        · refine .inr ⟨y, by simpa using e, a1, a2, fun j hj hl h0 => ?_⟩
          cases j with
          | zero => omega
          | succ j => simp only [List.getD_cons_succ] at h0 ⊢; exact a3 j (by omega) (by simpa using hl) h0
    · cases i with
      | zero =>
        refine .inr ⟨z, rfl, h1, h2, fun j hj hl h0 => ?_⟩
        cases j with
        | zero => omega
        | succ j =>
          simp only [List.getD_cons_succ] at h0 ⊢
          rcases ih h3 j (by simpa using hl) with ⟨c, e⟩ | ⟨y, e, a1, a2, a3⟩
          · rw [e] at h0; have := neg_lt c; omega
          · rw [e]; omega
      | succ i =>
        rcases ih h3 i (by simpa using hi) with ⟨c, e⟩ | ⟨y, e, a1, a2, a3⟩
        · exact .inl ⟨c, by simpa using e⟩
        · refine .inr ⟨y, by simpa using e, by omega, a2, fun j hj hl h0 => ?_⟩
          cases j with
          | zero => omega
          | succ j => simp only [List.getD_cons_succ] at h0 ⊢; exact a3 j (by omega) (by simpa using hl) h0
theorem good_cmp {n : Nat} {M : List Int} (hM : good n 0 M) (L : List Int) : ∀ (k lo : Nat), good M.length k L → (∀ i, k ≤ i → i < M.length → 0 ≤ M.getD i 0 → (lo : Int) ≤ M.getD i 0) → good n lo (cmpA M L) := by
  induction L with
  | nil => intro k lo _ _; trivial
  | cons x r ih =>
    intro k lo h hlo
    rcases h with ⟨⟨b, rfl⟩, h2⟩ | ⟨i, rfl, h1, h2, h3⟩
    · exact .inl ⟨⟨b, pick_neg M b⟩, ih k lo h2 hlo⟩
    · rcases good_get hM i h2 with ⟨c, e⟩ | ⟨y, e, _, a2, a3⟩
      · exact .inl ⟨⟨c, by rw [pick_nat, e]⟩, ih (i + 1) lo h3 fun j hj hl h0 => hlo j (by omega) hl h0⟩
      · have h4 := hlo i h1 h2 (by rw [e]; omega)
        rw [e] at h4
        exact .inr ⟨y, by rw [pick_nat, e], by omega, a2, ih (i + 1) (y + 1) h3 fun j hj hl h0 => by have := a3 j (by omega) hl h0; omega⟩
/-- The composition. -/
def cQ (a b : List Q) : List Q := nf (ofQ (inL a) 0 (cmpA (atoms 0 a) (atoms 0 b)))
structure Cq (a b : List Q) : Prop where
  inn : inL (cQ a b) = inL a
  out : outL (cQ a b) = outL b
  ats : atoms 0 (cQ a b) = cmpA (atoms 0 a) (atoms 0 b)
  nrm : isN (cQ a b) = true
  pos : allPos (cQ a b) = true
theorem cq {a b : List Q} (h : outL a = inL b) : Cq a b := by
  have hM := good_atoms (inL a) a 0 (by omega)
  have hL : good (atoms 0 a).length 0 (atoms 0 b) := by rw [atoms_length]; exact good_atoms _ b 0 (by omega)
  have hg := good_cmp hM (atoms 0 b) 0 0 hL (fun i _ _ h0 => by simpa using h0)
  obtain ⟨h1, h2, h3⟩ := ofQ_spec (inL a) _ 0 (Nat.zero_le _) hg
  have e : atoms 0 (cQ a b) = cmpA (atoms 0 a) (atoms 0 b) := by unfold cQ; rw [atoms_nf, h1]
  refine ⟨by unfold cQ; rw [inL_nf, h2]; omega, ?_, e, isN_nf _, allPos_nf _ h3⟩
  rw [← atoms_length (cQ a b) 0, e, ← atoms_length b 0]
  unfold cmpA; rw [List.length_map]
/-- What has these entries and this length is the composition. -/
theorem cq_unique {a b c : List Q} (h : outL a = inL b) (pc : allPos c = true) (hi : inL c = inL a) (ha : atoms 0 c = cmpA (atoms 0 a) (atoms 0 b)) : nf c = cQ a b := by
  have q := cq h
  rw [← nf_of_isN (cQ a b) q.nrm]
  exact (nf_iff c (cQ a b) pc q.pos).2 ⟨by rw [hi, q.inn], by rw [ha, q.ats]⟩
theorem cq_congr {a b a' b' : List Q} (hi : inL a = inL a') (e1 : atoms 0 a = atoms 0 a') (e2 : atoms 0 b = atoms 0 b') : cQ a b = cQ a' b' := by
  unfold cQ; rw [hi, e1, e2]
theorem cq_nf (a b : List Q) : cQ (nf a) (nf b) = cQ a b := by unfold cQ; rw [inL_nf, atoms_nf, atoms_nf]
theorem pick_pick {A B : List Int} {x : Int} (hx : x < 0 ∨ x.toNat < B.length) : pick (cmpA A B) x = pick A (pick B x) := by
  by_cases h : x < 0
  · unfold pick; rw [if_pos h, if_pos h, if_pos h]
  · have hl := hx.resolve_left h
    have e1 : pick B x = B.getD x.toNat 0 := if_neg h
    have e2 : pick (cmpA A B) x = (cmpA A B).getD x.toNat 0 := if_neg h
    rw [e1, e2]
    unfold cmpA
    rw [List.getD_eq_getElem?_getD, List.getElem?_map, List.getElem?_eq_getElem hl, List.getD_eq_getElem?_getD, List.getElem?_eq_getElem hl]
    rfl
theorem good_range {n : Nat} {L : List Int} : ∀ {k}, good n k L → ∀ x ∈ L, x < 0 ∨ x.toNat < n := by
  induction L with
  | nil => intro k _ x hx; cases hx
  | cons y r ih =>
    intro k h x hx
    rcases h with ⟨⟨b, rfl⟩, h2⟩ | ⟨i, rfl, _, h2, h3⟩
    · rcases List.mem_cons.1 hx with rfl | hx
      · exact .inl (neg_lt b)
      · exact ih h2 x hx
    · rcases List.mem_cons.1 hx with rfl | hx
      · exact .inr (by simpa using h2)
      · exact ih h3 x hx
theorem cmpA_assoc {A B C : List Int} (h : ∀ x ∈ C, x < 0 ∨ x.toNat < B.length) : cmpA (cmpA A B) C = cmpA A (cmpA B C) := by
  show C.map (pick (cmpA A B)) = (C.map (pick B)).map (pick A)
  rw [List.map_map]
  exact List.map_congr_left fun x hx => pick_pick (h x hx)
theorem cq_assoc {a b c : List Q} (h1 : outL a = inL b) (h2 : outL b = inL c) : cQ (cQ a b) c = cQ a (cQ b c) := by
  have q1 := cq h1
  have q2 := cq h2
  have h3 : outL (cQ a b) = inL c := by rw [q1.out, h2]
  have h4 : outL a = inL (cQ b c) := by rw [q2.inn, h1]
  have q3 := cq h3
  have hr := good_range (good_atoms (inL c) c 0 (by omega))
  rw [← nf_of_isN _ q3.nrm]
  refine cq_unique h4 q3.pos (by rw [q3.inn, q1.inn]) ?_
  rw [q3.ats, q1.ats, q2.ats]
  exact cmpA_assoc fun x hx => by rw [atoms_length, h2]; exact hr x hx
/-- The delta that keeps n bytes. -/
def idQ (n : Nat) : List Q := if n = 0 then [] else [.R n]
theorem idQ_atoms (n : Nat) : atoms 0 (idQ n) = (List.range n).map fun (i : Nat) => (i : Int) := by
  unfold idQ
  split
  · rename_i h; subst h; rfl
  · simp [atoms]
theorem idQ_in (n : Nat) : inL (idQ n) = n ∧ outL (idQ n) = n ∧ allPos (idQ n) = true ∧ isN (idQ n) = true := by
  unfold idQ
  split
  · rename_i h; subst h; exact ⟨rfl, rfl, rfl, rfl⟩
  · rename_i h; exact ⟨by simp [inL, in1], by simp [outL, out1], by simp [allPos, pos]; omega, rfl⟩
theorem range_getD (n i : Nat) (h : i < n) : ((List.range n).map fun (i : Nat) => (i : Int)).getD i 0 = (i : Int) := by
  rw [List.getD_eq_getElem?_getD, List.getElem?_map, List.getElem?_range h]; rfl
theorem cq_idL (b : List Q) (pb : allPos b = true) : cQ (idQ (inL b)) b = nf b := by
  have h := idQ_in (inL b)
  refine (cq_unique h.2.1 pb h.1.symm ?_).symm
  rw [idQ_atoms]
  have hr := good_range (good_atoms (inL b) b 0 (by omega))
  unfold cmpA
  conv => lhs; rw [← List.map_id (atoms 0 b)]
  refine List.map_congr_left fun x hx => ?_
  show x = _
  rcases hr x hx with h0 | h0
  · exact (if_pos h0).symm
  · unfold pick
    by_cases hn : x < 0
    · rw [if_pos hn]
    · rw [if_neg hn, range_getD _ _ h0]; omega
theorem cq_idR (a : List Q) (pa : allPos a = true) : cQ a (idQ (outL a)) = nf a := by
  have h := idQ_in (outL a)
  refine (cq_unique h.1.symm pa rfl ?_).symm
  rw [idQ_atoms]
  unfold cmpA
  rw [List.map_map]
  refine List.ext_getElem (by simp [atoms_length]) fun i h1 h2 => ?_
  rw [List.getElem_map, List.getElem_range]
  show _ = pick (atoms 0 a) ((i : Nat) : Int)
  rw [pick_nat, List.getD_eq_getElem?_getD, List.getElem?_eq_getElem h1]
  rfl
/-! ### Results -/
theorem vb_pick {S : List UInt8} {A : List Int} {x : Int} (hx : x < 0 ∨ x.toNat < A.length) : vb (A.map (vb S)) x = vb S (pick A x) := by
  by_cases h : x < 0
  · unfold pick; rw [if_pos h]; unfold vb; rw [if_pos h, if_pos h]
  · have hl := hx.resolve_left h
    have e1 : pick A x = A.getD x.toNat 0 := if_neg h
    have e2 : vb (A.map (vb S)) x = (A.map (vb S)).getD x.toNat 0 := if_neg h
    rw [e1, e2, List.getD_eq_getElem?_getD, List.getElem?_map, List.getElem?_eq_getElem hl, List.getD_eq_getElem?_getD, List.getElem?_eq_getElem hl]
    rfl
theorem apl_at (S : List UInt8) (a : List Q) (h : inL a = S.length) : apl S a = (atoms 0 a).map (vb S) := by
  have := apl_atoms S a 0 (by omega)
  rwa [List.drop_zero] at this
theorem apl_cq {S : List UInt8} {a b : List Q} (hS : inL a = S.length) (h : outL a = inL b) : apl S (cQ a b) = apl (apl S a) b := by
  have q := cq h
  have hr := good_range (good_atoms (inL b) b 0 (by omega))
  have hl : inL b = (apl S a).length := by rw [apl_length a S hS, h]
  rw [apl_at S _ (by rw [q.inn, hS]), q.ats, apl_at (apl S a) b hl, apl_at S a hS]
  unfold cmpA
  rw [List.map_map]
  exact List.map_congr_left fun x hx => (vb_pick (by rw [atoms_length, h]; exact hr x hx)).symm
end Go.Proofs.Ytmbgcbgbdjiacaa.D
/- ComposeInv -/
namespace Go.Proofs.Ytmbgcbgbdjiacaa.D

/-- Where the j-th byte of a string goes: the place at which it is kept, or the byte itself. -/
def invAt (S : List UInt8) (A : List Int) (j : Nat) : Int := if (j : Int) ∈ A then ((A.idxOf (j : Int) : Nat) : Int) else neg (S.getD j 0)
def invA (S : List UInt8) (A : List Int) : List Int := (List.range S.length).map (invAt S A)
theorem atoms_lo {k : Nat} {a : List Q} {x : Int} (h : x ∈ atoms k a) (h0 : 0 ≤ x) : (k : Int) ≤ x := by
  rcases atoms_good a k x h with ⟨c, _, rfl⟩ | ⟨i, rfl, h1, _⟩
  · have := neg_lt c; omega
  · omega
theorem not_neg {t : List UInt8} {j : Nat} : (j : Int) ∉ t.map neg := by
  intro h
  obtain ⟨c, _, e⟩ := List.mem_map.1 h
  have := neg_lt c
  omega
theorem idx_right {A B : List Int} {x : Int} (h : x ∉ A) : (A ++ B).idxOf x = A.length + B.idxOf x := by
  rw [List.idxOf_append, if_neg h, Nat.add_comm]
theorem idx_ne {a x : Int} (h : a ≠ x) (L : List Int) : (a :: L).idxOf x = L.idxOf x + 1 := by
  have e : (a == x) = false := by simpa using h
  rw [List.idxOf_cons, e]; rfl
theorem idx_negs (t : List UInt8) (L : List Int) (j : Nat) : (t.map neg ++ L).idxOf (j : Int) = t.length + L.idxOf (j : Int) := by
  rw [idx_right not_neg, List.length_map]
theorem mem_run {k n j : Nat} : (j : Int) ∈ ((List.range n).map fun i => ((k + i : Nat) : Int)) ↔ k ≤ j ∧ j < k + n := by
  constructor
  · intro h
    obtain ⟨i, hi, e⟩ := List.mem_map.1 h
    have := List.mem_range.1 hi
    omega
  · intro h
    exact List.mem_map.2 ⟨j - k, List.mem_range.2 (by omega), by omega⟩
theorem idx_run {k n t : Nat} (h : t < n) (L : List Int) : (((List.range n).map fun i => ((k + i : Nat) : Int)) ++ L).idxOf ((k + t : Nat) : Int) = t := by
  induction n generalizing k t with
  | zero => omega
  | succ n ih =>
    rw [List.range_succ_eq_map, List.map_cons, List.cons_append, List.map_map]
    cases t with
    | zero => rw [List.idxOf_cons_self]
    | succ t =>
      have e : ((fun i => ((k + i : Nat) : Int)) ∘ Nat.succ) = fun i => ((k + 1 + i : Nat) : Int) := by funext i; simp; omega
      have hne : ((k + 0 : Nat) : Int) ≠ ((k + (t + 1) : Nat) : Int) := by omega
      rw [idx_ne hne, e, show k + (t + 1) = k + 1 + t by omega, ih (by omega)]
/-- The entries of the inverse. -/
theorem atoms_inv (S : List UInt8) (a : List Q) : ∀ k p, k + inL a = S.length → atoms p (inv (S.drop k) a) = (List.range (inL a)).map fun t => if ((k + t : Nat) : Int) ∈ atoms k a then ((p + (atoms k a).idxOf ((k + t : Nat) : Int) : Nat) : Int) else neg (S.getD (k + t) 0) := by
  induction a with
  | nil => intro k p _; rfl
  | cons q r ih =>
    intro k p h
    have hr : inL (q :: r) = in1 q + inL r := rfl
    cases q with
    | R n =>
      simp only [in1] at hr
      have IH := ih (k + n) (p + n) (by omega)
      have e0 : atoms k (.R n :: r) = ((List.range n).map fun i => ((k + i : Nat) : Int)) ++ atoms (k + n) r := rfl
      have e9 : atoms p (inv (S.drop k) (.R n :: r)) = ((List.range n).map fun i => ((p + i : Nat) : Int)) ++ atoms (p + n) (inv ((S.drop k).drop n) r) := rfl
      rw [e9, e0, List.drop_drop, IH, hr, List.range_add, List.map_append, List.map_map]
      congr 1
      · refine List.map_congr_left fun t ht => ?_
        have ht := List.mem_range.1 ht
        rw [if_pos (List.mem_append.2 (.inl (mem_run.2 ⟨by omega, by omega⟩))), idx_run ht]
      · refine List.map_congr_left fun t _ => ?_
        show _ = if ((k + (n + t) : Nat) : Int) ∈ _ then _ else _
        have hn : ((k + (n + t) : Nat) : Int) ∉ ((List.range n).map fun i => ((k + i : Nat) : Int)) := fun hm => by have := mem_run.1 hm; omega
        have e1 : (((k + (n + t) : Nat) : Int) ∈ ((List.range n).map fun i => ((k + i : Nat) : Int)) ++ atoms (k + n) r) ↔ ((k + n + t : Nat) : Int) ∈ atoms (k + n) r := by
          rw [List.mem_append]
          rw [show k + (n + t) = k + n + t by omega] at hn ⊢
          exact ⟨fun hm => hm.resolve_left hn, .inr⟩
        by_cases hm : ((k + n + t : Nat) : Int) ∈ atoms (k + n) r
        · rw [if_pos hm, if_pos (e1.2 hm), idx_right hn, List.length_map, List.length_range, show k + (n + t) = k + n + t by omega]
          congr 1; omega
        · rw [if_neg hm, if_neg (fun x => hm (e1.1 x)), show k + (n + t) = k + n + t by omega]
    | I t =>
      simp only [in1] at hr
      have e0 : atoms k (.I t :: r) = t.map neg ++ atoms k r := rfl
      have e9 : atoms p (inv (S.drop k) (.I t :: r)) = atoms (p + t.length) (inv (S.drop k) r) := rfl
      rw [e9, e0, ih k (p + t.length) (by omega), hr, Nat.zero_add]
      refine List.map_congr_left fun i _ => ?_
      have e1 : (((k + i : Nat) : Int) ∈ t.map neg ++ atoms k r) ↔ ((k + i : Nat) : Int) ∈ atoms k r := by
        rw [List.mem_append]; exact ⟨fun hm => hm.resolve_left not_neg, .inr⟩
      by_cases hm : ((k + i : Nat) : Int) ∈ atoms k r
      · rw [if_pos hm, if_pos (e1.2 hm), idx_negs]; congr 1; omega
      · rw [if_neg hm, if_neg (fun x => hm (e1.1 x))]
    | D n =>
      simp only [in1] at hr
      have e0 : atoms k (.D n :: r) = atoms (k + n) r := rfl
      have e9 : atoms p (inv (S.drop k) (.D n :: r)) = (((S.drop k).take n).map neg) ++ atoms p (inv ((S.drop k).drop n) r) := rfl
      rw [e9, e0, List.drop_drop, ih (k + n) p (by omega), hr, List.range_add, List.map_append, List.map_map]
      congr 1
      · refine List.ext_getElem (by simp; omega) fun i h1 h2 => ?_
        have hi : i < n := by simpa using h2
        rw [List.getElem_map, List.getElem_map, List.getElem_take, List.getElem_drop, List.getElem_range]
        have hn : ((k + i : Nat) : Int) ∉ atoms (k + n) r := fun hm => by have := atoms_lo hm (by omega); omega
        rw [if_neg hn, List.getD_eq_getElem?_getD, List.getElem?_eq_getElem (by omega)]
        rfl
      · refine List.map_congr_left fun t _ => ?_
        show _ = if ((k + (n + t) : Nat) : Int) ∈ atoms (k + n) r then _ else _
        rw [show k + (n + t) = k + n + t by omega]
theorem atoms_inv0 (S : List UInt8) (a : List Q) (h : inL a = S.length) : atoms 0 (inv S a) = invA S (atoms 0 a) := by
  have := atoms_inv S a 0 0 (by omega)
  rw [List.drop_zero] at this
  rw [this, h]
  unfold invA
  refine List.map_congr_left fun t _ => ?_
  unfold invAt
  rw [Nat.zero_add, Nat.zero_add]
theorem idxOf_map {f : Int → Int} {x y : Int} (B : List Int) (h : ∀ b ∈ B, f b = x ↔ b = y) : (B.map f).idxOf x = B.idxOf y ∧ (x ∈ B.map f ↔ y ∈ B) := by
  induction B with
  | nil => exact ⟨rfl, by simp⟩
  | cons b r ih =>
    obtain ⟨i1, i2⟩ := ih fun c hc => h c (List.mem_cons_of_mem _ hc)
    have hb := h b (by simp)
    by_cases e : b = y
    · subst e
      have e2 := hb.2 rfl
      rw [List.map_cons, ← e2, List.idxOf_cons_self, List.idxOf_cons_self]
      exact ⟨rfl, by simp⟩
    · have e2 : f b ≠ x := fun q => e (hb.1 q)
      rw [List.map_cons, idx_ne e2, idx_ne e, i1, List.mem_cons, List.mem_cons, i2]
      exact ⟨rfl, by constructor <;> (rintro (q | q); exact absurd q.symm (by assumption); exact .inr q)⟩
/-- The inverse of a composition, entry by entry. -/
theorem invA_cmp {S : List UInt8} {A B : List Int} (hA : good S.length 0 A) (hB : good A.length 0 B) : invA S (cmpA A B) = cmpA (invA (A.map (vb S)) B) (invA S A) := by
  unfold invA
  conv => rhs; unfold cmpA
  rw [List.map_map]
  refine List.map_congr_left fun j hj => ?_
  have hj := List.mem_range.1 hj
  have hBr := good_range hB
  show invAt S (cmpA A B) j = pick _ (invAt S A j)
  by_cases hm : (j : Int) ∈ A
  · obtain ⟨p, hp, e⟩ := List.getElem_of_mem hm
    have hpd : A.getD p 0 = (j : Int) := by rw [List.getD_eq_getElem?_getD, List.getElem?_eq_getElem hp, ← e]; rfl
    have inj : ∀ q, q < A.length → A.getD q 0 = (j : Int) → q = p := fun q hq he => by
      rcases Nat.lt_trichotomy q p with h1 | h1 | h1
      · rcases good_get hA q hq with ⟨c, e1⟩ | ⟨y, e1, _, _, a3⟩
        · have := neg_lt c; omega
        · have := a3 p h1 hp (by omega); omega
      · exact h1
      · rcases good_get hA p hp with ⟨c, e1⟩ | ⟨y, e1, _, _, a3⟩
        · have := neg_lt c; omega
        · have := a3 q h1 hq (by omega); omega
    have hidx : A.idxOf (j : Int) = p := by
      have hl : A.idxOf (j : Int) < A.length := List.idxOf_lt_length_iff.2 hm
      refine inj _ hl ?_
      rw [List.getD_eq_getElem?_getD, List.getElem?_eq_getElem hl, List.getElem_idxOf]; rfl
    have key : ∀ b ∈ B, pick A b = (j : Int) ↔ b = (p : Int) := fun b hb => by
      rcases hBr b hb with h0 | h0
      · unfold pick; rw [if_pos h0]; constructor <;> intro q <;> omega
      · by_cases hn : b < 0
        · unfold pick; rw [if_pos hn]; constructor <;> intro q <;> omega
        · unfold pick; rw [if_neg hn]
          constructor
          · intro q; have := inj _ h0 q; omega
          · intro q; subst q; simpa using hpd
    obtain ⟨k1, k2⟩ := idxOf_map B key
    have e5 : invAt S A j = ((p : Nat) : Int) := by unfold invAt; rw [if_pos hm, hidx]
    rw [e5, pick_nat]
    have hg : ((List.range (A.map (vb S)).length).map (invAt (A.map (vb S)) B)).getD p 0 = invAt (A.map (vb S)) B p := by
      rw [List.getD_eq_getElem?_getD, List.getElem?_map, List.getElem?_range (by simpa using hp)]; rfl
    rw [hg]
    unfold invAt cmpA
    rw [k1]
    by_cases hpB : (p : Int) ∈ B
    · rw [if_pos (k2.2 hpB), if_pos hpB]
    · rw [if_neg (fun q => hpB (k2.1 q)), if_neg hpB]
      congr 1
      rw [List.getD_eq_getElem?_getD, List.getD_eq_getElem?_getD, List.getElem?_map, List.getElem?_eq_getElem hp, e]
      show _ = vb S (j : Int)
      rw [vb_at, List.getD_eq_getElem?_getD]
  · have hn : (j : Int) ∉ cmpA A B := fun hc => by
      obtain ⟨b, hb, e⟩ := List.mem_map.1 hc
      rcases hBr b hb with h0 | h0
      · unfold pick at e; rw [if_pos h0] at e; omega
      · by_cases hn : b < 0
        · unfold pick at e; rw [if_pos hn] at e; omega
        · unfold pick at e; rw [if_neg hn] at e
          rw [← e] at hm
          exact hm (by rw [List.getD_eq_getElem?_getD, List.getElem?_eq_getElem h0]; exact List.getElem_mem _)
    unfold invAt
    rw [if_neg hn, if_neg hm, pick_neg]
theorem inv_cq {S : List UInt8} {a b : List Q} (hS : inL a = S.length) (h : outL a = inL b) : nf (inv S (cQ a b)) = cQ (inv (apl S a) b) (inv S a) := by
  have q := cq h
  have hT : inL b = (apl S a).length := by rw [apl_length a S hS, h]
  have h1 : outL (inv (apl S a) b) = inL (inv S a) := by rw [outL_inv b _ hT, inL_inv a _ hS, h]
  refine cq_unique h1 (allPos_inv _ _ (by rw [q.inn, hS]) q.pos) (by rw [inL_inv _ _ (by rw [q.inn, hS]), q.out, inL_inv _ _ hT]) ?_
  rw [atoms_inv0 S _ (by rw [q.inn, hS]), q.ats, atoms_inv0 _ b hT, atoms_inv0 S a hS, apl_at S a hS]
  exact invA_cmp (by rw [← hS]; exact good_atoms _ a 0 (by omega)) (by rw [atoms_length, h]; exact good_atoms _ b 0 (by omega))
end Go.Proofs.Ytmbgcbgbdjiacaa.D
/- ComposeStep -/
namespace Go.Proofs.Ytmbgcbgbdjiacaa.D

def sh (k : Nat) (x : Int) : Int := if x < 0 then x else x + k
theorem sh_neg (k : Nat) (b : UInt8) : sh k (neg b) = neg b := if_pos (neg_lt b)
theorem sh_nat (k i : Nat) : sh k (i : Int) = ((k + i : Nat) : Int) := by unfold sh; rw [if_neg (by omega)]; omega
theorem atoms_sh (a : List Q) : ∀ k j, atoms (k + j) a = (atoms j a).map (sh k) := by
  induction a with
  | nil => intro k j; rfl
  | cons p r ih =>
    intro k j
    cases p with
    | R n =>
      show _ ++ atoms (k + j + n) r = List.map (sh k) (_ ++ atoms (j + n) r)
      rw [List.map_append, List.map_map, Nat.add_assoc, ih k (j + n)]
      congr 1
      exact List.map_congr_left fun i _ => by show _ = sh k ((j + i : Nat) : Int); rw [sh_nat]; congr 1; omega
    | I t =>
      show t.map neg ++ atoms (k + j) r = List.map (sh k) (t.map neg ++ atoms j r)
      rw [List.map_append, List.map_map, ih k j]
      congr 1
      exact List.map_congr_left fun b _ => (sh_neg k b).symm
    | D n =>
      show atoms (k + j + n) r = List.map (sh k) (atoms (j + n) r)
      rw [Nat.add_assoc, ih k (j + n)]
theorem atoms_sh0 (k : Nat) (a : List Q) : atoms k a = (atoms 0 a).map (sh k) := atoms_sh a k 0
theorem pick_left {A B : List Int} {x : Int} (h : x < 0 ∨ x.toNat < A.length) : pick (A ++ B) x = pick A x := by
  unfold pick
  split
  · rfl
  · rename_i hn
    rw [List.getD_eq_getElem?_getD, List.getElem?_append_left (h.resolve_left hn), List.getD_eq_getElem?_getD]
theorem pick_right {A B : List Int} {x : Int} : pick (A ++ B) (sh A.length x) = pick B x := by
  unfold pick sh
  by_cases h : x < 0
  · rw [if_pos h, if_pos h, if_pos h]
  · rw [if_neg h, if_neg h, if_neg (by omega), List.getD_eq_getElem?_getD, List.getElem?_append_right (by omega), List.getD_eq_getElem?_getD]
    congr 2; omega
theorem pick_map {B : List Int} {k : Nat} {x : Int} (h : x < 0 ∨ x.toNat < B.length) : pick (B.map (sh k)) x = sh k (pick B x) := by
  by_cases hn : x < 0
  · unfold pick sh; rw [if_pos hn, if_pos hn, if_pos hn]
  · have hl := h.resolve_left hn
    unfold pick
    rw [if_neg hn, if_neg hn, List.getD_eq_getElem?_getD, List.getElem?_map, List.getElem?_eq_getElem hl, List.getD_eq_getElem?_getD, List.getElem?_eq_getElem hl]
    rfl
theorem allPos_app {a b : List Q} (pa : allPos a = true) (pb : allPos b = true) : allPos (a ++ b) = true := by
  unfold allPos at *
  rw [List.all_append, pa, pb]; rfl
/-- Two parts, one after the other. -/
theorem cq_app {p q a b : List Q} (h1 : outL p = inL q) (h2 : outL a = inL b) : cQ (p ++ a) (q ++ b) = nf (cQ p q ++ cQ a b) := by
  have c1 := cq h1
  have c2 := cq h2
  have h : outL (p ++ a) = inL (q ++ b) := by rw [outL_append, inL_append, h1, h2]
  refine (cq_unique h (allPos_app c1.pos c2.pos) (by rw [inL_append, inL_append, c1.inn, c2.inn]) ?_).symm
  have r1 := good_range (good_atoms (inL q) q 0 (by omega))
  have r2 := good_range (good_atoms (inL b) b 0 (by omega))
  rw [atoms_append, c1.ats, Nat.zero_add, c1.inn, atoms_sh0 (inL p) (cQ a b), c2.ats, atoms_append, atoms_append, Nat.zero_add, Nat.zero_add, atoms_sh0 (inL p) a, atoms_sh0 (inL q) b]
  unfold cmpA
  rw [List.map_append, List.map_map, List.map_map]
  congr 1
  · exact List.map_congr_left fun x hx => (pick_left (by rw [atoms_length, h1]; exact r1 x hx)).symm
  · refine List.map_congr_left fun x hx => ?_
    show sh (inL p) (pick (atoms 0 a) x) = pick _ (sh (inL q) x)
    have e : inL q = (atoms 0 p).length := by rw [atoms_length, h1]
    rw [e, pick_right, pick_map (by rw [atoms_length, h2]; exact r2 x hx)]
theorem idQ_pos {n : Nat} (h : 0 < n) : idQ n = [.R n] := if_neg (by omega)
theorem cq_R {m : Nat} {b : List Q} (hm : 0 < m) (hb : inL b = m) (pb : allPos b = true) : cQ [.R m] b = nf b := by
  have := cq_idL b pb
  rwa [hb, idQ_pos hm] at this
theorem pos1 {p : Q} (h : pos p = true) : allPos [p] = true := by unfold allPos; rw [List.all_cons, h]; rfl
/-- One step of the composition: what the heads of both deltas become. -/
theorem step_I {t : List UInt8} {a b : List Q} (ht : pos (.I t) = true) (h : outL a = inL b) : cQ a (.I t :: b) = nf (.I t :: cQ a b) := by
  have e := cq_app (p := []) (q := [.I t]) (a := a) (b := b) rfl h
  have e1 : cQ [] [.I t] = nf [.I t] := cq_idL [.I t] (pos1 ht)
  rw [e1, nf_left] at e
  exact e
theorem step_D {n : Nat} {a b : List Q} (hn : 0 < n) (h : outL a = inL b) : cQ (.D n :: a) b = nf (.D n :: cQ a b) := by
  have e := cq_app (p := [.D n]) (q := []) (a := a) (b := b) rfl h
  have e1 : cQ [.D n] [] = nf [.D n] := cq_idR [.D n] (pos1 (by simpa [pos] using hn))
  rw [e1, nf_left] at e
  exact e
theorem step_RR {n : Nat} {a b : List Q} (hn : 0 < n) (h : outL a = inL b) : cQ (.R n :: a) (.R n :: b) = nf (.R n :: cQ a b) := by
  have e := cq_app (p := [.R n]) (q := [.R n]) (a := a) (b := b) rfl h
  rw [cq_R hn rfl (pos1 (by simpa [pos] using hn)), nf_left] at e
  exact e
theorem step_RD {n : Nat} {a b : List Q} (hn : 0 < n) (h : outL a = inL b) : cQ (.R n :: a) (.D n :: b) = nf (.D n :: cQ a b) := by
  have e := cq_app (p := [.R n]) (q := [.D n]) (a := a) (b := b) rfl h
  rw [cq_R hn rfl (pos1 (by simpa [pos] using hn)), nf_left] at e
  exact e
theorem step_IR {t : List UInt8} {a b : List Q} (ht : pos (.I t) = true) (h : outL a = inL b) : cQ (.I t :: a) (.R t.length :: b) = nf (.I t :: cQ a b) := by
  have e := cq_app (p := [.I t]) (q := [.R t.length]) (a := a) (b := b) rfl h
  have hl : 0 < t.length := by cases t with
    | nil => simp [pos] at ht
    | cons _ _ => simp
  have e1 := cq_idR [.I t] (pos1 ht)
  rw [show outL [.I t] = t.length from rfl, idQ_pos hl] at e1
  rw [e1, nf_left] at e
  exact e
theorem step_ID {t : List UInt8} {a b : List Q} (h : outL a = inL b) : cQ (.I t :: a) (.D t.length :: b) = cQ a b := by
  have e := cq_app (p := [.I t]) (q := [.D t.length]) (a := a) (b := b) rfl h
  have e1 : cQ [.I t] [.D t.length] = [] := rfl
  rw [e1, List.nil_append, nf_of_isN _ (cq h).nrm] at e
  exact e
/-- Cutting a piece in two changes nothing. -/
theorem cut_R (k m n : Nat) (a : List Q) : atoms k (.R (m + n) :: a) = atoms k (.R m :: .R n :: a) := by
  show _ ++ atoms (k + (m + n)) a = _ ++ (_ ++ atoms (k + m + n) a)
  rw [List.range_add, List.map_append, List.map_map, List.append_assoc, Nat.add_assoc]
  congr 2
  exact List.map_congr_left fun i _ => by show ((k + (m + i) : Nat) : Int) = _; congr 1; omega
theorem cut_D (k m n : Nat) (a : List Q) : atoms k (.D (m + n) :: a) = atoms k (.D m :: .D n :: a) := by
  show atoms (k + (m + n)) a = atoms (k + m + n) a
  rw [Nat.add_assoc]
theorem cut_I (k : Nat) (s t : List UInt8) (a : List Q) : atoms k (.I (s ++ t) :: a) = atoms k (.I s :: .I t :: a) := by
  show (s ++ t).map neg ++ _ = _ ++ (_ ++ _)
  rw [List.map_append, List.append_assoc]
theorem cq_cut_aR (m n : Nat) (a b : List Q) : cQ (.R (m + n) :: a) b = cQ (.R m :: .R n :: a) b := cq_congr (Nat.add_assoc m n (inL a)) (cut_R 0 m n a) rfl
theorem cq_cut_aI (s t : List UInt8) (a b : List Q) : cQ (.I (s ++ t) :: a) b = cQ (.I s :: .I t :: a) b := cq_congr (by simp [inL, in1]) (cut_I 0 s t a) rfl
theorem cq_cut_bR (m n : Nat) (a b : List Q) : cQ a (.R (m + n) :: b) = cQ a (.R m :: .R n :: b) := cq_congr rfl rfl (cut_R 0 m n b)
theorem cq_cut_bD (m n : Nat) (a b : List Q) : cQ a (.D (m + n) :: b) = cQ a (.D m :: .D n :: b) := cq_congr rfl rfl (cut_D 0 m n b)
theorem cq_nil : cQ [] [] = [] := rfl
end Go.Proofs.Ytmbgcbgbdjiacaa.D
/- ComposeCount -/
namespace Go.Proofs.Ytmbgcbgbdjiacaa.D

def kN : List Q → Nat
  | [] => 0
  | .R n :: r => n + kN r
  | .I _ :: r => kN r
  | .D _ :: r => kN r
def iN : List Q → Nat
  | [] => 0
  | .R _ :: r => iN r
  | .I t :: r => t.length + iN r
  | .D _ :: r => iN r
def dN : List Q → Nat
  | [] => 0
  | .R _ :: r => dN r
  | .I _ :: r => dN r
  | .D n :: r => n + dN r
theorem inL_kd (a : List Q) : inL a = kN a + dN a := by
  induction a with
  | nil => rfl
  | cons p r ih => cases p <;> simp only [inL, in1, kN, dN, ih] <;> omega
theorem outL_ki (a : List Q) : outL a = kN a + iN a := by
  induction a with
  | nil => rfl
  | cons p r ih => cases p <;> simp only [outL, out1, kN, iN, ih] <;> omega
def kept (x : Int) : Bool := decide (0 ≤ x)
theorem count_negs (t : List UInt8) : (t.map neg).countP kept = 0 := by
  rw [List.countP_eq_zero]
  intro x hx
  obtain ⟨b, _, rfl⟩ := List.mem_map.1 hx
  have := neg_lt b
  simp [kept]; omega
theorem count_nats (n : Nat) (f : Nat → Nat) : ((List.range n).map fun i => ((f i : Nat) : Int)).countP kept = n := by
  rw [List.countP_eq_length.2, List.length_map, List.length_range]
  intro x hx
  obtain ⟨i, _, rfl⟩ := List.mem_map.1 hx
  simp [kept]
theorem kN_atoms (a : List Q) : ∀ k, (atoms k a).countP kept = kN a := by
  induction a with
  | nil => intro k; rfl
  | cons p r ih =>
    intro k
    cases p with
    | R n =>
      show (_ ++ atoms (k + n) r).countP kept = _
      rw [List.countP_append, ih, count_nats n fun i => k + i]; rfl
    | I t =>
      show (t.map neg ++ atoms k r).countP kept = _
      rw [List.countP_append, ih, count_negs, Nat.zero_add]; rfl
    | D n => exact ih (k + n)
/-- Places of the second delta whose entry in the first one has a property: at most as many as such entries. -/
theorem count_pick (p : Int → Bool) {n : Nat} {M : List Int} (hn : n ≤ M.length) (L : List Int) : ∀ k, k ≤ n → good n k L → L.countP (fun x => kept x && p (pick M x)) ≤ (M.drop k).countP p := by
  induction L with
  | nil => intro k _ _; exact Nat.zero_le _
  | cons x r ih =>
    intro k hk h
    rcases h with ⟨⟨b, rfl⟩, h2⟩ | ⟨i, rfl, h1, h2, h3⟩
    · rw [List.countP_cons]
      have e : (kept (neg b) && p (pick M (neg b))) = false := by
        have := neg_lt b
        have e : kept (neg b) = false := by simp [kept]; omega
        rw [e]; rfl
      rw [e]
      have := ih k hk h2
      simpa using this
    · have g := ih (i + 1) (by omega) h3
      have e1 : M.drop k = (M.drop k).take (i - k) ++ M.getD i 0 :: M.drop (i + 1) := by
        conv => lhs; rw [← List.take_append_drop (i - k) (M.drop k)]
        congr 1
        rw [List.drop_drop, show k + (i - k) = i by omega, List.drop_eq_getElem_cons (by omega), List.getD_eq_getElem?_getD, List.getElem?_eq_getElem (by omega)]
        rfl
      rw [e1, List.countP_append, List.countP_cons, List.countP_cons, pick_nat]
      have e2 : kept ((i : Nat) : Int) = true := by simp [kept]
      rw [e2, Bool.true_and]
      omega
theorem countP_split (p q : Int → Bool) (L : List Int) : L.countP p = L.countP (fun x => p x && q x) + L.countP (fun x => p x && !q x) := by
  induction L with
  | nil => rfl
  | cons x r ih => simp only [List.countP_cons, ih]; cases p x <;> cases q x <;> simp <;> omega
theorem pick_keeps {M : List Int} {x : Int} (h : kept (pick M x) = true) : kept x = true := by
  unfold pick at h
  split at h
  · exact h
  · rename_i hn; simp [kept]; omega
theorem kN_cq {a b : List Q} (h : outL a = inL b) : kN (cQ a b) = (atoms 0 b).countP (fun x => kept x && kept (pick (atoms 0 a) x)) := by
  rw [← kN_atoms _ 0, (cq h).ats]
  unfold cmpA
  rw [List.countP_map]
  refine List.countP_congr fun x _ => ?_
  show kept (pick (atoms 0 a) x) = true ↔ _
  rw [Bool.and_eq_true]
  exact ⟨fun q => ⟨pick_keeps q, q⟩, fun q => q.2⟩
/-- How much a composition keeps, inserts and removes. -/
theorem cq_counts {a b : List Q} (h : outL a = inL b) : kN (cQ a b) ≤ kN a ∧ kN (cQ a b) ≤ kN b ∧ iN (cQ a b) ≤ iN a + iN b ∧ dN (cQ a b) ≤ dN a + dN b ∧ kN (cQ a b) + dN (cQ a b) = kN a + dN a ∧ kN (cQ a b) + iN (cQ a b) = kN b + iN b := by
  have q := cq h
  have hg := good_atoms (inL b) b 0 (by omega)
  have hl : inL b ≤ (atoms 0 a).length := by rw [atoms_length, h]; exact Nat.le_refl _
  have c1 := count_pick kept hl (atoms 0 b) 0 (Nat.zero_le _) hg
  have c2 := count_pick (fun x => !kept x) hl (atoms 0 b) 0 (Nat.zero_le _) hg
  have c3 := countP_split kept (fun x => kept (pick (atoms 0 a) x)) (atoms 0 b)
  have c4 := countP_split (fun _ => true) kept (atoms 0 a)
  rw [List.drop_zero] at c1 c2
  rw [← kN_cq h, kN_atoms] at c1
  rw [← kN_cq h, kN_atoms] at c3
  have c5 : (atoms 0 a).countP (fun _ => true) = outL a := by rw [List.countP_eq_length.2 (fun _ _ => rfl), atoms_length]
  have c6 : (atoms 0 a).countP (fun x => true && kept x) = kN a := by rw [← kN_atoms a 0]; congr 1
  have c7 : (atoms 0 a).countP (fun x => true && !kept x) = (atoms 0 a).countP (fun x => !kept x) := by congr 1
  rw [c5, c6, c7] at c4
  have i1 := inL_kd a
  have i2 := inL_kd b
  have i3 := inL_kd (cQ a b)
  have o1 := outL_ki a
  have o2 := outL_ki b
  have o3 := outL_ki (cQ a b)
  have e1 := q.inn
  have e2 := q.out
  omega
/-! ### A delta and its inverse -/
theorem kN_inv (a : List Q) : ∀ s : List UInt8, inL a = s.length → kN (inv s a) = kN a := by
  induction a with
  | nil => intro s _; rfl
  | cons p r ih =>
    intro s h
    cases p with
    | R n => show n + kN (inv (s.drop n) r) = n + kN r; rw [ih _ (by have : n + inL r = s.length := h; rw [List.length_drop]; omega)]
    | I t => exact ih s (by have : 0 + inL r = s.length := h; omega)
    | D n => exact ih _ (by have : n + inL r = s.length := h; rw [List.length_drop]; omega)
theorem gone_len (a : List Q) : ∀ s : List UInt8, inL a = s.length → (gone s a).length = dN a := by
  induction a with
  | nil => intro s _; rfl
  | cons p r ih =>
    intro s h
    cases p with
    | R n => exact ih _ (by have : n + inL r = s.length := h; rw [List.length_drop]; omega)
    | I t => exact ih s (by have : 0 + inL r = s.length := h; omega)
    | D n =>
      have h : n + inL r = s.length := h
      show (s.take n ++ gone (s.drop n) r).length = n + dN r
      rw [List.length_append, ih _ (by rw [List.length_drop]; omega), List.length_take]; omega
theorem idQ_kN (n : Nat) : kN (idQ n) = n := by
  unfold idQ
  split
  · rename_i h; exact h.symm
  · rfl
/-- What is kept of a delta and its inverse: what the delta keeps. -/
theorem cq_inv_at {S : List UInt8} {a : List Q} (h : inL a = S.length) : atoms 0 (cQ a (inv S a)) = (List.range S.length).map fun j => if ((j : Nat) : Int) ∈ atoms 0 a then ((j : Nat) : Int) else neg (S.getD j 0) := by
  have h1 : outL a = inL (inv S a) := (inL_inv a S h).symm
  rw [(cq h1).ats, atoms_inv0 S a h]
  unfold cmpA invA
  rw [List.map_map]
  refine List.map_congr_left fun j _ => ?_
  show pick _ (invAt S (atoms 0 a) j) = _
  unfold invAt
  split
  · rename_i hm
    rw [pick_nat]
    have hl := List.idxOf_lt_length_iff.2 hm
    rw [List.getD_eq_getElem?_getD, List.getElem?_eq_getElem hl, List.getElem_idxOf]; rfl
  · exact pick_neg _ _
theorem cq_inv_id {S : List UInt8} {a : List Q} (h : inL a = S.length) : cQ a (inv S a) = idQ S.length ↔ dN a = 0 := by
  have h1 : outL a = inL (inv S a) := (inL_inv a S h).symm
  have hi := idQ_in S.length
  have q := cq h1
  have ea := atoms_inv0 S a h
  have kc : (atoms 0 (inv S a)).countP kept = kN a := by rw [kN_atoms, kN_inv a S h]
  have lc : (atoms 0 (inv S a)).length = S.length := by rw [atoms_length, outL_inv a S h, h]
  have i1 := inL_kd a
  have mem : ∀ j, j < S.length → (((j : Nat) : Int) ∈ atoms 0 a ↔ kept (invAt S (atoms 0 a) j) = true) := fun j _ => by
    unfold invAt
    split
    · rename_i hm; simp [hm, kept]
    · rename_i hm
      have := neg_lt (S.getD j 0)
      have e : kept (neg (S.getD j 0)) = false := by simp only [kept, decide_eq_false_iff_not]; omega
      rw [e]; simp [hm]
  constructor
  · intro e
    have e1 := cq_inv_at h
    rw [e, idQ_atoms] at e1
    have all : ∀ x ∈ atoms 0 (inv S a), kept x = true := fun x hx => by
      rw [ea] at hx
      obtain ⟨j, hj, rfl⟩ := List.mem_map.1 hx
      have hj := List.mem_range.1 hj
      refine (mem j hj).1 (Classical.byContradiction fun hn => ?_)
      have e2 := congrArg (fun L : List Int => L.getD j 0) e1
      rw [range_getD _ _ hj, List.getD_eq_getElem?_getD, List.getElem?_map, List.getElem?_range hj] at e2
      have e3 : ((j : Nat) : Int) = if ((j : Nat) : Int) ∈ atoms 0 a then ((j : Nat) : Int) else neg (S.getD j 0) := e2
      rw [if_neg hn] at e3
      have := neg_lt (S.getD j 0)
      omega
    have := List.countP_eq_length.2 all
    omega
  · intro e
    have all : ∀ x ∈ atoms 0 (inv S a), kept x = true := List.countP_eq_length.1 (by omega)
    rw [← nf_of_isN _ hi.2.2.2]
    refine (cq_unique h1 hi.2.2.1 (by rw [hi.1, h]) ?_).symm
    rw [idQ_atoms, ← q.ats, cq_inv_at h]
    refine List.map_congr_left fun j hj => ?_
    have hj := List.mem_range.1 hj
    rw [if_pos ((mem j hj).2 (all _ (by rw [ea]; exact List.mem_map.2 ⟨j, List.mem_range.2 hj, rfl⟩)))]
theorem apl_cq_inv {S : List UInt8} {a : List Q} (h : inL a = S.length) : apl S (cQ a (inv S a)) = S := by
  rw [apl_cq h (inL_inv a S h).symm, apl_inv a S h]
/-! ### Several deltas -/
/-- Does each delta of a list follow the one before? -/
def chain (n : Nat) : List (List Q) → Prop
  | [] => True
  | a :: r => inL a = n ∧ chain (outL a) r
/-- All of them, one after another. -/
def allQ (d : List Q) (L : List (List Q)) : List Q := L.foldl cQ d
theorem allQ_out {d : List Q} {L : List (List Q)} (h : chain (outL d) L) : outL (allQ d L) = (L.getLast?.map outL).getD (outL d) ∧ inL (allQ d L) = inL d := by
  induction L generalizing d with
  | nil => exact ⟨rfl, rfl⟩
  | cons a r ih =>
    obtain ⟨h1, h2⟩ := h
    have q := cq h1.symm
    have := ih (d := cQ d a) (by rw [q.out]; exact h2)
    refine ⟨?_, by show inL (allQ (cQ d a) r) = _; rw [this.2, q.inn]⟩
    show outL (allQ (cQ d a) r) = _
    rw [this.1, q.out]
    cases r with
    | nil => rfl
    | cons b r => rw [List.getLast?_cons_cons]; cases hq : (b :: r).getLast? with
      | none => simp at hq
      | some c => rfl
theorem allQ_cq {d e : List Q} {L : List (List Q)} (h1 : outL d = inL e) (h2 : chain (outL e) L) : allQ (cQ d e) L = cQ d (allQ e L) := by
  induction L generalizing e with
  | nil => rfl
  | cons a r ih =>
    obtain ⟨h3, h4⟩ := h2
    show allQ (cQ (cQ d e) a) r = cQ d (allQ (cQ e a) r)
    rw [cq_assoc h1 h3.symm]
    exact ih (by rw [(cq h3.symm).inn, h1]) (by rw [(cq h3.symm).out]; exact h4)
/-- All of several deltas is the composition of the first ones and all of the rest. -/
theorem allQ_fold {d : List Q} {L : List (List Q)} (pd : allPos d = true) (hn : isN d = true) (h : chain (outL d) L) : allQ d L = cQ d (allQ (idQ (outL d)) L) := by
  have hi := idQ_in (outL d)
  have e := allQ_cq (d := d) (e := idQ (outL d)) (L := L) hi.1.symm (by rw [hi.2.1]; exact h)
  rw [cq_idR d pd, nf_of_isN d hn] at e
  exact e
end Go.Proofs.Ytmbgcbgbdjiacaa.D
/- DeltaRaw -/
namespace Go.Proofs.Ytmbgcbgbdjiacaa.D

/-- A piece as it comes: its kind, its number, its text. -/
structure P where
  k : Int
  n : Int
  t : ByteArray
def most : Int := 1048576
def vP (p : P) : Bool :=
  if p.k = 2 then decide (p.n = 0) && decide (p.t.size ≠ 0) else (decide (p.k = 1) || decide (p.k = 3)) && decide (1 ≤ p.n) && decide (p.t.size = 0)
/-- The error of the pieces, what they consumed and produced so far being i and o. -/
def chkF : Int → Int → List P → Int
  | _, _, [] => 0
  | i, o, p :: r =>
    if vP p = false then 2
    else if p.k ≠ 2 ∧ most - i < p.n then 5
    else if (p.k = 1 ∧ most - o < p.n) ∨ most - o < (p.t.size : Int) then 5
    else chkF (if p.k = 2 then i else i + p.n) ((if p.k = 1 then o + p.n else o) + (p.t.size : Int)) r
def chk (l : List P) : Int := if 4096 < l.length then 5 else chkF 0 0 l
/-- What pieces consume and produce. -/
def inP : List P → Int
  | [] => 0
  | p :: r => p.n + inP r
def outP : List P → Int
  | [] => 0
  | p :: r => (if p.k = 1 then p.n else 0) + (p.t.size : Int) + outP r

/-! ### Valid pieces -/
def raw : Q → P
  | .R n => ⟨1, n, ⟨#[]⟩⟩
  | .I t => ⟨2, 0, ⟨t.toArray⟩⟩
  | .D n => ⟨3, n, ⟨#[]⟩⟩
theorem bytes_eq (t : ByteArray) : (⟨t.data.toList.toArray⟩ : ByteArray) = t := by cases t; simp
theorem empty_of_size {t : ByteArray} (h : t.size = 0) : t = ⟨#[]⟩ := by
  apply ByteArray.ext
  exact Array.eq_empty_of_size_eq_zero h
theorem size_e : (⟨#[]⟩ : ByteArray).size = 0 := rfl
theorem size_l (t : List UInt8) : (⟨t.toArray⟩ : ByteArray).size = t.length := by show t.toArray.size = _; simp
theorem vP_two {n : Int} {t : ByteArray} : vP ⟨2, n, t⟩ = (decide (n = 0) && decide (t.size ≠ 0)) := by unfold vP; rw [if_pos rfl]
theorem vP_else {k n : Int} {t : ByteArray} (h : k ≠ 2) : vP ⟨k, n, t⟩ = ((decide (k = 1) || decide (k = 3)) && decide (1 ≤ n) && decide (t.size = 0)) := by unfold vP; rw [if_neg h]
/-- The three forms of a valid piece. -/
theorem vP_forms {p : P} (h : vP p = true) : (∃ n : Nat, 0 < n ∧ p = ⟨1, n, ⟨#[]⟩⟩) ∨ (∃ t : ByteArray, 0 < t.size ∧ p = ⟨2, 0, t⟩) ∨ (∃ n : Nat, 0 < n ∧ p = ⟨3, n, ⟨#[]⟩⟩) := by
  obtain ⟨k, n, t⟩ := p
  by_cases hk : k = 2
  · subst hk
    rw [vP_two] at h
    simp only [Bool.and_eq_true, decide_eq_true_eq] at h
    exact .inr (.inl ⟨t, by omega, by rw [h.1]⟩)
  · rw [vP_else hk] at h
    simp only [Bool.and_eq_true, Bool.or_eq_true, decide_eq_true_eq] at h
    obtain ⟨⟨h1, h2⟩, h3⟩ := h
    have ht : t = ⟨#[]⟩ := empty_of_size h3
    have hn : ((n.toNat : Nat) : Int) = n := by omega
    rcases h1 with rfl | rfl
    · exact .inl ⟨n.toNat, by omega, by rw [ht, hn]⟩
    · exact .inr (.inr ⟨n.toNat, by omega, by rw [ht, hn]⟩)
theorem raw_of_vP {p : P} (h : vP p = true) : ∃ q, pos q = true ∧ raw q = p := by
  rcases vP_forms h with ⟨n, hn, rfl⟩ | ⟨t, ht, rfl⟩ | ⟨n, hn, rfl⟩
  · exact ⟨.R n, by simpa [pos] using hn, rfl⟩
  · refine ⟨.I t.data.toList, ?_, ?_⟩
    · cases hd : t.data.toList with
      | nil =>
        have : t.data.toList.length = t.size := by simp
        rw [hd] at this; simp at this; omega
      | cons a r => rfl
    · show (⟨2, 0, ⟨t.data.toList.toArray⟩⟩ : P) = _
      rw [bytes_eq]
  · exact ⟨.D n, by simpa [pos] using hn, rfl⟩
theorem vP_raw {q : Q} (h : pos q = true) : vP (raw q) = true := by
  cases q with
  | R n =>
    simp only [pos, decide_eq_true_eq] at h
    rw [raw, vP_else (by omega), size_e, decide_eq_true (show (1 : Int) ≤ n by omega)]; rfl
  | D n =>
    simp only [pos, decide_eq_true_eq] at h
    rw [raw, vP_else (by omega), size_e, decide_eq_true (show (1 : Int) ≤ n by omega)]; rfl
  | I t =>
    cases t with
    | nil => simp [pos] at h
    | cons b t => rw [raw, vP_two, size_l, decide_eq_true (show (b :: t).length ≠ 0 by simp)]; rfl
theorem raw_inj {p q : Q} (h : raw p = raw q) : p = q := by
  cases p <;> cases q <;> simp [raw] at h
  all_goals (first | (subst h; rfl) | (have := Int.ofNat_inj.1 h; subst this; rfl))
theorem map_raw_inj : ∀ {a b : List Q}, a.map raw = b.map raw → a = b
  | [], [], _ => rfl
  | [], _ :: _, h => by simp at h
  | _ :: _, [], h => by simp at h
  | p :: a, q :: b, h => by
    simp only [List.map_cons, List.cons.injEq] at h
    rw [raw_inj h.1, map_raw_inj h.2]
theorem valid_raw (l : List P) (h : ∀ p ∈ l, vP p = true) : ∃ a, allPos a = true ∧ a.map raw = l := by
  induction l with
  | nil => exact ⟨[], rfl, rfl⟩
  | cons p l ih =>
    obtain ⟨q, hq, rfl⟩ := raw_of_vP (h p (List.mem_cons_self))
    obtain ⟨a, ha, rfl⟩ := ih (fun x hx => h x (List.mem_cons_of_mem _ hx))
    exact ⟨q :: a, by unfold allPos at *; simp [hq, ha], rfl⟩
theorem inP_raw (a : List Q) : inP (a.map raw) = (inL a : Int) := by
  induction a with
  | nil => rfl
  | cons q a ih => cases q <;> simp [inP, inL, in1, raw, ih]
theorem outP_raw (a : List Q) : outP (a.map raw) = (outL a : Int) := by
  induction a with
  | nil => rfl
  | cons q a ih => cases q <;> simp [outP, outL, out1, raw, ih, size_l]
theorem chkF_bad (i o : Int) (p : P) (r : List P) (h : vP p = false) : chkF i o (p :: r) = 2 := by rw [chkF, if_pos h]
theorem chkF_R (i o : Int) (n : Nat) (r : List P) (hn : 0 < n) (ho : o ≤ most) : chkF i o (⟨1, n, ⟨#[]⟩⟩ :: r) = if most - i < n then 5 else if most - o < n then 5 else chkF (i + n) (o + n) r := by
  have hv : ¬ vP ⟨1, (n : Int), ⟨#[]⟩⟩ = false := by rw [show vP ⟨1, (n : Int), ⟨#[]⟩⟩ = true from vP_raw (q := .R n) (by simpa [pos] using hn)]; simp
  rw [chkF, if_neg hv]
  by_cases c1 : most - i < (n : Int)
  · rw [if_pos ⟨show (1 : Int) ≠ 2 by decide, c1⟩, if_pos c1]
  · rw [if_neg (fun h => c1 h.2), if_neg c1]
    by_cases c2 : most - o < (n : Int)
    · rw [if_pos (.inl ⟨rfl, c2⟩), if_pos c2]
    · rw [if_neg (by rintro (⟨_, h⟩ | h); · exact c2 h
                     · rw [size_e] at h; omega), if_neg c2]
      show chkF (i + n) (o + n + ((⟨#[]⟩ : ByteArray).size : Int)) r = _
      rw [size_e]; simp
theorem chkF_I (i o : Int) (t : ByteArray) (r : List P) (ht : 0 < t.size) : chkF i o (⟨2, 0, t⟩ :: r) = if most - o < (t.size : Int) then 5 else chkF i (o + t.size) r := by
  have hv : ¬ vP ⟨2, 0, t⟩ = false := by rw [vP_two, decide_eq_true (show t.size ≠ 0 by omega)]; simp
  rw [chkF, if_neg hv, if_neg (fun h => h.1 rfl)]
  by_cases c2 : most - o < (t.size : Int)
  · rw [if_pos (.inr c2), if_pos c2]
  · rw [if_neg (by rintro (⟨h, _⟩ | h); · exact absurd (show (2 : Int) = 1 from h) (by decide)
                   · exact c2 h), if_neg c2]
    rfl
theorem chkF_D (i o : Int) (n : Nat) (r : List P) (hn : 0 < n) (ho : o ≤ most) : chkF i o (⟨3, n, ⟨#[]⟩⟩ :: r) = if most - i < n then 5 else chkF (i + n) o r := by
  have hv : ¬ vP ⟨3, (n : Int), ⟨#[]⟩⟩ = false := by rw [show vP ⟨3, (n : Int), ⟨#[]⟩⟩ = true from vP_raw (q := .D n) (by simpa [pos] using hn)]; simp
  rw [chkF, if_neg hv]
  by_cases c1 : most - i < (n : Int)
  · rw [if_pos ⟨show (3 : Int) ≠ 2 by decide, c1⟩, if_pos c1]
  · rw [if_neg (fun h => c1 h.2), if_neg c1, if_neg (by rintro (⟨h, _⟩ | h); · exact absurd (show (3 : Int) = 1 from h) (by decide)
                                                        · rw [size_e] at h; omega)]
    show chkF (i + n) (o + ((⟨#[]⟩ : ByteArray).size : Int)) r = _
    rw [size_e]; simp
/-- What makes a check succeed. -/
theorem chkF_ok (a : List Q) (pa : allPos a = true) : ∀ i o : Int, 0 ≤ i → i ≤ most → 0 ≤ o → o ≤ most → (chkF i o (a.map raw) = 0 ↔ i + inL a ≤ most ∧ o + outL a ≤ most) := by
  induction a with
  | nil => intro i o _ _ _ _; simp [chkF, inL, outL]; omega
  | cons q a ih =>
    intro i o h1 h2 h3 h4
    unfold allPos at pa
    simp only [List.all_cons, Bool.and_eq_true] at pa
    have ih' := ih pa.2
    cases q with
    | R n =>
      have hn : 0 < n := by simpa [pos] using pa.1
      rw [List.map_cons, raw, chkF_R i o n _ hn h4]
      simp only [inL, in1, outL, out1]
      by_cases c1 : most - i < (n : Int)
      · rw [if_pos c1]; simp; omega
      · rw [if_neg c1]
        by_cases c2 : most - o < (n : Int)
        · rw [if_pos c2]; simp; omega
        · rw [if_neg c2, ih' (i + n) (o + n) (by omega) (by omega) (by omega) (by omega)]; omega
    | I t =>
      have ht : 0 < t.length := by cases t with
        | nil => simp [pos] at pa
        | cons => simp
      rw [List.map_cons, raw, chkF_I i o _ _ (by rw [size_l]; exact ht), size_l]
      simp only [inL, in1, outL, out1]
      by_cases c2 : most - o < (t.length : Int)
      · rw [if_pos c2]; simp; omega
      · rw [if_neg c2, ih' i (o + t.length) (by omega) (by omega) (by omega) (by omega)]; omega
    | D n =>
      have hn : 0 < n := by simpa [pos] using pa.1
      rw [List.map_cons, raw, chkF_D i o n _ hn h4]
      simp only [inL, in1, outL, out1]
      by_cases c1 : most - i < (n : Int)
      · rw [if_pos c1]; simp; omega
      · rw [if_neg c1, ih' (i + n) o (by omega) (by omega) (by omega) (by omega)]; omega
theorem chkF_valid : ∀ (l : List P) (i o : Int), chkF i o l = 0 → ∀ p ∈ l, vP p = true
  | [], _, _, _, p, hp => by cases hp
  | q :: r, i, o, h, p, hp => by
    unfold chkF at h
    by_cases hv : vP q = false
    · simp [hv] at h
    · rw [if_neg hv] at h
      by_cases c1 : q.k ≠ 2 ∧ most - i < q.n
      · rw [if_pos c1] at h; cases h
      · rw [if_neg c1] at h
        by_cases c2 : (q.k = 1 ∧ most - o < q.n) ∨ most - o < (q.t.size : Int)
        · rw [if_pos c2] at h; cases h
        · rw [if_neg c2] at h
          rcases List.mem_cons.1 hp with rfl | hp
          · simpa using hv
          · exact chkF_valid r _ _ h p hp
/-- A delta is valid exactly if it is a list of valid pieces that are not too many and not too long. -/
theorem chk_iff (l : List P) : chk l = 0 ↔ ∃ a : List Q, allPos a = true ∧ a.map raw = l ∧ a.length ≤ 4096 ∧ inL a ≤ 1048576 ∧ outL a ≤ 1048576 := by
  unfold chk
  constructor
  · intro h
    by_cases hl : 4096 < l.length
    · rw [if_pos hl] at h; cases h
    · rw [if_neg hl] at h
      obtain ⟨a, pa, rfl⟩ := valid_raw l (chkF_valid l 0 0 h)
      have := (chkF_ok a pa 0 0 (by omega) (by unfold most; omega) (by omega) (by unfold most; omega)).1 h
      unfold most at this
      simp at hl
      exact ⟨a, pa, rfl, hl, by omega, by omega⟩
  · rintro ⟨a, pa, rfl, hl, hi, ho⟩
    rw [if_neg (by simp; omega)]
    exact (chkF_ok a pa 0 0 (by omega) (by unfold most; omega) (by omega) (by unfold most; omega)).2 ⟨by unfold most; omega, by unfold most; omega⟩
theorem chk_cases (l : List P) : chk l = 0 ∨ chk l = 2 ∨ chk l = 5 := by
  have key : ∀ (l : List P) (i o : Int), chkF i o l = 0 ∨ chkF i o l = 2 ∨ chkF i o l = 5 := by
    intro l
    induction l with
    | nil => intro i o; exact .inl rfl
    | cons p r ih =>
      intro i o
      unfold chkF
      split
      · exact .inr (.inl rfl)
      · split
        · exact .inr (.inr rfl)
        · split
          · exact .inr (.inr rfl)
          · exact ih _ _
  unfold chk
  split
  · exact .inr (.inr rfl)
  · exact key l 0 0
/-! ### Sizes of a beginning -/
theorem inP_snoc (l : List P) (k : Nat) (p : P) (h : l[k]? = some p) : inP (l.take (k + 1)) = inP (l.take k) + p.n := by
  have key : ∀ (a : List P) (p : P), inP (a ++ [p]) = inP a + p.n := by
    intro a p
    induction a with
    | nil => simp [inP]
    | cons q a ih => simp only [List.cons_append, inP, ih]; omega
  obtain ⟨hk, e⟩ := List.getElem?_eq_some_iff.1 h
  rw [List.take_succ_eq_append_getElem hk, e, key]
theorem outP_snoc (l : List P) (k : Nat) (p : P) (h : l[k]? = some p) : outP (l.take (k + 1)) = outP (l.take k) + (p.t.size : Int) + (if p.k = 1 then p.n else 0) := by
  have key : ∀ (a : List P) (p : P), outP (a ++ [p]) = outP a + (p.t.size : Int) + (if p.k = 1 then p.n else 0) := by
    intro a p
    induction a with
    | nil => simp only [List.nil_append, outP]; omega
    | cons q a ih => simp only [List.cons_append, outP, ih]; omega
  obtain ⟨hk, e⟩ := List.getElem?_eq_some_iff.1 h
  rw [List.take_succ_eq_append_getElem hk, e, key]
theorem sizes_bd (l : List P) (h : chk l = 0) (k : Nat) : 0 ≤ inP (l.take k) ∧ inP (l.take k) ≤ 1048576 ∧ 0 ≤ outP (l.take k) ∧ outP (l.take k) ≤ 1048576 := by
  obtain ⟨a, pa, rfl, _, hi, ho⟩ := (chk_iff l).1 h
  rw [← List.map_take, inP_raw, outP_raw]
  have e := List.take_append_drop k a
  have h1 : inL a = inL (a.take k) + inL (a.drop k) := by rw [← inL_append, e]
  have h2 : outL a = outL (a.take k) + outL (a.drop k) := by rw [← outL_append, e]
  omega
theorem piece_of_chk {l : List P} (h : chk l = 0) {k : Nat} {p : P} (hp : l[k]? = some p) : vP p = true := by
  unfold chk at h
  split at h
  · cases h
  · exact chkF_valid l 0 0 h p (List.mem_of_getElem? hp)
/-! ### The same pieces -/
def peq (p q : P) : Bool := p.k == q.k && p.n == q.n && p.t.data.toList == q.t.data.toList
theorem peq_iff (p q : P) : peq p q = true ↔ p = q := by
  obtain ⟨k, n, t⟩ := p
  obtain ⟨k', n', t'⟩ := q
  simp only [peq, Bool.and_eq_true, beq_iff_eq, P.mk.injEq, and_assoc]
  constructor
  · rintro ⟨h1, h2, h3⟩
    refine ⟨h1, h2, ?_⟩
    exact ByteArray.ext (Array.toList_inj.1 h3)
  · rintro ⟨h1, h2, h3⟩; exact ⟨h1, h2, by rw [h3]⟩
/-- Do the pieces agree from the k-th on? -/
def same : List P → List P → Bool
  | [], [] => true
  | p :: a, q :: b => peq p q && same a b
  | _, _ => false
theorem same_iff : ∀ (a b : List P), same a b = true ↔ a = b
  | [], [] => by simp [same]
  | [], _ :: _ => by simp [same]
  | _ :: _, [] => by simp [same]
  | p :: a, q :: b => by simp only [same, Bool.and_eq_true, peq_iff, same_iff a b, List.cons.injEq]
theorem same_len {a b : List P} (h : a.length ≠ b.length) : same a b = false := by
  rw [Bool.eq_false_iff]; intro e; exact h (by rw [(same_iff a b).1 e])
end Go.Proofs.Ytmbgcbgbdjiacaa.D
/- DeltaForm -/
namespace Go.Proofs.Ytmbgcbgbdjiacaa.D

def isR : Q → Bool
  | .R _ => true
  | _ => false
def txt1 : Q → List UInt8
  | .I t => t
  | _ => []
def del1 : Q → Nat
  | .D n => n
  | _ => 0
def ret1 : Q → Nat
  | .R n => n
  | _ => 0
def txt (g : List Q) : List UInt8 := (g.map txt1).flatten
def del (g : List Q) : Nat := (g.map del1).sum
def ret (g : List Q) : Nat := (g.map ret1).sum
def optI (t : List UInt8) (x : List Q) : List Q := if t = [] then x else pI t x
def optD (n : Nat) (x : List Q) : List Q := if n = 0 then x else pD n x
def optR (n : Nat) (x : List Q) : List Q := if n = 0 then x else pR n x
theorem pI_optI (s t : List UInt8) (x : List Q) (hs : s ≠ []) : pI s (optI t x) = optI (s ++ t) x := by
  have h2 : s ++ t ≠ [] := fun e => hs (List.append_eq_nil_iff.1 e).1
  by_cases ht : t = []
  · subst ht; rw [List.append_nil]; simp [optI, hs]
  · simp only [optI, ht, h2, if_false]; rw [pI_pI]
theorem pD_optD (n m : Nat) (x : List Q) (hn : 0 < n) : pD n (optD m x) = optD (n + m) x := by
  unfold optD
  rw [if_neg (show ¬ n + m = 0 by omega)]
  split
  · rename_i h; rw [h]; rfl
  · rw [pD_pD]
theorem pR_optR (n m : Nat) (x : List Q) (hn : 0 < n) : pR n (optR m x) = optR (n + m) x := by
  unfold optR
  rw [if_neg (show ¬ n + m = 0 by omega)]
  split
  · rename_i h; rw [h]; rfl
  · rw [pR_pR]
theorem pD_optI (n : Nat) (t : List UInt8) (x : List Q) : pD n (optI t x) = optI t (pD n x) := by
  unfold optI
  split
  · rfl
  · rw [pD_pI]
theorem ap_gap (g x : List Q) (hg : ∀ q ∈ g, isR q = false) (hp : allPos g = true) : ap g x = optI (txt g) (optD (del g) x) := by
  induction g with
  | nil => rfl
  | cons q g ih =>
    unfold allPos at hp
    simp only [List.all_cons, Bool.and_eq_true] at hp
    rw [ap_cons, ih (fun y hy => hg y (List.mem_cons_of_mem _ hy)) hp.2]
    cases q with
    | R n => have := hg _ (List.mem_cons_self); simp [isR] at this
    | I t =>
      have ht : t ≠ [] := by intro e; subst e; simp [pos] at hp
      show pI t (optI (txt g) _) = optI (t ++ txt g) (optD (0 + del g) x)
      rw [pI_optI _ _ _ ht, Nat.zero_add]
    | D n =>
      have hn : 0 < n := by simpa [pos] using hp.1
      show pD n (optI (txt g) _) = optI ([] ++ txt g) (optD (n + del g) x)
      rw [pD_optI, pD_optD _ _ _ hn, List.nil_append]
theorem ap_run (g x : List Q) (hg : ∀ q ∈ g, isR q = true) (hp : allPos g = true) : ap g x = optR (ret g) x := by
  induction g with
  | nil => rfl
  | cons q g ih =>
    unfold allPos at hp
    simp only [List.all_cons, Bool.and_eq_true] at hp
    rw [ap_cons, ih (fun y hy => hg y (List.mem_cons_of_mem _ hy)) hp.2]
    cases q with
    | I n => have := hg _ (List.mem_cons_self); simp [isR] at this
    | D n => have := hg _ (List.mem_cons_self); simp [isR] at this
    | R n =>
      have hn : 0 < n := by simpa [pos] using hp.1
      show pR n (optR (ret g) x) = optR (n + ret g) x
      rw [pR_optR _ _ _ hn]
/-- The pieces from k up to j. -/
def seg (a : List Q) (k j : Nat) : List Q := (a.take j).drop k
theorem seg_self (a : List Q) (k : Nat) : seg a k k = [] := by unfold seg; rw [List.drop_eq_nil_iff]; simp; omega
theorem seg_snoc (a : List Q) (k j : Nat) (q : Q) (h : a[j]? = some q) (hk : k ≤ j) : seg a k (j + 1) = seg a k j ++ [q] := by
  obtain ⟨hj, e⟩ := List.getElem?_eq_some_iff.1 h
  unfold seg
  rw [List.take_succ_eq_append_getElem hj, e, List.drop_append_of_le_length (by simp; omega)]
theorem seg_drop (a : List Q) (k j : Nat) (hk : k ≤ j) : a.drop k = seg a k j ++ a.drop j := by
  unfold seg
  have h := List.take_append_drop j a
  by_cases hj : j ≤ a.length
  · calc a.drop k = ((a.take j) ++ a.drop j).drop k := by rw [h]
      _ = _ := by rw [List.drop_append_of_le_length (by simp; omega)]
  · rw [List.take_of_length_le (by omega), List.drop_eq_nil_iff.2 (show a.length ≤ j by omega), List.append_nil]
theorem txt_snoc (g : List Q) (q : Q) : txt (g ++ [q]) = txt g ++ txt1 q := by simp [txt]
theorem del_snoc (g : List Q) (q : Q) : del (g ++ [q]) = del g + del1 q := by simp [del]
theorem ret_snoc (g : List Q) (q : Q) : ret (g ++ [q]) = ret g + ret1 q := by simp [ret]
theorem allPos_seg {a : List Q} (h : allPos a = true) (k j : Nat) : allPos (seg a k j) = true := by
  unfold allPos seg at *
  rw [List.all_eq_true] at *
  exact fun x hx => h x (List.mem_of_mem_take (List.mem_of_mem_drop hx))
theorem allPos_drop {a : List Q} (h : allPos a = true) (k : Nat) : allPos (a.drop k) = true := by
  unfold allPos at *
  rw [List.all_eq_true] at *
  exact fun x hx => h x (List.mem_of_mem_drop hx)
/-- Does a list begin with a piece that keeps? -/
def headR : List Q → Bool
  | .R _ :: _ => true
  | _ => false
theorem headR_nf_of (a : List Q) (h : headR a = false) : headR (nf a) = false := by
  cases a with
  | nil => rfl
  | cons q a =>
    rw [nf_cons]
    cases q with
    | R n => simp [headR] at h
    | I t =>
      show headR (pI t (nf a)) = false
      cases nf a with
      | nil => rfl
      | cons p r => cases p <;> rfl
    | D n =>
      show headR (pD n (nf a)) = false
      match nf a with
      | [] => rfl
      | .R k :: r => rfl
      | .D k :: r => rfl
      | [.I s] => rfl
      | .I s :: .D k :: r => rfl
      | .I s :: .R k :: r => rfl
      | .I s :: .I u :: r => rfl
theorem headR_nf_R (n : Nat) (a : List Q) : ∃ m r, nf (.R n :: a) = .R m :: r := by
  rw [nf_cons]
  show ∃ m r, pR n (nf a) = _
  cases nf a with
  | nil => exact ⟨_, _, rfl⟩
  | cons p r => cases p <;> exact ⟨_, _, rfl⟩
theorem pR_noR (n : Nat) (x : List Q) (h : headR x = false) : pR n x = .R n :: x := by
  cases x with
  | nil => rfl
  | cons p r => cases p <;> first | rfl | simp [headR] at h
/-- In front of a run, or of nothing, a gap is one insertion and one removal. -/
theorem gap_front (t : List UInt8) (n : Nat) (x : List Q) (h : x = [] ∨ ∃ m r, x = .R m :: r) : optI t (optD n x) = (if t = [] then [] else [.I t]) ++ ((if n = 0 then [] else [.D n]) ++ x) := by
  unfold optI optD
  rcases h with rfl | ⟨m, r, rfl⟩ <;> by_cases ht : t = [] <;> by_cases hn : n = 0 <;> simp [ht, hn, pI, pD]
/-- One round of the reference: the gap from k to j, the run from j to m. -/
theorem form_round (a : List Q) (pa : allPos a = true) (k j m : Nat) (hkj : k ≤ j) (hjm : j ≤ m) (_hm : m ≤ a.length) (hg : ∀ q ∈ seg a k j, isR q = false) (hr : ∀ q ∈ seg a j m, isR q = true)
    (hj : j = a.length ∨ headR (a.drop j) = true) (hm' : headR (a.drop m) = false) :
    nf (a.drop k) = (if txt (seg a k j) = [] then [] else [.I (txt (seg a k j))]) ++ ((if del (seg a k j) = 0 then [] else [.D (del (seg a k j))]) ++ ((if ret (seg a j m) = 0 then [] else [.R (ret (seg a j m))]) ++ nf (a.drop m))) := by
  have h1 : nf (a.drop k) = ap (seg a k j) (nf (a.drop j)) := by rw [seg_drop a k j hkj, nf_append]
  have h2 : nf (a.drop j) = ap (seg a j m) (nf (a.drop m)) := by rw [seg_drop a j m hjm, nf_append]
  have h3 : nf (a.drop j) = (if ret (seg a j m) = 0 then [] else [.R (ret (seg a j m))]) ++ nf (a.drop m) := by
    rw [h2, ap_run _ _ hr (allPos_seg pa _ _)]
    unfold optR
    by_cases hz : ret (seg a j m) = 0
    · simp [hz]
    · simp only [hz, if_false]
      rw [pR_noR _ _ (headR_nf_of _ hm')]; rfl
  rw [h1, ap_gap _ _ hg (allPos_seg pa _ _), gap_front, h3]
  rcases hj with rfl | hj
  · left; rw [List.drop_length]; rfl
  · right
    cases hd : a.drop j with
    | nil => rw [hd] at hj; simp [headR] at hj
    | cons q r =>
      cases q with
      | R n => exact headR_nf_R n r
      | I t => rw [hd] at hj; simp [headR] at hj
      | D n => rw [hd] at hj; simp [headR] at hj
theorem txt_len (g : List Q) : (txt g).length ≤ outL g := by
  induction g with
  | nil => exact Nat.le_refl _
  | cons q g ih =>
    have : txt (q :: g) = txt1 q ++ txt g := by simp [txt]
    rw [this, List.length_append]
    cases q <;> simp [txt1, outL, out1] <;> omega
theorem del_le (g : List Q) : del g ≤ inL g := by
  induction g with
  | nil => exact Nat.le_refl _
  | cons q g ih =>
    have : del (q :: g) = del1 q + del g := by simp [del]
    rw [this]
    cases q <;> simp [del1, inL, in1] <;> omega
theorem ret_le (g : List Q) : ret g ≤ inL g := by
  induction g with
  | nil => exact Nat.le_refl _
  | cons q g ih =>
    have : ret (q :: g) = ret1 q + ret g := by simp [ret]
    rw [this]
    cases q <;> simp [ret1, inL, in1] <;> omega
theorem seg_le (a : List Q) (k j : Nat) : inL (seg a k j) ≤ inL a ∧ outL (seg a k j) ≤ outL a := by
  have h1 := List.take_append_drop j a
  have h2 := List.take_append_drop k (a.take j)
  have e1 : inL a = inL (a.take j) + inL (a.drop j) := by rw [← inL_append, h1]
  have e2 : inL (a.take j) = inL ((a.take j).take k) + inL ((a.take j).drop k) := by rw [← inL_append, h2]
  have e3 : outL a = outL (a.take j) + outL (a.drop j) := by rw [← outL_append, h1]
  have e4 : outL (a.take j) = outL ((a.take j).take k) + outL ((a.take j).drop k) := by rw [← outL_append, h2]
  unfold seg
  omega
theorem seg_bd (a : List Q) (k j : Nat) : (txt (seg a k j)).length ≤ outL a ∧ del (seg a k j) ≤ inL a ∧ ret (seg a k j) ≤ inL a := by
  have := seg_le a k j
  exact ⟨Nat.le_trans (txt_len _) this.2, Nat.le_trans (del_le _) this.1, Nat.le_trans (ret_le _) this.1⟩
def oI (t : List UInt8) : List Q := if t = [] then [] else [.I t]
def oD (n : Nat) : List Q := if n = 0 then [] else [.D n]
def oR (n : Nat) : List Q := if n = 0 then [] else [.R n]
theorem form_step (a : List Q) (pa : allPos a = true) (k j m : Nat) (hkj : k ≤ j) (hjm : j ≤ m) (hm : m ≤ a.length) (hg : ∀ q ∈ seg a k j, isR q = false) (hr : ∀ q ∈ seg a j m, isR q = true)
    (hj : j = a.length ∨ headR (a.drop j) = true) (hm' : headR (a.drop m) = false) (x : List Q) (hx : x ++ nf (a.drop k) = nf a) :
    (((x ++ oI (txt (seg a k j))) ++ oD (del (seg a k j))) ++ oR (ret (seg a j m))) ++ nf (a.drop m) = nf a := by
  rw [← hx, form_round a pa k j m hkj hjm hm hg hr hj hm']
  simp only [List.append_assoc]
  rfl
theorem oI_len (t : List UInt8) : (oI t).length ≤ 1 := by unfold oI; split <;> simp
theorem oD_len (n : Nat) : (oD n).length ≤ 1 := by unfold oD; split <;> simp
theorem oR_len (n : Nat) : (oR n).length ≤ 1 := by unfold oR; split <;> simp
theorem oI_nil : oI [] = [] := rfl
theorem oI_pos {t : List UInt8} (h : t ≠ []) : oI t = [.I t] := by unfold oI; rw [if_neg h]
theorem oD_zero : oD 0 = [] := rfl
theorem oD_pos {n : Nat} (h : 0 < n) : oD n = [.D n] := by unfold oD; rw [if_neg (by omega)]
theorem oR_zero : oR 0 = [] := rfl
theorem oR_pos {n : Nat} (h : 0 < n) : oR n = [.R n] := by unfold oR; rw [if_neg (by omega)]
/-! ### The normal form of pieces as they come -/
def toQ (p : P) : Q := if p.k = 1 then .R p.n.toNat else if p.k = 2 then .I p.t.data.toList else .D p.n.toNat
theorem raw_toQ {p : P} (h : vP p = true) : raw (toQ p) = p := by
  rcases vP_forms h with ⟨n, _, rfl⟩ | ⟨t, _, rfl⟩ | ⟨n, _, rfl⟩
  · simp [toQ, raw]
  · simp [toQ, raw]
  · simp [toQ, raw]
theorem toQ_raw (q : Q) : toQ (raw q) = q := by cases q <;> simp [toQ, raw]
def qs (l : List P) : List Q := l.map toQ
def normP (l : List P) : List P := (nf (qs l)).map raw
theorem qs_raw (a : List Q) : qs (a.map raw) = a := by
  unfold qs; rw [List.map_map]
  conv => rhs; rw [← List.map_id a]
  exact List.map_congr_left fun q _ => toQ_raw q
theorem raw_qs {l : List P} (h : ∀ p ∈ l, vP p = true) : (qs l).map raw = l := by
  unfold qs; rw [List.map_map]
  conv => rhs; rw [← List.map_id l]
  exact List.map_congr_left fun p hp => raw_toQ (h p hp)
theorem normP_raw (a : List Q) : normP (a.map raw) = (nf a).map raw := by unfold normP; rw [qs_raw]
/-- A valid delta, as pieces of the mathematics. -/
theorem valid_qs {l : List P} (h : chk l = 0) : (qs l).map raw = l ∧ allPos (qs l) = true ∧ (qs l).length = l.length ∧ l.length ≤ 4096 ∧ inL (qs l) ≤ 1048576 ∧ outL (qs l) ≤ 1048576 := by
  obtain ⟨a, pa, rfl, h1, h2, h3⟩ := (chk_iff l).1 h
  rw [qs_raw]
  exact ⟨rfl, pa, by simp, by simpa using h1, h2, h3⟩
/-- A normal form is valid, if the delta is. -/
theorem chk_normP {l : List P} (h : chk l = 0) : chk (normP l) = 0 := by
  obtain ⟨_, pa, h0, h1, h2, h3⟩ := valid_qs h
  refine (chk_iff _).2 ⟨nf (qs l), allPos_nf _ pa, rfl, ?_, by rw [inL_nf]; exact h2, by rw [outL_nf]; exact h3⟩
  have := nf_length (qs l); omega
theorem normP_normP (l : List P) : normP (normP l) = normP l := by rw [normP, normP, qs_raw, nf_nf]
end Go.Proofs.Ytmbgcbgbdjiacaa.D
/- DeltaNz -/
namespace Go.Proofs.Ytmbgcbgbdjiacaa.D

/-- What has been settled, the bytes kept since, and the gap behind. -/
structure S where
  set : List Q
  kept : Nat
  ins : List UInt8
  rem : Nat
def S.add (s : S) : Q → S
  | .R n => ⟨(s.set ++ oI s.ins) ++ oD s.rem, s.kept + n, [], 0⟩
  | .I t => ⟨s.set ++ oR s.kept, 0, s.ins ++ t, s.rem⟩
  | .D n => ⟨s.set ++ oR s.kept, 0, s.ins, s.rem + n⟩
def S.fin (s : S) : List Q := ((s.set ++ oR s.kept) ++ oI s.ins) ++ oD s.rem
def endsR (l : List Q) : Prop := l = [] ∨ ∃ y n, l = y ++ [.R n]
def endsN (l : List Q) : Prop := l = [] ∨ ∃ y p, l = y ++ [p] ∧ isR p = false
/-- The state says what has been added. -/
def Sok (s : S) (a : List Q) : Prop :=
  (s.kept = 0 ∧ endsR s.set ∧ (s.set = [] ∨ s.ins ≠ [] ∨ 0 < s.rem) ∧ nf a = s.set ++ (oI s.ins ++ oD s.rem)) ∨
  (0 < s.kept ∧ s.ins = [] ∧ s.rem = 0 ∧ endsN s.set ∧ nf a = s.set ++ [.R s.kept])
theorem isN_split (y : List Q) (p : Q) (x : List Q) : isN (y ++ p :: x) = (isN (y ++ [p]) && isN (p :: x)) := by
  induction y with
  | nil => simp [isN]
  | cons q y ih =>
    cases y with
    | nil => simp [isN]
    | cons r y => simp only [List.cons_append, isN] at ih ⊢; rw [ih, Bool.and_assoc]
theorem nf_snoc (a s x : List Q) (q : Q) (z : List Q) (h : nf a = s ++ x) (hz : nf (x ++ [q]) = z) (hn : isN (s ++ z) = true) : nf (a ++ [q]) = s ++ z := by
  rw [← nf_left, h, List.append_assoc, ← nf_right, hz, nf_of_isN _ hn]
theorem isN_left {y x : List Q} (h : isN (y ++ x) = true) : isN y = true := by
  induction y with
  | nil => rfl
  | cons q y ih =>
    cases y with
    | nil => rfl
    | cons r y =>
      simp only [List.cons_append, isN, Bool.and_eq_true] at h ih ⊢
      exact ⟨h.1, ih h.2⟩
theorem glueR {s x z : List Q} (hs : endsR s) (h : isN (s ++ x) = true) (h0 : isN z = true) (hz : ∀ n, isN (.R n :: z) = true) : isN (s ++ z) = true := by
  rcases hs with rfl | ⟨y, n, rfl⟩
  · exact h0
  · have h1 := isN_left h
    rw [List.append_assoc]
    show isN (y ++ .R n :: z) = true
    rw [isN_split, h1, hz n]; rfl
theorem glueR' {s x z : List Q} (hs : endsR s) (h : isN (s ++ x) = true) (h0 : isN z = true) (hz : s = [] ∨ ∀ n, isN (.R n :: z) = true) : isN (s ++ z) = true := by
  rcases hz with rfl | hz
  · exact h0
  · exact glueR hs h h0 hz
theorem glueN {s x : List Q} {k : Nat} {r : List Q} (hs : endsN s) (h : isN (s ++ x) = true) (h0 : isN (.R k :: r) = true) : isN (s ++ .R k :: r) = true := by
  rcases hs with rfl | ⟨y, p, rfl, hp⟩
  · exact h0
  · have h1 := isN_left h
    rw [List.append_assoc]
    show isN (y ++ p :: .R k :: r) = true
    rw [isN_split, h1]
    cases p with
    | R n => simp [isR] at hp
    | I t => exact isN_cons (p := .I t) (q := .R k) rfl h0
    | D n => exact isN_cons (p := .D n) (q := .R k) rfl h0
theorem Sok_init : Sok ⟨[], 0, [], 0⟩ [] := .inl ⟨rfl, .inl rfl, .inl rfl, rfl⟩
theorem Sok_fin {s : S} {a : List Q} (h : Sok s a) : s.fin = nf a := by
  obtain ⟨st, k, i, r⟩ := s
  rcases h with ⟨h1, _, _, h⟩ | ⟨h1, h2, h3, _, h⟩
  · simp only at h1 h; subst h1; rw [h]; simp [S.fin, oR_zero]
  · simp only at h1 h2 h3 h; subst h2; subst h3; rw [h]; simp [S.fin, oI_nil, oD_zero, oR_pos h1]
theorem Sok_add {s : S} {a : List Q} {q : Q} (h : Sok s a) (hq : pos q = true) : Sok (s.add q) (a ++ [q]) := by
  obtain ⟨st, k, i, r⟩ := s
  have hN := isN_nf a
  rcases h with ⟨h1, h2, h3, h⟩ | ⟨h1, h2, h3, h4, h⟩
  · simp only at h1 h2 h3 h
    subst h1
    rw [h] at hN
    cases q with
    | R n =>
      have hn : 0 < n := by simpa [pos] using hq
      refine .inr ⟨by simp only [S.add]; omega, rfl, rfl, ?_, ?_⟩
      · show endsN ((st ++ oI i) ++ oD r)
        by_cases hr : r = 0
        · subst hr
          rw [oD_zero, List.append_nil]
          by_cases hi : i = []
          · subst hi
            rcases h3 with h3 | h3 | h3
            · subst h3; exact .inl rfl
            · exact absurd rfl h3
            · omega
          · rw [oI_pos hi]; exact .inr ⟨_, _, rfl, rfl⟩
        · rw [oD_pos (by omega)]; exact .inr ⟨_, _, rfl, rfl⟩
      · show nf (a ++ [.R n]) = ((st ++ oI i) ++ oD r) ++ [.R (0 + n)]
        rw [Nat.zero_add, nf_snoc a st _ (.R n) ((oI i ++ oD r) ++ [.R n]) h ?_ ?_]
        · simp
        · refine nf_of_isN _ ?_
          unfold oI oD
          split <;> split <;> rfl
        · refine glueR' h2 hN ?_ ?_
          · unfold oI oD
            split <;> split <;> rfl
          · rcases h3 with h3 | h3 | h3
            · exact .inl h3
            · right; intro m; rw [oI_pos h3]; unfold oD; split <;> rfl
            · right; intro m; rw [oD_pos h3]; unfold oI; split <;> rfl
    | I t =>
      have ht : t ≠ [] := by intro e; subst e; simp [pos] at hq
      have hit : i ++ t ≠ [] := fun e => ht (List.append_eq_nil_iff.1 e).2
      refine .inl ⟨rfl, ?_, .inr (.inl hit), ?_⟩
      · show endsR (st ++ oR 0); rw [oR_zero, List.append_nil]; exact h2
      · show nf (a ++ [.I t]) = (st ++ oR 0) ++ (oI (i ++ t) ++ oD r)
        rw [oR_zero, List.append_nil]
        refine nf_snoc a st _ (.I t) _ h ?_ ?_
        · rw [oI_pos hit]
          unfold oI oD
          split
          · rename_i e; subst e
            split <;> rfl
          · split <;> rfl
        · refine glueR h2 hN ?_ (fun m => ?_)
          · rw [oI_pos hit]; unfold oD; split <;> rfl
          · rw [oI_pos hit]; unfold oD; split <;> rfl
    | D n =>
      have hn : 0 < n := by simpa [pos] using hq
      refine .inl ⟨rfl, ?_, .inr (.inr (by simp only [S.add]; omega)), ?_⟩
      · show endsR (st ++ oR 0); rw [oR_zero, List.append_nil]; exact h2
      · show nf (a ++ [.D n]) = (st ++ oR 0) ++ (oI i ++ oD (r + n))
        rw [oR_zero, List.append_nil]
        refine nf_snoc a st _ (.D n) _ h ?_ ?_
        · rw [oD_pos (show 0 < r + n by omega)]
          unfold oI oD
          split <;> split
          · rename_i e; subst e; rw [Nat.zero_add]; rfl
          · rfl
          · rename_i e; subst e; rw [Nat.zero_add]; rfl
          · rfl
        · refine glueR h2 hN ?_ (fun m => ?_)
          · rw [oD_pos (show 0 < r + n by omega)]; unfold oI; split <;> rfl
          · rw [oD_pos (show 0 < r + n by omega)]; unfold oI; split <;> rfl
  · simp only at h1 h2 h3 h4 h
    subst h2
    subst h3
    rw [h] at hN
    cases q with
    | R n =>
      have hn : 0 < n := by simpa [pos] using hq
      refine .inr ⟨by simp only [S.add]; omega, rfl, rfl, ?_, ?_⟩
      · show endsN ((st ++ oI []) ++ oD 0); rw [oI_nil, oD_zero, List.append_nil, List.append_nil]; exact h4
      · show nf (a ++ [.R n]) = ((st ++ oI []) ++ oD 0) ++ [.R (k + n)]
        rw [oI_nil, oD_zero, List.append_nil, List.append_nil]
        exact nf_snoc a st _ (.R n) _ h rfl (glueN h4 hN rfl)
    | I t =>
      have ht : t ≠ [] := by intro e; subst e; simp [pos] at hq
      refine .inl ⟨rfl, ?_, .inr (.inl ht), ?_⟩
      · show endsR (st ++ oR k); rw [oR_pos h1]; exact .inr ⟨_, _, rfl⟩
      · show nf (a ++ [.I t]) = (st ++ oR k) ++ (oI ([] ++ t) ++ oD 0)
        rw [oR_pos h1, List.nil_append, oI_pos ht, oD_zero, List.append_nil, List.append_assoc]
        exact nf_snoc a st _ (.I t) _ h rfl (glueN h4 hN rfl)
    | D n =>
      have hn : 0 < n := by simpa [pos] using hq
      refine .inl ⟨rfl, ?_, .inr (.inr (by simp only [S.add]; omega)), ?_⟩
      · show endsR (st ++ oR k); rw [oR_pos h1]; exact .inr ⟨_, _, rfl⟩
      · show nf (a ++ [.D n]) = (st ++ oR k) ++ (oI [] ++ oD (0 + n))
        rw [oR_pos h1, Nat.zero_add, oI_nil, List.nil_append, oD_pos hn, List.append_assoc]
        exact nf_snoc a st _ (.D n) _ h rfl (glueN h4 hN rfl)
def runS (s : S) (a : List Q) : S := a.foldl S.add s
theorem Sok_run (a : List Q) (pa : allPos a = true) : ∀ (s : S) (b : List Q), Sok s b → Sok (runS s a) (b ++ a) := by
  induction a with
  | nil => intro s b h; simpa [runS] using h
  | cons q a ih =>
    intro s b h
    unfold allPos at pa
    simp only [List.all_cons, Bool.and_eq_true] at pa
    have := ih (by unfold allPos; exact pa.2) (s.add q) (b ++ [q]) (Sok_add h pa.1)
    simpa [runS] using this
theorem inL_oR (n : Nat) : inL (oR n) = n := by
  unfold oR; split
  · rename_i h; rw [h]; rfl
  · rfl
theorem inL_oD (n : Nat) : inL (oD n) = n := by
  unfold oD; split
  · rename_i h; rw [h]; rfl
  · rfl
theorem outL_oI (t : List UInt8) : outL (oI t) = t.length := by
  unfold oI; split
  · rename_i h; rw [h]; rfl
  · rfl
/-- How large a state gets. -/
theorem S_bd {s : S} {a : List Q} (h : Sok s a) : s.set.length ≤ a.length ∧ s.kept ≤ inL a ∧ s.ins.length ≤ outL a ∧ s.rem ≤ inL a := by
  have e := Sok_fin h
  have hl := nf_length a
  have hi := inL_nf a
  have ho := outL_nf a
  rw [← e] at hl hi ho
  unfold S.fin at hl hi ho
  rw [inL_append, inL_append, inL_append] at hi
  rw [outL_append, outL_append, outL_append] at ho
  have k1 := inL_oR s.kept
  have k2 := inL_oD s.rem
  have k3 := outL_oI s.ins
  simp only [List.length_append] at hl
  omega
end Go.Proofs.Ytmbgcbgbdjiacaa.D
/- ApplyRaw -/
namespace Go.Proofs.Ytmbgcbgbdjiacaa.D

def fitE (s : List UInt8) (l : List P) : Int := if chk l = 0 then (if inP l = s.length then 0 else 21) else chk l
def resP (s : List UInt8) (l : List P) : List UInt8 := if fitE s l = 0 then apl s (qs l) else []
def remP (s : List UInt8) (l : List P) : List UInt8 := if fitE s l = 0 then gone s (qs l) else []
def insP (l : List P) : List UInt8 := if chk l = 0 then insd (qs l) else []
def invP (s : List UInt8) (l : List P) : List P := if fitE s l = 0 then (nf (inv s (qs l))).map raw else []
theorem inP_qs {l : List P} (h : chk l = 0) : inP l = (inL (qs l) : Int) := by
  have := inP_raw (qs l)
  rwa [(valid_qs h).1] at this
theorem fitE_zero {s : List UInt8} {l : List P} (h : fitE s l = 0) : chk l = 0 ∧ inL (qs l) = s.length := by
  unfold fitE at h
  by_cases hc : chk l = 0
  · rw [if_pos hc] at h
    refine ⟨hc, ?_⟩
    by_cases hi : inP l = s.length
    · have := inP_qs hc; omega
    · rw [if_neg hi] at h; exact absurd h (by decide)
  · rw [if_neg hc] at h; exact absurd h hc
theorem fitE_of {s : List UInt8} {l : List P} (h : chk l = 0) (hi : inL (qs l) = s.length) : fitE s l = 0 := by
  unfold fitE
  rw [if_pos h, if_pos (by have := inP_qs h; omega)]
theorem resP_eq {s : List UInt8} {l : List P} (h : fitE s l = 0) : resP s l = apl s (qs l) := if_pos h
theorem remP_eq {s : List UInt8} {l : List P} (h : fitE s l = 0) : remP s l = gone s (qs l) := if_pos h
theorem invP_eq {s : List UInt8} {l : List P} (h : fitE s l = 0) : invP s l = (nf (inv s (qs l))).map raw := if_pos h
theorem insP_eq {l : List P} (h : chk l = 0) : insP l = insd (qs l) := if_pos h
theorem inv_length (a : List Q) : ∀ s : List UInt8, (inv s a).length = a.length := by
  induction a with
  | nil => intro s; rfl
  | cons p r ih => intro s; cases p <;> simp [inv, ih]
/-! ### One piece more -/
theorem apl_app (x y : List Q) : ∀ s : List UInt8, apl s (x ++ y) = apl s x ++ apl (s.drop (inL x)) y := by
  induction x with
  | nil => intro s; rfl
  | cons p r ih =>
    intro s
    have hr : inL (p :: r) = in1 p + inL r := rfl
    cases p <;> simp only [in1] at hr <;> rw [hr] <;> simp only [List.cons_append, apl, ih, List.append_assoc, List.drop_drop, Nat.zero_add]
theorem gone_app (x y : List Q) : ∀ s : List UInt8, gone s (x ++ y) = gone s x ++ gone (s.drop (inL x)) y := by
  induction x with
  | nil => intro s; rfl
  | cons p r ih =>
    intro s
    have hr : inL (p :: r) = in1 p + inL r := rfl
    cases p <;> simp only [in1] at hr <;> rw [hr] <;> simp only [List.cons_append, gone, ih, List.append_assoc, List.drop_drop, Nat.zero_add]
theorem inv_app (x y : List Q) : ∀ s : List UInt8, inv s (x ++ y) = inv s x ++ inv (s.drop (inL x)) y := by
  induction x with
  | nil => intro s; rfl
  | cons p r ih =>
    intro s
    have hr : inL (p :: r) = in1 p + inL r := rfl
    cases p <;> simp only [in1] at hr <;> rw [hr] <;> simp only [List.cons_append, inv, ih, List.drop_drop, Nat.zero_add]
theorem insd_app (x y : List Q) : insd (x ++ y) = insd x ++ insd y := by
  induction x with
  | nil => rfl
  | cons p r ih => cases p <;> simp only [List.cons_append, insd, ih, List.append_assoc]
/-- The bytes that a piece takes. -/
def part (s : List UInt8) (a : List Q) (k : Nat) (q : Q) : List UInt8 := (s.drop (inL (a.take k))).take (in1 q)
theorem take_snoc {a : List Q} {k : Nat} {q : Q} (h : a[k]? = some q) : a.take (k + 1) = a.take k ++ [q] := by rw [List.take_add_one, h]; rfl
theorem apl_snoc (s : List UInt8) (a : List Q) (k : Nat) (q : Q) (h : a[k]? = some q) : apl s (a.take (k + 1)) = apl s (a.take k) ++ txt1 q ++ (if isR q = true then part s a k q else []) := by
  rw [take_snoc h, apl_app, List.append_assoc]
  cases q <;> simp [apl, txt1, isR, part, in1]
theorem gone_snoc (s : List UInt8) (a : List Q) (k : Nat) (q : Q) (h : a[k]? = some q) : gone s (a.take (k + 1)) = gone s (a.take k) ++ (if isR q = true then [] else part s a k q) := by
  rw [take_snoc h, gone_app]
  cases q <;> simp [gone, isR, part, in1]
theorem insd_snoc (a : List Q) (k : Nat) (q : Q) (h : a[k]? = some q) : insd (a.take (k + 1)) = insd (a.take k) ++ txt1 q := by
  rw [take_snoc h, insd_app]
  cases q <;> simp [insd, txt1]
def inv1 (s : List UInt8) (a : List Q) (k : Nat) : Q → Q
  | .R n => .R n
  | .I t => .D t.length
  | .D n => .I (part s a k (.D n))
theorem inv_snoc (s : List UInt8) (a : List Q) (k : Nat) (q : Q) (h : a[k]? = some q) : inv s (a.take (k + 1)) = inv s (a.take k) ++ [inv1 s a k q] := by
  rw [take_snoc h, inv_app]
  cases q <;> rfl
theorem apl_take_len (s : List UInt8) (a : List Q) (k : Nat) : (apl s (a.take k)).length ≤ s.length + outL a := by
  have key : ∀ (b : List Q) (s : List UInt8), (apl s b).length ≤ outL b := by
    intro b
    induction b with
    | nil => intro s; exact Nat.zero_le _
    | cons p r ih =>
      intro s
      cases p with
      | R n => have := ih (s.drop n); simp only [apl, outL, out1, List.length_append, List.length_take]; omega
      | I t => have := ih s; simp only [apl, outL, out1, List.length_append]; omega
      | D n => have := ih (s.drop n); simp only [apl, outL, out1]; omega
  have h1 := key (a.take k) s
  have e := outL_append (a.take k) (a.drop k)
  rw [List.take_append_drop] at e
  omega
theorem gone_take_len (s : List UInt8) (a : List Q) (k : Nat) : (gone s (a.take k)).length ≤ inL a := by
  have key : ∀ (b : List Q) (s : List UInt8), (gone s b).length ≤ inL b := by
    intro b
    induction b with
    | nil => intro s; exact Nat.zero_le _
    | cons p r ih =>
      intro s
      cases p with
      | R n => have := ih (s.drop n); simp only [gone, inL, in1]; omega
      | I t => have := ih s; simp only [gone, inL, in1]; omega
      | D n => have := ih (s.drop n); simp only [gone, inL, in1, List.length_append, List.length_take]; omega
  have h1 := key (a.take k) s
  have e := inL_append (a.take k) (a.drop k)
  rw [List.take_append_drop] at e
  omega
theorem insd_take_len (a : List Q) (k : Nat) : (insd (a.take k)).length ≤ outL a := by
  have key : ∀ (b : List Q), (insd b).length ≤ outL b := by
    intro b
    induction b with
    | nil => exact Nat.zero_le _
    | cons p r ih => cases p <;> simp only [insd, outL, out1, List.length_append] <;> omega
  have h1 := key (a.take k)
  have e := outL_append (a.take k) (a.drop k)
  rw [List.take_append_drop] at e
  omega
theorem inL_take_le (a : List Q) (k : Nat) (q : Q) (h : a[k]? = some q) : inL (a.take (k + 1)) = inL (a.take k) + in1 q ∧ inL (a.take k) + in1 q ≤ inL a := by
  have e1 : inL (a.take (k + 1)) = inL (a.take k) + in1 q := by rw [take_snoc h, inL_append]; rfl
  have e := inL_append (a.take (k + 1)) (a.drop (k + 1))
  rw [List.take_append_drop] at e
  exact ⟨e1, by omega⟩
theorem out1_le (a : List Q) (k : Nat) (q : Q) (h : a[k]? = some q) : out1 q ≤ outL a := by
  have e1 : outL (a.take (k + 1)) = outL (a.take k) + out1 q := by rw [take_snoc h, outL_append]; rfl
  have e := outL_append (a.take (k + 1)) (a.drop (k + 1))
  rw [List.take_append_drop] at e
  omega
theorem raw_t (q : Q) : (raw q).t = ⟨(txt1 q).toArray⟩ := by cases q <;> rfl
theorem raw_n1 (q : Q) : (raw q).n = (in1 q : Int) := by cases q <;> rfl
theorem part_bytes (s : ByteArray) (i n : Nat) : (s.extract i (i + n)).data.toList = (s.data.toList.drop i).take n := by
  simp [List.take_drop]
theorem txt1_out (q : Q) : (txt1 q).length ≤ out1 q := by cases q <;> simp [txt1, out1]
/-! ### P4.4 -/
structure Back (s : List UInt8) (l : List P) : Prop where
  valid : chk (invP s l) = 0
  fit : fitE (resP s l) (invP s l) = 0
  res : resP (resP s l) (invP s l) = s
  inv2 : invP (resP s l) (invP s l) = normP l
  ins : insP (invP s l) = remP s l
  rem : remP (resP s l) (invP s l) = insP l
theorem chk_inv {s : List UInt8} {l : List P} (h : fitE s l = 0) : chk ((inv s (qs l)).map raw) = 0 := by
  obtain ⟨h0, h1⟩ := fitE_zero h
  obtain ⟨_, pa, _, h4, h5, h6⟩ := valid_qs h0
  refine (chk_iff _).2 ⟨_, allPos_inv _ s h1 pa, rfl, ?_, ?_, ?_⟩
  · rw [inv_length]; unfold qs; rw [List.length_map]; exact h4
  · rw [inL_inv _ _ h1]; exact h6
  · rw [outL_inv _ _ h1]; exact h5
theorem normP_inv {s : List UInt8} {l : List P} (h : fitE s l = 0) : normP ((inv s (qs l)).map raw) = invP s l := by rw [invP_eq h, normP_raw]
theorem back {s : List UInt8} {l : List P} (h : fitE s l = 0) : Back s l := by
  have hv : chk (invP s l) = 0 := by rw [← normP_inv h]; exact chk_normP (chk_inv h)
  obtain ⟨h0, h1⟩ := fitE_zero h
  have hq : qs (invP s l) = nf (inv s (qs l)) := by rw [invP_eq h, qs_raw]
  have hi : inL (qs (invP s l)) = (resP s l).length := by rw [hq, inL_nf, inL_inv _ _ h1, resP_eq h, apl_length _ _ h1]
  have hf := fitE_of hv hi
  refine ⟨hv, hf, ?_, ?_, ?_, ?_⟩
  · rw [resP_eq hf, hq, apl_nf, resP_eq h, apl_inv _ _ h1]
  · rw [invP_eq hf, hq, inv_nf _ _ (by rw [← inL_nf, ← hq]; omega), resP_eq h, inv_inv _ _ h1]; rfl
  · rw [insP_eq hv, hq, insd_nf, insd_inv, remP_eq h]
  · rw [remP_eq hf, hq, gone_nf, resP_eq h, gone_inv _ _ h1, insP_eq h0]
/-! ### P4.5 -/
theorem same_norm {s : List UInt8} {l : List P} (h : fitE s l = 0) : fitE s (normP l) = 0 ∧ resP s (normP l) = resP s l := by
  obtain ⟨h0, h1⟩ := fitE_zero h
  have hq : qs (normP l) = nf (qs l) := by unfold normP; rw [qs_raw]
  have hf : fitE s (normP l) = 0 := fitE_of (chk_normP h0) (by rw [hq, inL_nf]; exact h1)
  exact ⟨hf, by rw [resP_eq hf, resP_eq h, hq, apl_nf]⟩
theorem same_eqv {s : List UInt8} {l m : List P} (h : fitE s l = 0) (hm : chk m = 0) (e : normP l = normP m) : fitE s m = 0 ∧ resP s m = resP s l := by
  obtain ⟨h0, h1⟩ := fitE_zero h
  have e' : nf (qs l) = nf (qs m) := map_raw_inj e
  have hi : inL (qs m) = s.length := by rw [← inL_nf, ← e', inL_nf]; exact h1
  have hf := fitE_of hm hi
  exact ⟨hf, by rw [resP_eq hf, resP_eq h, ← apl_nf (qs m), ← e', apl_nf]⟩
theorem res_tells {S : List UInt8} {l m : List P} (hl : chk l = 0) (hm : chk m = 0) (il : inL (qs l) = S.length) (im : inL (qs m) = S.length) (hn : S.Nodup) (fl : ∀ c ∈ insP l, c ∉ S) (fm : ∀ c ∈ insP m, c ∉ S) :
    resP S l = resP S m ↔ normP l = normP m := by
  rw [insP_eq hl] at fl
  rw [insP_eq hm] at fm
  rw [resP_eq (fitE_of hl il), resP_eq (fitE_of hm im), tells S _ _ (valid_qs hl).2.1 (valid_qs hm).2.1 il im hn fl fm]
  exact ⟨fun e => by unfold normP; rw [e], fun e => map_raw_inj e⟩
/-! ### P4.6 -/
theorem len_parts {s : List UInt8} {l : List P} (h : fitE s l = 0) : ((resP s l).length : Int) = (s.length : Int) + (insP l).length - (remP s l).length := by
  obtain ⟨h0, h1⟩ := fitE_zero h
  have := len_change (qs l) s h1
  rw [resP_eq h, insP_eq h0, remP_eq h]
  omega
theorem res_len {s : List UInt8} {l : List P} (h : fitE s l = 0) : (resP s l).length ≤ 1048576 ∧ s.length ≤ 1048576 ∧ (insP l).length ≤ 1048576 ∧ (remP s l).length ≤ 1048576 := by
  obtain ⟨h0, h1⟩ := fitE_zero h
  obtain ⟨_, pa, _, h4, h5, h6⟩ := valid_qs h0
  have hb := len_change (qs l) s h1
  have hl := apl_length (qs l) s h1
  have hi : (insd (qs l)).length ≤ outL (qs l) := by
    have key : ∀ a : List Q, (insd a).length ≤ outL a := by
      intro a
      induction a with
      | nil => exact Nat.le_refl _
      | cons p r ih => cases p <;> simp [insd, outL, out1] <;> omega
    exact key _
  rw [resP_eq h, insP_eq h0, remP_eq h]
  omega
theorem ins_len (l : List P) : (insP l).length ≤ 1048576 := by
  by_cases h0 : chk l = 0
  · obtain ⟨_, _, _, _, _, h6⟩ := valid_qs h0
    have key : ∀ a : List Q, (insd a).length ≤ outL a := by
      intro a
      induction a with
      | nil => exact Nat.le_refl _
      | cons p r ih => cases p <;> simp [insd, outL, out1] <;> omega
    rw [insP_eq h0]
    have := key (qs l)
    omega
  · unfold insP; rw [if_neg h0]; simp
theorem res_join {s t : List UInt8} {l m x : List P} (hl : fitE s l = 0) (hm : fitE t m = 0) (hx : chk x = 0) (e : x = normP (l ++ m)) : fitE (s ++ t) x = 0 ∧ resP (s ++ t) x = resP s l ++ resP t m := by
  obtain ⟨h0, h1⟩ := fitE_zero hl
  obtain ⟨g0, g1⟩ := fitE_zero hm
  have hq : qs x = nf (qs l ++ qs m) := by rw [e]; unfold normP; rw [qs_raw]; unfold qs; rw [List.map_append]
  have hf : fitE (s ++ t) x = 0 := fitE_of hx (by rw [hq, inL_nf, inL_append, List.length_append]; omega)
  exact ⟨hf, by rw [resP_eq hf, hq, apl_nf, apl_append _ _ _ _ h1, resP_eq hl, resP_eq hm]⟩
/-! ### P4.3, P4.7 -/
theorem chkF_ne (a : List Q) (pa : allPos a = true) : ∀ i o : Int, o ≤ most → chkF i o (a.map raw) ≠ 2 := by
  induction a with
  | nil => intro i o _; simp [chkF]
  | cons q a ih =>
    intro i o ho
    unfold allPos at pa
    simp only [List.all_cons, Bool.and_eq_true] at pa
    have ih' := ih pa.2
    cases q with
    | R n =>
      have hn : 0 < n := by simpa [pos] using pa.1
      rw [List.map_cons, raw, chkF_R i o n _ hn ho]
      split
      · decide
      · split
        · decide
        · exact ih' _ _ (by omega)
    | I t =>
      have ht : 0 < t.length := by cases t with
        | nil => simp [pos] at pa
        | cons => simp
      rw [List.map_cons, raw, chkF_I i o _ _ (by rw [size_l]; exact ht)]
      split
      · decide
      · exact ih' _ _ (by omega)
    | D n =>
      have hn : 0 < n := by simpa [pos] using pa.1
      rw [List.map_cons, raw, chkF_D i o n _ hn ho]
      split
      · decide
      · exact ih' _ _ ho
theorem chk_pos (a : List Q) (pa : allPos a = true) (hl : a.length ≤ 4096) : chk (a.map raw) = if inL a ≤ 1048576 ∧ outL a ≤ 1048576 then 0 else 5 := by
  by_cases h : inL a ≤ 1048576 ∧ outL a ≤ 1048576
  · rw [if_pos h]; exact (chk_iff _).2 ⟨a, pa, rfl, hl, h.1, h.2⟩
  · rw [if_neg h]
    rcases chk_cases (a.map raw) with h0 | h0 | h0
    · obtain ⟨b, _, e, _, h1, h2⟩ := (chk_iff _).1 h0
      rw [map_raw_inj e] at h1 h2
      exact absurd ⟨h1, h2⟩ h
    · unfold chk at h0
      rw [if_neg (by rw [List.length_map]; omega)] at h0
      exact absurd h0 (chkF_ne a pa 0 0 (by unfold most; omega))
    · exact h0
/-- The error of a single edit. -/
def mkE (n a k : Int) (t : List UInt8) : Int := if a < 0 ∨ n < a ∨ k < 0 ∨ n - a < k then 3 else if 1048576 < n ∨ 1048576 - (n - k) < t.length then 5 else 0
/-- Its delta. -/
def mkP (n a k : Int) (t : List UInt8) : List P := if mkE n a k t = 0 then (nf (edit n.toNat a.toNat k.toNat t)).map raw else []
theorem edit_pos (n a k : Nat) (t : List UInt8) : allPos (edit n a k t) = true := by
  unfold edit allPos
  simp only [List.all_append, Bool.and_eq_true]
  refine ⟨⟨⟨?_, ?_⟩, ?_⟩, ?_⟩
  · split
    · rename_i h; simp [pos, h]
    · rfl
  · split
    · rfl
    · rename_i h; cases t with
      | nil => exact absurd rfl h
      | cons => simp [pos]
  · split
    · rename_i h; simp [pos, h]
    · rfl
  · split
    · rename_i h; simp [pos]; omega
    · rfl
theorem edit_len (n a k : Nat) (t : List UInt8) : (edit n a k t).length ≤ 4 := by
  unfold edit
  rw [List.length_append, List.length_append, List.length_append]
  split <;> split <;> split <;> split <;> simp
theorem edit_outL (n a k : Nat) (t : List UInt8) (h : a + k ≤ n) : outL (edit n a k t) = n - k + t.length := by
  unfold edit
  rw [outL_append, outL_append, outL_append]
  split <;> split <;> split <;> split <;> simp_all [outL, out1] <;> omega
/-- The four pieces of which an edit is made, empty ones among them. -/
def four (n a k : Nat) (t : ByteArray) : List P := [⟨1, a, ⟨#[]⟩⟩, ⟨2, 0, t⟩, ⟨3, k, ⟨#[]⟩⟩, ⟨1, ((n - a - k : Nat) : Int), ⟨#[]⟩⟩]
def emptyP (p : P) : Bool := p.n == 0 && p.t.size == 0
theorem kept_cons (p : P) (l : List P) : (p :: l).filter (fun p => !emptyP p) = (if emptyP p = true then [] else [p]) ++ l.filter (fun p => !emptyP p) := by
  rw [List.filter_cons]
  cases emptyP p <;> rfl
theorem emptyP_n (i : Int) (m : Nat) : emptyP ⟨i, m, ⟨#[]⟩⟩ = true ↔ m = 0 := by
  have e0 : ((⟨#[]⟩ : ByteArray).size == 0) = true := rfl
  unfold emptyP
  simp only [e0, Bool.and_true, beq_iff_eq]
  omega
theorem emptyP_t (i : Int) (t : ByteArray) : emptyP ⟨i, 0, t⟩ = true ↔ t.data.toList = [] := by
  have h : t.data.toList = [] ↔ t.size = 0 := by
    constructor
    · intro e; have : t.data.toList.length = t.size := by simp
      rw [e] at this; exact this.symm
    · intro e; rw [empty_of_size e]
  rw [h]
  unfold emptyP
  simp
theorem four_kept (n a k : Nat) (t : ByteArray) (h : a + k ≤ n) : (four n a k t).filter (fun p => !emptyP p) = (edit n a k t.data.toList).map raw := by
  unfold four edit
  rw [kept_cons, kept_cons, kept_cons, kept_cons, List.filter_nil, List.append_nil, List.map_append, List.map_append, List.map_append, List.append_assoc, List.append_assoc]
  congr 1
  · by_cases c : a = 0
    · rw [if_pos ((emptyP_n 1 a).2 c), if_neg (by omega)]; rfl
    · rw [if_neg (fun e => c ((emptyP_n 1 a).1 e)), if_pos (by omega)]; rfl
  congr 1
  · by_cases c : t.data.toList = []
    · rw [if_pos ((emptyP_t 2 t).2 c), if_pos c]; rfl
    · rw [if_neg (fun e => c ((emptyP_t 2 t).1 e)), if_neg c]; simp [raw]
  congr 1
  · by_cases c : k = 0
    · rw [if_pos ((emptyP_n 3 k).2 c), if_neg (by omega)]; rfl
    · rw [if_neg (fun e => c ((emptyP_n 3 k).1 e)), if_pos (by omega)]; rfl
  · by_cases c : n - a - k = 0
    · rw [if_pos ((emptyP_n 1 _).2 c), if_neg (by omega)]; rfl
    · rw [if_neg (fun e => c ((emptyP_n 1 _).1 e)), if_pos (by omega)]; rfl
structure Mk (n a k : Nat) (t : List UInt8) : Prop where
  range : a + k ≤ n
  err : chk ((edit n a k t).map raw) = mkE n a k t
  one : mkE n a k t = 0 ∨ mkE n a k t = 5
  made : mkE n a k t = 0 → normP ((edit n a k t).map raw) = mkP n a k t
theorem mk_in {n a k : Nat} (t : List UInt8) (h : a + k ≤ n) : Mk n a k t := by
  have hE : mkE n a k t = if inL (edit n a k t) ≤ 1048576 ∧ outL (edit n a k t) ≤ 1048576 then 0 else 5 := by
    unfold mkE
    rw [if_neg (by omega), edit_inL n a k t h, edit_outL n a k t h]
    by_cases c : n ≤ 1048576 ∧ n - k + t.length ≤ 1048576
    · rw [if_pos c, if_neg (by omega)]
    · rw [if_neg c, if_pos (by omega)]
  have hC := chk_pos (edit n a k t) (edit_pos n a k t) (Nat.le_trans (edit_len n a k t) (by omega))
  refine ⟨h, by rw [hC, hE], by rw [hE]; split <;> simp, fun h0 => ?_⟩
  unfold mkP
  rw [if_pos h0, normP_raw]
  rfl
theorem mk_cases (n a k : Int) (t : List UInt8) : (mkE n a k t = 3 ∧ mkP n a k t = [] ∧ (a < 0 ∨ n < a ∨ k < 0 ∨ n - a < k)) ∨ ∃ n' a' k' : Nat, n = n' ∧ a = a' ∧ k = k' ∧ Mk n' a' k' t := by
  by_cases h : a < 0 ∨ n < a ∨ k < 0 ∨ n - a < k
  · have : mkE n a k t = 3 := if_pos h
    exact .inl ⟨this, by unfold mkP; rw [this]; rfl, h⟩
  · refine .inr ⟨n.toNat, a.toNat, k.toNat, by omega, by omega, by omega, mk_in t (by omega)⟩
theorem mkE_in {n a k : Int} {t : List UInt8} (h : mkE n a k t = 0) : 0 ≤ a ∧ a ≤ n ∧ 0 ≤ k ∧ k ≤ n - a ∧ n ≤ 1048576 ∧ n - k + t.length ≤ 1048576 := by
  unfold mkE at h
  split at h
  · cases h
  · split at h
    · cases h
    · omega
theorem mkP_ok {n a k : Nat} {t : List UInt8} (h : mkE n a k t = 0) : chk (mkP n a k t) = 0 ∧ qs (mkP n a k t) = nf (edit n a k t) := by
  have hr : a + k ≤ n := by have := mkE_in h; omega
  have m := mk_in t hr
  refine ⟨?_, ?_⟩
  · rw [← m.made h]; exact chk_normP (by rw [m.err]; exact h)
  · unfold mkP; rw [if_pos h, qs_raw]; rfl
/-- What a single edit does. -/
theorem mk_does {s : List UInt8} {a k : Int} {t : List UInt8} (h : mkE s.length a k t = 0) : fitE s (mkP s.length a k t) = 0 ∧ resP s (mkP s.length a k t) = s.take a.toNat ++ t ++ s.drop (a.toNat + k.toNat) := by
  have hb := mkE_in h
  obtain ⟨a, rfl⟩ := Int.eq_ofNat_of_zero_le hb.1
  obtain ⟨k, rfl⟩ := Int.eq_ofNat_of_zero_le hb.2.2.1
  have hr : a + k ≤ s.length := by omega
  obtain ⟨h0, hq⟩ := mkP_ok h
  have hf := fitE_of h0 (by rw [hq, inL_nf, edit_inL _ _ _ _ hr])
  refine ⟨hf, ?_⟩
  rw [resP_eq hf, hq, apl_nf, edit_apl s a k t hr]
  rfl
end Go.Proofs.Ytmbgcbgbdjiacaa.D
/- ShiftMath -/
namespace Go.Proofs.Ytmbgcbgbdjiacaa.D

/-- Directly behind the last kept byte before p; 0 if there is none. -/
def lft : List Q → Nat → Nat
  | [], _ => 0
  | .R n :: r, p => if p ≤ n then p else n + lft r (p - n)
  | .I t :: r, p => if lft r p = 0 then 0 else t.length + lft r p
  | .D n :: r, p => lft r (p - n)
/-- Directly before the first kept byte at p or behind it; the end if there is none. -/
def rgt : List Q → Nat → Nat
  | [], _ => 0
  | .R n :: r, p => if p < n then p else n + rgt r (p - n)
  | .I t :: r, p => t.length + rgt r p
  | .D n :: r, p => rgt r (p - n)
/-- The place of a kept byte. -/
def kpt : List Q → Nat → Option Nat
  | [], _ => none
  | .R n :: r, p => if p < n then some p else (kpt r (p - n)).map (n + ·)
  | .I t :: r, p => (kpt r p).map (t.length + ·)
  | .D n :: r, p => if p < n then none else kpt r (p - n)
/-- The other way round. -/
def swp : List Q → List Q
  | [] => []
  | .R n :: r => .R n :: swp r
  | .I t :: r => .D t.length :: swp r
  | .D n :: r => .I (List.replicate n 0) :: swp r

/-! ### Entries, one by one -/
theorem get_R (k n : Nat) (r : List Q) (i : Nat) : (atoms k (.R n :: r))[i]? = if i < n then some ((k + i : Nat) : Int) else (atoms (k + n) r)[i - n]? := by
  show (((List.range n).map fun i => ((k + i : Nat) : Int)) ++ atoms (k + n) r)[i]? = _
  rw [List.getElem?_append]
  simp only [List.length_map, List.length_range]
  split
  · rename_i h; rw [List.getElem?_map, List.getElem?_range h]; rfl
  · rfl
theorem get_I (k : Nat) (t : List UInt8) (r : List Q) (i : Nat) : (atoms k (.I t :: r))[i]? = if i < t.length then (t[i]?).map neg else (atoms k r)[i - t.length]? := by
  show (t.map neg ++ atoms k r)[i]? = _
  rw [List.getElem?_append]
  simp only [List.length_map]
  split
  · rw [List.getElem?_map]
  · rfl
theorem get_D (k n : Nat) (r : List Q) (i : Nat) : (atoms k (.D n :: r))[i]? = (atoms (k + n) r)[i]? := rfl
theorem get_lo {k : Nat} {a : List Q} {i : Nat} {x : Int} (h : (atoms k a)[i]? = some x) (h0 : 0 ≤ x) : (k : Int) ≤ x := atoms_lo (List.mem_of_getElem? h) h0
theorem get_negI {t : List UInt8} {i : Nat} {x : Int} (h : (t[i]?).map neg = some x) : x < 0 := by
  cases ht : t[i]? with
  | none => rw [ht] at h; cases h
  | some b => rw [ht] at h; cases h; exact neg_lt b
theorem get_mono {n : Nat} {A : List Int} (g : good n 0 A) {i j : Nat} {x y : Int} (hi : A[i]? = some x) (hj : A[j]? = some y) (x0 : 0 ≤ x) (y0 : 0 ≤ y) (h : i < j) : x < y := by
  have hi' := (List.getElem?_eq_some_iff.1 hi).1
  have hj' := (List.getElem?_eq_some_iff.1 hj).1
  have e1 : A.getD i 0 = x := by rw [List.getD_eq_getElem?_getD, hi]; rfl
  have e2 : A.getD j 0 = y := by rw [List.getD_eq_getElem?_getD, hj]; rfl
  rcases good_get g i hi' with ⟨b, hb⟩ | ⟨z, hz, _, _, hm⟩
  · have := neg_lt b; omega
  · have := hm j h hj' (by omega); omega
theorem good_of (a : List Q) : good (inL a) 0 (atoms 0 a) := good_atoms (inL a) a 0 (by omega)

/-! ### Left, right, kept, said by entries -/
theorem lft_zero (a : List Q) : lft a 0 = 0 := by
  induction a with
  | nil => rfl
  | cons q r ih => cases q <;> simp [lft, ih]
theorem lft_iff (a : List Q) : ∀ k p q, lft a p ≤ q ↔ ∀ i x, q ≤ i → (atoms k a)[i]? = some x → 0 ≤ x → ((k + p : Nat) : Int) ≤ x := by
  induction a with
  | nil => intro k p q; simp [lft, atoms]
  | cons c r ih =>
    intro k p q
    cases c with
    | R n =>
      simp only [lft]
      constructor
      · intro h i x hq hx h0
        rw [get_R] at hx
        by_cases hi : i < n
        · rw [if_pos hi] at hx; cases hx
          split at h <;> omega
        · rw [if_neg hi] at hx
          by_cases hp : p ≤ n
          · have := get_lo hx h0; omega
          · rw [if_neg hp] at h
            have := (ih (k + n) (p - n) (q - n)).1 (by omega) (i - n) x (by omega) hx h0
            omega
      · intro h
        by_cases hp : p ≤ n
        · rw [if_pos hp]
          by_cases hq : p ≤ q
          · exact hq
          · have := h q ((k + q : Nat) : Int) (Nat.le_refl _) (by rw [get_R, if_pos (by omega)]) (by omega)
            omega
        · rw [if_neg hp]
          by_cases hq : q < n
          · have := h q ((k + q : Nat) : Int) (Nat.le_refl _) (by rw [get_R, if_pos hq]) (by omega)
            omega
          · have := (ih (k + n) (p - n) (q - n)).2 (fun i x hi hx h0 => by
              have := h (i + n) x (by omega) (by rw [get_R, if_neg (by omega), Nat.add_sub_cancel]; exact hx) h0
              omega)
            omega
    | I t =>
      simp only [lft]
      have e : (if lft r p = 0 then 0 else t.length + lft r p) ≤ q ↔ lft r p ≤ q - t.length := by split <;> omega
      rw [e, ih k p (q - t.length)]
      constructor
      · intro h i x hq hx h0
        rw [get_I] at hx
        split at hx
        · have := get_negI hx; omega
        · exact h (i - t.length) x (by omega) hx h0
      · intro h i x hq hx h0
        exact h (i + t.length) x (by omega) (by rw [get_I, if_neg (by omega), Nat.add_sub_cancel]; exact hx) h0
    | D n =>
      simp only [lft, get_D]
      rw [ih (k + n) (p - n) q]
      constructor
      · intro h i x hq hx h0
        have h1 := h i x hq hx h0
        have h2 := get_lo hx h0
        omega
      · intro h i x hq hx h0
        have h1 := h i x hq hx h0
        have h2 := get_lo hx h0
        omega
theorem rgt_le (a : List Q) : ∀ p, rgt a p ≤ outL a := by
  induction a with
  | nil => intro p; exact Nat.le_refl _
  | cons c r ih =>
    intro p
    have e : outL (c :: r) = out1 c + outL r := rfl
    cases c with
    | R n => simp only [rgt]; have := ih (p - n); simp only [out1] at e; split <;> omega
    | I t => simp only [rgt]; have := ih p; simp only [out1] at e; omega
    | D n => simp only [rgt]; have := ih (p - n); simp only [out1] at e; omega
theorem lft_le (a : List Q) : ∀ p, lft a p ≤ outL a := by
  induction a with
  | nil => intro p; exact Nat.le_refl _
  | cons c r ih =>
    intro p
    have e : outL (c :: r) = out1 c + outL r := rfl
    cases c with
    | R n => simp only [lft]; have := ih (p - n); simp only [out1] at e; split <;> omega
    | I t => simp only [lft]; have := ih p; simp only [out1] at e; split <;> omega
    | D n => simp only [lft]; have := ih (p - n); simp only [out1] at e; omega
theorem rgt_iff (a : List Q) : ∀ k p q, q ≤ outL a → (q ≤ rgt a p ↔ ∀ i x, i < q → (atoms k a)[i]? = some x → 0 ≤ x → x < ((k + p : Nat) : Int)) := by
  induction a with
  | nil => intro k p q hq; simp [rgt, atoms]; exact Nat.le_zero.1 hq
  | cons c r ih =>
    intro k p q hq
    have eo : outL (c :: r) = out1 c + outL r := rfl
    cases c with
    | R n =>
      simp only [rgt]
      simp only [out1] at eo
      constructor
      · intro h i x hi hx h0
        rw [get_R] at hx
        by_cases hin : i < n
        · rw [if_pos hin] at hx; cases hx
          split at h <;> omega
        · rw [if_neg hin] at hx
          by_cases hp : p < n
          · rw [if_pos hp] at h; omega
          · rw [if_neg hp] at h
            have := (ih (k + n) (p - n) (q - n) (by omega)).1 (by omega) (i - n) x (by omega) hx h0
            omega
      · intro h
        by_cases hp : p < n
        · rw [if_pos hp]
          by_cases hq2 : q ≤ p
          · exact hq2
          · have := h p ((k + p : Nat) : Int) (by omega) (by rw [get_R, if_pos hp]) (by omega)
            omega
        · rw [if_neg hp]
          by_cases hq2 : q ≤ n
          · omega
          · have := (ih (k + n) (p - n) (q - n) (by omega)).2 (fun i x hi hx h0 => by
              have := h (i + n) x (by omega) (by rw [get_R, if_neg (by omega), Nat.add_sub_cancel]; exact hx) h0
              omega)
            omega
    | I t =>
      simp only [rgt]
      simp only [out1] at eo
      have e : q ≤ t.length + rgt r p ↔ q - t.length ≤ rgt r p := by omega
      rw [e, ih k p (q - t.length) (by omega)]
      constructor
      · intro h i x hi hx h0
        rw [get_I] at hx
        split at hx
        · have := get_negI hx; omega
        · exact h (i - t.length) x (by omega) hx h0
      · intro h i x hi hx h0
        exact h (i + t.length) x (by omega) (by rw [get_I, if_neg (by omega), Nat.add_sub_cancel]; exact hx) h0
    | D n =>
      simp only [rgt, get_D]
      simp only [out1] at eo
      rw [ih (k + n) (p - n) q (by omega)]
      constructor
      · intro h i x hi hx h0
        have h1 := h i x hi hx h0
        have h2 := get_lo hx h0
        omega
      · intro h i x hi hx h0
        have h1 := h i x hi hx h0
        have h2 := get_lo hx h0
        omega
theorem kpt_iff (a : List Q) : ∀ k p i, kpt a p = some i ↔ (atoms k a)[i]? = some ((k + p : Nat) : Int) := by
  induction a with
  | nil => intro k p i; simp [kpt, atoms]
  | cons c r ih =>
    intro k p i
    cases c with
    | R n =>
      simp only [kpt]
      rw [get_R]
      by_cases hp : p < n
      · rw [if_pos hp]
        by_cases hi : i < n
        · rw [if_pos hi]
          constructor
          · intro h; cases h; rfl
          · intro h; have := Option.some.inj h; congr 1; omega
        · rw [if_neg hi]
          constructor
          · intro h; cases h; omega
          · intro h; have := get_lo h (by omega); omega
      · rw [if_neg hp]
        by_cases hi : i < n
        · rw [if_pos hi]
          constructor
          · intro h
            obtain ⟨j, _, e⟩ := Option.map_eq_some_iff.1 h
            omega
          · intro h; have := Option.some.inj h; omega
        · rw [if_neg hi]
          have e := ih (k + n) (p - n) (i - n)
          rw [show k + n + (p - n) = k + p by omega] at e
          rw [← e, Option.map_eq_some_iff]
          constructor
          · rintro ⟨j, h, rfl⟩; rw [h]; congr 1; omega
          · intro h; exact ⟨i - n, h, by omega⟩
    | I t =>
      simp only [kpt]
      rw [get_I, Option.map_eq_some_iff]
      by_cases hi : i < t.length
      · rw [if_pos hi]
        constructor
        · rintro ⟨j, _, e⟩; omega
        · intro h; have := get_negI h; omega
      · rw [if_neg hi, ← ih k p (i - t.length)]
        constructor
        · rintro ⟨j, h, rfl⟩; rw [h]; congr 1; omega
        · intro h; exact ⟨i - t.length, h, by omega⟩
    | D n =>
      simp only [kpt, get_D]
      by_cases hp : p < n
      · rw [if_pos hp]
        constructor
        · intro h; cases h
        · intro h; have := get_lo h (by omega); omega
      · rw [if_neg hp]
        have e := ih (k + n) (p - n) i
        rwa [show k + n + (p - n) = k + p by omega] at e

/-! ### Equivalent deltas -/
theorem lft_congr {a b : List Q} (h : atoms 0 a = atoms 0 b) (p : Nat) : lft a p = lft b p := by
  have h1 := (lft_iff a 0 p (lft b p)).2 (by rw [h]; exact (lft_iff b 0 p (lft b p)).1 (Nat.le_refl _))
  have h2 := (lft_iff b 0 p (lft a p)).2 (by rw [← h]; exact (lft_iff a 0 p (lft a p)).1 (Nat.le_refl _))
  omega
theorem rgt_congr {a b : List Q} (h : atoms 0 a = atoms 0 b) (p : Nat) : rgt a p = rgt b p := by
  have eo : outL a = outL b := by rw [← atoms_length a 0, h, atoms_length]
  have h1 := (rgt_iff a 0 p (rgt b p) (by rw [eo]; exact rgt_le b p)).2 (by rw [h]; exact (rgt_iff b 0 p (rgt b p) (rgt_le b p)).1 (Nat.le_refl _))
  have h2 := (rgt_iff b 0 p (rgt a p) (by rw [← eo]; exact rgt_le a p)).2 (by rw [← h]; exact (rgt_iff a 0 p (rgt a p) (rgt_le a p)).1 (Nat.le_refl _))
  omega
theorem kpt_congr {a b : List Q} (h : atoms 0 a = atoms 0 b) (p : Nat) : kpt a p = kpt b p := by
  apply Option.ext
  intro i
  rw [kpt_iff a 0 p i, kpt_iff b 0 p i, h]
theorem lft_nf (a : List Q) (p : Nat) : lft (nf a) p = lft a p := lft_congr (atoms_nf a 0) p
theorem rgt_nf (a : List Q) (p : Nat) : rgt (nf a) p = rgt a p := rgt_congr (atoms_nf a 0) p
theorem kpt_nf (a : List Q) (p : Nat) : kpt (nf a) p = kpt a p := kpt_congr (atoms_nf a 0) p

/-! ### Order (P6.5) -/
theorem lft_mono (a : List Q) {p q : Nat} (h : p ≤ q) : lft a p ≤ lft a q :=
  (lft_iff a 0 p _).2 fun i x hi hx h0 => by
    have := (lft_iff a 0 q (lft a q)).1 (Nat.le_refl _) i x hi hx h0
    omega
theorem rgt_mono (a : List Q) {p q : Nat} (h : p ≤ q) : rgt a p ≤ rgt a q :=
  (rgt_iff a 0 q _ (rgt_le a p)).2 fun i x hi hx h0 => by
    have := (rgt_iff a 0 p (rgt a p) (rgt_le a p)).1 (Nat.le_refl _) i x hi hx h0
    omega
theorem lft_rgt (a : List Q) (p : Nat) : lft a p ≤ rgt a p :=
  (rgt_iff a 0 p _ (lft_le a p)).2 fun i x hi hx h0 => by
    refine Int.not_le.1 fun hc => ?_
    have h := (lft_iff a 0 p i).2 fun j y hj hy y0 => by
      rcases Nat.lt_or_eq_of_le hj with hlt | rfl
      · have := get_mono (good_of a) hx hy h0 y0 hlt; omega
      · rw [hx] at hy; cases hy; exact hc
    omega
theorem kpt_mono {a : List Q} {p q i j : Nat} (hi : kpt a p = some i) (hj : kpt a q = some j) (h : p < q) : i < j := by
  have h1 := (kpt_iff a 0 p i).1 hi
  have h2 := (kpt_iff a 0 q j).1 hj
  rcases Nat.lt_trichotomy i j with h3 | rfl | h3
  · exact h3
  · rw [h1] at h2; have := Option.some.inj h2; omega
  · have := get_mono (good_of a) h2 h1 (by omega) (by omega) h3; omega

/-! ### The gap (S3, P6.5) -/
theorem gap_between {a : List Q} {p i : Nat} {x : Int} (h1 : lft a p ≤ i) (h2 : i < rgt a p) (hx : (atoms 0 a)[i]? = some x) : x < 0 := by
  refine Int.not_le.1 fun h0 => ?_
  have h3 := (lft_iff a 0 p (lft a p)).1 (Nat.le_refl _) i x h1 hx h0
  have h4 := (rgt_iff a 0 p (rgt a p) (rgt_le a p)).1 (Nat.le_refl _) i x h2 hx h0
  omega
theorem gap_before {a : List Q} {p : Nat} (h : lft a p ≠ 0) : ∃ x, (atoms 0 a)[lft a p - 1]? = some x ∧ 0 ≤ x ∧ x < (p : Int) := by
  have hl := lft_le a p
  rw [← atoms_length a 0] at hl
  refine ⟨(atoms 0 a)[lft a p - 1]'(by omega), List.getElem?_eq_getElem _, ?_⟩
  have hx : (atoms 0 a)[lft a p - 1]? = some ((atoms 0 a)[lft a p - 1]'(by omega)) := List.getElem?_eq_getElem _
  generalize (atoms 0 a)[lft a p - 1]'(by omega) = x at hx
  refine Classical.byContradiction fun hc => ?_
  have := (lft_iff a 0 p (lft a p - 1)).2 fun i y hi hy y0 => by
    rcases Nat.lt_or_eq_of_le hi with hlt | rfl
    · exact (lft_iff a 0 p (lft a p)).1 (Nat.le_refl _) i y (by omega) hy y0
    · rw [hx] at hy; cases hy; omega
  omega
theorem gap_behind {a : List Q} {p : Nat} (h : rgt a p ≠ outL a) : ∃ x, (atoms 0 a)[rgt a p]? = some x ∧ (p : Int) ≤ x := by
  have hl := rgt_le a p
  have hlt : rgt a p < (atoms 0 a).length := by rw [atoms_length]; omega
  have hx : (atoms 0 a)[rgt a p]? = some ((atoms 0 a)[rgt a p]'hlt) := List.getElem?_eq_getElem _
  generalize (atoms 0 a)[rgt a p]'hlt = x at hx
  refine ⟨x, hx, ?_⟩
  refine Classical.byContradiction fun hc => ?_
  have := (rgt_iff a 0 p (rgt a p + 1) (by omega)).2 fun i y hi hy y0 => by
    rcases Nat.lt_or_eq_of_le (Nat.le_of_lt_succ hi) with hlt | rfl
    · exact (rgt_iff a 0 p (rgt a p) (rgt_le a p)).1 (Nat.le_refl _) i y hlt hy y0
    · rw [hx] at hy; cases hy; omega
  omega

/-! ### The other way round (P6.6, P6.7) -/
theorem swp_len (a : List Q) : inL (swp a) = outL a ∧ outL (swp a) = inL a := by
  induction a with
  | nil => exact ⟨rfl, rfl⟩
  | cons c r ih =>
    have e1 : outL (c :: r) = out1 c + outL r := rfl
    have e2 : inL (c :: r) = in1 c + inL r := rfl
    cases c <;> simp only [swp, inL, outL, in1, out1, List.length_replicate] <;> omega
theorem swp_swp (a : List Q) : (∀ p, lft (swp (swp a)) p = lft a p) ∧ (∀ p, rgt (swp (swp a)) p = rgt a p) := by
  induction a with
  | nil => exact ⟨fun _ => rfl, fun _ => rfl⟩
  | cons c r ih =>
    obtain ⟨h1, h2⟩ := ih
    cases c <;> refine ⟨fun p => ?_, fun p => ?_⟩ <;> simp only [swp, lft, rgt, h1, h2, List.length_replicate]
theorem lft_adj (a : List Q) : ∀ p q, p ≤ inL a → q ≤ outL a → (lft a p ≤ q ↔ p ≤ rgt (swp a) q) := by
  induction a with
  | nil => intro p q hp hq; simp [lft, swp, rgt]; exact Nat.le_zero.1 hp
  | cons c r ih =>
    intro p q hp hq
    have e1 : outL (c :: r) = out1 c + outL r := rfl
    have e2 : inL (c :: r) = in1 c + inL r := rfl
    cases c with
    | R n =>
      simp only [in1, out1] at e1 e2
      simp only [lft, swp, rgt]
      by_cases h1 : p ≤ n
      · rw [if_pos h1]
        by_cases h2 : q < n
        · rw [if_pos h2]
        · rw [if_neg h2]; omega
      · rw [if_neg h1]
        by_cases h2 : q < n
        · rw [if_pos h2]; omega
        · rw [if_neg h2]
          have := ih (p - n) (q - n) (by omega) (by omega)
          omega
    | I t =>
      simp only [in1, out1] at e1 e2
      simp only [lft, swp, rgt]
      have := ih p (q - t.length) (by omega) (by omega)
      split <;> omega
    | D n =>
      simp only [in1, out1] at e1 e2
      simp only [lft, swp, rgt, List.length_replicate]
      have := ih (p - n) q (by omega) (by omega)
      omega
theorem rgt_adj (a : List Q) (p q : Nat) (hp : p ≤ inL a) (hq : q ≤ outL a) : q ≤ rgt a p ↔ lft (swp a) q ≤ p := by
  have := lft_adj (swp a) q p (by rw [(swp_len a).1]; exact hq) (by rw [(swp_len a).2]; exact hp)
  rw [(swp_swp a).2] at this
  exact this.symm
theorem swp_nf_r (a : List Q) (q : Nat) (hq : q ≤ outL a) : rgt (swp (nf a)) q = rgt (swp a) q := by
  have l1 := rgt_le (swp a) q
  have l2 := rgt_le (swp (nf a)) q
  rw [(swp_len _).2] at l1 l2
  rw [inL_nf] at l2
  have h1 := (lft_adj a (rgt (swp a) q) q l1 hq).2 (Nat.le_refl _)
  have h2 := (lft_adj (nf a) (rgt (swp (nf a)) q) q (by rw [inL_nf]; exact l2) (by rw [outL_nf]; exact hq)).2 (Nat.le_refl _)
  have h3 := (lft_adj (nf a) (rgt (swp a) q) q (by rw [inL_nf]; exact l1) (by rw [outL_nf]; exact hq)).1 (by rw [lft_nf]; exact h1)
  have h4 := (lft_adj a (rgt (swp (nf a)) q) q l2 hq).1 (by rw [← lft_nf]; exact h2)
  omega
theorem swp_nf_l (a : List Q) (q : Nat) (hq : q ≤ outL a) : lft (swp (nf a)) q = lft (swp a) q := by
  have l1 := lft_le (swp a) q
  have l2 := lft_le (swp (nf a)) q
  rw [(swp_len _).2] at l1 l2
  rw [inL_nf] at l2
  have h1 := (rgt_adj a (lft (swp a) q) q l1 hq).2 (Nat.le_refl _)
  have h2 := (rgt_adj (nf a) (lft (swp (nf a)) q) q (by rw [inL_nf]; exact l2) (by rw [outL_nf]; exact hq)).2 (Nat.le_refl _)
  have h3 := (rgt_adj (nf a) (lft (swp a) q) q (by rw [inL_nf]; exact l1) (by rw [outL_nf]; exact hq)).1 (by rw [rgt_nf]; exact h1)
  have h4 := (rgt_adj a (lft (swp (nf a)) q) q l2 hq).1 (by rw [← rgt_nf]; exact h2)
  omega
theorem inv_swp (a : List Q) : ∀ S : List UInt8, inL a ≤ S.length → (∀ p, lft (inv S a) p = lft (swp a) p) ∧ (∀ p, rgt (inv S a) p = rgt (swp a) p) ∧ (∀ p, lft (swp (inv S a)) p = lft a p) ∧ (∀ p, rgt (swp (inv S a)) p = rgt a p) := by
  induction a with
  | nil => intro S _; exact ⟨fun _ => rfl, fun _ => rfl, fun _ => rfl, fun _ => rfl⟩
  | cons c r ih =>
    intro S hS
    have e2 : inL (c :: r) = in1 c + inL r := rfl
    cases c with
    | R n =>
      simp only [in1] at e2
      obtain ⟨h1, h2, h3, h4⟩ := ih (S.drop n) (by rw [List.length_drop]; omega)
      refine ⟨fun p => ?_, fun p => ?_, fun p => ?_, fun p => ?_⟩ <;> simp only [inv, swp, lft, rgt, h1, h2, h3, h4]
    | I t =>
      simp only [in1] at e2
      obtain ⟨h1, h2, h3, h4⟩ := ih S (by omega)
      refine ⟨fun p => ?_, fun p => ?_, fun p => ?_, fun p => ?_⟩ <;> simp only [inv, swp, lft, rgt, h1, h2, h3, h4, List.length_replicate]
    | D n =>
      simp only [in1] at e2
      obtain ⟨h1, h2, h3, h4⟩ := ih (S.drop n) (by rw [List.length_drop]; omega)
      have hl : (S.take n).length = n := by rw [List.length_take]; omega
      refine ⟨fun p => ?_, fun p => ?_, fun p => ?_, fun p => ?_⟩ <;> simp only [inv, swp, lft, rgt, h1, h2, h3, h4, List.length_replicate, hl]

/-! ### Compositions (P6.7) -/
theorem cmp_get {A B : List Int} {i : Nat} {x : Int} (h : (cmpA A B)[i]? = some x) (h0 : 0 ≤ x) : ∃ z, B[i]? = some z ∧ 0 ≤ z ∧ A.getD z.toNat 0 = x := by
  unfold cmpA at h
  rw [List.getElem?_map] at h
  obtain ⟨z, hz, e⟩ := Option.map_eq_some_iff.1 h
  refine ⟨z, hz, ?_⟩
  unfold pick at e
  split at e
  · omega
  · exact ⟨by omega, e⟩
theorem cmp_put {A B : List Int} {i : Nat} {z x : Int} (hz : B[i]? = some z) (z0 : 0 ≤ z) (hx : A[z.toNat]? = some x) : (cmpA A B)[i]? = some x := by
  unfold cmpA
  rw [List.getElem?_map, hz]
  show some (pick A z) = _
  unfold pick
  rw [if_neg (by omega), List.getD_eq_getElem?_getD, hx]; rfl
theorem get_of_getD {A : List Int} {i : Nat} {x : Int} (h : i < A.length) (e : A.getD i 0 = x) : A[i]? = some x := by
  rw [List.getD_eq_getElem?_getD, List.getElem?_eq_getElem h] at e
  rw [List.getElem?_eq_getElem h]; simpa using e
theorem ent_lt {b : List Q} {i : Nat} {z : Int} (hz : (atoms 0 b)[i]? = some z) (z0 : 0 ≤ z) : z.toNat < inL b := by
  rcases good_range (good_of b) z (List.mem_of_getElem? hz) with h | h <;> omega
theorem lft_cq {a b : List Q} (h : outL a = inL b) (p : Nat) : lft (cQ a b) p ≤ lft b (lft a p) := by
  have c := cq h
  refine (lft_iff _ 0 p _).2 fun i x hi hx h0 => ?_
  rw [c.ats] at hx
  obtain ⟨z, hz, z0, e⟩ := cmp_get hx h0
  have hl := ent_lt hz z0
  have h1 := (lft_iff b 0 (lft a p) _).1 (Nat.le_refl _) i z hi hz z0
  exact (lft_iff a 0 p (lft a p)).1 (Nat.le_refl _) z.toNat x (by omega) (get_of_getD (by rw [atoms_length]; omega) e) h0
theorem rgt_cq {a b : List Q} (h : outL a = inL b) (p : Nat) : rgt b (rgt a p) ≤ rgt (cQ a b) p := by
  have c := cq h
  refine (rgt_iff _ 0 p _ (by rw [c.out]; exact rgt_le _ _)).2 fun i x hi hx h0 => ?_
  rw [c.ats] at hx
  obtain ⟨z, hz, z0, e⟩ := cmp_get hx h0
  have hl := ent_lt hz z0
  have h1 := (rgt_iff b 0 (rgt a p) _ (rgt_le _ _)).1 (Nat.le_refl _) i z hi hz z0
  exact (rgt_iff a 0 p (rgt a p) (rgt_le _ _)).1 (Nat.le_refl _) z.toNat x (by omega) (get_of_getD (by rw [atoms_length]; omega) e) h0
def isI : Q → Bool
  | .I _ => true
  | _ => false
def isD : Q → Bool
  | .D _ => true
  | _ => false
theorem noI_get (a : List Q) (h : a.any isI = false) : ∀ (k i : Nat) (x : Int), (atoms k a)[i]? = some x → 0 ≤ x := by
  induction a with
  | nil => intro k i x hx; simp [atoms] at hx
  | cons c r ih =>
    intro k i x hx
    rw [List.any_cons, Bool.or_eq_false_iff] at h
    cases c with
    | R n =>
      rw [get_R] at hx
      split at hx
      · cases hx; omega
      · exact ih h.2 _ _ _ hx
    | I t => exact absurd h.1 (by simp [isI])
    | D n => rw [get_D] at hx; exact ih h.2 _ _ _ hx
theorem noD_get (b : List Q) (h : b.any isD = false) : ∀ k j, j < inL b → ∃ i : Nat, (atoms k b)[i]? = some ((k + j : Nat) : Int) := by
  induction b with
  | nil => intro k j hj; exact absurd hj (Nat.not_lt_zero _)
  | cons c r ih =>
    intro k j hj
    have e2 : inL (c :: r) = in1 c + inL r := rfl
    rw [List.any_cons, Bool.or_eq_false_iff] at h
    cases c with
    | R n =>
      simp only [in1] at e2
      by_cases hn : j < n
      · exact ⟨j, by rw [get_R, if_pos hn]⟩
      · obtain ⟨i, hi⟩ := ih h.2 (k + n) (j - n) (by omega)
        exact ⟨i + n, by rw [get_R, if_neg (by omega), Nat.add_sub_cancel, hi, show k + n + (j - n) = k + j by omega]⟩
    | I t =>
      simp only [in1] at e2
      obtain ⟨i, hi⟩ := ih h.2 k j (by omega)
      exact ⟨i + t.length, by rw [get_I, if_neg (by omega), Nat.add_sub_cancel, hi]⟩
    | D n => exact absurd h.1 (by simp [isD])
theorem le_of_mono {a : List Q} {i j : Nat} {x y : Int} (hi : (atoms 0 a)[i]? = some x) (hj : (atoms 0 a)[j]? = some y) (x0 : 0 ≤ x) (y0 : 0 ≤ y) (h : i ≤ j) : x ≤ y := by
  rcases Nat.lt_or_eq_of_le h with h | rfl
  · have := get_mono (good_of a) hi hj x0 y0 h; omega
  · rw [hi] at hj; cases hj; omega
theorem lft_cq_eq {a b : List Q} (h : outL a = inL b) (hn : a.any isI = false ∨ b.any isD = false) (p : Nat) : lft (cQ a b) p = lft b (lft a p) := by
  have c := cq h
  refine Nat.le_antisymm (lft_cq h p) ((lft_iff b 0 (lft a p) _).2 fun i z hi hz z0 => ?_)
  have hl := ent_lt hz z0
  have hC := (lft_iff (cQ a b) 0 p (lft (cQ a b) p)).1 (Nat.le_refl _)
  rw [c.ats] at hC
  have := (lft_iff a 0 p z.toNat).2 fun j x hj hx x0 => by
    rcases hn with hn | hn
    · have hA : (atoms 0 a)[z.toNat]? = some ((atoms 0 a)[z.toNat]'(by rw [atoms_length]; omega)) := List.getElem?_eq_getElem _
      have hA0 := noI_get a hn 0 _ _ hA
      have h1 := hC i _ hi (cmp_put hz z0 hA) hA0
      have h2 := le_of_mono hA hx hA0 x0 hj
      omega
    · have hjl := (List.getElem?_eq_some_iff.1 hx).1
      rw [atoms_length] at hjl
      obtain ⟨i', hi'⟩ := noD_get b hn 0 j (by omega)
      have hle : i ≤ i' := Nat.le_of_not_lt fun hlt => by
        have := get_mono (good_of b) hi' hz (by omega) z0 hlt; omega
      exact hC i' x (by omega) (cmp_put hi' (by omega) (by simpa using hx)) x0
  omega
theorem rgt_cq_eq {a b : List Q} (h : outL a = inL b) (hn : a.any isI = false ∨ b.any isD = false) (p : Nat) : rgt (cQ a b) p = rgt b (rgt a p) := by
  have c := cq h
  have hle := rgt_le (cQ a b) p
  rw [c.out] at hle
  refine Nat.le_antisymm ((rgt_iff b 0 (rgt a p) _ hle).2 fun i z hi hz z0 => ?_) (rgt_cq h p)
  have hl := ent_lt hz z0
  have hC := (rgt_iff (cQ a b) 0 p (rgt (cQ a b) p) (rgt_le _ _)).1 (Nat.le_refl _)
  rw [c.ats] at hC
  have := (rgt_iff a 0 p (z.toNat + 1) (by omega)).2 fun j x hj hx x0 => by
    rcases hn with hn | hn
    · have hA : (atoms 0 a)[z.toNat]? = some ((atoms 0 a)[z.toNat]'(by rw [atoms_length]; omega)) := List.getElem?_eq_getElem _
      have hA0 := noI_get a hn 0 _ _ hA
      have h1 := hC i _ hi (cmp_put hz z0 hA) hA0
      have h2 := le_of_mono hx hA x0 hA0 (by omega)
      omega
    · obtain ⟨i', hi'⟩ := noD_get b hn 0 j (by omega)
      have hle : i' ≤ i := Nat.le_of_not_lt fun hlt => by
        have := get_mono (good_of b) hz hi' z0 (by omega) hlt; omega
      exact hC i' x (by omega) (cmp_put hi' (by omega) (by simpa using hx)) x0
  omega
end Go.Proofs.Ytmbgcbgbdjiacaa.D
/- ShiftMath2 -/
namespace Go.Proofs.Ytmbgcbgbdjiacaa.D

/-! ### The extent (P6.4, P6.8) -/
def fstR : List Q → Nat
  | .R n :: _ => n
  | _ => 0
def lstR : List Q → Nat
  | [] => 0
  | [.R n] => n
  | [_] => 0
  | _ :: q :: r => lstR (q :: r)
def whole : List Q → Bool
  | [] => true
  | [.R _] => true
  | _ => false
def extF (a : List Q) : Nat := if whole (nf a) then inL a else fstR (nf a)
def extT (a : List Q) : Nat := if whole (nf a) then inL a else inL a - lstR (nf a)
def extE (a : List Q) : Nat := if whole (nf a) then inL a else outL a - lstR (nf a)
theorem lstR_split (N : List Q) (h : lstR N ≠ 0) : ∃ Y, N = Y ++ [.R (lstR N)] := by
  induction N with
  | nil => exact absurd rfl h
  | cons c r ih =>
    cases r with
    | nil =>
      cases c with
      | R n => exact ⟨[], rfl⟩
      | I t => exact absurd rfl h
      | D n => exact absurd rfl h
    | cons q r =>
      have e : lstR (c :: q :: r) = lstR (q :: r) := by cases c <;> rfl
      rw [e] at h
      obtain ⟨Y, hY⟩ := ih h
      exact ⟨c :: Y, by rw [e, hY]; simp [← hY]⟩
theorem lft_suf (Y : List Q) : ∀ n p, inL Y < p → p ≤ inL Y + n → lft (Y ++ [.R n]) p = outL Y + (p - inL Y) := by
  induction Y with
  | nil =>
    intro n p h1 h2
    have e1 : inL [] = 0 := rfl
    have e2 : outL [] = 0 := rfl
    show lft [.R n] p = _
    simp only [lft]
    rw [if_pos (by omega)]; omega
  | cons c r ih =>
    intro n p h1 h2
    have e1 : outL (c :: r) = out1 c + outL r := rfl
    have e2 : inL (c :: r) = in1 c + inL r := rfl
    cases c with
    | R m =>
      simp only [in1, out1] at e1 e2
      simp only [List.cons_append, lft]
      rw [if_neg (by omega), ih n (p - m) (by omega) (by omega)]; omega
    | I t =>
      simp only [in1, out1] at e1 e2
      simp only [List.cons_append, lft]
      rw [ih n p (by omega) (by omega), if_neg (by omega)]; omega
    | D m =>
      simp only [in1, out1] at e1 e2
      simp only [List.cons_append, lft]
      rw [ih n (p - m) (by omega) (by omega)]; omega
theorem rgt_suf (Y : List Q) : ∀ n p, inL Y ≤ p → p ≤ inL Y + n → rgt (Y ++ [.R n]) p = outL Y + (p - inL Y) := by
  induction Y with
  | nil =>
    intro n p h1 h2
    have e1 : inL [] = 0 := rfl
    have e2 : outL [] = 0 := rfl
    show rgt [.R n] p = _
    simp only [rgt]
    split <;> omega
  | cons c r ih =>
    intro n p h1 h2
    have e1 : outL (c :: r) = out1 c + outL r := rfl
    have e2 : inL (c :: r) = in1 c + inL r := rfl
    cases c with
    | R m =>
      simp only [in1, out1] at e1 e2
      simp only [List.cons_append, rgt]
      rw [if_neg (by omega), ih n (p - m) (by omega) (by omega)]; omega
    | I t =>
      simp only [in1, out1] at e1 e2
      simp only [List.cons_append, rgt]
      rw [ih n p (by omega) (by omega)]; omega
    | D m =>
      simp only [in1, out1] at e1 e2
      simp only [List.cons_append, rgt]
      rw [ih n (p - m) (by omega) (by omega)]; omega
theorem kpt_suf (Y : List Q) : ∀ n p, inL Y ≤ p → p < inL Y + n → kpt (Y ++ [.R n]) p = some (outL Y + (p - inL Y)) := by
  induction Y with
  | nil =>
    intro n p h1 h2
    have e1 : inL [] = 0 := rfl
    have e2 : outL [] = 0 := rfl
    show kpt [.R n] p = _
    simp only [kpt]
    rw [if_pos (by omega)]; congr 1; omega
  | cons c r ih =>
    intro n p h1 h2
    have e1 : outL (c :: r) = out1 c + outL r := rfl
    have e2 : inL (c :: r) = in1 c + inL r := rfl
    cases c with
    | R m =>
      simp only [in1, out1] at e1 e2
      simp only [List.cons_append, kpt]
      rw [if_neg (by omega), ih n (p - m) (by omega) (by omega)]; simp only [Option.map_some]; congr 1; omega
    | I t =>
      simp only [in1, out1] at e1 e2
      simp only [List.cons_append, kpt]
      rw [ih n p (by omega) (by omega)]; simp only [Option.map_some]; congr 1; omega
    | D m =>
      simp only [in1, out1] at e1 e2
      simp only [List.cons_append, kpt]
      rw [if_neg (by omega), ih n (p - m) (by omega) (by omega)]; congr 1; omega
theorem pre_R (f : Nat) (Z : List Q) (p : Nat) (h : p < f) : lft (.R f :: Z) p = p ∧ rgt (.R f :: Z) p = p ∧ kpt (.R f :: Z) p = some p := by
  simp only [lft, rgt, kpt]
  exact ⟨if_pos (by omega), if_pos h, if_pos h⟩
theorem lstR_le (N : List Q) (hw : whole N = false) : fstR N + lstR N ≤ inL N ∧ fstR N + lstR N ≤ outL N := by
  by_cases h : lstR N = 0
  · rw [h]
    cases N with
    | nil => exact ⟨Nat.zero_le _, Nat.zero_le _⟩
    | cons c r =>
      have e1 : outL (c :: r) = out1 c + outL r := rfl
      have e2 : inL (c :: r) = in1 c + inL r := rfl
      cases c <;> simp only [fstR, in1, out1] at * <;> omega
  · obtain ⟨Y, hY⟩ := lstR_split N h
    have e1 : inL [.R (lstR N)] = lstR N := rfl
    have e2 : outL [.R (lstR N)] = lstR N := rfl
    cases Y with
    | nil => rw [List.nil_append] at hY; rw [hY] at hw; cases hw
    | cons c r =>
      have e3 : fstR N = fstR (c :: r) := by
        conv => lhs; rw [hY]
        cases c <;> rfl
      have e4 : inL N = inL (c :: r) + lstR N := by
        conv => lhs; rw [hY]
        rw [inL_append, e1]
      have e5 : outL N = outL (c :: r) + lstR N := by
        conv => lhs; rw [hY]
        rw [outL_append, e2]
      have e6 : outL (c :: r) = out1 c + outL r := rfl
      have e7 : inL (c :: r) = in1 c + inL r := rfl
      cases c <;> simp only [fstR, in1, out1] at * <;> omega
structure Ext (S : List UInt8) (a : List Q) : Prop where
  le1 : extF a ≤ extT a
  le2 : extT a ≤ inL a
  le3 : extF a ≤ extE a
  le4 : extE a ≤ outL a
  rest : inL a - extT a = outL a - extE a
  pre : S.take (extF a) = (apl S a).take (extF a)
  suf : S.drop (extT a) = (apl S a).drop (extE a)
  before : ∀ p, p < extF a → lft a p = p ∧ rgt a p = p ∧ kpt a p = some p
  behind : ∀ p, extT a < p → p ≤ inL a → lft a p = p - extT a + extE a ∧ rgt a p = p - extT a + extE a
  keptB : ∀ p, extT a ≤ p → p < inL a → ∃ i, kpt a p = some i
theorem ext_whole {a : List Q} (h : whole (nf a) = true) : outL a = inL a ∧ (∀ S : List UInt8, inL a = S.length → apl S a = S) ∧ ∀ p, p < inL a → lft a p = p ∧ rgt a p = p ∧ kpt a p = some p := by
  have ho : outL (nf a) = outL a := outL_nf a
  have hi : inL (nf a) = inL a := inL_nf a
  have hap := apl_nf a
  have hl := lft_nf a
  have hr := rgt_nf a
  have hk := kpt_nf a
  generalize nf a = N at *
  match N, h with
  | [], _ =>
    have e1 : inL [] = 0 := rfl
    have e2 : outL [] = 0 := rfl
    refine ⟨by omega, fun S hS => ?_, fun p hp => by omega⟩
    rw [← hap]
    have : S.length = 0 := by omega
    rw [List.eq_nil_of_length_eq_zero this]; rfl
  | [.R n], _ =>
    have e1 : inL [.R n] = n := rfl
    have e2 : outL [.R n] = n := rfl
    refine ⟨by omega, fun S hS => ?_, fun p hp => ?_⟩
    · rw [← hap]
      show S.take n ++ [] = S
      rw [List.append_nil, List.take_of_length_le (by omega)]
    · rw [← hl, ← hr, ← hk]
      exact pre_R n [] p (by omega)
theorem ext_of {S : List UInt8} {a : List Q} (hS : inL a = S.length) : Ext S a := by
  cases hw : whole (nf a) with
  | true =>
    obtain ⟨h1, h2, h3⟩ := ext_whole hw
    have eF : extF a = inL a := if_pos hw
    have eT : extT a = inL a := if_pos hw
    have eE : extE a = inL a := if_pos hw
    have h2 := h2 S hS
    refine ⟨by omega, by omega, by omega, by omega, by omega, by rw [h2], by rw [h2, eT, eE], fun p hp => h3 p (by omega), fun p h4 h5 => by omega, fun p h4 h5 => by omega⟩
  | false =>
    have nw : ¬ whole (nf a) = true := by rw [hw]; decide
    have eF : extF a = fstR (nf a) := if_neg nw
    have eT : extT a = inL a - lstR (nf a) := if_neg nw
    have eE : extE a = outL a - lstR (nf a) := if_neg nw
    obtain ⟨l1, l2⟩ := lstR_le (nf a) hw
    rw [inL_nf] at l1
    rw [outL_nf] at l2
    have hap := apl_nf a S
    have hlen : (apl S a).length = outL a := apl_length a S hS
    have pr : ∀ p, p < fstR (nf a) → lft a p = p ∧ rgt a p = p ∧ kpt a p = some p := fun p hp => by
      rw [← lft_nf, ← rgt_nf, ← kpt_nf]
      cases hN : nf a with
      | nil => rw [hN] at hp; exact absurd hp (Nat.not_lt_zero _)
      | cons c r =>
        rw [hN] at hp
        cases c with
        | R f => exact pre_R f r p hp
        | I t => exact absurd hp (Nat.not_lt_zero _)
        | D n => exact absurd hp (Nat.not_lt_zero _)
    have ptake : S.take (fstR (nf a)) = (apl S a).take (fstR (nf a)) := by
      rw [← hap]
      cases hN : nf a with
      | nil => simp [fstR]
      | cons c r =>
        cases c with
        | R f =>
          have hf : fstR (.R f :: r) = f := rfl
          rw [hN, hf] at l1
          rw [hf]
          show S.take f = (S.take f ++ apl (S.drop f) r).take f
          rw [List.take_append_of_le_length (by rw [List.length_take]; omega), List.take_take, Nat.min_self]
        | I t => simp [fstR]
        | D n => simp [fstR]
    by_cases hl : lstR (nf a) = 0
    · rw [hl] at l1 l2 eT eE
      refine ⟨by omega, by omega, by omega, by omega, by omega, by rw [eF]; exact ptake, ?_, fun p hp => pr p (by omega), fun p h4 h5 => by omega, fun p h4 h5 => by omega⟩
      rw [eT, eE, List.drop_of_length_le (by omega), List.drop_of_length_le (by omega)]
    · obtain ⟨Y, hY⟩ := lstR_split (nf a) hl
      generalize hm : lstR (nf a) = m at *
      have e1 : inL [.R m] = m := rfl
      have e2 : outL [.R m] = m := rfl
      have e4 : inL a = inL Y + m := by rw [← inL_nf, hY, inL_append, e1]
      have e5 : outL a = outL Y + m := by rw [← outL_nf, hY, outL_append, e2]
      refine ⟨by omega, by omega, by omega, by omega, by omega, by rw [eF]; exact ptake, ?_, fun p hp => pr p (by omega), fun p h4 h5 => ?_, fun p h4 h5 => ?_⟩
      · rw [← hap, hY, eT, eE, show inL a - m = inL Y by omega, show outL a - m = outL Y by omega]
        have hs : S = S.take (inL Y) ++ S.drop (inL Y) := (List.take_append_drop _ _).symm
        have ht : (S.take (inL Y)).length = inL Y := by rw [List.length_take]; omega
        conv => rhs; rw [hs]
        rw [apl_append Y [.R m] _ _ ht.symm]
        have hy : (apl (S.take (inL Y)) Y).length = outL Y := apl_length Y _ ht.symm
        have hd : (apl (S.take (inL Y)) Y).drop (outL Y) = [] := List.drop_of_length_le (by omega)
        rw [List.drop_append_of_le_length (by omega), hd, List.nil_append]
        show _ = (S.drop (inL Y)).take m ++ []
        rw [List.append_nil, List.take_of_length_le (by rw [List.length_drop]; omega)]
      · rw [← lft_nf, ← rgt_nf, hY, lft_suf Y m p (by omega) (by omega), rgt_suf Y m p (by omega) (by omega)]
        omega
      · rw [← kpt_nf, hY]
        exact ⟨_, kpt_suf Y m p (by omega) (by omega)⟩
theorem kpt_byte {S : List UInt8} {a : List Q} (hS : inL a = S.length) {p i : Nat} (h : kpt a p = some i) : p < S.length ∧ i < (apl S a).length ∧ (apl S a)[i]? = S[p]? := by
  have h1 := (kpt_iff a 0 p i).1 h
  have hi := (List.getElem?_eq_some_iff.1 h1).1
  rw [atoms_length] at hi
  have hp := ent_lt h1 (by omega)
  refine ⟨by omega, by rw [apl_length a S hS]; exact hi, ?_⟩
  rw [apl_at S a hS, List.getElem?_map, h1]
  have hp' : p < S.length := by omega
  rw [List.getElem?_eq_getElem hp']
  simp [vb]
  rw [if_neg (by omega)]
  simp [List.getElem?_eq_getElem hp']

/-! ### Runs of kept bytes, as the reference goes through them -/
def runs (i o : Nat) : List Q → List (Nat × Nat × Nat)
  | [] => []
  | .R n :: r => (i, o, n) :: runs (i + n) (o + n) r
  | .I t :: r => runs i (o + t.length) r
  | .D n :: r => runs (i + n) o r
def turn (l : List (Nat × Nat × Nat)) : List (Nat × Nat × Nat) := l.map fun x => (x.2.1, x.1, x.2.2)
theorem turn_runs (a : List Q) : ∀ i o, turn (runs i o a) = runs o i (swp a) := by
  induction a with
  | nil => intro i o; rfl
  | cons c r ih =>
    intro i o
    cases c with
    | R n => show (o, i, n) :: turn (runs (i + n) (o + n) r) = _; rw [ih]; rfl
    | I t => show turn (runs i (o + t.length) r) = runs (o + t.length) i (swp r); rw [ih]
    | D n => show turn (runs (i + n) o r) = runs o (i + (List.replicate n (0 : UInt8)).length) (swp r); rw [ih, List.length_replicate]
def leftF (p : Nat) : Nat → List (Nat × Nat × Nat) → Nat
  | t, [] => t
  | t, (i, o, n) :: r => leftF p (if i < p then o + min (p - i) n else t) r
def rightF (p e : Nat) : List (Nat × Nat × Nat) → Nat
  | [] => e
  | (i, o, n) :: r => if p < i + n then o + (p - i) else rightF p e r
def keptF (p : Nat) : List (Nat × Nat × Nat) → Option Nat
  | [] => none
  | (i, o, n) :: r => if i ≤ p ∧ p < i + n then some (o + (p - i)) else keptF p r
theorem lft_R (n : Nat) (r : List Q) (p : Nat) : lft (.R n :: r) p = if p ≤ n then p else n + lft r (p - n) := rfl
theorem lft_I (t : List UInt8) (r : List Q) (p : Nat) : lft (.I t :: r) p = if lft r p = 0 then 0 else t.length + lft r p := rfl
theorem lft_D (n : Nat) (r : List Q) (p : Nat) : lft (.D n :: r) p = lft r (p - n) := rfl
theorem leftF_runs (a : List Q) (h : allPos a = true) : ∀ i o p t, leftF p t (runs i o a) = if lft a (p - i) = 0 then t else o + lft a (p - i) := by
  induction a with
  | nil => intro i o p t; rfl
  | cons c r ih =>
    intro i o p t
    have h0 : pos c = true ∧ allPos r = true := by simpa [allPos] using h
    cases c with
    | R n =>
      have hn : 0 < n := by simpa [pos] using h0.1
      show leftF p (if i < p then o + min (p - i) n else t) (runs (i + n) (o + n) r) = _
      rw [ih h0.2, lft_R]
      rw [show p - (i + n) = p - i - n by omega]
      by_cases hp : p - i ≤ n
      · rw [if_pos hp, show p - i - n = 0 by omega, lft_zero, if_pos rfl]
        by_cases hi : i < p
        · rw [if_pos hi, if_neg (by omega), Nat.min_eq_left hp]
        · rw [if_neg hi, if_pos (by omega)]
      · have hip : i < p := by omega
        rw [if_neg hp, if_pos hip, if_neg (show ¬ n + lft r (p - i - n) = 0 by omega), Nat.min_eq_right (by omega)]
        split <;> omega
    | I t' =>
      show leftF p t (runs i (o + t'.length) r) = _
      rw [ih h0.2, lft_I]
      have ht : 0 < t'.length := by
        have : t' ≠ [] := by simpa [pos] using h0.1
        exact List.length_pos_iff.2 this
      by_cases hz : lft r (p - i) = 0
      · rw [if_pos hz, if_pos hz, if_pos rfl]
      · rw [if_neg hz, if_neg hz, if_neg (by omega)]; omega
    | D n =>
      show leftF p t (runs (i + n) o r) = _
      rw [ih h0.2, lft_D, show p - (i + n) = p - i - n by omega]
theorem left_runs (a : List Q) (h : allPos a = true) (p : Nat) : leftF p 0 (runs 0 0 a) = lft a p := by
  rw [leftF_runs a h, Nat.sub_zero]
  split <;> omega
theorem rightF_runs (a : List Q) (h : allPos a = true) : ∀ i o p, rightF p (o + outL a) (runs i o a) = o + rgt a (p - i) := by
  induction a with
  | nil => intro i o p; rfl
  | cons c r ih =>
    intro i o p
    have h0 : pos c = true ∧ allPos r = true := by simpa [allPos] using h
    have e1 : outL (c :: r) = out1 c + outL r := rfl
    cases c with
    | R n =>
      have hn : 0 < n := by simpa [pos] using h0.1
      simp only [out1] at e1
      show (if p < i + n then o + (p - i) else rightF p (o + outL (.R n :: r)) (runs (i + n) (o + n) r)) = _
      simp only [rgt]
      by_cases hp : p < i + n
      · rw [if_pos hp, if_pos (by omega)]
      · rw [if_neg hp, if_neg (by omega), e1, ← Nat.add_assoc, ih h0.2, show p - (i + n) = p - i - n by omega]; omega
    | I t =>
      simp only [out1] at e1
      show rightF p (o + outL (.I t :: r)) (runs i (o + t.length) r) = _
      simp only [rgt]
      rw [e1, ← Nat.add_assoc, ih h0.2]; omega
    | D n =>
      simp only [out1] at e1
      show rightF p (o + outL (.D n :: r)) (runs (i + n) o r) = _
      simp only [rgt]
      rw [e1, Nat.zero_add, ih h0.2, show p - (i + n) = p - i - n by omega]
theorem right_runs (a : List Q) (h : allPos a = true) (p : Nat) : rightF p (outL a) (runs 0 0 a) = rgt a p := by
  have := rightF_runs a h 0 0 p
  simpa using this
theorem keptF_none (a : List Q) : ∀ i o p, p < i → keptF p (runs i o a) = none := by
  induction a with
  | nil => intro i o p _; rfl
  | cons c r ih =>
    intro i o p hi
    cases c with
    | R n =>
      show (if i ≤ p ∧ p < i + n then some (o + (p - i)) else keptF p (runs (i + n) (o + n) r)) = _
      rw [if_neg (by omega)]; exact ih _ _ _ (by omega)
    | I t => exact ih _ _ _ hi
    | D n => exact ih _ _ _ (by omega)
theorem keptF_runs (a : List Q) : ∀ i o p, i ≤ p → keptF p (runs i o a) = (kpt a (p - i)).map (o + ·) := by
  induction a with
  | nil => intro i o p _; rfl
  | cons c r ih =>
    intro i o p hi
    cases c with
    | R n =>
      show (if i ≤ p ∧ p < i + n then some (o + (p - i)) else keptF p (runs (i + n) (o + n) r)) = _
      simp only [kpt]
      by_cases hp : p < i + n
      · rw [if_pos ⟨hi, hp⟩, if_pos (by omega)]; rfl
      · rw [if_neg (fun h => hp h.2), if_neg (by omega), ih _ _ _ (by omega), show p - (i + n) = p - i - n by omega, Option.map_map]
        congr 1; funext x; simp only [Function.comp]; omega
    | I t =>
      show keptF p (runs i (o + t.length) r) = _
      simp only [kpt]
      rw [ih _ _ _ hi, Option.map_map]
      congr 1; funext x; simp only [Function.comp]; omega
    | D n =>
      show keptF p (runs (i + n) o r) = _
      simp only [kpt]
      by_cases hp : p - i < n
      · rw [if_pos hp]
        exact keptF_none r (i + n) o p (by omega)
      · rw [if_neg hp, ih _ _ _ (by omega), show p - (i + n) = p - i - n by omega]
theorem kept_runs (a : List Q) (p : Nat) : keptF p (runs 0 0 a) = kpt a p := by
  rw [keptF_runs a 0 0 p (Nat.zero_le _), Nat.sub_zero]
  cases kpt a p <;> simp
end Go.Proofs.Ytmbgcbgbdjiacaa.D
/- ShiftSpan -/
namespace Go.Proofs.Ytmbgcbgbdjiacaa.D

/-- The ranges of a piece: in the string from a to b, in the result from c to d. -/
structure S4 where
  a : Nat
  b : Nat
  c : Nat
  d : Nat
def S4.flip (x : S4) : S4 := ⟨x.c, x.d, x.a, x.b⟩
def S4.kept (x : S4) : Bool := decide (x.a < x.b) && decide (x.c < x.d)
def sp1 (i o : Nat) : Q → S4
  | .R n => ⟨i, i + n, o, o + n⟩
  | .I t => ⟨i, i, o, o + t.length⟩
  | .D n => ⟨i, i + n, o, o⟩
def spans (i o : Nat) : List Q → List S4
  | [] => []
  | q :: r => sp1 i o q :: spans (i + in1 q) (o + out1 q) r
theorem spans_len (a : List Q) : ∀ i o, (spans i o a).length = a.length := by
  induction a with
  | nil => intro i o; rfl
  | cons q r ih => intro i o; simp [spans, ih]
theorem spans_swp (a : List Q) : ∀ i o, (spans i o a).map S4.flip = spans o i (swp a) := by
  induction a with
  | nil => intro i o; rfl
  | cons q r ih =>
    intro i o
    cases q with
    | R n => show S4.flip _ :: (spans _ _ r).map S4.flip = _; rw [ih]; rfl
    | I t => show S4.flip _ :: (spans _ _ r).map S4.flip = _; rw [ih]; rfl
    | D n => show S4.flip _ :: (spans _ _ r).map S4.flip = _; rw [ih]; simp [swp, spans, sp1, S4.flip, in1, out1]
theorem swp_pos (a : List Q) (h : allPos a = true) : allPos (swp a) = true := by
  induction a with
  | nil => rfl
  | cons q r ih =>
    unfold allPos at *
    rw [List.all_cons, Bool.and_eq_true] at h
    have := ih h.2
    cases q with
    | R n => have h1 : 0 < n := by simpa [pos] using h.1
             simpa [swp, pos] using And.intro h1 this
    | I t => cases t with
      | nil => simp [pos] at h
      | cons x t => simpa [swp, pos] using this
    | D n => cases n with
      | zero => simp [pos] at h
      | succ n => simpa [swp, pos, List.replicate_succ] using this
/-- All ranges end at the lengths, or before them. -/
theorem spans_bd (a : List Q) : ∀ i o x, x ∈ spans i o a → x.a ≤ x.b ∧ x.c ≤ x.d ∧ i ≤ x.a ∧ o ≤ x.c ∧ x.b ≤ i + inL a ∧ x.d ≤ o + outL a := by
  induction a with
  | nil => intro i o x h; cases h
  | cons q r ih =>
    intro i o x h
    rcases List.mem_cons.1 h with rfl | h
    · cases q <;> simp only [sp1, inL, outL, in1, out1] <;> omega
    · have := ih _ _ x h
      simp only [inL, outL]
      omega

/-- Asking piece after piece, until one answers. -/
def asks {σ : Type} (st : σ → S4 → σ × Bool) (s : σ × Bool) (l : List S4) : σ × Bool := l.foldl (fun s x => if s.2 then s else st s.1 x) s
theorem asks_nil {σ : Type} (st : σ → S4 → σ × Bool) (s : σ × Bool) : asks st s [] = s := rfl
theorem asks_cons {σ : Type} (st : σ → S4 → σ × Bool) (s : σ) (x : S4) (l : List S4) : asks st (s, false) (x :: l) = asks st (st s x) l := rfl
theorem asks_snoc {σ : Type} (st : σ → S4 → σ × Bool) (s s' : σ) (l : List S4) (x : S4) (h : asks st (s, false) l = (s', false)) : asks st (s, false) (l ++ [x]) = st s' x := by
  unfold asks at *
  rw [List.foldl_append, h]; rfl
theorem asks_done {σ : Type} (st : σ → S4 → σ × Bool) (s : σ) (l : List S4) : asks st (s, true) l = (s, true) := by
  induction l with
  | nil => rfl
  | cons x l ih => exact ih
theorem asks_ended {σ : Type} (st : σ → S4 → σ × Bool) (s s' : σ) (l t : List S4) (h : asks st (s, false) l = (s', true)) : asks st (s, false) (l ++ t) = (s', true) := by
  have := asks_done st s' t
  unfold asks at *
  rw [List.foldl_append, h]; exact this

def stL (p : Nat) (m : Nat) (x : S4) : Nat × Bool := if p ≤ x.a then (m, true) else if x.kept then (x.c + min p x.b - x.a, false) else (m, false)
def stR (p : Nat) (m : Nat) (x : S4) : Nat × Bool := if x.b ≤ p then (m, false) else if x.kept then (x.c + max p x.a - x.a, true) else (m, false)
def stF (p : Nat) (s : Int × Bool) (x : S4) : (Int × Bool) × Bool := if x.b ≤ p then (s, false) else if x.kept then (((x.c : Int) + p - x.a, true), true) else (s, true)
def stC (s : S4) (x : S4) : S4 × Bool := if x.kept then (s, false) else (⟨min s.a x.a, x.b, min s.c x.c, x.d⟩, false)

theorem kept_R (i o n : Nat) (h : 0 < n) : (sp1 i o (.R n)).kept = true := by simp [sp1, S4.kept]; omega
theorem kept_I (i o : Nat) (t : List UInt8) : (sp1 i o (.I t)).kept = false := by simp [sp1, S4.kept]
theorem kept_D (i o n : Nat) : (sp1 i o (.D n)).kept = false := by simp [sp1, S4.kept]
theorem pos_R {n : Nat} {r : List Q} (h : allPos (.R n :: r) = true) : 0 < n ∧ allPos r = true := by
  unfold allPos at *; simpa [pos] using h
theorem pos_tl {q : Q} {r : List Q} (h : allPos (q :: r) = true) : allPos r = true := by
  unfold allPos at *; rw [List.all_cons, Bool.and_eq_true] at h; exact h.2
theorem asksL (a : List Q) : ∀ i o p m, allPos a = true → (asks (stL p) (m, false) (spans i o a)).1 = if lft a (p - i) = 0 then m else o + lft a (p - i) := by
  induction a with
  | nil => intro i o p m _; simp [spans, asks, lft]
  | cons q r ih =>
    intro i o p m h
    have hz := lft_zero (q :: r)
    by_cases hp : p ≤ i
    · rw [show p - i = 0 by omega, hz, if_pos rfl]
      show (asks (stL p) (stL p m (sp1 i o q)) _).1 = m
      have e : stL p m (sp1 i o q) = (m, true) := by unfold stL; rw [if_pos (by cases q <;> exact hp)]
      rw [e, asks_done]
    · show (asks (stL p) (stL p m (sp1 i o q)) _).1 = _
      cases q with
      | R n =>
        obtain ⟨hn, hr⟩ := pos_R h
        have e : stL p m (sp1 i o (.R n)) = (o + min p (i + n) - i, false) := by unfold stL; rw [if_neg (by simp [sp1]; omega), if_pos (kept_R i o n hn)]; rfl
        rw [e]
        show (asks (stL p) _ (spans (i + n) (o + n) r)).1 = _
        rw [ih _ _ _ _ hr, lft_R]
        by_cases h1 : p - i ≤ n
        · rw [if_pos h1, show p - (i + n) = 0 by omega, lft_zero, if_pos rfl, if_neg (by omega)]; omega
        · rw [if_neg h1, show p - i - n = p - (i + n) by omega]
          by_cases h2 : lft r (p - (i + n)) = 0
          · rw [if_pos h2, if_neg (by omega)]; omega
          · rw [if_neg h2, if_neg (by omega)]; omega
      | I t =>
        have e : stL p m (sp1 i o (.I t)) = (m, false) := by unfold stL; rw [if_neg (by simp [sp1]; omega), if_neg (by rw [kept_I]; decide)]
        rw [e]
        show (asks (stL p) _ (spans (i + 0) (o + t.length) r)).1 = _
        rw [ih _ _ _ _ (pos_tl h), lft_I, Nat.add_zero]
        by_cases h2 : lft r (p - i) = 0
        · rw [if_pos h2, if_pos h2, if_pos rfl]
        · rw [if_neg h2, if_neg h2, if_neg (by omega)]; omega
      | D n =>
        have e : stL p m (sp1 i o (.D n)) = (m, false) := by unfold stL; rw [if_neg (by simp [sp1]; omega), if_neg (by rw [kept_D]; decide)]
        rw [e]
        show (asks (stL p) _ (spans (i + n) (o + 0) r)).1 = _
        rw [ih _ _ _ _ (pos_tl h), lft_D, Nat.add_zero, show p - i - n = p - (i + n) by omega]
theorem asksR (a : List Q) : ∀ i o p, allPos a = true → (asks (stR p) (o + outL a, false) (spans i o a)).1 = o + rgt a (p - i) := by
  induction a with
  | nil => intro i o p _; rfl
  | cons q r ih =>
    intro i o p h
    show (asks (stR p) (stR p (o + outL (q :: r)) (sp1 i o q)) _).1 = _
    cases q with
    | R n =>
      obtain ⟨hn, hr⟩ := pos_R h
      show _ = o + (if p - i < n then p - i else n + rgt r (p - i - n))
      by_cases h1 : i + n ≤ p
      · have e : stR p (o + outL (.R n :: r)) (sp1 i o (.R n)) = (o + n + outL r, false) := by unfold stR; rw [if_pos (by simpa [sp1] using h1)]; simp [outL, out1]; omega
        rw [e]
        show (asks (stR p) _ (spans (i + n) (o + n) r)).1 = _
        rw [ih _ _ _ hr, if_neg (by omega), show p - i - n = p - (i + n) by omega]; omega
      · have e : stR p (o + outL (.R n :: r)) (sp1 i o (.R n)) = (o + max p i - i, true) := by unfold stR; rw [if_neg (by simp [sp1]; omega), if_pos (kept_R i o n hn)]; rfl
        rw [e, asks_done, if_pos (by omega)]
        show o + max p i - i = _
        omega
    | I t =>
      have e : stR p (o + outL (.I t :: r)) (sp1 i o (.I t)) = (o + t.length + outL r, false) := by
        have e2 : o + outL (.I t :: r) = o + t.length + outL r := by simp [outL, out1]; omega
        unfold stR
        rw [kept_I, e2]
        split <;> rfl
      rw [e]
      show (asks (stR p) _ (spans (i + 0) (o + t.length) r)).1 = o + (t.length + rgt r (p - i))
      rw [ih _ _ _ (pos_tl h), Nat.add_zero]; omega
    | D n =>
      have e : stR p (o + outL (.D n :: r)) (sp1 i o (.D n)) = (o + outL r, false) := by
        have e2 : o + outL (.D n :: r) = o + outL r := by simp [outL, out1]
        unfold stR
        rw [kept_D, e2]
        split <;> rfl
      rw [e]
      show (asks (stR p) _ (spans (i + n) (o + 0) r)).1 = o + rgt r (p - i - n)
      have := ih (i + n) o p (pos_tl h)
      rw [Nat.add_zero, this, show p - i - n = p - (i + n) by omega]
theorem asksF (a : List Q) : ∀ i o p, allPos a = true → i ≤ p → (asks (stF p) ((0, false), false) (spans i o a)).1 = (((((kpt a (p - i)).map (o + ·)).getD 0 : Nat) : Int), (kpt a (p - i)).isSome) := by
  induction a with
  | nil => intro i o p _ _; rfl
  | cons q r ih =>
    intro i o p h hip
    show (asks (stF p) (stF p (0, false) (sp1 i o q)) _).1 = _
    cases q with
    | R n =>
      obtain ⟨hn, hr⟩ := pos_R h
      have ek : kpt (.R n :: r) (p - i) = if p - i < n then some (p - i) else (kpt r (p - i - n)).map (n + ·) := rfl
      rw [ek]
      by_cases h1 : i + n ≤ p
      · have e : stF p (0, false) (sp1 i o (.R n)) = ((0, false), false) := by unfold stF; rw [if_pos (by simpa [sp1] using h1)]
        rw [e]
        show (asks (stF p) _ (spans (i + n) (o + n) r)).1 = _
        rw [ih _ _ _ hr h1, if_neg (by omega), show p - i - n = p - (i + n) by omega]
        cases kpt r (p - (i + n)) <;> simp [Nat.add_assoc]
      · have e : stF p (0, false) (sp1 i o (.R n)) = (((o : Int) + p - i, true), true) := by unfold stF; rw [if_neg (by simp [sp1]; omega), if_pos (kept_R i o n hn)]; rfl
        rw [e, asks_done, if_pos (by omega)]
        simp; omega
    | I t =>
      have ek : kpt (.I t :: r) (p - i) = (kpt r (p - i)).map (t.length + ·) := rfl
      have e : stF p (0, false) (sp1 i o (.I t)) = ((0, false), false) := by unfold stF; rw [if_pos (by simpa [sp1] using hip)]
      rw [e, ek]
      show (asks (stF p) _ (spans (i + 0) (o + t.length) r)).1 = _
      rw [ih _ _ _ (pos_tl h) (by omega), Nat.add_zero]
      cases kpt r (p - i) <;> simp [Nat.add_assoc]
    | D n =>
      have ek : kpt (.D n :: r) (p - i) = if p - i < n then none else kpt r (p - i - n) := rfl
      rw [ek]
      by_cases h1 : i + n ≤ p
      · have e : stF p (0, false) (sp1 i o (.D n)) = ((0, false), false) := by unfold stF; rw [if_pos (by simpa [sp1] using h1)]
        rw [e]
        show (asks (stF p) _ (spans (i + n) (o + 0) r)).1 = _
        rw [ih _ _ _ (pos_tl h) h1, if_neg (by omega), show p - i - n = p - (i + n) by omega, Nat.add_zero]
      · have e : stF p (0, false) (sp1 i o (.D n)) = ((0, false), true) := by unfold stF; rw [if_neg (by simp [sp1]; omega), if_neg (by rw [kept_D]; decide)]
        rw [e, asks_done, if_pos (by omega)]
        rfl

/-! ### The extent -/
def allR : List Q → Bool
  | [] => true
  | .R _ :: r => allR r
  | _ :: _ => false
def ld : List Q → Nat
  | .R n :: r => n + ld r
  | _ => 0
def tr : List Q → Nat
  | [] => 0
  | .R n :: r => if allR r then n + inL r else tr r
  | _ :: r => if allR r then inL r else tr r
theorem allR_len {a : List Q} (h : allR a = true) : outL a = inL a := by
  induction a with
  | nil => rfl
  | cons q r ih => cases q with
    | R n => have := ih h; simp only [outL, inL, in1, out1]; omega
    | I t => cases h
    | D n => cases h
theorem allR_nf {a : List Q} (h : allR a = true) (hp : allPos a = true) : nf a = if inL a = 0 then [] else [.R (inL a)] := by
  induction a with
  | nil => rfl
  | cons q r ih => cases q with
    | R n =>
      obtain ⟨hn, hr⟩ := pos_R hp
      show pR n (nf r) = _
      rw [ih h hr]
      show _ = if n + inL r = 0 then [] else [Q.R (n + inL r)]
      rw [if_neg (by omega : ¬ n + inL r = 0)]
      by_cases h0 : inL r = 0
      · rw [if_pos h0, h0]; rfl
      · rw [if_neg h0]; rfl
    | I t => cases h
    | D n => cases h
theorem whole_nf {a : List Q} (h : allR a = true) (hp : allPos a = true) : whole (nf a) = true := by
  rw [allR_nf h hp]; split <;> rfl
theorem lst_cons (q : Q) (N : List Q) (h : N ≠ []) : lstR (q :: N) = lstR N := by
  cases N with
  | nil => exact absurd rfl h
  | cons x N => cases q <;> rfl
theorem not_whole {a : List Q} (h : allR a = false) (hp : allPos a = true) : whole (nf a) = false ∧ fstR (nf a) = ld a ∧ lstR (nf a) = tr a := by
  induction a with
  | nil => cases h
  | cons q r ih =>
    have hr := pos_tl hp
    by_cases hw : allR r = true
    · have e := allR_nf hw hr
      cases q with
      | R n => rw [show allR (.R n :: r) = allR r from rfl, hw] at h; cases h
      | I t =>
        have et : tr (.I t :: r) = inL r := if_pos hw
        rw [et]
        show whole (pI t (nf r)) = false ∧ fstR (pI t (nf r)) = 0 ∧ lstR (pI t (nf r)) = inL r
        rw [e]
        split
        · rename_i h0; rw [h0]; exact ⟨rfl, rfl, rfl⟩
        · exact ⟨rfl, rfl, rfl⟩
      | D n =>
        have et : tr (.D n :: r) = inL r := if_pos hw
        rw [et]
        show whole (pD n (nf r)) = false ∧ fstR (pD n (nf r)) = 0 ∧ lstR (pD n (nf r)) = inL r
        rw [e]
        split
        · rename_i h0; rw [h0]; exact ⟨rfl, rfl, rfl⟩
        · exact ⟨rfl, rfl, rfl⟩
    · have hw' : allR r = false := by simpa using hw
      obtain ⟨i1, i2, i3⟩ := ih hw' hr
      have et : tr (q :: r) = tr r := by cases q <;> exact if_neg hw
      rw [et]
      show whole (push q (nf r)) = false ∧ fstR (push q (nf r)) = ld (q :: r) ∧ lstR (push q (nf r)) = tr r
      generalize nf r = N at i1 i2 i3
      cases N with
      | nil => cases i1
      | cons x N =>
        cases q with
        | R n =>
          show _ ∧ _ = n + ld r ∧ _
          rw [← i2, ← i3]
          cases x with
          | R m => cases N with
            | nil => cases i1
            | cons y N => exact ⟨rfl, rfl, rfl⟩
          | I s => exact ⟨rfl, rfl, rfl⟩
          | D m => exact ⟨rfl, rfl, rfl⟩
        | I t =>
          show _ ∧ _ = 0 ∧ _
          rw [← i3]
          cases x with
          | R m => exact ⟨rfl, rfl, rfl⟩
          | I s => cases N <;> exact ⟨rfl, rfl, rfl⟩
          | D m => exact ⟨rfl, rfl, rfl⟩
        | D n =>
          show _ ∧ _ = 0 ∧ _
          rw [← i3]
          cases x with
          | R m => exact ⟨rfl, rfl, rfl⟩
          | I s => cases N with
            | nil => exact ⟨rfl, rfl, rfl⟩
            | cons y N => cases y with
              | R m => exact ⟨rfl, rfl, rfl⟩
              | I t => exact ⟨rfl, rfl, rfl⟩
              | D m => cases N <;> exact ⟨rfl, rfl, rfl⟩
          | D m => cases N <;> exact ⟨rfl, rfl, rfl⟩
theorem tr_le (a : List Q) : tr a ≤ inL a ∧ tr a ≤ outL a := by
  induction a with
  | nil => exact ⟨Nat.le_refl _, Nat.le_refl _⟩
  | cons q r ih =>
    cases hw : allR r with
    | true =>
      have := allR_len hw
      cases q <;> simp only [tr, hw, inL, outL, in1, out1, if_true] <;> omega
    | false =>
      have e : tr (q :: r) = tr r := by cases q <;> simp [tr, hw]
      rw [e]; simp only [inL, outL]; omega
theorem ld_le (a : List Q) : ld a ≤ inL a := by
  induction a with
  | nil => exact Nat.le_refl _
  | cons q r ih => cases q <;> simp only [ld, inL, in1] <;> omega
theorem asksC (a : List Q) : ∀ i o s, allPos a = true → asks stC (s, false) (spans i o a) = (if allR a then s else ⟨min s.a (i + ld a), i + inL a - tr a, min s.c (o + ld a), o + outL a - tr a⟩, false) := by
  induction a with
  | nil => intro i o s _; rfl
  | cons q r ih =>
    intro i o s h
    have hr := pos_tl h
    show asks stC (stC s (sp1 i o q)) (spans (i + in1 q) (o + out1 q) r) = _
    have ht := tr_le r
    cases q with
    | R n =>
      have e : stC s (sp1 i o (.R n)) = (s, false) := by unfold stC; rw [if_pos (kept_R i o n (pos_R h).1)]
      rw [e, ih _ _ _ hr]
      show _ = (if allR r then s else _, false)
      cases hw : allR r with
      | true => rfl
      | false =>
        have et : tr (.R n :: r) = tr r := by simp [tr, hw]
        have el : ld (.R n :: r) = n + ld r := rfl
        rw [et, el]
        simp only [in1, out1, inL, outL, Bool.false_eq_true, if_false]
        simp only [Nat.add_assoc]
    | I t =>
      have e : stC s (sp1 i o (.I t)) = (⟨min s.a i, i, min s.c o, o + t.length⟩, false) := by unfold stC; rw [if_neg (by rw [kept_I]; decide)]; rfl
      rw [e, ih _ _ _ hr]
      show _ = ((⟨min s.a (i + 0), _, min s.c (o + 0), _⟩ : S4), false)
      cases hw : allR r with
      | true =>
        have et : tr (.I t :: r) = inL r := by simp [tr, hw]
        have := allR_len hw
        rw [et]
        simp only [in1, out1, inL, outL, if_true, Nat.add_zero, Nat.zero_add]
        rw [show i + inL r - inL r = i by omega, show o + (t.length + outL r) - inL r = o + t.length by omega]
      | false =>
        have et : tr (.I t :: r) = tr r := by simp [tr, hw]
        rw [et]
        simp only [in1, out1, inL, outL, Bool.false_eq_true, if_false, Nat.add_zero, Nat.zero_add]
        rw [show min (min s.a i) (i + ld r) = min s.a i by omega, show min (min s.c o) (o + t.length + ld r) = min s.c o by omega, Nat.add_assoc]
    | D n =>
      have e : stC s (sp1 i o (.D n)) = (⟨min s.a i, i + n, min s.c o, o⟩, false) := by unfold stC; rw [if_neg (by rw [kept_D]; decide)]; rfl
      rw [e, ih _ _ _ hr]
      show _ = ((⟨min s.a (i + 0), _, min s.c (o + 0), _⟩ : S4), false)
      cases hw : allR r with
      | true =>
        have et : tr (.D n :: r) = inL r := by simp [tr, hw]
        have := allR_len hw
        rw [et]
        simp only [in1, out1, inL, outL, if_true, Nat.add_zero, Nat.zero_add]
        rw [show i + (n + inL r) - inL r = i + n by omega, show o + outL r - inL r = o by omega]
      | false =>
        have et : tr (.D n :: r) = tr r := by simp [tr, hw]
        rw [et]
        simp only [in1, out1, inL, outL, Bool.false_eq_true, if_false, Nat.add_zero, Nat.zero_add]
        rw [show min (min s.a i) (i + n + ld r) = min s.a i by omega, show min (min s.c o) (o + ld r) = min s.c o by omega, Nat.add_assoc]
theorem asks_ext (a : List Q) (h : allPos a = true) : (asks stC (⟨inL a, inL a, inL a, inL a⟩, false) (spans 0 0 a)).1 = ⟨extF a, extT a, extF a, extE a⟩ := by
  rw [asksC a 0 0 _ h]
  unfold extF extT extE
  cases hw : allR a with
  | true => rw [whole_nf hw h]; rfl
  | false =>
    obtain ⟨e1, e2, e3⟩ := not_whole hw h
    have := ld_le a
    rw [e1, e2, e3]
    simp only [Bool.false_eq_true, if_false, Nat.zero_add]
    rw [show min (inL a) (ld a) = ld a by omega]
theorem asks_lft (a : List Q) (h : allPos a = true) (p : Nat) : (asks (stL p) (0, false) (spans 0 0 a)).1 = lft a p := by
  rw [asksL a 0 0 p 0 h, Nat.sub_zero]
  split <;> omega
theorem asks_rgt (a : List Q) (h : allPos a = true) (p : Nat) : (asks (stR p) (outL a, false) (spans 0 0 a)).1 = rgt a p := by
  have := asksR a 0 0 p h
  rwa [Nat.zero_add, Nat.zero_add] at this
theorem asks_kpt (a : List Q) (h : allPos a = true) (p : Nat) : (asks (stF p) ((0, false), false) (spans 0 0 a)).1 = ((((kpt a p).getD 0 : Nat) : Int), (kpt a p).isSome) := by
  rw [asksF a 0 0 p h (Nat.zero_le _), Nat.sub_zero]
  cases kpt a p <;> simp
end Go.Proofs.Ytmbgcbgbdjiacaa.D
