/- Texts joined: DeltaMath ApplyMath ApplyTell DeltaRaw DeltaForm ApplyRaw -/
/- DeltaMath -/
namespace Go.Proofs.Ytniccjbcchdkoaa.D

/-- A valid piece: keep n bytes, insert a text, remove n bytes. -/
inductive Q where
  | R (n : Nat)
  | I (t : List UInt8)
  | D (n : Nat)

def pR (n : Nat) : List Q → List Q
  | .R m :: r => .R (n + m) :: r
  | l => .R n :: l
def pI (t : List UInt8) : List Q → List Q
  | .I s :: r => .I (t ++ s) :: r
  | l => .I t :: l
def pD (n : Nat) : List Q → List Q
  | .I s :: .D m :: r => .I s :: .D (n + m) :: r
  | .I s :: r => .I s :: .D n :: r
  | .D m :: r => .D (n + m) :: r
  | l => .D n :: l
def push : Q → List Q → List Q
  | .R n, l => pR n l
  | .I t, l => pI t l
  | .D n, l => pD n l
/-- All pieces of a list, pushed onto another one, the last one first. -/
def ap (a x : List Q) : List Q := a.foldr push x
/-- The normal form. -/
def nf (a : List Q) : List Q := ap a []

/-- May q directly follow p in a normal form? -/
def ok : Q → Q → Bool
  | .R _, .R _ => false
  | .I _, .I _ => false
  | .D _, .D _ => false
  | .D _, .I _ => false
  | _, _ => true
def isN : List Q → Bool
  | p :: q :: r => ok p q && isN (q :: r)
  | _ => true
def pos : Q → Bool
  | .R n => decide (0 < n)
  | .I t => !t.isEmpty
  | .D n => decide (0 < n)
def allPos (l : List Q) : Bool := l.all pos
def in1 : Q → Nat
  | .R n => n
  | .I _ => 0
  | .D n => n
def out1 : Q → Nat
  | .R n => n
  | .I t => t.length
  | .D _ => 0
def inL : List Q → Nat
  | [] => 0
  | p :: r => in1 p + inL r
def outL : List Q → Nat
  | [] => 0
  | p :: r => out1 p + outL r
def neg (b : UInt8) : Int := -1 - (b.toNat : Int)
/-- The bytes of the result: the index of the byte that is kept, or -1 less the byte that is inserted. -/
def atoms (k : Nat) : List Q → List Int
  | [] => []
  | .R n :: r => ((List.range n).map fun i => ((k + i : Nat) : Int)) ++ atoms (k + n) r
  | .I t :: r => t.map neg ++ atoms k r
  | .D n :: r => atoms (k + n) r

/-! ### Pushing -/
theorem pR_pR (n m : Nat) (l : List Q) : pR n (pR m l) = pR (n + m) l := by
  cases l with
  | nil => rfl
  | cons p r => cases p <;> simp [pR, Nat.add_assoc]
theorem pI_pI (s t : List UInt8) (l : List Q) : pI s (pI t l) = pI (s ++ t) l := by
  cases l with
  | nil => rfl
  | cons p r => cases p <;> simp [pI]
theorem pD_pD (n m : Nat) (l : List Q) : pD n (pD m l) = pD (n + m) l := by
  match l with
  | [] => rfl
  | .R k :: r => rfl
  | .D k :: r => simp [pD, Nat.add_assoc]
  | [.I s] => rfl
  | .I s :: .D k :: r => simp [pD, Nat.add_assoc]
  | .I s :: .R k :: r => rfl
  | .I s :: .I u :: r => rfl
theorem pD_pI (n : Nat) (t : List UInt8) (l : List Q) : pD n (pI t l) = pI t (pD n l) := by
  match l with
  | [] => rfl
  | .R k :: r => rfl
  | .D k :: r => rfl
  | [.I s] => rfl
  | .I s :: .D k :: r => rfl
  | .I s :: .R k :: r => rfl
  | .I s :: .I u :: r => rfl
theorem ap_cons (p : Q) (a x : List Q) : ap (p :: a) x = push p (ap a x) := rfl
theorem ap_append (a b x : List Q) : ap (a ++ b) x = ap a (ap b x) := by unfold ap; rw [List.foldr_append]
theorem ap_push (p : Q) (l x : List Q) : ap (push p l) x = push p (ap l x) := by
  cases p with
  | R n =>
    cases l with
    | nil => rfl
    | cons q r =>
      cases q with
      | R m => show pR (n + m) (ap r x) = pR n (pR m (ap r x)); rw [pR_pR]
      | I t => rfl
      | D m => rfl
  | I t =>
    cases l with
    | nil => rfl
    | cons q r =>
      cases q with
      | I s => show pI (t ++ s) (ap r x) = pI t (pI s (ap r x)); rw [pI_pI]
      | R t => rfl
      | D m => rfl
  | D n =>
    match l with
    | [] => rfl
    | .R k :: r => rfl
    | .D k :: r => show pD (n + k) (ap r x) = pD n (pD k (ap r x)); rw [pD_pD]
    | [.I s] => show pI s (pD n x) = pD n (pI s x); rw [pD_pI]
    | .I s :: .D k :: r => show pI s (pD (n + k) (ap r x)) = pD n (pI s (pD k (ap r x))); rw [pD_pI, pD_pD]
    | .I s :: .R k :: r => show pI s (pD n (pR k (ap r x))) = pD n (pI s (pR k (ap r x))); rw [pD_pI]
    | .I s :: .I u :: r => show pI s (pD n (pI u (ap r x))) = pD n (pI s (pI u (ap r x))); rw [pD_pI n s]
theorem ap_nf (a x : List Q) : ap (nf a) x = ap a x := by
  induction a with
  | nil => rfl
  | cons p a ih => show ap (push p (nf a)) x = push p (ap a x); rw [ap_push, ih]
theorem nf_append (a b : List Q) : nf (a ++ b) = ap a (nf b) := ap_append a b []
theorem nf_nf (a : List Q) : nf (nf a) = nf a := ap_nf a []
theorem nf_left (a b : List Q) : nf (nf a ++ b) = nf (a ++ b) := by rw [nf_append, nf_append, ap_nf]
theorem nf_right (a b : List Q) : nf (a ++ nf b) = nf (a ++ b) := by rw [nf_append, nf_append, nf_nf]
theorem nf_cons (p : Q) (a : List Q) : nf (p :: a) = push p (nf a) := rfl

/-! ### The normal form is one -/
theorem isN_tail {p : Q} {r : List Q} (h : isN (p :: r) = true) : isN r = true := by
  cases r with
  | nil => rfl
  | cons q r => simp only [isN, Bool.and_eq_true] at h; exact h.2
theorem isN_cons {p q : Q} {r : List Q} (h : ok p q = true) (hr : isN (q :: r) = true) : isN (p :: q :: r) = true := by simp only [isN, Bool.and_eq_true]; exact ⟨h, hr⟩
theorem isN_ok {p q : Q} {r : List Q} (h : isN (p :: q :: r) = true) : ok p q = true := by simp only [isN, Bool.and_eq_true] at h; exact h.1
/-- Replacing the first piece by one of its kind. -/
theorem isN_head {p p' : Q} {r : List Q} (hk : ∀ q, ok p q = true → ok p' q = true) (h : isN (p :: r) = true) : isN (p' :: r) = true := by
  cases r with
  | nil => rfl
  | cons q r => exact isN_cons (hk q (isN_ok h)) (isN_tail h)
theorem isN_push (p : Q) (l : List Q) (h : isN l = true) : isN (push p l) = true := by
  cases p with
  | R n =>
    cases l with
    | nil => rfl
    | cons q r =>
      cases q with
      | R m => exact isN_head (fun q => by cases q <;> simp [ok]) h
      | I t => exact isN_cons rfl h
      | D m => exact isN_cons rfl h
  | I t =>
    cases l with
    | nil => rfl
    | cons q r =>
      cases q with
      | I s => exact isN_head (fun q => by cases q <;> simp [ok]) h
      | R m => exact isN_cons rfl h
      | D m => exact isN_cons rfl h
  | D n =>
    match l, h with
    | [], _ => rfl
    | .R k :: r, h => exact isN_cons rfl h
    | .D k :: r, h => exact isN_head (fun q => by cases q <;> simp [ok]) h
    | [.I s], _ => rfl
    | .I s :: .D k :: r, h => exact isN_cons rfl (isN_head (fun q => by cases q <;> simp [ok]) (isN_tail h))
    | .I s :: .R k :: r, h => exact isN_cons rfl (isN_cons rfl (isN_tail h))
    | .I s :: .I u :: r, h => have := isN_ok h; simp [ok] at this
theorem isN_nf (a : List Q) : isN (nf a) = true := by
  induction a with
  | nil => rfl
  | cons p a ih => exact isN_push p _ ih
theorem push_ok {p q : Q} {r : List Q} (h : ok p q = true) : push p (q :: r) = p :: q :: r := by
  cases p <;> cases q <;> simp [ok] at h <;> rfl
theorem nf_of_isN (a : List Q) (h : isN a = true) : nf a = a := by
  induction a with
  | nil => rfl
  | cons p a ih =>
    rw [nf_cons, ih (isN_tail h)]
    cases a with
    | nil => cases p <;> rfl
    | cons q r => exact push_ok (isN_ok h)
theorem isN_iff (a : List Q) : isN a = true ↔ nf a = a := ⟨nf_of_isN a, fun h => by rw [← h]; exact isN_nf a⟩
theorem push_length (p : Q) (l : List Q) : (push p l).length ≤ l.length + 1 := by
  cases p with
  | R n => cases l with
    | nil => simp [push, pR]
    | cons q r => cases q <;> simp [push, pR]
  | I t => cases l with
    | nil => simp [push, pI]
    | cons q r => cases q <;> simp [push, pI]
  | D n =>
    match l with
    | [] => simp [push, pD]
    | .R k :: r => simp [push, pD]
    | .D k :: r => simp [push, pD]
    | [.I s] => simp [push, pD]
    | .I s :: .D k :: r => simp [push, pD]
    | .I s :: .R k :: r => simp [push, pD]
    | .I s :: .I u :: r => simp [push, pD]
theorem nf_length (a : List Q) : (nf a).length ≤ a.length := by
  induction a with
  | nil => exact Nat.le_refl _
  | cons p a ih => have := push_length p (nf a); rw [nf_cons]; simp only [List.length_cons]; omega
theorem inL_push (p : Q) (l : List Q) : inL (push p l) = in1 p + inL l := by
  cases p with
  | R n => cases l with
    | nil => rfl
    | cons q r => cases q <;> simp [push, pR, inL, in1, Nat.add_assoc]
  | I t => cases l with
    | nil => rfl
    | cons q r => cases q <;> simp [push, pI, inL, in1]
  | D n =>
    match l with
    | [] => rfl
    | .R k :: r => rfl
    | .D k :: r => simp [push, pD, inL, in1, Nat.add_assoc]
    | [.I s] => simp [push, pD, inL, in1]
    | .I s :: .D k :: r => simp [push, pD, inL, in1, Nat.add_assoc]
    | .I s :: .R k :: r => simp [push, pD, inL, in1]
    | .I s :: .I u :: r => simp [push, pD, inL, in1]
theorem outL_push (p : Q) (l : List Q) : outL (push p l) = out1 p + outL l := by
  cases p with
  | R n => cases l with
    | nil => rfl
    | cons q r => cases q <;> simp [push, pR, outL, out1, Nat.add_assoc]
  | I t => cases l with
    | nil => rfl
    | cons q r => cases q <;> simp [push, pI, outL, out1, Nat.add_assoc]
  | D n =>
    match l with
    | [] => rfl
    | .R k :: r => rfl
    | .D k :: r => simp [push, pD, outL, out1]
    | [.I s] => simp [push, pD, outL, out1]
    | .I s :: .D k :: r => simp [push, pD, outL, out1]
    | .I s :: .R k :: r => simp [push, pD, outL, out1]
    | .I s :: .I u :: r => simp [push, pD, outL, out1]
theorem inL_nf (a : List Q) : inL (nf a) = inL a := by
  induction a with
  | nil => rfl
  | cons p a ih => rw [nf_cons, inL_push, ih]; rfl
theorem outL_nf (a : List Q) : outL (nf a) = outL a := by
  induction a with
  | nil => rfl
  | cons p a ih => rw [nf_cons, outL_push, ih]; rfl
theorem inL_append (a b : List Q) : inL (a ++ b) = inL a + inL b := by
  induction a with
  | nil => simp [inL]
  | cons p a ih => simp only [List.cons_append, inL, ih]; omega
theorem outL_append (a b : List Q) : outL (a ++ b) = outL a + outL b := by
  induction a with
  | nil => simp [outL]
  | cons p a ih => simp only [List.cons_append, outL, ih]; omega
theorem allPos_push (p : Q) (l : List Q) (hp : pos p = true) (hl : allPos l = true) : allPos (push p l) = true := by
  unfold allPos at *
  cases p with
  | R n => cases l with
    | nil => simpa [push, pR] using hp
    | cons q r => cases q <;> simp_all [push, pR, pos] <;> omega
  | I t => cases l with
    | nil => simpa [push, pI] using hp
    | cons q r => cases q <;> simp_all [push, pI, pos]
  | D n =>
    match l with
    | [] => simpa [push, pD] using hp
    | .R k :: r => simp_all [push, pD, pos]
    | .D k :: r => simp_all [push, pD, pos]; omega
    | [.I s] => simp_all [push, pD, pos]
    | .I s :: .D k :: r => simp_all [push, pD, pos]; omega
    | .I s :: .R k :: r => simp_all [push, pD, pos]
    | .I s :: .I u :: r => simp_all [push, pD, pos]
theorem allPos_nf (a : List Q) (h : allPos a = true) : allPos (nf a) = true := by
  induction a with
  | nil => rfl
  | cons p a ih =>
    unfold allPos at h
    simp only [List.all_cons, Bool.and_eq_true] at h
    exact allPos_push p _ h.1 (ih h.2)

/-! ### What a delta keeps and inserts -/
theorem atoms_push (k : Nat) (p : Q) (l : List Q) : atoms k (push p l) = atoms k (p :: l) := by
  cases p with
  | R n => cases l with
    | nil => rfl
    | cons q r =>
      cases q with
      | R m =>
        show atoms k (.R (n + m) :: r) = _
        simp only [atoms]
        rw [List.range_add, List.map_append, List.map_map, List.append_assoc, Nat.add_assoc]
        congr 2
        apply List.map_congr_left
        intro i _
        show ((k + (n + i) : Nat) : Int) = ((k + n + i : Nat) : Int)
        rw [Nat.add_assoc]
      | I t => rfl
      | D m => rfl
  | I t => cases l with
    | nil => rfl
    | cons q r =>
      cases q with
      | I s => simp [push, pI, atoms]
      | R m => rfl
      | D m => rfl
  | D n =>
    match l with
    | [] => rfl
    | .R j :: r => rfl
    | .D j :: r => simp [push, pD, atoms, Nat.add_assoc]
    | [.I s] => rfl
    | .I s :: .D j :: r => simp [push, pD, atoms, Nat.add_assoc]
    | .I s :: .R j :: r => rfl
    | .I s :: .I u :: r => rfl
theorem atoms_cons_congr (k : Nat) (p : Q) {a b : List Q} (h : ∀ k, atoms k a = atoms k b) : atoms k (p :: a) = atoms k (p :: b) := by
  cases p <;> simp only [atoms, h]
theorem atoms_nf (a : List Q) : ∀ k, atoms k (nf a) = atoms k a := by
  induction a with
  | nil => intro k; rfl
  | cons p a ih => intro k; rw [nf_cons, atoms_push]; exact atoms_cons_congr k p ih
theorem atoms_append (a b : List Q) : ∀ k, atoms k (a ++ b) = atoms k a ++ atoms (k + inL a) b := by
  induction a with
  | nil => intro k; rfl
  | cons p a ih =>
    intro k
    cases p with
    | R n => simp only [List.cons_append, atoms, ih, inL, in1, List.append_assoc, Nat.add_assoc]
    | I t => simp only [List.cons_append, atoms, ih, inL, in1, List.append_assoc, Nat.zero_add]
    | D n => simp only [List.cons_append, atoms, ih, inL, in1, Nat.add_assoc]
theorem atoms_length (a : List Q) : ∀ k, (atoms k a).length = outL a := by
  induction a with
  | nil => intro k; rfl
  | cons p a ih => intro k; cases p <;> simp [atoms, ih, outL, out1]
theorem neg_lt (b : UInt8) : neg b < 0 := by unfold neg; omega
theorem neg_inj {a b : UInt8} (h : neg a = neg b) : a = b := by unfold neg at h; exact UInt8.toNat_inj.1 (by omega)

/-- The first atom of a normal form that does not begin with an insertion is a byte that is kept, at least at the start; directly at the start exactly if it begins with a piece that keeps. -/
def first : List Q → Option Nat
  | .R _ :: _ => some 0
  | .D n :: .R _ :: _ => some n
  | _ => none
theorem head_atoms (k : Nat) (a : List Q) (hn : isN a = true) (hp : allPos a = true) (hi : ∀ t r, a ≠ .I t :: r) : (atoms k a).head? = (first a).map fun i => ((k + i : Nat) : Int) := by
  unfold allPos at hp
  match a, hn, hp, hi with
  | [], _, _, _ => rfl
  | .I t :: r, _, _, hi => exact absurd rfl (hi t r)
  | .R n :: r, _, hp, _ =>
    simp only [List.all_cons, Bool.and_eq_true, pos, decide_eq_true_eq] at hp
    obtain ⟨m, rfl⟩ : ∃ m, n = m + 1 := ⟨n - 1, by omega⟩
    simp [atoms, first, List.range_succ_eq_map]
  | [.D n], _, _, _ => rfl
  | .D n :: .R m :: r, _, hp, _ =>
    simp only [List.all_cons, Bool.and_eq_true, pos, decide_eq_true_eq] at hp
    obtain ⟨j, rfl⟩ : ∃ j, m = j + 1 := ⟨m - 1, by omega⟩
    simp [atoms, first, List.range_succ_eq_map]
  | .D n :: .I t :: r, hn, _, _ => have := isN_ok hn; simp [ok] at this
  | .D n :: .D m :: r, hn, _, _ => have := isN_ok hn; simp [ok] at this
/-- The negative atoms at the beginning: what a first insertion inserts. -/
theorem split_neg {s t : List UInt8} {x y : List Int} (h : s.map neg ++ x = t.map neg ++ y) (hx : ∀ v, x.head? = some v → 0 ≤ v) (hy : ∀ v, y.head? = some v → 0 ≤ v) : s = t ∧ x = y := by
  induction s generalizing t with
  | nil =>
    cases t with
    | nil => exact ⟨rfl, h⟩
    | cons b t =>
      simp only [List.map_nil, List.nil_append, List.map_cons, List.cons_append] at h
      have := hx (neg b) (by rw [h]; rfl)
      have := neg_lt b
      omega
  | cons a s ih =>
    cases t with
    | nil =>
      simp only [List.map_nil, List.nil_append, List.map_cons, List.cons_append] at h
      have := hy (neg a) (by rw [← h]; rfl)
      have := neg_lt a
      omega
    | cons b t =>
      simp only [List.map_cons, List.cons_append, List.cons.injEq] at h
      obtain ⟨h1, h2⟩ := ih h.2
      exact ⟨by rw [neg_inj h.1, h1], h2⟩
theorem notI_of_I {t : List UInt8} {r : List Q} (hn : isN (.I t :: r) = true) : ∀ s u, r ≠ .I s :: u := fun s u e => by
  subst e; have := isN_ok hn; simp [ok] at this
theorem head_nonneg (k : Nat) (a : List Q) (hn : isN a = true) (hp : allPos a = true) (hi : ∀ t r, a ≠ .I t :: r) : ∀ v, (atoms k a).head? = some v → 0 ≤ v := fun v hv => by
  rw [head_atoms k a hn hp hi] at hv
  cases hf : first a with
  | none => rw [hf] at hv; cases hv
  | some i => rw [hf] at hv; cases hv; exact Int.natCast_nonneg _
theorem inL_pos_of_first {a : List Q} {i : Nat} (h : first a = some i) : ∃ n r, (a = .R n :: r ∧ i = 0) ∨ ∃ m, a = .D m :: .R n :: r ∧ i = m := by
  match a, h with
  | .R n :: r, h => simp only [first, Option.some.injEq] at h; exact ⟨n, r, .inl ⟨rfl, h.symm⟩⟩
  | .D m :: .R n :: r, h => simp only [first, Option.some.injEq] at h; exact ⟨n, r, .inr ⟨m, rfl, h.symm⟩⟩
/-- A run of indices, and what goes on otherwise. -/
theorem run_eq {k n m : Nat} {x y : List Int} (h : ((List.range n).map fun i => ((k + i : Nat) : Int)) ++ x = ((List.range m).map fun i => ((k + i : Nat) : Int)) ++ y) (hx : x.head? ≠ some ((k + n : Nat) : Int)) (hy : y.head? ≠ some ((k + m : Nat) : Int)) : n = m ∧ x = y := by
  have key : ∀ (n m : Nat) (x y : List Int), ((List.range n).map fun i => ((k + i : Nat) : Int)) ++ x = ((List.range m).map fun i => ((k + i : Nat) : Int)) ++ y → x.head? ≠ some ((k + n : Nat) : Int) → ¬ n < m := by
    intro n m x y h hx hlt
    have h1 : (((List.range n).map fun i => ((k + i : Nat) : Int)) ++ x)[n]? = (((List.range m).map fun i => ((k + i : Nat) : Int)) ++ y)[n]? := by rw [h]
    rw [List.getElem?_append_right (by simp), List.getElem?_append_left (by simpa using hlt)] at h1
    simp only [List.length_map, List.length_range, Nat.sub_self, List.getElem?_map, List.getElem?_range hlt, Option.map_some] at h1
    rw [List.head?_eq_getElem?] at hx
    exact hx h1
  have h1 := key n m x y h hx
  have h2 := key m n y x h.symm hy
  have e : n = m := by omega
  subst e
  exact ⟨rfl, List.append_cancel_left h⟩
theorem not_run (k n : Nat) (r : List Q) (hn : isN (.R n :: r) = true) (hp : allPos r = true) : (atoms (k + n) r).head? ≠ some ((k + n : Nat) : Int) := by
  match r, hn, hp with
  | [], _, _ => simp [atoms]
  | .R m :: r, hn, _ => have := isN_ok hn; simp [ok] at this
  | .I [] :: r, _, hp => simp [allPos, pos] at hp
  | .I (b :: t) :: r, _, _ =>
    simp only [atoms, List.map_cons, List.cons_append, List.head?_cons, ne_eq, Option.some.injEq]
    have := neg_lt b; omega
  | .D m :: r, hn, hp =>
    have hh := head_atoms (k + n) (.D m :: r) (isN_tail hn) hp (fun _ _ e => by cases e)
    rw [hh]
    have hm : 0 < m := by simp [allPos, pos] at hp; exact hp.1
    match r with
    | [] => simp [first]
    | .R j :: r => simp only [first, Option.map_some, ne_eq, Option.some.injEq]; omega
    | .I t :: r => simp [first]
    | .D j :: r => simp [first]
/-- Lengths and atoms determine the normal form. -/
theorem nf_unique : ∀ (a b : List Q) (k : Nat), isN a = true → isN b = true → allPos a = true → allPos b = true → inL a = inL b → atoms k a = atoms k b → a = b := by
  intro a
  induction a with
  | nil =>
    intro b k _ hb _ pb hin hat
    match b, hb, pb, hin, hat with
    | [], _, _, _, _ => rfl
    | .R n :: r, _, pb, hin, _ => simp [allPos, pos] at pb; simp [inL, in1] at hin; omega
    | .D n :: r, _, pb, hin, _ => simp [allPos, pos] at pb; simp [inL, in1] at hin; omega
    | .I [] :: r, _, pb, _, _ => simp [allPos, pos] at pb
    | .I (c :: t) :: r, _, _, _, hat => simp [atoms] at hat
  | cons p a ih =>
    intro b k ha hb pa pb hin hat
    have pa' : allPos a = true := by unfold allPos at *; simp only [List.all_cons, Bool.and_eq_true] at pa; exact pa.2
    have pp : pos p = true := by unfold allPos at pa; simp only [List.all_cons, Bool.and_eq_true] at pa; exact pa.1
    cases b with
    | nil =>
      exfalso
      match p, pp, hin, hat with
      | .R n, pp, hin, _ => simp [pos] at pp; simp [inL, in1] at hin; omega
      | .D n, pp, hin, _ => simp [pos] at pp; simp [inL, in1] at hin; omega
      | .I [], pp, _, _ => simp [pos] at pp
      | .I (c :: t), _, _, hat => simp [atoms] at hat
    | cons q b =>
      have pb' : allPos b = true := by unfold allPos at *; simp only [List.all_cons, Bool.and_eq_true] at pb; exact pb.2
      have pq : pos q = true := by unfold allPos at pb; simp only [List.all_cons, Bool.and_eq_true] at pb; exact pb.1
      have headI : ∀ (k : Nat) (t : List UInt8) (r : List Q) (c : List Q), pos (.I t) = true → isN c = true → allPos c = true → (∀ s u, c ≠ .I s :: u) → atoms k (.I t :: r) = atoms k c → False := by
        intro k t r c ht hc pc hi h
        match t, ht with
        | [], ht => simp [pos] at ht
        | v :: t, _ =>
          have := head_nonneg k c hc pc hi (neg v) (by rw [← h]; rfl)
          have := neg_lt v
          omega
      cases p with
      | I s =>
        cases q with
        | I t =>
          have h := hat
          simp only [atoms] at h
          obtain ⟨e1, e2⟩ := split_neg h (head_nonneg k a (isN_tail ha) pa' (notI_of_I ha)) (head_nonneg k b (isN_tail hb) pb' (notI_of_I hb))
          subst e1
          rw [ih b k (isN_tail ha) (isN_tail hb) pa' pb' (by simpa [inL, in1] using hin) e2]
        | R m => exact (headI k s a _ pp hb pb (fun _ _ e => by cases e) hat).elim
        | D m => exact (headI k s a _ pp hb pb (fun _ _ e => by cases e) hat).elim
      | R n =>
        cases q with
        | I t => exact (headI k t b _ pq ha pa (fun _ _ e => by cases e) hat.symm).elim
        | R m =>
          have h := hat
          simp only [atoms] at h
          obtain ⟨e1, e2⟩ := run_eq h (not_run k n a ha pa') (not_run k m b hb pb')
          subst e1
          rw [ih b (k + n) (isN_tail ha) (isN_tail hb) pa' pb' (by simpa [inL, in1] using hin) e2]
        | D m =>
          exfalso
          have h1 := head_atoms k _ ha pa (fun _ _ e => by cases e)
          have h2 := head_atoms k _ hb pb (fun _ _ e => by cases e)
          rw [hat, h2] at h1
          simp [pos] at pq
          match b, h1 with
          | [], h1 => simp [first] at h1
          | .R j :: r, h1 => simp only [first, Option.map_some, Option.some.injEq] at h1; omega
          | .I t :: r, h1 => simp [first] at h1
          | .D j :: r, h1 => simp [first] at h1
      | D n =>
        cases q with
        | I t => exact (headI k t b _ pq ha pa (fun _ _ e => by cases e) hat.symm).elim
        | R m =>
          exfalso
          have h1 := head_atoms k _ ha pa (fun _ _ e => by cases e)
          have h2 := head_atoms k _ hb pb (fun _ _ e => by cases e)
          rw [← hat, h1] at h2
          simp [pos] at pp
          match a, h2 with
          | [], h2 => simp [first] at h2
          | .R j :: r, h2 => simp only [first, Option.map_some, Option.some.injEq] at h2; omega
          | .I t :: r, h2 => simp [first] at h2
          | .D j :: r, h2 => simp [first] at h2
        | D m =>
          have h1 := head_atoms k _ ha pa (fun _ _ e => by cases e)
          have h2 := head_atoms k _ hb pb (fun _ _ e => by cases e)
          rw [hat, h2] at h1
          match a, b, ha, hb, pa', pb', h1, hin, hat, ih with
          | [], [], _, _, _, _, _, hin, _, _ => simp [inL, in1] at hin; rw [hin]
          | .D _ :: _, _, ha, _, _, _, _, _, _, _ => have := isN_ok ha; simp [ok] at this
          | .I _ :: _, _, ha, _, _, _, _, _, _, _ => have := isN_ok ha; simp [ok] at this
          | _, .D _ :: _, _, hb, _, _, _, _, _, _ => have := isN_ok hb; simp [ok] at this
          | _, .I _ :: _, _, hb, _, _, _, _, _, _ => have := isN_ok hb; simp [ok] at this
          | [], .R _ :: _, _, _, _, _, h1, _, _, _ => simp [first] at h1
          | .R _ :: _, [], _, _, _, _, h1, _, _, _ => simp [first] at h1
          | .R x :: a, .R y :: b, ha, hb, pa', pb', h1, hin, hat, ih =>
            simp only [first, Option.map_some, Option.some.injEq] at h1
            have e : n = m := by omega
            subst e
            have h := hat
            rw [show atoms k (.D n :: .R x :: a) = atoms (k + n) (.R x :: a) from rfl, show atoms k (.D n :: .R y :: b) = atoms (k + n) (.R y :: b) from rfl] at h
            rw [ih (.R y :: b) (k + n) (isN_tail ha) (isN_tail hb) pa' pb' (by simpa [inL, in1] using hin) h]
/-- Two lists of valid pieces have the same normal form exactly if they have the same input length and the same atoms. -/
theorem nf_iff (a b : List Q) (pa : allPos a = true) (pb : allPos b = true) : nf a = nf b ↔ inL a = inL b ∧ atoms 0 a = atoms 0 b := by
  constructor
  · intro h
    exact ⟨by rw [← inL_nf a, ← inL_nf b, h], by rw [← atoms_nf a 0, ← atoms_nf b 0, h]⟩
  · intro ⟨h1, h2⟩
    exact nf_unique (nf a) (nf b) 0 (isN_nf a) (isN_nf b) (allPos_nf a pa) (allPos_nf b pb) (by rw [inL_nf, inL_nf, h1]) (by rw [atoms_nf, atoms_nf, h2])
end Go.Proofs.Ytniccjbcchdkoaa.D
/- ApplyMath -/
namespace Go.Proofs.Ytniccjbcchdkoaa.D

/-- The result for a string. -/
def apl : List UInt8 → List Q → List UInt8
  | _, [] => []
  | s, .R n :: r => s.take n ++ apl (s.drop n) r
  | s, .I t :: r => t ++ apl s r
  | s, .D n :: r => apl (s.drop n) r
/-- What is removed. -/
def gone : List UInt8 → List Q → List UInt8
  | _, [] => []
  | s, .R n :: r => gone (s.drop n) r
  | s, .I _ :: r => gone s r
  | s, .D n :: r => s.take n ++ gone (s.drop n) r
/-- What is inserted. -/
def insd : List Q → List UInt8
  | [] => []
  | .I t :: r => t ++ insd r
  | .R _ :: r => insd r
  | .D _ :: r => insd r
/-- The inverse, piece by piece. -/
def inv : List UInt8 → List Q → List Q
  | _, [] => []
  | s, .R n :: r => .R n :: inv (s.drop n) r
  | s, .I t :: r => .D t.length :: inv s r
  | s, .D n :: r => .I (s.take n) :: inv (s.drop n) r
theorem apl_push (s : List UInt8) (p : Q) (l : List Q) : apl s (push p l) = apl s (p :: l) := by
  cases p with
  | R n =>
    match l with
    | [] => rfl
    | .R m :: r => simp only [push, pR, apl, List.take_add, List.append_assoc, List.drop_drop]
    | .I t :: r => rfl
    | .D m :: r => rfl
  | I t =>
    match l with
    | [] => rfl
    | .R m :: r => rfl
    | .I u :: r => simp only [push, pI, apl, List.append_assoc]
    | .D m :: r => rfl
  | D n =>
    match l with
    | [] => rfl
    | .R m :: r => rfl
    | [.I t] => simp only [push, pD, apl]
    | .I t :: .R m :: r => simp only [push, pD, apl]
    | .I t :: .I u :: r => simp only [push, pD, apl]
    | .I t :: .D m :: r => simp only [push, pD, apl, List.drop_drop]
    | .D m :: r => simp only [push, pD, apl, List.drop_drop]
theorem gone_push (s : List UInt8) (p : Q) (l : List Q) : gone s (push p l) = gone s (p :: l) := by
  cases p with
  | R n =>
    match l with
    | [] => rfl
    | .R m :: r => simp only [push, pR, gone, List.drop_drop]
    | .I t :: r => rfl
    | .D m :: r => rfl
  | I t =>
    match l with
    | [] => rfl
    | .R m :: r => rfl
    | .I u :: r => simp only [push, pI, gone]
    | .D m :: r => rfl
  | D n =>
    match l with
    | [] => rfl
    | .R m :: r => rfl
    | [.I t] => simp only [push, pD, gone]
    | .I t :: .R m :: r => simp only [push, pD, gone]
    | .I t :: .I u :: r => simp only [push, pD, gone]
    | .I t :: .D m :: r => simp only [push, pD, gone, List.take_add, List.append_assoc, List.drop_drop]
    | .D m :: r => simp only [push, pD, gone, List.take_add, List.append_assoc, List.drop_drop]
theorem insd_push (p : Q) (l : List Q) : insd (push p l) = insd (p :: l) := by
  cases p with
  | R n =>
    match l with
    | [] => rfl
    | .R m :: r => rfl
    | .I t :: r => rfl
    | .D m :: r => rfl
  | I t =>
    match l with
    | [] => rfl
    | .R m :: r => rfl
    | .I u :: r => simp only [push, pI, insd, List.append_assoc]
    | .D m :: r => rfl
  | D n =>
    match l with
    | [] => rfl
    | .R m :: r => rfl
    | [.I t] => rfl
    | .I t :: .R m :: r => rfl
    | .I t :: .I u :: r => rfl
    | .I t :: .D m :: r => rfl
    | .D m :: r => rfl
theorem nf_R (n : Nat) (a : List Q) : nf (.R n :: a) = pR n (nf a) := rfl
theorem nf_I (t : List UInt8) (a : List Q) : nf (.I t :: a) = pI t (nf a) := rfl
theorem nf_D (n : Nat) (a : List Q) : nf (.D n :: a) = pD n (nf a) := rfl
theorem push_R (n : Nat) (l : List Q) : push (.R n) l = pR n l := rfl
theorem push_I (t : List UInt8) (l : List Q) : push (.I t) l = pI t l := rfl
theorem push_D (n : Nat) (l : List Q) : push (.D n) l = pD n l := rfl
/-- The inverse of a normal form is that of the pieces, up to the normal form. -/
theorem inv_push (s : List UInt8) (p : Q) (l : List Q) : nf (inv s (push p l)) = nf (inv s (p :: l)) := by
  cases p with
  | R n =>
    match l with
    | [] => rfl
    | .R m :: r => rw [push_R, pR, inv, inv, inv, nf_R, nf_R, nf_R, List.drop_drop, pR_pR]
    | .I t :: r => rfl
    | .D m :: r => rfl
  | I t =>
    match l with
    | [] => rfl
    | .R m :: r => rfl
    | .I u :: r => rw [push_I, pI, inv, inv, inv, nf_D, nf_D, nf_D, List.length_append, pD_pD]
    | .D m :: r => rfl
  | D n =>
    match l with
    | [] => rfl
    | .R m :: r => rfl
    | [.I t] => exact pD_pI t.length (s.take n) []
    | .I t :: .R m :: r => exact pD_pI _ _ _
    | .I t :: .I u :: r => exact pD_pI _ _ _
    | .I t :: .D m :: r =>
      show pD t.length (pI (s.take (n + m)) (nf (inv (s.drop (n + m)) r))) = pI (s.take n) (pD t.length (pI ((s.drop n).take m) (nf (inv ((s.drop n).drop m) r))))
      rw [List.take_add, ← pI_pI, pD_pI, List.drop_drop]
    | .D m :: r =>
      show pI (s.take (n + m)) (nf (inv (s.drop (n + m)) r)) = pI (s.take n) (pI ((s.drop n).take m) (nf (inv ((s.drop n).drop m) r)))
      rw [List.take_add, ← pI_pI, List.drop_drop]
theorem apl_nf (a : List Q) : ∀ s, apl s (nf a) = apl s a := by
  induction a with
  | nil => intro s; rfl
  | cons p r ih =>
    intro s
    rw [nf_cons, apl_push]
    cases p <;> simp only [apl, ih]
theorem gone_nf (a : List Q) : ∀ s, gone s (nf a) = gone s a := by
  induction a with
  | nil => intro s; rfl
  | cons p r ih =>
    intro s
    rw [nf_cons, gone_push]
    cases p <;> simp only [gone, ih]
theorem insd_nf (a : List Q) : insd (nf a) = insd a := by
  induction a with
  | nil => rfl
  | cons p r ih =>
    rw [nf_cons, insd_push]
    cases p <;> simp only [insd, ih]
theorem inv_nf (a : List Q) : ∀ s : List UInt8, inL a ≤ s.length → nf (inv s (nf a)) = nf (inv s a) := by
  induction a with
  | nil => intro s _; rfl
  | cons p r ih =>
    intro s h
    have hr : inL (p :: r) = in1 p + inL r := rfl
    rw [nf_cons, inv_push s p (nf r)]
    cases p with
    | R n => simp only [in1] at hr; simp only [inv, nf_cons]; rw [ih _ (by rw [List.length_drop]; omega)]
    | I t => simp only [in1] at hr; simp only [inv, nf_cons]; rw [ih _ (by omega)]
    | D n => simp only [in1] at hr; simp only [inv, nf_cons]; rw [ih _ (by rw [List.length_drop]; omega)]
theorem apl_inv (a : List Q) : ∀ s : List UInt8, inL a = s.length → apl (apl s a) (inv s a) = s := by
  induction a with
  | nil => intro s h; have : s.length = 0 := h.symm; rw [List.eq_nil_of_length_eq_zero this]; rfl
  | cons p r ih =>
    intro s h
    have hr : inL (p :: r) = in1 p + inL r := rfl
    cases p with
    | R n =>
      simp only [in1] at hr
      have hn : (s.take n).length = n := by rw [List.length_take]; omega
      simp only [apl, inv]
      rw [List.take_left' hn, List.drop_left' hn, ih _ (by rw [List.length_drop]; omega), List.take_append_drop]
    | I t =>
      simp only [in1] at hr
      simp only [apl, inv]
      rw [List.drop_left' rfl, ih _ (by omega)]
    | D n =>
      simp only [in1] at hr
      simp only [apl, inv]
      rw [ih _ (by rw [List.length_drop]; omega), List.take_append_drop]
theorem inv_inv (a : List Q) : ∀ s : List UInt8, inL a = s.length → inv (apl s a) (inv s a) = a := by
  induction a with
  | nil => intro s h; rfl
  | cons p r ih =>
    intro s h
    have hr : inL (p :: r) = in1 p + inL r := rfl
    cases p with
    | R n =>
      simp only [in1] at hr
      have hn : (s.take n).length = n := by rw [List.length_take]; omega
      simp only [apl, inv]
      rw [List.drop_left' hn, ih _ (by rw [List.length_drop]; omega)]
    | I t =>
      simp only [in1] at hr
      simp only [apl, inv]
      rw [List.take_left' rfl, List.drop_left' rfl, ih _ (by omega)]
    | D n =>
      simp only [in1] at hr
      have hn : (s.take n).length = n := by rw [List.length_take]; omega
      simp only [apl, inv]
      rw [ih _ (by rw [List.length_drop]; omega), hn]
theorem gone_inv (a : List Q) : ∀ s : List UInt8, inL a = s.length → gone (apl s a) (inv s a) = insd a := by
  induction a with
  | nil => intro s h; rfl
  | cons p r ih =>
    intro s h
    have hr : inL (p :: r) = in1 p + inL r := rfl
    cases p with
    | R n =>
      simp only [in1] at hr
      have hn : (s.take n).length = n := by rw [List.length_take]; omega
      simp only [apl, inv, gone, insd]
      rw [List.drop_left' hn, ih _ (by rw [List.length_drop]; omega)]
    | I t =>
      simp only [in1] at hr
      simp only [apl, inv, gone, insd]
      rw [List.take_left' rfl, List.drop_left' rfl, ih _ (by omega)]
    | D n =>
      simp only [in1] at hr
      simp only [apl, inv, gone, insd]
      rw [ih _ (by rw [List.length_drop]; omega)]
theorem insd_inv (a : List Q) : ∀ s : List UInt8, insd (inv s a) = gone s a := by
  induction a with
  | nil => intro s; rfl
  | cons p r ih => intro s; cases p <;> simp only [inv, insd, gone, ih]
theorem inL_inv (a : List Q) : ∀ s : List UInt8, inL a = s.length → inL (inv s a) = outL a := by
  induction a with
  | nil => intro s _; rfl
  | cons p r ih =>
    intro s h
    have hr : inL (p :: r) = in1 p + inL r := rfl
    cases p with
    | R n => simp only [in1] at hr; simp only [inv, inL, outL, in1, out1]; rw [ih _ (by rw [List.length_drop]; omega)]
    | I t => simp only [in1] at hr; simp only [inv, inL, outL, in1, out1]; rw [ih _ (by omega)]
    | D n => simp only [in1] at hr; simp only [inv, inL, outL, in1, out1]; rw [ih _ (by rw [List.length_drop]; omega)]
theorem outL_inv (a : List Q) : ∀ s : List UInt8, inL a = s.length → outL (inv s a) = inL a := by
  induction a with
  | nil => intro s _; rfl
  | cons p r ih =>
    intro s h
    have hr : inL (p :: r) = in1 p + inL r := rfl
    cases p with
    | R n => simp only [in1] at hr; simp only [inv, inL, outL, in1, out1]; rw [ih _ (by rw [List.length_drop]; omega)]
    | I t => simp only [in1] at hr; simp only [inv, inL, outL, in1, out1]; rw [ih _ (by omega)]
    | D n => simp only [in1] at hr; simp only [inv, inL, outL, in1, out1]; rw [ih _ (by rw [List.length_drop]; omega), List.length_take]; omega
theorem allPos_inv (a : List Q) : ∀ s : List UInt8, inL a = s.length → allPos a = true → allPos (inv s a) = true := by
  induction a with
  | nil => intro s _ _; rfl
  | cons p r ih =>
    intro s h hp
    have hr : inL (p :: r) = in1 p + inL r := rfl
    have hp1 : pos p = true ∧ allPos r = true := by unfold allPos at hp ⊢; rw [List.all_cons, Bool.and_eq_true] at hp; exact hp
    have mk : ∀ (q : Q) (l : List Q), pos q = true → allPos l = true → allPos (q :: l) = true := fun q l h1 h2 => by unfold allPos at h2 ⊢; rw [List.all_cons, h1, h2]; rfl
    cases p with
    | R n => simp only [in1] at hr; exact mk _ _ hp1.1 (ih _ (by rw [List.length_drop]; omega) hp1.2)
    | I t =>
      simp only [in1] at hr
      refine mk _ _ ?_ (ih _ (by omega) hp1.2)
      have := hp1.1
      cases t with
      | nil => simp [pos] at this
      | cons c u => simp [pos]
    | D n =>
      simp only [in1] at hr
      refine mk _ _ ?_ (ih _ (by rw [List.length_drop]; omega) hp1.2)
      have h1 : 0 < n := by simpa [pos] using hp1.1
      cases s with
      | nil => simp at h; omega
      | cons c u => cases n with
        | zero => omega
        | succ n => simp [pos]
theorem apl_append (a b : List Q) : ∀ s t : List UInt8, inL a = s.length → apl (s ++ t) (a ++ b) = apl s a ++ apl t b := by
  induction a with
  | nil => intro s t h; have : s.length = 0 := h.symm; rw [List.eq_nil_of_length_eq_zero this]; rfl
  | cons p r ih =>
    intro s t h
    have hr : inL (p :: r) = in1 p + inL r := rfl
    cases p with
    | R n =>
      simp only [in1] at hr
      simp only [List.cons_append, apl, List.append_assoc]
      rw [List.take_append_of_le_length (by omega), List.drop_append_of_le_length (by omega), ih _ _ (by rw [List.length_drop]; omega)]
    | I u => simp only [in1] at hr; simp only [List.cons_append, apl, List.append_assoc]; rw [ih _ _ (by omega)]
    | D n =>
      simp only [in1] at hr
      simp only [List.cons_append, apl]
      rw [List.drop_append_of_le_length (by omega), ih _ _ (by rw [List.length_drop]; omega)]
theorem apl_length (a : List Q) : ∀ s : List UInt8, inL a = s.length → (apl s a).length = outL a := by
  induction a with
  | nil => intro s _; rfl
  | cons p r ih =>
    intro s h
    have hr : inL (p :: r) = in1 p + inL r := rfl
    cases p with
    | R n => simp only [in1] at hr; simp only [apl, outL, out1, List.length_append, List.length_take]; rw [ih _ (by rw [List.length_drop]; omega)]; omega
    | I t => simp only [in1] at hr; simp only [apl, outL, out1, List.length_append]; rw [ih _ (by omega)]
    | D n => simp only [in1] at hr; simp only [apl, outL, out1]; rw [ih _ (by rw [List.length_drop]; omega)]; omega
theorem len_change (a : List Q) : ∀ s : List UInt8, inL a = s.length → (apl s a).length + (gone s a).length = s.length + (insd a).length := by
  induction a with
  | nil => intro s h; have : s.length = 0 := h.symm; rw [List.eq_nil_of_length_eq_zero this]; rfl
  | cons p r ih =>
    intro s h
    have hr : inL (p :: r) = in1 p + inL r := rfl
    cases p with
    | R n => simp only [in1] at hr; have := ih (s.drop n) (by rw [List.length_drop]; omega); rw [List.length_drop] at this; simp only [apl, gone, insd, List.length_append, List.length_take]; omega
    | I t => simp only [in1] at hr; have := ih s (by omega); simp only [apl, gone, insd, List.length_append]; omega
    | D n => simp only [in1] at hr; have := ih (s.drop n) (by rw [List.length_drop]; omega); rw [List.length_drop] at this; simp only [apl, gone, insd, List.length_append, List.length_take]; omega
end Go.Proofs.Ytniccjbcchdkoaa.D
/- ApplyTell -/
namespace Go.Proofs.Ytniccjbcchdkoaa.D

/-- The byte that an entry of 'atoms' stands for. -/
def vb (S : List UInt8) (i : Int) : UInt8 := if i < 0 then UInt8.ofNat (-1 - i).toNat else S.getD i.toNat 0
theorem vb_neg (S : List UInt8) (c : UInt8) : vb S (neg c) = c := by
  unfold vb neg
  rw [if_pos (by omega)]
  have : (-1 - (-1 - (c.toNat : Int))).toNat = c.toNat := by omega
  rw [this, UInt8.ofNat_toNat]
theorem vb_at (S : List UInt8) (k : Nat) : vb S (k : Int) = S.getD k 0 := by
  unfold vb
  rw [if_neg (by omega), Int.toNat_natCast]
theorem map_vb_run (S : List UInt8) (k n : Nat) (h : k + n ≤ S.length) : ((List.range n).map fun i => ((k + i : Nat) : Int)).map (vb S) = (S.drop k).take n := by
  rw [List.map_map]
  refine List.ext_getElem (by simp; omega) fun i h1 h2 => ?_
  simp only [List.length_map, List.length_range] at h1
  rw [List.getElem_map, List.getElem_range, List.getElem_take, List.getElem_drop]
  show vb S ((k + i : Nat) : Int) = _
  rw [vb_at, List.getD_eq_getElem?_getD, List.getElem?_eq_getElem (by omega)]
  rfl
theorem apl_atoms (S : List UInt8) (a : List Q) : ∀ k, k + inL a ≤ S.length → apl (S.drop k) a = (atoms k a).map (vb S) := by
  induction a with
  | nil => intro k _; rfl
  | cons p r ih =>
    intro k h
    have hr : inL (p :: r) = in1 p + inL r := rfl
    cases p with
    | R n =>
      simp only [in1] at hr
      simp only [apl, atoms, List.map_append]
      rw [map_vb_run S k n (by omega), List.drop_drop, ih _ (by omega)]
    | I t =>
      simp only [in1] at hr
      simp only [apl, atoms, List.map_append, List.map_map]
      rw [ih _ (by omega)]
      have : t.map (vb S ∘ neg) = t := by
        rw [show (vb S ∘ neg) = id from funext fun c => vb_neg S c, List.map_id]
      rw [this]
    | D n =>
      simp only [in1] at hr
      simp only [apl, atoms]
      rw [List.drop_drop, ih _ (by omega)]
theorem atoms_good (a : List Q) : ∀ k, ∀ x ∈ atoms k a, (∃ c ∈ insd a, x = neg c) ∨ ∃ i : Nat, x = (i : Int) ∧ k ≤ i ∧ i < k + inL a := by
  induction a with
  | nil => intro k x hx; cases hx
  | cons p r ih =>
    intro k x hx
    have hr : inL (p :: r) = in1 p + inL r := rfl
    cases p with
    | R n =>
      simp only [in1] at hr
      simp only [atoms, List.mem_append] at hx
      rcases hx with hx | hx
      · obtain ⟨i, hi, rfl⟩ := List.mem_map.1 hx
        have := List.mem_range.1 hi
        exact .inr ⟨k + i, rfl, by omega, by omega⟩
      · rcases ih _ x hx with ⟨c, hc, e⟩ | ⟨i, e, h1, h2⟩
        · exact .inl ⟨c, hc, e⟩
        · exact .inr ⟨i, e, by omega, by omega⟩
    | I t =>
      simp only [in1] at hr
      simp only [atoms, List.mem_append] at hx
      rcases hx with hx | hx
      · obtain ⟨c, hc, rfl⟩ := List.mem_map.1 hx
        exact .inl ⟨c, by simp only [insd, List.mem_append]; exact .inl hc, rfl⟩
      · rcases ih _ x hx with ⟨c, hc, e⟩ | ⟨i, e, h1, h2⟩
        · exact .inl ⟨c, by simp only [insd, List.mem_append]; exact .inr hc, e⟩
        · exact .inr ⟨i, e, by omega, by omega⟩
    | D n =>
      simp only [in1] at hr
      simp only [atoms] at hx
      rcases ih _ x hx with ⟨c, hc, e⟩ | ⟨i, e, h1, h2⟩
      · exact .inl ⟨c, hc, e⟩
      · exact .inr ⟨i, e, by omega, by omega⟩
theorem map_inj_on {f : Int → UInt8} : ∀ (la lb : List Int), (∀ x ∈ la, ∀ y ∈ lb, f x = f y → x = y) → la.map f = lb.map f → la = lb
  | [], [], _, _ => rfl
  | [], _ :: _, _, e => by simp at e
  | _ :: _, [], _, e => by simp at e
  | x :: la, y :: lb, h, e => by
    simp only [List.map_cons, List.cons.injEq] at e
    rw [h x (by simp) y (by simp) e.1, map_inj_on la lb (fun u hu v hv => h u (by simp [hu]) v (by simp [hv])) e.2]
/-- For a string of different bytes that no text has, two deltas have the same result exactly if they have the same normal form. -/
theorem tells (S : List UInt8) (a b : List Q) (pa : allPos a = true) (pb : allPos b = true) (ha : inL a = S.length) (hb : inL b = S.length) (hn : S.Nodup) (fa : ∀ c ∈ insd a, c ∉ S) (fb : ∀ c ∈ insd b, c ∉ S) :
    apl S a = apl S b ↔ nf a = nf b := by
  constructor
  · intro e
    rw [nf_iff a b pa pb]
    refine ⟨by omega, ?_⟩
    have e1 := apl_atoms S a 0 (by omega)
    have e2 := apl_atoms S b 0 (by omega)
    rw [List.drop_zero] at e1 e2
    rw [e1, e2] at e
    refine map_inj_on _ _ (fun x hx y hy hxy => ?_) e
    rcases atoms_good a 0 x hx with ⟨c, hc, rfl⟩ | ⟨i, rfl, _, h2⟩ <;> rcases atoms_good b 0 y hy with ⟨d, hd, rfl⟩ | ⟨j, rfl, _, h4⟩
    · rw [vb_neg, vb_neg] at hxy; rw [hxy]
    · rw [vb_neg, vb_at, List.getD_eq_getElem?_getD, List.getElem?_eq_getElem (by omega)] at hxy
      exact absurd (hxy ▸ List.getElem_mem _) (fa c hc)
    · rw [vb_neg, vb_at, List.getD_eq_getElem?_getD, List.getElem?_eq_getElem (by omega)] at hxy
      exact absurd (hxy.symm ▸ List.getElem_mem _) (fb d hd)
    · rw [vb_at, vb_at, List.getD_eq_getElem?_getD, List.getElem?_eq_getElem (by omega), List.getD_eq_getElem?_getD, List.getElem?_eq_getElem (by omega)] at hxy
      have : i = j := (List.getElem_inj hn).1 hxy
      rw [this]
  · intro e
    rw [← apl_nf a, ← apl_nf b, e]
/-- A single edit: k bytes at an offset replaced by a text, in a string of n bytes. -/
def edit (n at_ k : Nat) (t : List UInt8) : List Q :=
  (if 0 < at_ then [.R at_] else []) ++ (if t = [] then [] else [.I t]) ++ (if 0 < k then [.D k] else []) ++ (if at_ + k < n then [.R (n - at_ - k)] else [])
theorem edit_inL (n at_ k : Nat) (t : List UInt8) (h : at_ + k ≤ n) : inL (edit n at_ k t) = n := by
  unfold edit
  rw [inL_append, inL_append, inL_append]
  split <;> split <;> split <;> split <;> simp [inL, in1] <;> omega
theorem edit_apl (s : List UInt8) (at_ k : Nat) (t : List UInt8) (h : at_ + k ≤ s.length) : apl s (edit s.length at_ k t) = s.take at_ ++ t ++ s.drop (at_ + k) := by
  unfold edit
  have e0 : ∀ x y : List Q, ∀ u v : List UInt8, inL x = u.length → apl (u ++ v) (x ++ y) = apl u x ++ apl v y := fun x y u v hu => apl_append x y u v hu
  have hs : s = s.take at_ ++ ([] ++ ((s.drop at_).take k ++ s.drop (at_ + k))) := by
    rw [List.nil_append, ← List.drop_drop, List.take_append_drop, List.take_append_drop]
  have l1 : (s.take at_).length = at_ := by rw [List.length_take]; omega
  have l2 : ((s.drop at_).take k).length = k := by rw [List.length_take, List.length_drop]; omega
  have l3 : (s.drop (at_ + k)).length = s.length - at_ - k := by rw [List.length_drop]; omega
  conv => lhs; arg 1; rw [hs]
  rw [List.append_assoc, List.append_assoc, e0 _ _ _ _ (by rw [l1]; split <;> simp [inL, in1] <;> omega), e0 _ _ _ _ (by split <;> simp [inL, in1]), e0 _ _ _ _ (by rw [l2]; split <;> simp [inL, in1] <;> omega)]
  have p1 : apl (s.take at_) (if 0 < at_ then [.R at_] else []) = s.take at_ := by
    split
    · simp only [apl, List.append_nil]; rw [List.take_take, Nat.min_self]
    · rw [show at_ = 0 by omega]; rfl
  have p2 : apl [] (if t = [] then [] else [.I t]) = t := by
    split
    · rename_i e; rw [e]; rfl
    · simp [apl]
  have p3 : apl ((s.drop at_).take k) (if 0 < k then [.D k] else []) = [] := by split <;> rfl
  have p4 : apl (s.drop (at_ + k)) (if at_ + k < s.length then [.R (s.length - at_ - k)] else []) = s.drop (at_ + k) := by
    split
    · simp only [apl, List.append_nil]; rw [← l3, List.take_length]
    · rw [List.drop_eq_nil_iff.2 (by omega)]; rfl
  rw [p1, p2, p3, p4, List.nil_append, List.append_assoc]
end Go.Proofs.Ytniccjbcchdkoaa.D
/- DeltaRaw -/
namespace Go.Proofs.Ytniccjbcchdkoaa.D

/-- A piece as it comes: its kind, its number, its text. -/
structure P where
  k : Int
  n : Int
  t : ByteArray
def most : Int := 1048576
def vP (p : P) : Bool :=
  if p.k = 2 then decide (p.n = 0) && decide (p.t.size ≠ 0) else (decide (p.k = 1) || decide (p.k = 3)) && decide (1 ≤ p.n) && decide (p.t.size = 0)
/-- The error of the pieces, what they consumed and produced so far being i and o. -/
def chkF : Int → Int → List P → Int
  | _, _, [] => 0
  | i, o, p :: r =>
    if vP p = false then 2
    else if p.k ≠ 2 ∧ most - i < p.n then 5
    else if (p.k = 1 ∧ most - o < p.n) ∨ most - o < (p.t.size : Int) then 5
    else chkF (if p.k = 2 then i else i + p.n) ((if p.k = 1 then o + p.n else o) + (p.t.size : Int)) r
def chk (l : List P) : Int := if 4096 < l.length then 5 else chkF 0 0 l
/-- What pieces consume and produce. -/
def inP : List P → Int
  | [] => 0
  | p :: r => p.n + inP r
def outP : List P → Int
  | [] => 0
  | p :: r => (if p.k = 1 then p.n else 0) + (p.t.size : Int) + outP r

/-! ### Valid pieces -/
def raw : Q → P
  | .R n => ⟨1, n, ⟨#[]⟩⟩
  | .I t => ⟨2, 0, ⟨t.toArray⟩⟩
  | .D n => ⟨3, n, ⟨#[]⟩⟩
theorem bytes_eq (t : ByteArray) : (⟨t.data.toList.toArray⟩ : ByteArray) = t := by cases t; simp
theorem empty_of_size {t : ByteArray} (h : t.size = 0) : t = ⟨#[]⟩ := by
  apply ByteArray.ext
  exact Array.eq_empty_of_size_eq_zero h
theorem size_e : (⟨#[]⟩ : ByteArray).size = 0 := rfl
theorem size_l (t : List UInt8) : (⟨t.toArray⟩ : ByteArray).size = t.length := by show t.toArray.size = _; simp
theorem vP_two {n : Int} {t : ByteArray} : vP ⟨2, n, t⟩ = (decide (n = 0) && decide (t.size ≠ 0)) := by unfold vP; rw [if_pos rfl]
theorem vP_else {k n : Int} {t : ByteArray} (h : k ≠ 2) : vP ⟨k, n, t⟩ = ((decide (k = 1) || decide (k = 3)) && decide (1 ≤ n) && decide (t.size = 0)) := by unfold vP; rw [if_neg h]
/-- The three forms of a valid piece. -/
theorem vP_forms {p : P} (h : vP p = true) : (∃ n : Nat, 0 < n ∧ p = ⟨1, n, ⟨#[]⟩⟩) ∨ (∃ t : ByteArray, 0 < t.size ∧ p = ⟨2, 0, t⟩) ∨ (∃ n : Nat, 0 < n ∧ p = ⟨3, n, ⟨#[]⟩⟩) := by
  obtain ⟨k, n, t⟩ := p
  by_cases hk : k = 2
  · subst hk
    rw [vP_two] at h
    simp only [Bool.and_eq_true, decide_eq_true_eq] at h
    exact .inr (.inl ⟨t, by omega, by rw [h.1]⟩)
  · rw [vP_else hk] at h
    simp only [Bool.and_eq_true, Bool.or_eq_true, decide_eq_true_eq] at h
    obtain ⟨⟨h1, h2⟩, h3⟩ := h
    have ht : t = ⟨#[]⟩ := empty_of_size h3
    have hn : ((n.toNat : Nat) : Int) = n := by omega
    rcases h1 with rfl | rfl
    · exact .inl ⟨n.toNat, by omega, by rw [ht, hn]⟩
    · exact .inr (.inr ⟨n.toNat, by omega, by rw [ht, hn]⟩)
theorem raw_of_vP {p : P} (h : vP p = true) : ∃ q, pos q = true ∧ raw q = p := by
  rcases vP_forms h with ⟨n, hn, rfl⟩ | ⟨t, ht, rfl⟩ | ⟨n, hn, rfl⟩
  · exact ⟨.R n, by simpa [pos] using hn, rfl⟩
  · refine ⟨.I t.data.toList, ?_, ?_⟩
    · cases hd : t.data.toList with
      | nil =>
        have : t.data.toList.length = t.size := by simp
        rw [hd] at this; simp at this; omega
      | cons a r => rfl
    · show (⟨2, 0, ⟨t.data.toList.toArray⟩⟩ : P) = _
      rw [bytes_eq]
  · exact ⟨.D n, by simpa [pos] using hn, rfl⟩
theorem vP_raw {q : Q} (h : pos q = true) : vP (raw q) = true := by
  cases q with
  | R n =>
    simp only [pos, decide_eq_true_eq] at h
    rw [raw, vP_else (by omega), size_e, decide_eq_true (show (1 : Int) ≤ n by omega)]; rfl
  | D n =>
    simp only [pos, decide_eq_true_eq] at h
    rw [raw, vP_else (by omega), size_e, decide_eq_true (show (1 : Int) ≤ n by omega)]; rfl
  | I t =>
    cases t with
    | nil => simp [pos] at h
    | cons b t => rw [raw, vP_two, size_l, decide_eq_true (show (b :: t).length ≠ 0 by simp)]; rfl
theorem raw_inj {p q : Q} (h : raw p = raw q) : p = q := by
  cases p <;> cases q <;> simp [raw] at h
  all_goals (first | (subst h; rfl) | (have := Int.ofNat_inj.1 h; subst this; rfl))
theorem map_raw_inj : ∀ {a b : List Q}, a.map raw = b.map raw → a = b
  | [], [], _ => rfl
  | [], _ :: _, h => by simp at h
  | _ :: _, [], h => by simp at h
  | p :: a, q :: b, h => by
    simp only [List.map_cons, List.cons.injEq] at h
    rw [raw_inj h.1, map_raw_inj h.2]
theorem valid_raw (l : List P) (h : ∀ p ∈ l, vP p = true) : ∃ a, allPos a = true ∧ a.map raw = l := by
  induction l with
  | nil => exact ⟨[], rfl, rfl⟩
  | cons p l ih =>
    obtain ⟨q, hq, rfl⟩ := raw_of_vP (h p (List.mem_cons_self))
    obtain ⟨a, ha, rfl⟩ := ih (fun x hx => h x (List.mem_cons_of_mem _ hx))
    exact ⟨q :: a, by unfold allPos at *; simp [hq, ha], rfl⟩
theorem inP_raw (a : List Q) : inP (a.map raw) = (inL a : Int) := by
  induction a with
  | nil => rfl
  | cons q a ih => cases q <;> simp [inP, inL, in1, raw, ih]
theorem outP_raw (a : List Q) : outP (a.map raw) = (outL a : Int) := by
  induction a with
  | nil => rfl
  | cons q a ih => cases q <;> simp [outP, outL, out1, raw, ih, size_l]
theorem chkF_bad (i o : Int) (p : P) (r : List P) (h : vP p = false) : chkF i o (p :: r) = 2 := by rw [chkF, if_pos h]
theorem chkF_R (i o : Int) (n : Nat) (r : List P) (hn : 0 < n) (ho : o ≤ most) : chkF i o (⟨1, n, ⟨#[]⟩⟩ :: r) = if most - i < n then 5 else if most - o < n then 5 else chkF (i + n) (o + n) r := by
  have hv : ¬ vP ⟨1, (n : Int), ⟨#[]⟩⟩ = false := by rw [show vP ⟨1, (n : Int), ⟨#[]⟩⟩ = true from vP_raw (q := .R n) (by simpa [pos] using hn)]; simp
  rw [chkF, if_neg hv]
  by_cases c1 : most - i < (n : Int)
  · rw [if_pos ⟨show (1 : Int) ≠ 2 by decide, c1⟩, if_pos c1]
  · rw [if_neg (fun h => c1 h.2), if_neg c1]
    by_cases c2 : most - o < (n : Int)
    · rw [if_pos (.inl ⟨rfl, c2⟩), if_pos c2]
    · rw [if_neg (by rintro (⟨_, h⟩ | h); · exact c2 h
                     · rw [size_e] at h; omega), if_neg c2]
      show chkF (i + n) (o + n + ((⟨#[]⟩ : ByteArray).size : Int)) r = _
      rw [size_e]; simp
theorem chkF_I (i o : Int) (t : ByteArray) (r : List P) (ht : 0 < t.size) : chkF i o (⟨2, 0, t⟩ :: r) = if most - o < (t.size : Int) then 5 else chkF i (o + t.size) r := by
  have hv : ¬ vP ⟨2, 0, t⟩ = false := by rw [vP_two, decide_eq_true (show t.size ≠ 0 by omega)]; simp
  rw [chkF, if_neg hv, if_neg (fun h => h.1 rfl)]
  by_cases c2 : most - o < (t.size : Int)
  · rw [if_pos (.inr c2), if_pos c2]
  · rw [if_neg (by rintro (⟨h, _⟩ | h); · exact absurd (show (2 : Int) = 1 from h) (by decide)
                   · exact c2 h), if_neg c2]
    rfl
theorem chkF_D (i o : Int) (n : Nat) (r : List P) (hn : 0 < n) (ho : o ≤ most) : chkF i o (⟨3, n, ⟨#[]⟩⟩ :: r) = if most - i < n then 5 else chkF (i + n) o r := by
  have hv : ¬ vP ⟨3, (n : Int), ⟨#[]⟩⟩ = false := by rw [show vP ⟨3, (n : Int), ⟨#[]⟩⟩ = true from vP_raw (q := .D n) (by simpa [pos] using hn)]; simp
  rw [chkF, if_neg hv]
  by_cases c1 : most - i < (n : Int)
  · rw [if_pos ⟨show (3 : Int) ≠ 2 by decide, c1⟩, if_pos c1]
  · rw [if_neg (fun h => c1 h.2), if_neg c1, if_neg (by rintro (⟨h, _⟩ | h); · exact absurd (show (3 : Int) = 1 from h) (by decide)
                                                        · rw [size_e] at h; omega)]
    show chkF (i + n) (o + ((⟨#[]⟩ : ByteArray).size : Int)) r = _
    rw [size_e]; simp
/-- What makes a check succeed. -/
theorem chkF_ok (a : List Q) (pa : allPos a = true) : ∀ i o : Int, 0 ≤ i → i ≤ most → 0 ≤ o → o ≤ most → (chkF i o (a.map raw) = 0 ↔ i + inL a ≤ most ∧ o + outL a ≤ most) := by
  induction a with
  | nil => intro i o _ _ _ _; simp [chkF, inL, outL]; omega
  | cons q a ih =>
    intro i o h1 h2 h3 h4
    unfold allPos at pa
    simp only [List.all_cons, Bool.and_eq_true] at pa
    have ih' := ih pa.2
    cases q with
    | R n =>
      have hn : 0 < n := by simpa [pos] using pa.1
      rw [List.map_cons, raw, chkF_R i o n _ hn h4]
      simp only [inL, in1, outL, out1]
      by_cases c1 : most - i < (n : Int)
      · rw [if_pos c1]; simp; omega
      · rw [if_neg c1]
        by_cases c2 : most - o < (n : Int)
        · rw [if_pos c2]; simp; omega
        · rw [if_neg c2, ih' (i + n) (o + n) (by omega) (by omega) (by omega) (by omega)]; omega
    | I t =>
      have ht : 0 < t.length := by cases t with
        | nil => simp [pos] at pa
        | cons => simp
      rw [List.map_cons, raw, chkF_I i o _ _ (by rw [size_l]; exact ht), size_l]
      simp only [inL, in1, outL, out1]
      by_cases c2 : most - o < (t.length : Int)
      · rw [if_pos c2]; simp; omega
      · rw [if_neg c2, ih' i (o + t.length) (by omega) (by omega) (by omega) (by omega)]; omega
    | D n =>
      have hn : 0 < n := by simpa [pos] using pa.1
      rw [List.map_cons, raw, chkF_D i o n _ hn h4]
      simp only [inL, in1, outL, out1]
      by_cases c1 : most - i < (n : Int)
      · rw [if_pos c1]; simp; omega
      · rw [if_neg c1, ih' (i + n) o (by omega) (by omega) (by omega) (by omega)]; omega
theorem chkF_valid : ∀ (l : List P) (i o : Int), chkF i o l = 0 → ∀ p ∈ l, vP p = true
  | [], _, _, _, p, hp => by cases hp
  | q :: r, i, o, h, p, hp => by
    unfold chkF at h
    by_cases hv : vP q = false
    · simp [hv] at h
    · rw [if_neg hv] at h
      by_cases c1 : q.k ≠ 2 ∧ most - i < q.n
      · rw [if_pos c1] at h; cases h
      · rw [if_neg c1] at h
        by_cases c2 : (q.k = 1 ∧ most - o < q.n) ∨ most - o < (q.t.size : Int)
        · rw [if_pos c2] at h; cases h
        · rw [if_neg c2] at h
          rcases List.mem_cons.1 hp with rfl | hp
          · simpa using hv
          · exact chkF_valid r _ _ h p hp
/-- A delta is valid exactly if it is a list of valid pieces that are not too many and not too long. -/
theorem chk_iff (l : List P) : chk l = 0 ↔ ∃ a : List Q, allPos a = true ∧ a.map raw = l ∧ a.length ≤ 4096 ∧ inL a ≤ 1048576 ∧ outL a ≤ 1048576 := by
  unfold chk
  constructor
  · intro h
    by_cases hl : 4096 < l.length
    · rw [if_pos hl] at h; cases h
    · rw [if_neg hl] at h
      obtain ⟨a, pa, rfl⟩ := valid_raw l (chkF_valid l 0 0 h)
      have := (chkF_ok a pa 0 0 (by omega) (by unfold most; omega) (by omega) (by unfold most; omega)).1 h
      unfold most at this
      simp at hl
      exact ⟨a, pa, rfl, hl, by omega, by omega⟩
  · rintro ⟨a, pa, rfl, hl, hi, ho⟩
    rw [if_neg (by simp; omega)]
    exact (chkF_ok a pa 0 0 (by omega) (by unfold most; omega) (by omega) (by unfold most; omega)).2 ⟨by unfold most; omega, by unfold most; omega⟩
theorem chk_cases (l : List P) : chk l = 0 ∨ chk l = 2 ∨ chk l = 5 := by
  have key : ∀ (l : List P) (i o : Int), chkF i o l = 0 ∨ chkF i o l = 2 ∨ chkF i o l = 5 := by
    intro l
    induction l with
    | nil => intro i o; exact .inl rfl
    | cons p r ih =>
      intro i o
      unfold chkF
      split
      · exact .inr (.inl rfl)
      · split
        · exact .inr (.inr rfl)
        · split
          · exact .inr (.inr rfl)
          · exact ih _ _
  unfold chk
  split
  · exact .inr (.inr rfl)
  · exact key l 0 0
/-! ### Sizes of a beginning -/
theorem inP_snoc (l : List P) (k : Nat) (p : P) (h : l[k]? = some p) : inP (l.take (k + 1)) = inP (l.take k) + p.n := by
  have key : ∀ (a : List P) (p : P), inP (a ++ [p]) = inP a + p.n := by
    intro a p
    induction a with
    | nil => simp [inP]
    | cons q a ih => simp only [List.cons_append, inP, ih]; omega
  obtain ⟨hk, e⟩ := List.getElem?_eq_some_iff.1 h
  rw [List.take_succ_eq_append_getElem hk, e, key]
theorem outP_snoc (l : List P) (k : Nat) (p : P) (h : l[k]? = some p) : outP (l.take (k + 1)) = outP (l.take k) + (p.t.size : Int) + (if p.k = 1 then p.n else 0) := by
  have key : ∀ (a : List P) (p : P), outP (a ++ [p]) = outP a + (p.t.size : Int) + (if p.k = 1 then p.n else 0) := by
    intro a p
    induction a with
    | nil => simp only [List.nil_append, outP]; omega
    | cons q a ih => simp only [List.cons_append, outP, ih]; omega
  obtain ⟨hk, e⟩ := List.getElem?_eq_some_iff.1 h
  rw [List.take_succ_eq_append_getElem hk, e, key]
theorem sizes_bd (l : List P) (h : chk l = 0) (k : Nat) : 0 ≤ inP (l.take k) ∧ inP (l.take k) ≤ 1048576 ∧ 0 ≤ outP (l.take k) ∧ outP (l.take k) ≤ 1048576 := by
  obtain ⟨a, pa, rfl, _, hi, ho⟩ := (chk_iff l).1 h
  rw [← List.map_take, inP_raw, outP_raw]
  have e := List.take_append_drop k a
  have h1 : inL a = inL (a.take k) + inL (a.drop k) := by rw [← inL_append, e]
  have h2 : outL a = outL (a.take k) + outL (a.drop k) := by rw [← outL_append, e]
  omega
theorem piece_of_chk {l : List P} (h : chk l = 0) {k : Nat} {p : P} (hp : l[k]? = some p) : vP p = true := by
  unfold chk at h
  split at h
  · cases h
  · exact chkF_valid l 0 0 h p (List.mem_of_getElem? hp)
/-! ### The same pieces -/
def peq (p q : P) : Bool := p.k == q.k && p.n == q.n && p.t.data.toList == q.t.data.toList
theorem peq_iff (p q : P) : peq p q = true ↔ p = q := by
  obtain ⟨k, n, t⟩ := p
  obtain ⟨k', n', t'⟩ := q
  simp only [peq, Bool.and_eq_true, beq_iff_eq, P.mk.injEq, and_assoc]
  constructor
  · rintro ⟨h1, h2, h3⟩
    refine ⟨h1, h2, ?_⟩
    exact ByteArray.ext (Array.toList_inj.1 h3)
  · rintro ⟨h1, h2, h3⟩; exact ⟨h1, h2, by rw [h3]⟩
/-- Do the pieces agree from the k-th on? -/
def same : List P → List P → Bool
  | [], [] => true
  | p :: a, q :: b => peq p q && same a b
  | _, _ => false
theorem same_iff : ∀ (a b : List P), same a b = true ↔ a = b
  | [], [] => by simp [same]
  | [], _ :: _ => by simp [same]
  | _ :: _, [] => by simp [same]
  | p :: a, q :: b => by simp only [same, Bool.and_eq_true, peq_iff, same_iff a b, List.cons.injEq]
theorem same_len {a b : List P} (h : a.length ≠ b.length) : same a b = false := by
  rw [Bool.eq_false_iff]; intro e; exact h (by rw [(same_iff a b).1 e])
end Go.Proofs.Ytniccjbcchdkoaa.D
/- DeltaForm -/
namespace Go.Proofs.Ytniccjbcchdkoaa.D

def isR : Q → Bool
  | .R _ => true
  | _ => false
def txt1 : Q → List UInt8
  | .I t => t
  | _ => []
def del1 : Q → Nat
  | .D n => n
  | _ => 0
def ret1 : Q → Nat
  | .R n => n
  | _ => 0
def txt (g : List Q) : List UInt8 := (g.map txt1).flatten
def del (g : List Q) : Nat := (g.map del1).sum
def ret (g : List Q) : Nat := (g.map ret1).sum
def optI (t : List UInt8) (x : List Q) : List Q := if t = [] then x else pI t x
def optD (n : Nat) (x : List Q) : List Q := if n = 0 then x else pD n x
def optR (n : Nat) (x : List Q) : List Q := if n = 0 then x else pR n x
theorem pI_optI (s t : List UInt8) (x : List Q) (hs : s ≠ []) : pI s (optI t x) = optI (s ++ t) x := by
  have h2 : s ++ t ≠ [] := fun e => hs (List.append_eq_nil_iff.1 e).1
  by_cases ht : t = []
  · subst ht; rw [List.append_nil]; simp [optI, hs]
  · simp only [optI, ht, h2, if_false]; rw [pI_pI]
theorem pD_optD (n m : Nat) (x : List Q) (hn : 0 < n) : pD n (optD m x) = optD (n + m) x := by
  unfold optD
  rw [if_neg (show ¬ n + m = 0 by omega)]
  split
  · rename_i h; rw [h]; rfl
  · rw [pD_pD]
theorem pR_optR (n m : Nat) (x : List Q) (hn : 0 < n) : pR n (optR m x) = optR (n + m) x := by
  unfold optR
  rw [if_neg (show ¬ n + m = 0 by omega)]
  split
  · rename_i h; rw [h]; rfl
  · rw [pR_pR]
theorem pD_optI (n : Nat) (t : List UInt8) (x : List Q) : pD n (optI t x) = optI t (pD n x) := by
  unfold optI
  split
  · rfl
  · rw [pD_pI]
theorem ap_gap (g x : List Q) (hg : ∀ q ∈ g, isR q = false) (hp : allPos g = true) : ap g x = optI (txt g) (optD (del g) x) := by
  induction g with
  | nil => rfl
  | cons q g ih =>
    unfold allPos at hp
    simp only [List.all_cons, Bool.and_eq_true] at hp
    rw [ap_cons, ih (fun y hy => hg y (List.mem_cons_of_mem _ hy)) hp.2]
    cases q with
    | R n => have := hg _ (List.mem_cons_self); simp [isR] at this
    | I t =>
      have ht : t ≠ [] := by intro e; subst e; simp [pos] at hp
      show pI t (optI (txt g) _) = optI (t ++ txt g) (optD (0 + del g) x)
      rw [pI_optI _ _ _ ht, Nat.zero_add]
    | D n =>
      have hn : 0 < n := by simpa [pos] using hp.1
      show pD n (optI (txt g) _) = optI ([] ++ txt g) (optD (n + del g) x)
      rw [pD_optI, pD_optD _ _ _ hn, List.nil_append]
theorem ap_run (g x : List Q) (hg : ∀ q ∈ g, isR q = true) (hp : allPos g = true) : ap g x = optR (ret g) x := by
  induction g with
  | nil => rfl
  | cons q g ih =>
    unfold allPos at hp
    simp only [List.all_cons, Bool.and_eq_true] at hp
    rw [ap_cons, ih (fun y hy => hg y (List.mem_cons_of_mem _ hy)) hp.2]
    cases q with
    | I n => have := hg _ (List.mem_cons_self); simp [isR] at this
    | D n => have := hg _ (List.mem_cons_self); simp [isR] at this
    | R n =>
      have hn : 0 < n := by simpa [pos] using hp.1
      show pR n (optR (ret g) x) = optR (n + ret g) x
      rw [pR_optR _ _ _ hn]
/-- The pieces from k up to j. -/
def seg (a : List Q) (k j : Nat) : List Q := (a.take j).drop k
theorem seg_self (a : List Q) (k : Nat) : seg a k k = [] := by unfold seg; rw [List.drop_eq_nil_iff]; simp; omega
theorem seg_snoc (a : List Q) (k j : Nat) (q : Q) (h : a[j]? = some q) (hk : k ≤ j) : seg a k (j + 1) = seg a k j ++ [q] := by
  obtain ⟨hj, e⟩ := List.getElem?_eq_some_iff.1 h
  unfold seg
  rw [List.take_succ_eq_append_getElem hj, e, List.drop_append_of_le_length (by simp; omega)]
theorem seg_drop (a : List Q) (k j : Nat) (hk : k ≤ j) : a.drop k = seg a k j ++ a.drop j := by
  unfold seg
  have h := List.take_append_drop j a
  by_cases hj : j ≤ a.length
  · calc a.drop k = ((a.take j) ++ a.drop j).drop k := by rw [h]
      _ = _ := by rw [List.drop_append_of_le_length (by simp; omega)]
  · rw [List.take_of_length_le (by omega), List.drop_eq_nil_iff.2 (show a.length ≤ j by omega), List.append_nil]
theorem txt_snoc (g : List Q) (q : Q) : txt (g ++ [q]) = txt g ++ txt1 q := by simp [txt]
theorem del_snoc (g : List Q) (q : Q) : del (g ++ [q]) = del g + del1 q := by simp [del]
theorem ret_snoc (g : List Q) (q : Q) : ret (g ++ [q]) = ret g + ret1 q := by simp [ret]
theorem allPos_seg {a : List Q} (h : allPos a = true) (k j : Nat) : allPos (seg a k j) = true := by
  unfold allPos seg at *
  rw [List.all_eq_true] at *
  exact fun x hx => h x (List.mem_of_mem_take (List.mem_of_mem_drop hx))
theorem allPos_drop {a : List Q} (h : allPos a = true) (k : Nat) : allPos (a.drop k) = true := by
  unfold allPos at *
  rw [List.all_eq_true] at *
  exact fun x hx => h x (List.mem_of_mem_drop hx)
/-- Does a list begin with a piece that keeps? -/
def headR : List Q → Bool
  | .R _ :: _ => true
  | _ => false
theorem headR_nf_of (a : List Q) (h : headR a = false) : headR (nf a) = false := by
  cases a with
  | nil => rfl
  | cons q a =>
    rw [nf_cons]
    cases q with
    | R n => simp [headR] at h
    | I t =>
      show headR (pI t (nf a)) = false
      cases nf a with
      | nil => rfl
      | cons p r => cases p <;> rfl
    | D n =>
      show headR (pD n (nf a)) = false
      match nf a with
      | [] => rfl
      | .R k :: r => rfl
      | .D k :: r => rfl
      | [.I s] => rfl
      | .I s :: .D k :: r => rfl
      | .I s :: .R k :: r => rfl
      | .I s :: .I u :: r => rfl
theorem headR_nf_R (n : Nat) (a : List Q) : ∃ m r, nf (.R n :: a) = .R m :: r := by
  rw [nf_cons]
  show ∃ m r, pR n (nf a) = _
  cases nf a with
  | nil => exact ⟨_, _, rfl⟩
  | cons p r => cases p <;> exact ⟨_, _, rfl⟩
theorem pR_noR (n : Nat) (x : List Q) (h : headR x = false) : pR n x = .R n :: x := by
  cases x with
  | nil => rfl
  | cons p r => cases p <;> first | rfl | simp [headR] at h
/-- In front of a run, or of nothing, a gap is one insertion and one removal. -/
theorem gap_front (t : List UInt8) (n : Nat) (x : List Q) (h : x = [] ∨ ∃ m r, x = .R m :: r) : optI t (optD n x) = (if t = [] then [] else [.I t]) ++ ((if n = 0 then [] else [.D n]) ++ x) := by
  unfold optI optD
  rcases h with rfl | ⟨m, r, rfl⟩ <;> by_cases ht : t = [] <;> by_cases hn : n = 0 <;> simp [ht, hn, pI, pD]
/-- One round of the reference: the gap from k to j, the run from j to m. -/
theorem form_round (a : List Q) (pa : allPos a = true) (k j m : Nat) (hkj : k ≤ j) (hjm : j ≤ m) (_hm : m ≤ a.length) (hg : ∀ q ∈ seg a k j, isR q = false) (hr : ∀ q ∈ seg a j m, isR q = true)
    (hj : j = a.length ∨ headR (a.drop j) = true) (hm' : headR (a.drop m) = false) :
    nf (a.drop k) = (if txt (seg a k j) = [] then [] else [.I (txt (seg a k j))]) ++ ((if del (seg a k j) = 0 then [] else [.D (del (seg a k j))]) ++ ((if ret (seg a j m) = 0 then [] else [.R (ret (seg a j m))]) ++ nf (a.drop m))) := by
  have h1 : nf (a.drop k) = ap (seg a k j) (nf (a.drop j)) := by rw [seg_drop a k j hkj, nf_append]
  have h2 : nf (a.drop j) = ap (seg a j m) (nf (a.drop m)) := by rw [seg_drop a j m hjm, nf_append]
  have h3 : nf (a.drop j) = (if ret (seg a j m) = 0 then [] else [.R (ret (seg a j m))]) ++ nf (a.drop m) := by
    rw [h2, ap_run _ _ hr (allPos_seg pa _ _)]
    unfold optR
    by_cases hz : ret (seg a j m) = 0
    · simp [hz]
    · simp only [hz, if_false]
      rw [pR_noR _ _ (headR_nf_of _ hm')]; rfl
  rw [h1, ap_gap _ _ hg (allPos_seg pa _ _), gap_front, h3]
  rcases hj with rfl | hj
  · left; rw [List.drop_length]; rfl
  · right
    cases hd : a.drop j with
    | nil => rw [hd] at hj; simp [headR] at hj
    | cons q r =>
      cases q with
      | R n => exact headR_nf_R n r
      | I t => rw [hd] at hj; simp [headR] at hj
      | D n => rw [hd] at hj; simp [headR] at hj
theorem txt_len (g : List Q) : (txt g).length ≤ outL g := by
  induction g with
  | nil => exact Nat.le_refl _
  | cons q g ih =>
    have : txt (q :: g) = txt1 q ++ txt g := by simp [txt]
    rw [this, List.length_append]
    cases q <;> simp [txt1, outL, out1] <;> omega
theorem del_le (g : List Q) : del g ≤ inL g := by
  induction g with
  | nil => exact Nat.le_refl _
  | cons q g ih =>
    have : del (q :: g) = del1 q + del g := by simp [del]
    rw [this]
    cases q <;> simp [del1, inL, in1] <;> omega
theorem ret_le (g : List Q) : ret g ≤ inL g := by
  induction g with
  | nil => exact Nat.le_refl _
  | cons q g ih =>
    have : ret (q :: g) = ret1 q + ret g := by simp [ret]
    rw [this]
    cases q <;> simp [ret1, inL, in1] <;> omega
theorem seg_le (a : List Q) (k j : Nat) : inL (seg a k j) ≤ inL a ∧ outL (seg a k j) ≤ outL a := by
  have h1 := List.take_append_drop j a
  have h2 := List.take_append_drop k (a.take j)
  have e1 : inL a = inL (a.take j) + inL (a.drop j) := by rw [← inL_append, h1]
  have e2 : inL (a.take j) = inL ((a.take j).take k) + inL ((a.take j).drop k) := by rw [← inL_append, h2]
  have e3 : outL a = outL (a.take j) + outL (a.drop j) := by rw [← outL_append, h1]
  have e4 : outL (a.take j) = outL ((a.take j).take k) + outL ((a.take j).drop k) := by rw [← outL_append, h2]
  unfold seg
  omega
theorem seg_bd (a : List Q) (k j : Nat) : (txt (seg a k j)).length ≤ outL a ∧ del (seg a k j) ≤ inL a ∧ ret (seg a k j) ≤ inL a := by
  have := seg_le a k j
  exact ⟨Nat.le_trans (txt_len _) this.2, Nat.le_trans (del_le _) this.1, Nat.le_trans (ret_le _) this.1⟩
def oI (t : List UInt8) : List Q := if t = [] then [] else [.I t]
def oD (n : Nat) : List Q := if n = 0 then [] else [.D n]
def oR (n : Nat) : List Q := if n = 0 then [] else [.R n]
theorem form_step (a : List Q) (pa : allPos a = true) (k j m : Nat) (hkj : k ≤ j) (hjm : j ≤ m) (hm : m ≤ a.length) (hg : ∀ q ∈ seg a k j, isR q = false) (hr : ∀ q ∈ seg a j m, isR q = true)
    (hj : j = a.length ∨ headR (a.drop j) = true) (hm' : headR (a.drop m) = false) (x : List Q) (hx : x ++ nf (a.drop k) = nf a) :
    (((x ++ oI (txt (seg a k j))) ++ oD (del (seg a k j))) ++ oR (ret (seg a j m))) ++ nf (a.drop m) = nf a := by
  rw [← hx, form_round a pa k j m hkj hjm hm hg hr hj hm']
  simp only [List.append_assoc]
  rfl
theorem oI_len (t : List UInt8) : (oI t).length ≤ 1 := by unfold oI; split <;> simp
theorem oD_len (n : Nat) : (oD n).length ≤ 1 := by unfold oD; split <;> simp
theorem oR_len (n : Nat) : (oR n).length ≤ 1 := by unfold oR; split <;> simp
theorem oI_nil : oI [] = [] := rfl
theorem oI_pos {t : List UInt8} (h : t ≠ []) : oI t = [.I t] := by unfold oI; rw [if_neg h]
theorem oD_zero : oD 0 = [] := rfl
theorem oD_pos {n : Nat} (h : 0 < n) : oD n = [.D n] := by unfold oD; rw [if_neg (by omega)]
theorem oR_zero : oR 0 = [] := rfl
theorem oR_pos {n : Nat} (h : 0 < n) : oR n = [.R n] := by unfold oR; rw [if_neg (by omega)]
/-! ### The normal form of pieces as they come -/
def toQ (p : P) : Q := if p.k = 1 then .R p.n.toNat else if p.k = 2 then .I p.t.data.toList else .D p.n.toNat
theorem raw_toQ {p : P} (h : vP p = true) : raw (toQ p) = p := by
  rcases vP_forms h with ⟨n, _, rfl⟩ | ⟨t, _, rfl⟩ | ⟨n, _, rfl⟩
  · simp [toQ, raw]
  · simp [toQ, raw]
  · simp [toQ, raw]
theorem toQ_raw (q : Q) : toQ (raw q) = q := by cases q <;> simp [toQ, raw]
def qs (l : List P) : List Q := l.map toQ
def normP (l : List P) : List P := (nf (qs l)).map raw
theorem qs_raw (a : List Q) : qs (a.map raw) = a := by
  unfold qs; rw [List.map_map]
  conv => rhs; rw [← List.map_id a]
  exact List.map_congr_left fun q _ => toQ_raw q
theorem raw_qs {l : List P} (h : ∀ p ∈ l, vP p = true) : (qs l).map raw = l := by
  unfold qs; rw [List.map_map]
  conv => rhs; rw [← List.map_id l]
  exact List.map_congr_left fun p hp => raw_toQ (h p hp)
theorem normP_raw (a : List Q) : normP (a.map raw) = (nf a).map raw := by unfold normP; rw [qs_raw]
/-- A valid delta, as pieces of the mathematics. -/
theorem valid_qs {l : List P} (h : chk l = 0) : (qs l).map raw = l ∧ allPos (qs l) = true ∧ (qs l).length = l.length ∧ l.length ≤ 4096 ∧ inL (qs l) ≤ 1048576 ∧ outL (qs l) ≤ 1048576 := by
  obtain ⟨a, pa, rfl, h1, h2, h3⟩ := (chk_iff l).1 h
  rw [qs_raw]
  exact ⟨rfl, pa, by simp, by simpa using h1, h2, h3⟩
/-- A normal form is valid, if the delta is. -/
theorem chk_normP {l : List P} (h : chk l = 0) : chk (normP l) = 0 := by
  obtain ⟨_, pa, h0, h1, h2, h3⟩ := valid_qs h
  refine (chk_iff _).2 ⟨nf (qs l), allPos_nf _ pa, rfl, ?_, by rw [inL_nf]; exact h2, by rw [outL_nf]; exact h3⟩
  have := nf_length (qs l); omega
theorem normP_normP (l : List P) : normP (normP l) = normP l := by rw [normP, normP, qs_raw, nf_nf]
end Go.Proofs.Ytniccjbcchdkoaa.D
/- ApplyRaw -/
namespace Go.Proofs.Ytniccjbcchdkoaa.D

def fitE (s : List UInt8) (l : List P) : Int := if chk l = 0 then (if inP l = s.length then 0 else 21) else chk l
def resP (s : List UInt8) (l : List P) : List UInt8 := if fitE s l = 0 then apl s (qs l) else []
def remP (s : List UInt8) (l : List P) : List UInt8 := if fitE s l = 0 then gone s (qs l) else []
def insP (l : List P) : List UInt8 := if chk l = 0 then insd (qs l) else []
def invP (s : List UInt8) (l : List P) : List P := if fitE s l = 0 then (nf (inv s (qs l))).map raw else []
theorem inP_qs {l : List P} (h : chk l = 0) : inP l = (inL (qs l) : Int) := by
  have := inP_raw (qs l)
  rwa [(valid_qs h).1] at this
theorem fitE_zero {s : List UInt8} {l : List P} (h : fitE s l = 0) : chk l = 0 ∧ inL (qs l) = s.length := by
  unfold fitE at h
  by_cases hc : chk l = 0
  · rw [if_pos hc] at h
    refine ⟨hc, ?_⟩
    by_cases hi : inP l = s.length
    · have := inP_qs hc; omega
    · rw [if_neg hi] at h; exact absurd h (by decide)
  · rw [if_neg hc] at h; exact absurd h hc
theorem fitE_of {s : List UInt8} {l : List P} (h : chk l = 0) (hi : inL (qs l) = s.length) : fitE s l = 0 := by
  unfold fitE
  rw [if_pos h, if_pos (by have := inP_qs h; omega)]
theorem resP_eq {s : List UInt8} {l : List P} (h : fitE s l = 0) : resP s l = apl s (qs l) := if_pos h
theorem remP_eq {s : List UInt8} {l : List P} (h : fitE s l = 0) : remP s l = gone s (qs l) := if_pos h
theorem invP_eq {s : List UInt8} {l : List P} (h : fitE s l = 0) : invP s l = (nf (inv s (qs l))).map raw := if_pos h
theorem insP_eq {l : List P} (h : chk l = 0) : insP l = insd (qs l) := if_pos h
theorem inv_length (a : List Q) : ∀ s : List UInt8, (inv s a).length = a.length := by
  induction a with
  | nil => intro s; rfl
  | cons p r ih => intro s; cases p <;> simp [inv, ih]
/-! ### One piece more -/
theorem apl_app (x y : List Q) : ∀ s : List UInt8, apl s (x ++ y) = apl s x ++ apl (s.drop (inL x)) y := by
  induction x with
  | nil => intro s; rfl
  | cons p r ih =>
    intro s
    have hr : inL (p :: r) = in1 p + inL r := rfl
    cases p <;> simp only [in1] at hr <;> rw [hr] <;> simp only [List.cons_append, apl, ih, List.append_assoc, List.drop_drop, Nat.zero_add]
theorem gone_app (x y : List Q) : ∀ s : List UInt8, gone s (x ++ y) = gone s x ++ gone (s.drop (inL x)) y := by
  induction x with
  | nil => intro s; rfl
  | cons p r ih =>
    intro s
    have hr : inL (p :: r) = in1 p + inL r := rfl
    cases p <;> simp only [in1] at hr <;> rw [hr] <;> simp only [List.cons_append, gone, ih, List.append_assoc, List.drop_drop, Nat.zero_add]
theorem inv_app (x y : List Q) : ∀ s : List UInt8, inv s (x ++ y) = inv s x ++ inv (s.drop (inL x)) y := by
  induction x with
  | nil => intro s; rfl
  | cons p r ih =>
    intro s
    have hr : inL (p :: r) = in1 p + inL r := rfl
    cases p <;> simp only [in1] at hr <;> rw [hr] <;> simp only [List.cons_append, inv, ih, List.drop_drop, Nat.zero_add]
theorem insd_app (x y : List Q) : insd (x ++ y) = insd x ++ insd y := by
  induction x with
  | nil => rfl
  | cons p r ih => cases p <;> simp only [List.cons_append, insd, ih, List.append_assoc]
/-- The bytes that a piece takes. -/
def part (s : List UInt8) (a : List Q) (k : Nat) (q : Q) : List UInt8 := (s.drop (inL (a.take k))).take (in1 q)
theorem take_snoc {a : List Q} {k : Nat} {q : Q} (h : a[k]? = some q) : a.take (k + 1) = a.take k ++ [q] := by rw [List.take_add_one, h]; rfl
theorem apl_snoc (s : List UInt8) (a : List Q) (k : Nat) (q : Q) (h : a[k]? = some q) : apl s (a.take (k + 1)) = apl s (a.take k) ++ txt1 q ++ (if isR q = true then part s a k q else []) := by
  rw [take_snoc h, apl_app, List.append_assoc]
  cases q <;> simp [apl, txt1, isR, part, in1]
theorem gone_snoc (s : List UInt8) (a : List Q) (k : Nat) (q : Q) (h : a[k]? = some q) : gone s (a.take (k + 1)) = gone s (a.take k) ++ (if isR q = true then [] else part s a k q) := by
  rw [take_snoc h, gone_app]
  cases q <;> simp [gone, isR, part, in1]
theorem insd_snoc (a : List Q) (k : Nat) (q : Q) (h : a[k]? = some q) : insd (a.take (k + 1)) = insd (a.take k) ++ txt1 q := by
  rw [take_snoc h, insd_app]
  cases q <;> simp [insd, txt1]
def inv1 (s : List UInt8) (a : List Q) (k : Nat) : Q → Q
  | .R n => .R n
  | .I t => .D t.length
  | .D n => .I (part s a k (.D n))
theorem inv_snoc (s : List UInt8) (a : List Q) (k : Nat) (q : Q) (h : a[k]? = some q) : inv s (a.take (k + 1)) = inv s (a.take k) ++ [inv1 s a k q] := by
  rw [take_snoc h, inv_app]
  cases q <;> rfl
theorem apl_take_len (s : List UInt8) (a : List Q) (k : Nat) : (apl s (a.take k)).length ≤ s.length + outL a := by
  have key : ∀ (b : List Q) (s : List UInt8), (apl s b).length ≤ outL b := by
    intro b
    induction b with
    | nil => intro s; exact Nat.zero_le _
    | cons p r ih =>
      intro s
      cases p with
      | R n => have := ih (s.drop n); simp only [apl, outL, out1, List.length_append, List.length_take]; omega
      | I t => have := ih s; simp only [apl, outL, out1, List.length_append]; omega
      | D n => have := ih (s.drop n); simp only [apl, outL, out1]; omega
  have h1 := key (a.take k) s
  have e := outL_append (a.take k) (a.drop k)
  rw [List.take_append_drop] at e
  omega
theorem gone_take_len (s : List UInt8) (a : List Q) (k : Nat) : (gone s (a.take k)).length ≤ inL a := by
  have key : ∀ (b : List Q) (s : List UInt8), (gone s b).length ≤ inL b := by
    intro b
    induction b with
    | nil => intro s; exact Nat.zero_le _
    | cons p r ih =>
      intro s
      cases p with
      | R n => have := ih (s.drop n); simp only [gone, inL, in1]; omega
      | I t => have := ih s; simp only [gone, inL, in1]; omega
      | D n => have := ih (s.drop n); simp only [gone, inL, in1, List.length_append, List.length_take]; omega
  have h1 := key (a.take k) s
  have e := inL_append (a.take k) (a.drop k)
  rw [List.take_append_drop] at e
  omega
theorem insd_take_len (a : List Q) (k : Nat) : (insd (a.take k)).length ≤ outL a := by
  have key : ∀ (b : List Q), (insd b).length ≤ outL b := by
    intro b
    induction b with
    | nil => exact Nat.zero_le _
    | cons p r ih => cases p <;> simp only [insd, outL, out1, List.length_append] <;> omega
  have h1 := key (a.take k)
  have e := outL_append (a.take k) (a.drop k)
  rw [List.take_append_drop] at e
  omega
theorem inL_take_le (a : List Q) (k : Nat) (q : Q) (h : a[k]? = some q) : inL (a.take (k + 1)) = inL (a.take k) + in1 q ∧ inL (a.take k) + in1 q ≤ inL a := by
  have e1 : inL (a.take (k + 1)) = inL (a.take k) + in1 q := by rw [take_snoc h, inL_append]; rfl
  have e := inL_append (a.take (k + 1)) (a.drop (k + 1))
  rw [List.take_append_drop] at e
  exact ⟨e1, by omega⟩
theorem out1_le (a : List Q) (k : Nat) (q : Q) (h : a[k]? = some q) : out1 q ≤ outL a := by
  have e1 : outL (a.take (k + 1)) = outL (a.take k) + out1 q := by rw [take_snoc h, outL_append]; rfl
  have e := outL_append (a.take (k + 1)) (a.drop (k + 1))
  rw [List.take_append_drop] at e
  omega
theorem raw_t (q : Q) : (raw q).t = ⟨(txt1 q).toArray⟩ := by cases q <;> rfl
theorem raw_n1 (q : Q) : (raw q).n = (in1 q : Int) := by cases q <;> rfl
theorem part_bytes (s : ByteArray) (i n : Nat) : (s.extract i (i + n)).data.toList = (s.data.toList.drop i).take n := by
  simp [List.take_drop]
theorem txt1_out (q : Q) : (txt1 q).length ≤ out1 q := by cases q <;> simp [txt1, out1]
/-! ### P4.4 -/
structure Back (s : List UInt8) (l : List P) : Prop where
  valid : chk (invP s l) = 0
  fit : fitE (resP s l) (invP s l) = 0
  res : resP (resP s l) (invP s l) = s
  inv2 : invP (resP s l) (invP s l) = normP l
  ins : insP (invP s l) = remP s l
  rem : remP (resP s l) (invP s l) = insP l
theorem chk_inv {s : List UInt8} {l : List P} (h : fitE s l = 0) : chk ((inv s (qs l)).map raw) = 0 := by
  obtain ⟨h0, h1⟩ := fitE_zero h
  obtain ⟨_, pa, _, h4, h5, h6⟩ := valid_qs h0
  refine (chk_iff _).2 ⟨_, allPos_inv _ s h1 pa, rfl, ?_, ?_, ?_⟩
  · rw [inv_length]; unfold qs; rw [List.length_map]; exact h4
  · rw [inL_inv _ _ h1]; exact h6
  · rw [outL_inv _ _ h1]; exact h5
theorem normP_inv {s : List UInt8} {l : List P} (h : fitE s l = 0) : normP ((inv s (qs l)).map raw) = invP s l := by rw [invP_eq h, normP_raw]
theorem back {s : List UInt8} {l : List P} (h : fitE s l = 0) : Back s l := by
  have hv : chk (invP s l) = 0 := by rw [← normP_inv h]; exact chk_normP (chk_inv h)
  obtain ⟨h0, h1⟩ := fitE_zero h
  have hq : qs (invP s l) = nf (inv s (qs l)) := by rw [invP_eq h, qs_raw]
  have hi : inL (qs (invP s l)) = (resP s l).length := by rw [hq, inL_nf, inL_inv _ _ h1, resP_eq h, apl_length _ _ h1]
  have hf := fitE_of hv hi
  refine ⟨hv, hf, ?_, ?_, ?_, ?_⟩
  · rw [resP_eq hf, hq, apl_nf, resP_eq h, apl_inv _ _ h1]
  · rw [invP_eq hf, hq, inv_nf _ _ (by rw [← inL_nf, ← hq]; omega), resP_eq h, inv_inv _ _ h1]; rfl
  · rw [insP_eq hv, hq, insd_nf, insd_inv, remP_eq h]
  · rw [remP_eq hf, hq, gone_nf, resP_eq h, gone_inv _ _ h1, insP_eq h0]
/-! ### P4.5 -/
theorem same_norm {s : List UInt8} {l : List P} (h : fitE s l = 0) : fitE s (normP l) = 0 ∧ resP s (normP l) = resP s l := by
  obtain ⟨h0, h1⟩ := fitE_zero h
  have hq : qs (normP l) = nf (qs l) := by unfold normP; rw [qs_raw]
  have hf : fitE s (normP l) = 0 := fitE_of (chk_normP h0) (by rw [hq, inL_nf]; exact h1)
  exact ⟨hf, by rw [resP_eq hf, resP_eq h, hq, apl_nf]⟩
theorem same_eqv {s : List UInt8} {l m : List P} (h : fitE s l = 0) (hm : chk m = 0) (e : normP l = normP m) : fitE s m = 0 ∧ resP s m = resP s l := by
  obtain ⟨h0, h1⟩ := fitE_zero h
  have e' : nf (qs l) = nf (qs m) := map_raw_inj e
  have hi : inL (qs m) = s.length := by rw [← inL_nf, ← e', inL_nf]; exact h1
  have hf := fitE_of hm hi
  exact ⟨hf, by rw [resP_eq hf, resP_eq h, ← apl_nf (qs m), ← e', apl_nf]⟩
theorem res_tells {S : List UInt8} {l m : List P} (hl : chk l = 0) (hm : chk m = 0) (il : inL (qs l) = S.length) (im : inL (qs m) = S.length) (hn : S.Nodup) (fl : ∀ c ∈ insP l, c ∉ S) (fm : ∀ c ∈ insP m, c ∉ S) :
    resP S l = resP S m ↔ normP l = normP m := by
  rw [insP_eq hl] at fl
  rw [insP_eq hm] at fm
  rw [resP_eq (fitE_of hl il), resP_eq (fitE_of hm im), tells S _ _ (valid_qs hl).2.1 (valid_qs hm).2.1 il im hn fl fm]
  exact ⟨fun e => by unfold normP; rw [e], fun e => map_raw_inj e⟩
/-! ### P4.6 -/
theorem len_parts {s : List UInt8} {l : List P} (h : fitE s l = 0) : ((resP s l).length : Int) = (s.length : Int) + (insP l).length - (remP s l).length := by
  obtain ⟨h0, h1⟩ := fitE_zero h
  have := len_change (qs l) s h1
  rw [resP_eq h, insP_eq h0, remP_eq h]
  omega
theorem res_len {s : List UInt8} {l : List P} (h : fitE s l = 0) : (resP s l).length ≤ 1048576 ∧ s.length ≤ 1048576 ∧ (insP l).length ≤ 1048576 ∧ (remP s l).length ≤ 1048576 := by
  obtain ⟨h0, h1⟩ := fitE_zero h
  obtain ⟨_, pa, _, h4, h5, h6⟩ := valid_qs h0
  have hb := len_change (qs l) s h1
  have hl := apl_length (qs l) s h1
  have hi : (insd (qs l)).length ≤ outL (qs l) := by
    have key : ∀ a : List Q, (insd a).length ≤ outL a := by
      intro a
      induction a with
      | nil => exact Nat.le_refl _
      | cons p r ih => cases p <;> simp [insd, outL, out1] <;> omega
    exact key _
  rw [resP_eq h, insP_eq h0, remP_eq h]
  omega
theorem ins_len (l : List P) : (insP l).length ≤ 1048576 := by
  by_cases h0 : chk l = 0
  · obtain ⟨_, _, _, _, _, h6⟩ := valid_qs h0
    have key : ∀ a : List Q, (insd a).length ≤ outL a := by
      intro a
      induction a with
      | nil => exact Nat.le_refl _
      | cons p r ih => cases p <;> simp [insd, outL, out1] <;> omega
    rw [insP_eq h0]
    have := key (qs l)
    omega
  · unfold insP; rw [if_neg h0]; simp
theorem res_join {s t : List UInt8} {l m x : List P} (hl : fitE s l = 0) (hm : fitE t m = 0) (hx : chk x = 0) (e : x = normP (l ++ m)) : fitE (s ++ t) x = 0 ∧ resP (s ++ t) x = resP s l ++ resP t m := by
  obtain ⟨h0, h1⟩ := fitE_zero hl
  obtain ⟨g0, g1⟩ := fitE_zero hm
  have hq : qs x = nf (qs l ++ qs m) := by rw [e]; unfold normP; rw [qs_raw]; unfold qs; rw [List.map_append]
  have hf : fitE (s ++ t) x = 0 := fitE_of hx (by rw [hq, inL_nf, inL_append, List.length_append]; omega)
  exact ⟨hf, by rw [resP_eq hf, hq, apl_nf, apl_append _ _ _ _ h1, resP_eq hl, resP_eq hm]⟩
/-! ### P4.3, P4.7 -/
theorem chkF_ne (a : List Q) (pa : allPos a = true) : ∀ i o : Int, o ≤ most → chkF i o (a.map raw) ≠ 2 := by
  induction a with
  | nil => intro i o _; simp [chkF]
  | cons q a ih =>
    intro i o ho
    unfold allPos at pa
    simp only [List.all_cons, Bool.and_eq_true] at pa
    have ih' := ih pa.2
    cases q with
    | R n =>
      have hn : 0 < n := by simpa [pos] using pa.1
      rw [List.map_cons, raw, chkF_R i o n _ hn ho]
      split
      · decide
      · split
        · decide
        · exact ih' _ _ (by omega)
    | I t =>
      have ht : 0 < t.length := by cases t with
        | nil => simp [pos] at pa
        | cons => simp
      rw [List.map_cons, raw, chkF_I i o _ _ (by rw [size_l]; exact ht)]
      split
      · decide
      · exact ih' _ _ (by omega)
    | D n =>
      have hn : 0 < n := by simpa [pos] using pa.1
      rw [List.map_cons, raw, chkF_D i o n _ hn ho]
      split
      · decide
      · exact ih' _ _ ho
theorem chk_pos (a : List Q) (pa : allPos a = true) (hl : a.length ≤ 4096) : chk (a.map raw) = if inL a ≤ 1048576 ∧ outL a ≤ 1048576 then 0 else 5 := by
  by_cases h : inL a ≤ 1048576 ∧ outL a ≤ 1048576
  · rw [if_pos h]; exact (chk_iff _).2 ⟨a, pa, rfl, hl, h.1, h.2⟩
  · rw [if_neg h]
    rcases chk_cases (a.map raw) with h0 | h0 | h0
    · obtain ⟨b, _, e, _, h1, h2⟩ := (chk_iff _).1 h0
      rw [map_raw_inj e] at h1 h2
      exact absurd ⟨h1, h2⟩ h
    · unfold chk at h0
      rw [if_neg (by rw [List.length_map]; omega)] at h0
      exact absurd h0 (chkF_ne a pa 0 0 (by unfold most; omega))
    · exact h0
/-- The error of a single edit. -/
def mkE (n a k : Int) (t : List UInt8) : Int := if a < 0 ∨ n < a ∨ k < 0 ∨ n - a < k then 3 else if 1048576 < n ∨ 1048576 - (n - k) < t.length then 5 else 0
/-- Its delta. -/
def mkP (n a k : Int) (t : List UInt8) : List P := if mkE n a k t = 0 then (nf (edit n.toNat a.toNat k.toNat t)).map raw else []
theorem edit_pos (n a k : Nat) (t : List UInt8) : allPos (edit n a k t) = true := by
  unfold edit allPos
  simp only [List.all_append, Bool.and_eq_true]
  refine ⟨⟨⟨?_, ?_⟩, ?_⟩, ?_⟩
  · split
    · rename_i h; simp [pos, h]
    · rfl
  · split
    · rfl
    · rename_i h; cases t with
      | nil => exact absurd rfl h
      | cons => simp [pos]
  · split
    · rename_i h; simp [pos, h]
    · rfl
  · split
    · rename_i h; simp [pos]; omega
    · rfl
theorem edit_len (n a k : Nat) (t : List UInt8) : (edit n a k t).length ≤ 4 := by
  unfold edit
  rw [List.length_append, List.length_append, List.length_append]
  split <;> split <;> split <;> split <;> simp
theorem edit_outL (n a k : Nat) (t : List UInt8) (h : a + k ≤ n) : outL (edit n a k t) = n - k + t.length := by
  unfold edit
  rw [outL_append, outL_append, outL_append]
  split <;> split <;> split <;> split <;> simp_all [outL, out1] <;> omega
/-- The four pieces of which an edit is made, empty ones among them. -/
def four (n a k : Nat) (t : ByteArray) : List P := [⟨1, a, ⟨#[]⟩⟩, ⟨2, 0, t⟩, ⟨3, k, ⟨#[]⟩⟩, ⟨1, ((n - a - k : Nat) : Int), ⟨#[]⟩⟩]
def emptyP (p : P) : Bool := p.n == 0 && p.t.size == 0
theorem kept_cons (p : P) (l : List P) : (p :: l).filter (fun p => !emptyP p) = (if emptyP p = true then [] else [p]) ++ l.filter (fun p => !emptyP p) := by
  rw [List.filter_cons]
  cases emptyP p <;> rfl
theorem emptyP_n (i : Int) (m : Nat) : emptyP ⟨i, m, ⟨#[]⟩⟩ = true ↔ m = 0 := by
  have e0 : ((⟨#[]⟩ : ByteArray).size == 0) = true := rfl
  unfold emptyP
  simp only [e0, Bool.and_true, beq_iff_eq]
  omega
theorem emptyP_t (i : Int) (t : ByteArray) : emptyP ⟨i, 0, t⟩ = true ↔ t.data.toList = [] := by
  have h : t.data.toList = [] ↔ t.size = 0 := by
    constructor
    · intro e; have : t.data.toList.length = t.size := by simp
      rw [e] at this; exact this.symm
    · intro e; rw [empty_of_size e]
  rw [h]
  unfold emptyP
  simp
theorem four_kept (n a k : Nat) (t : ByteArray) (h : a + k ≤ n) : (four n a k t).filter (fun p => !emptyP p) = (edit n a k t.data.toList).map raw := by
  unfold four edit
  rw [kept_cons, kept_cons, kept_cons, kept_cons, List.filter_nil, List.append_nil, List.map_append, List.map_append, List.map_append, List.append_assoc, List.append_assoc]
  congr 1
  · by_cases c : a = 0
    · rw [if_pos ((emptyP_n 1 a).2 c), if_neg (by omega)]; rfl
    · rw [if_neg (fun e => c ((emptyP_n 1 a).1 e)), if_pos (by omega)]; rfl
  congr 1
  · by_cases c : t.data.toList = []
    · rw [if_pos ((emptyP_t 2 t).2 c), if_pos c]; rfl
    · rw [if_neg (fun e => c ((emptyP_t 2 t).1 e)), if_neg c]; simp [raw]
  congr 1
  · by_cases c : k = 0
    · rw [if_pos ((emptyP_n 3 k).2 c), if_neg (by omega)]; rfl
    · rw [if_neg (fun e => c ((emptyP_n 3 k).1 e)), if_pos (by omega)]; rfl
  · by_cases c : n - a - k = 0
    · rw [if_pos ((emptyP_n 1 _).2 c), if_neg (by omega)]; rfl
    · rw [if_neg (fun e => c ((emptyP_n 1 _).1 e)), if_pos (by omega)]; rfl
structure Mk (n a k : Nat) (t : List UInt8) : Prop where
  range : a + k ≤ n
  err : chk ((edit n a k t).map raw) = mkE n a k t
  one : mkE n a k t = 0 ∨ mkE n a k t = 5
  made : mkE n a k t = 0 → normP ((edit n a k t).map raw) = mkP n a k t
theorem mk_in {n a k : Nat} (t : List UInt8) (h : a + k ≤ n) : Mk n a k t := by
  have hE : mkE n a k t = if inL (edit n a k t) ≤ 1048576 ∧ outL (edit n a k t) ≤ 1048576 then 0 else 5 := by
    unfold mkE
    rw [if_neg (by omega), edit_inL n a k t h, edit_outL n a k t h]
    by_cases c : n ≤ 1048576 ∧ n - k + t.length ≤ 1048576
    · rw [if_pos c, if_neg (by omega)]
    · rw [if_neg c, if_pos (by omega)]
  have hC := chk_pos (edit n a k t) (edit_pos n a k t) (Nat.le_trans (edit_len n a k t) (by omega))
  refine ⟨h, by rw [hC, hE], by rw [hE]; split <;> simp, fun h0 => ?_⟩
  unfold mkP
  rw [if_pos h0, normP_raw]
  rfl
theorem mk_cases (n a k : Int) (t : List UInt8) : (mkE n a k t = 3 ∧ mkP n a k t = [] ∧ (a < 0 ∨ n < a ∨ k < 0 ∨ n - a < k)) ∨ ∃ n' a' k' : Nat, n = n' ∧ a = a' ∧ k = k' ∧ Mk n' a' k' t := by
  by_cases h : a < 0 ∨ n < a ∨ k < 0 ∨ n - a < k
  · have : mkE n a k t = 3 := if_pos h
    exact .inl ⟨this, by unfold mkP; rw [this]; rfl, h⟩
  · refine .inr ⟨n.toNat, a.toNat, k.toNat, by omega, by omega, by omega, mk_in t (by omega)⟩
theorem mkE_in {n a k : Int} {t : List UInt8} (h : mkE n a k t = 0) : 0 ≤ a ∧ a ≤ n ∧ 0 ≤ k ∧ k ≤ n - a ∧ n ≤ 1048576 ∧ n - k + t.length ≤ 1048576 := by
  unfold mkE at h
  split at h
  · cases h
  · split at h
    · cases h
    · omega
theorem mkP_ok {n a k : Nat} {t : List UInt8} (h : mkE n a k t = 0) : chk (mkP n a k t) = 0 ∧ qs (mkP n a k t) = nf (edit n a k t) := by
  have hr : a + k ≤ n := by have := mkE_in h; omega
  have m := mk_in t hr
  refine ⟨?_, ?_⟩
  · rw [← m.made h]; exact chk_normP (by rw [m.err]; exact h)
  · unfold mkP; rw [if_pos h, qs_raw]; rfl
/-- What a single edit does. -/
theorem mk_does {s : List UInt8} {a k : Int} {t : List UInt8} (h : mkE s.length a k t = 0) : fitE s (mkP s.length a k t) = 0 ∧ resP s (mkP s.length a k t) = s.take a.toNat ++ t ++ s.drop (a.toNat + k.toNat) := by
  have hb := mkE_in h
  obtain ⟨a, rfl⟩ := Int.eq_ofNat_of_zero_le hb.1
  obtain ⟨k, rfl⟩ := Int.eq_ofNat_of_zero_le hb.2.2.1
  have hr : a + k ≤ s.length := by omega
  obtain ⟨h0, hq⟩ := mkP_ok h
  have hf := fitE_of h0 (by rw [hq, inL_nf, edit_inL _ _ _ _ hr])
  refine ⟨hf, ?_⟩
  rw [resP_eq hf, hq, apl_nf, edit_apl s a k t hr]
  rfl
end Go.Proofs.Ytniccjbcchdkoaa.D
