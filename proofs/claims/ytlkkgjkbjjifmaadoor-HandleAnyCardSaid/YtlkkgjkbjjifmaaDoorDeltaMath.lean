/- The plain mathematics of deltas: valid pieces, the normal form as pieces pushed one after another, lengths, and what a delta keeps and inserts, byte by byte. It speaks of no program. -/
namespace Go.Proofs.YtlkkgjkbjjifmaaDoor.D

/-- A valid piece: keep n bytes, insert a text, remove n bytes. -/
inductive Q where
  | R (n : Nat)
  | I (t : List UInt8)
  | D (n : Nat)

def pR (n : Nat) : List Q → List Q
  | .R m :: r => .R (n + m) :: r
  | l => .R n :: l
def pI (t : List UInt8) : List Q → List Q
  | .I s :: r => .I (t ++ s) :: r
  | l => .I t :: l
def pD (n : Nat) : List Q → List Q
  | .I s :: .D m :: r => .I s :: .D (n + m) :: r
  | .I s :: r => .I s :: .D n :: r
  | .D m :: r => .D (n + m) :: r
  | l => .D n :: l
def push : Q → List Q → List Q
  | .R n, l => pR n l
  | .I t, l => pI t l
  | .D n, l => pD n l
/-- All pieces of a list, pushed onto another one, the last one first. -/
def ap (a x : List Q) : List Q := a.foldr push x
/-- The normal form. -/
def nf (a : List Q) : List Q := ap a []

/-- May q directly follow p in a normal form? -/
def ok : Q → Q → Bool
  | .R _, .R _ => false
  | .I _, .I _ => false
  | .D _, .D _ => false
  | .D _, .I _ => false
  | _, _ => true
def isN : List Q → Bool
  | p :: q :: r => ok p q && isN (q :: r)
  | _ => true
def pos : Q → Bool
  | .R n => decide (0 < n)
  | .I t => !t.isEmpty
  | .D n => decide (0 < n)
def allPos (l : List Q) : Bool := l.all pos
def in1 : Q → Nat
  | .R n => n
  | .I _ => 0
  | .D n => n
def out1 : Q → Nat
  | .R n => n
  | .I t => t.length
  | .D _ => 0
def inL : List Q → Nat
  | [] => 0
  | p :: r => in1 p + inL r
def outL : List Q → Nat
  | [] => 0
  | p :: r => out1 p + outL r
def neg (b : UInt8) : Int := -1 - (b.toNat : Int)
/-- The bytes of the result: the index of the byte that is kept, or -1 less the byte that is inserted. -/
def atoms (k : Nat) : List Q → List Int
  | [] => []
  | .R n :: r => ((List.range n).map fun i => ((k + i : Nat) : Int)) ++ atoms (k + n) r
  | .I t :: r => t.map neg ++ atoms k r
  | .D n :: r => atoms (k + n) r

/-! ### Pushing -/
theorem pR_pR (n m : Nat) (l : List Q) : pR n (pR m l) = pR (n + m) l := by
  cases l with
  | nil => rfl
  | cons p r => cases p <;> simp [pR, Nat.add_assoc]
theorem pI_pI (s t : List UInt8) (l : List Q) : pI s (pI t l) = pI (s ++ t) l := by
  cases l with
  | nil => rfl
  | cons p r => cases p <;> simp [pI]
theorem pD_pD (n m : Nat) (l : List Q) : pD n (pD m l) = pD (n + m) l := by
  match l with
  | [] => rfl
  | .R k :: r => rfl
  | .D k :: r => simp [pD, Nat.add_assoc]
  | [.I s] => rfl
  | .I s :: .D k :: r => simp [pD, Nat.add_assoc]
  | .I s :: .R k :: r => rfl
  | .I s :: .I u :: r => rfl
theorem pD_pI (n : Nat) (t : List UInt8) (l : List Q) : pD n (pI t l) = pI t (pD n l) := by
  match l with
  | [] => rfl
  | .R k :: r => rfl
  | .D k :: r => rfl
  | [.I s] => rfl
  | .I s :: .D k :: r => rfl
  | .I s :: .R k :: r => rfl
  | .I s :: .I u :: r => rfl
theorem ap_cons (p : Q) (a x : List Q) : ap (p :: a) x = push p (ap a x) := rfl
theorem ap_append (a b x : List Q) : ap (a ++ b) x = ap a (ap b x) := by unfold ap; rw [List.foldr_append]
theorem ap_push (p : Q) (l x : List Q) : ap (push p l) x = push p (ap l x) := by
  cases p with
  | R n =>
    cases l with
    | nil => rfl
    | cons q r =>
      cases q with
      | R m => show pR (n + m) (ap r x) = pR n (pR m (ap r x)); rw [pR_pR]
      | I t => rfl
      | D m => rfl
  | I t =>
    cases l with
    | nil => rfl
    | cons q r =>
      cases q with
      | I s => show pI (t ++ s) (ap r x) = pI t (pI s (ap r x)); rw [pI_pI]
      | R t => rfl
      | D m => rfl
  | D n =>
    match l with
    | [] => rfl
    | .R k :: r => rfl
    | .D k :: r => show pD (n + k) (ap r x) = pD n (pD k (ap r x)); rw [pD_pD]
    | [.I s] => show pI s (pD n x) = pD n (pI s x); rw [pD_pI]
    | .I s :: .D k :: r => show pI s (pD (n + k) (ap r x)) = pD n (pI s (pD k (ap r x))); rw [pD_pI, pD_pD]
    | .I s :: .R k :: r => show pI s (pD n (pR k (ap r x))) = pD n (pI s (pR k (ap r x))); rw [pD_pI]
    | .I s :: .I u :: r => show pI s (pD n (pI u (ap r x))) = pD n (pI s (pI u (ap r x))); rw [pD_pI n s]
theorem ap_nf (a x : List Q) : ap (nf a) x = ap a x := by
  induction a with
  | nil => rfl
  | cons p a ih => show ap (push p (nf a)) x = push p (ap a x); rw [ap_push, ih]
theorem nf_append (a b : List Q) : nf (a ++ b) = ap a (nf b) := ap_append a b []
theorem nf_nf (a : List Q) : nf (nf a) = nf a := ap_nf a []
theorem nf_left (a b : List Q) : nf (nf a ++ b) = nf (a ++ b) := by rw [nf_append, nf_append, ap_nf]
theorem nf_right (a b : List Q) : nf (a ++ nf b) = nf (a ++ b) := by rw [nf_append, nf_append, nf_nf]
theorem nf_cons (p : Q) (a : List Q) : nf (p :: a) = push p (nf a) := rfl

/-! ### The normal form is one -/
theorem isN_tail {p : Q} {r : List Q} (h : isN (p :: r) = true) : isN r = true := by
  cases r with
  | nil => rfl
  | cons q r => simp only [isN, Bool.and_eq_true] at h; exact h.2
theorem isN_cons {p q : Q} {r : List Q} (h : ok p q = true) (hr : isN (q :: r) = true) : isN (p :: q :: r) = true := by simp only [isN, Bool.and_eq_true]; exact ⟨h, hr⟩
theorem isN_ok {p q : Q} {r : List Q} (h : isN (p :: q :: r) = true) : ok p q = true := by simp only [isN, Bool.and_eq_true] at h; exact h.1
/-- Replacing the first piece by one of its kind. -/
theorem isN_head {p p' : Q} {r : List Q} (hk : ∀ q, ok p q = true → ok p' q = true) (h : isN (p :: r) = true) : isN (p' :: r) = true := by
  cases r with
  | nil => rfl
  | cons q r => exact isN_cons (hk q (isN_ok h)) (isN_tail h)
theorem isN_push (p : Q) (l : List Q) (h : isN l = true) : isN (push p l) = true := by
  cases p with
  | R n =>
    cases l with
    | nil => rfl
    | cons q r =>
      cases q with
      | R m => exact isN_head (fun q => by cases q <;> simp [ok]) h
      | I t => exact isN_cons rfl h
      | D m => exact isN_cons rfl h
  | I t =>
    cases l with
    | nil => rfl
    | cons q r =>
      cases q with
      | I s => exact isN_head (fun q => by cases q <;> simp [ok]) h
      | R m => exact isN_cons rfl h
      | D m => exact isN_cons rfl h
  | D n =>
    match l, h with
    | [], _ => rfl
    | .R k :: r, h => exact isN_cons rfl h
    | .D k :: r, h => exact isN_head (fun q => by cases q <;> simp [ok]) h
    | [.I s], _ => rfl
    | .I s :: .D k :: r, h => exact isN_cons rfl (isN_head (fun q => by cases q <;> simp [ok]) (isN_tail h))
    | .I s :: .R k :: r, h => exact isN_cons rfl (isN_cons rfl (isN_tail h))
    | .I s :: .I u :: r, h => have := isN_ok h; simp [ok] at this
theorem isN_nf (a : List Q) : isN (nf a) = true := by
  induction a with
  | nil => rfl
  | cons p a ih => exact isN_push p _ ih
theorem push_ok {p q : Q} {r : List Q} (h : ok p q = true) : push p (q :: r) = p :: q :: r := by
  cases p <;> cases q <;> simp [ok] at h <;> rfl
theorem nf_of_isN (a : List Q) (h : isN a = true) : nf a = a := by
  induction a with
  | nil => rfl
  | cons p a ih =>
    rw [nf_cons, ih (isN_tail h)]
    cases a with
    | nil => cases p <;> rfl
    | cons q r => exact push_ok (isN_ok h)
theorem isN_iff (a : List Q) : isN a = true ↔ nf a = a := ⟨nf_of_isN a, fun h => by rw [← h]; exact isN_nf a⟩
theorem push_length (p : Q) (l : List Q) : (push p l).length ≤ l.length + 1 := by
  cases p with
  | R n => cases l with
    | nil => simp [push, pR]
    | cons q r => cases q <;> simp [push, pR]
  | I t => cases l with
    | nil => simp [push, pI]
    | cons q r => cases q <;> simp [push, pI]
  | D n =>
    match l with
    | [] => simp [push, pD]
    | .R k :: r => simp [push, pD]
    | .D k :: r => simp [push, pD]
    | [.I s] => simp [push, pD]
    | .I s :: .D k :: r => simp [push, pD]
    | .I s :: .R k :: r => simp [push, pD]
    | .I s :: .I u :: r => simp [push, pD]
theorem nf_length (a : List Q) : (nf a).length ≤ a.length := by
  induction a with
  | nil => exact Nat.le_refl _
  | cons p a ih => have := push_length p (nf a); rw [nf_cons]; simp only [List.length_cons]; omega
theorem inL_push (p : Q) (l : List Q) : inL (push p l) = in1 p + inL l := by
  cases p with
  | R n => cases l with
    | nil => rfl
    | cons q r => cases q <;> simp [push, pR, inL, in1, Nat.add_assoc]
  | I t => cases l with
    | nil => rfl
    | cons q r => cases q <;> simp [push, pI, inL, in1]
  | D n =>
    match l with
    | [] => rfl
    | .R k :: r => rfl
    | .D k :: r => simp [push, pD, inL, in1, Nat.add_assoc]
    | [.I s] => simp [push, pD, inL, in1]
    | .I s :: .D k :: r => simp [push, pD, inL, in1, Nat.add_assoc]
    | .I s :: .R k :: r => simp [push, pD, inL, in1]
    | .I s :: .I u :: r => simp [push, pD, inL, in1]
theorem outL_push (p : Q) (l : List Q) : outL (push p l) = out1 p + outL l := by
  cases p with
  | R n => cases l with
    | nil => rfl
    | cons q r => cases q <;> simp [push, pR, outL, out1, Nat.add_assoc]
  | I t => cases l with
    | nil => rfl
    | cons q r => cases q <;> simp [push, pI, outL, out1, Nat.add_assoc]
  | D n =>
    match l with
    | [] => rfl
    | .R k :: r => rfl
    | .D k :: r => simp [push, pD, outL, out1]
    | [.I s] => simp [push, pD, outL, out1]
    | .I s :: .D k :: r => simp [push, pD, outL, out1]
    | .I s :: .R k :: r => simp [push, pD, outL, out1]
    | .I s :: .I u :: r => simp [push, pD, outL, out1]
theorem inL_nf (a : List Q) : inL (nf a) = inL a := by
  induction a with
  | nil => rfl
  | cons p a ih => rw [nf_cons, inL_push, ih]; rfl
theorem outL_nf (a : List Q) : outL (nf a) = outL a := by
  induction a with
  | nil => rfl
  | cons p a ih => rw [nf_cons, outL_push, ih]; rfl
theorem inL_append (a b : List Q) : inL (a ++ b) = inL a + inL b := by
  induction a with
  | nil => simp [inL]
  | cons p a ih => simp only [List.cons_append, inL, ih]; omega
theorem outL_append (a b : List Q) : outL (a ++ b) = outL a + outL b := by
  induction a with
  | nil => simp [outL]
  | cons p a ih => simp only [List.cons_append, outL, ih]; omega
theorem allPos_push (p : Q) (l : List Q) (hp : pos p = true) (hl : allPos l = true) : allPos (push p l) = true := by
  unfold allPos at *
  cases p with
  | R n => cases l with
    | nil => simpa [push, pR] using hp
    | cons q r => cases q <;> simp_all [push, pR, pos] <;> omega
  | I t => cases l with
    | nil => simpa [push, pI] using hp
    | cons q r => cases q <;> simp_all [push, pI, pos]
  | D n =>
    match l with
    | [] => simpa [push, pD] using hp
    | .R k :: r => simp_all [push, pD, pos]
    | .D k :: r => simp_all [push, pD, pos]; omega
    | [.I s] => simp_all [push, pD, pos]
    | .I s :: .D k :: r => simp_all [push, pD, pos]; omega
    | .I s :: .R k :: r => simp_all [push, pD, pos]
    | .I s :: .I u :: r => simp_all [push, pD, pos]
theorem allPos_nf (a : List Q) (h : allPos a = true) : allPos (nf a) = true := by
  induction a with
  | nil => rfl
  | cons p a ih =>
    unfold allPos at h
    simp only [List.all_cons, Bool.and_eq_true] at h
    exact allPos_push p _ h.1 (ih h.2)

/-! ### What a delta keeps and inserts -/
theorem atoms_push (k : Nat) (p : Q) (l : List Q) : atoms k (push p l) = atoms k (p :: l) := by
  cases p with
  | R n => cases l with
    | nil => rfl
    | cons q r =>
      cases q with
      | R m =>
        show atoms k (.R (n + m) :: r) = _
        simp only [atoms]
        rw [List.range_add, List.map_append, List.map_map, List.append_assoc, Nat.add_assoc]
        congr 2
        apply List.map_congr_left
        intro i _
        show ((k + (n + i) : Nat) : Int) = ((k + n + i : Nat) : Int)
        rw [Nat.add_assoc]
      | I t => rfl
      | D m => rfl
  | I t => cases l with
    | nil => rfl
    | cons q r =>
      cases q with
      | I s => simp [push, pI, atoms]
      | R m => rfl
      | D m => rfl
  | D n =>
    match l with
    | [] => rfl
    | .R j :: r => rfl
    | .D j :: r => simp [push, pD, atoms, Nat.add_assoc]
    | [.I s] => rfl
    | .I s :: .D j :: r => simp [push, pD, atoms, Nat.add_assoc]
    | .I s :: .R j :: r => rfl
    | .I s :: .I u :: r => rfl
theorem atoms_cons_congr (k : Nat) (p : Q) {a b : List Q} (h : ∀ k, atoms k a = atoms k b) : atoms k (p :: a) = atoms k (p :: b) := by
  cases p <;> simp only [atoms, h]
theorem atoms_nf (a : List Q) : ∀ k, atoms k (nf a) = atoms k a := by
  induction a with
  | nil => intro k; rfl
  | cons p a ih => intro k; rw [nf_cons, atoms_push]; exact atoms_cons_congr k p ih
theorem atoms_append (a b : List Q) : ∀ k, atoms k (a ++ b) = atoms k a ++ atoms (k + inL a) b := by
  induction a with
  | nil => intro k; rfl
  | cons p a ih =>
    intro k
    cases p with
    | R n => simp only [List.cons_append, atoms, ih, inL, in1, List.append_assoc, Nat.add_assoc]
    | I t => simp only [List.cons_append, atoms, ih, inL, in1, List.append_assoc, Nat.zero_add]
    | D n => simp only [List.cons_append, atoms, ih, inL, in1, Nat.add_assoc]
theorem atoms_length (a : List Q) : ∀ k, (atoms k a).length = outL a := by
  induction a with
  | nil => intro k; rfl
  | cons p a ih => intro k; cases p <;> simp [atoms, ih, outL, out1]
theorem neg_lt (b : UInt8) : neg b < 0 := by unfold neg; omega
theorem neg_inj {a b : UInt8} (h : neg a = neg b) : a = b := by unfold neg at h; exact UInt8.toNat_inj.1 (by omega)

/-- The first atom of a normal form that does not begin with an insertion is a byte that is kept, at least at the start; directly at the start exactly if it begins with a piece that keeps. -/
def first : List Q → Option Nat
  | .R _ :: _ => some 0
  | .D n :: .R _ :: _ => some n
  | _ => none
theorem head_atoms (k : Nat) (a : List Q) (hn : isN a = true) (hp : allPos a = true) (hi : ∀ t r, a ≠ .I t :: r) : (atoms k a).head? = (first a).map fun i => ((k + i : Nat) : Int) := by
  unfold allPos at hp
  match a, hn, hp, hi with
  | [], _, _, _ => rfl
  | .I t :: r, _, _, hi => exact absurd rfl (hi t r)
  | .R n :: r, _, hp, _ =>
    simp only [List.all_cons, Bool.and_eq_true, pos, decide_eq_true_eq] at hp
    obtain ⟨m, rfl⟩ : ∃ m, n = m + 1 := ⟨n - 1, by omega⟩
    simp [atoms, first, List.range_succ_eq_map]
  | [.D n], _, _, _ => rfl
  | .D n :: .R m :: r, _, hp, _ =>
    simp only [List.all_cons, Bool.and_eq_true, pos, decide_eq_true_eq] at hp
    obtain ⟨j, rfl⟩ : ∃ j, m = j + 1 := ⟨m - 1, by omega⟩
    simp [atoms, first, List.range_succ_eq_map]
  | .D n :: .I t :: r, hn, _, _ => have := isN_ok hn; simp [ok] at this
  | .D n :: .D m :: r, hn, _, _ => have := isN_ok hn; simp [ok] at this
/-- The negative atoms at the beginning: what a first insertion inserts. -/
theorem split_neg {s t : List UInt8} {x y : List Int} (h : s.map neg ++ x = t.map neg ++ y) (hx : ∀ v, x.head? = some v → 0 ≤ v) (hy : ∀ v, y.head? = some v → 0 ≤ v) : s = t ∧ x = y := by
  induction s generalizing t with
  | nil =>
    cases t with
    | nil => exact ⟨rfl, h⟩
    | cons b t =>
      simp only [List.map_nil, List.nil_append, List.map_cons, List.cons_append] at h
      have := hx (neg b) (by rw [h]; rfl)
      have := neg_lt b
      omega
  | cons a s ih =>
    cases t with
    | nil =>
      simp only [List.map_nil, List.nil_append, List.map_cons, List.cons_append] at h
      have := hy (neg a) (by rw [← h]; rfl)
      have := neg_lt a
      omega
    | cons b t =>
      simp only [List.map_cons, List.cons_append, List.cons.injEq] at h
      obtain ⟨h1, h2⟩ := ih h.2
      exact ⟨by rw [neg_inj h.1, h1], h2⟩
theorem notI_of_I {t : List UInt8} {r : List Q} (hn : isN (.I t :: r) = true) : ∀ s u, r ≠ .I s :: u := fun s u e => by
  subst e; have := isN_ok hn; simp [ok] at this
theorem head_nonneg (k : Nat) (a : List Q) (hn : isN a = true) (hp : allPos a = true) (hi : ∀ t r, a ≠ .I t :: r) : ∀ v, (atoms k a).head? = some v → 0 ≤ v := fun v hv => by
  rw [head_atoms k a hn hp hi] at hv
  cases hf : first a with
  | none => rw [hf] at hv; cases hv
  | some i => rw [hf] at hv; cases hv; exact Int.natCast_nonneg _
theorem inL_pos_of_first {a : List Q} {i : Nat} (h : first a = some i) : ∃ n r, (a = .R n :: r ∧ i = 0) ∨ ∃ m, a = .D m :: .R n :: r ∧ i = m := by
  match a, h with
  | .R n :: r, h => simp only [first, Option.some.injEq] at h; exact ⟨n, r, .inl ⟨rfl, h.symm⟩⟩
  | .D m :: .R n :: r, h => simp only [first, Option.some.injEq] at h; exact ⟨n, r, .inr ⟨m, rfl, h.symm⟩⟩
/-- A run of indices, and what goes on otherwise. -/
theorem run_eq {k n m : Nat} {x y : List Int} (h : ((List.range n).map fun i => ((k + i : Nat) : Int)) ++ x = ((List.range m).map fun i => ((k + i : Nat) : Int)) ++ y) (hx : x.head? ≠ some ((k + n : Nat) : Int)) (hy : y.head? ≠ some ((k + m : Nat) : Int)) : n = m ∧ x = y := by
  have key : ∀ (n m : Nat) (x y : List Int), ((List.range n).map fun i => ((k + i : Nat) : Int)) ++ x = ((List.range m).map fun i => ((k + i : Nat) : Int)) ++ y → x.head? ≠ some ((k + n : Nat) : Int) → ¬ n < m := by
    intro n m x y h hx hlt
    have h1 : (((List.range n).map fun i => ((k + i : Nat) : Int)) ++ x)[n]? = (((List.range m).map fun i => ((k + i : Nat) : Int)) ++ y)[n]? := by rw [h]
    rw [List.getElem?_append_right (by simp), List.getElem?_append_left (by simpa using hlt)] at h1
    simp only [List.length_map, List.length_range, Nat.sub_self, List.getElem?_map, List.getElem?_range hlt, Option.map_some] at h1
    rw [List.head?_eq_getElem?] at hx
    exact hx h1
  have h1 := key n m x y h hx
  have h2 := key m n y x h.symm hy
  have e : n = m := by omega
  subst e
  exact ⟨rfl, List.append_cancel_left h⟩
theorem not_run (k n : Nat) (r : List Q) (hn : isN (.R n :: r) = true) (hp : allPos r = true) : (atoms (k + n) r).head? ≠ some ((k + n : Nat) : Int) := by
  match r, hn, hp with
  | [], _, _ => simp [atoms]
  | .R m :: r, hn, _ => have := isN_ok hn; simp [ok] at this
  | .I [] :: r, _, hp => simp [allPos, pos] at hp
  | .I (b :: t) :: r, _, _ =>
    simp only [atoms, List.map_cons, List.cons_append, List.head?_cons, ne_eq, Option.some.injEq]
    have := neg_lt b; omega
  | .D m :: r, hn, hp =>
    have hh := head_atoms (k + n) (.D m :: r) (isN_tail hn) hp (fun _ _ e => by cases e)
    rw [hh]
    have hm : 0 < m := by simp [allPos, pos] at hp; exact hp.1
    match r with
    | [] => simp [first]
    | .R j :: r => simp only [first, Option.map_some, ne_eq, Option.some.injEq]; omega
    | .I t :: r => simp [first]
    | .D j :: r => simp [first]
/-- Lengths and atoms determine the normal form. -/
theorem nf_unique : ∀ (a b : List Q) (k : Nat), isN a = true → isN b = true → allPos a = true → allPos b = true → inL a = inL b → atoms k a = atoms k b → a = b := by
  intro a
  induction a with
  | nil =>
    intro b k _ hb _ pb hin hat
    match b, hb, pb, hin, hat with
    | [], _, _, _, _ => rfl
    | .R n :: r, _, pb, hin, _ => simp [allPos, pos] at pb; simp [inL, in1] at hin; omega
    | .D n :: r, _, pb, hin, _ => simp [allPos, pos] at pb; simp [inL, in1] at hin; omega
    | .I [] :: r, _, pb, _, _ => simp [allPos, pos] at pb
    | .I (c :: t) :: r, _, _, _, hat => simp [atoms] at hat
  | cons p a ih =>
    intro b k ha hb pa pb hin hat
    have pa' : allPos a = true := by unfold allPos at *; simp only [List.all_cons, Bool.and_eq_true] at pa; exact pa.2
    have pp : pos p = true := by unfold allPos at pa; simp only [List.all_cons, Bool.and_eq_true] at pa; exact pa.1
    cases b with
    | nil =>
      exfalso
      match p, pp, hin, hat with
      | .R n, pp, hin, _ => simp [pos] at pp; simp [inL, in1] at hin; omega
      | .D n, pp, hin, _ => simp [pos] at pp; simp [inL, in1] at hin; omega
      | .I [], pp, _, _ => simp [pos] at pp
      | .I (c :: t), _, _, hat => simp [atoms] at hat
    | cons q b =>
      have pb' : allPos b = true := by unfold allPos at *; simp only [List.all_cons, Bool.and_eq_true] at pb; exact pb.2
      have pq : pos q = true := by unfold allPos at pb; simp only [List.all_cons, Bool.and_eq_true] at pb; exact pb.1
      have headI : ∀ (k : Nat) (t : List UInt8) (r : List Q) (c : List Q), pos (.I t) = true → isN c = true → allPos c = true → (∀ s u, c ≠ .I s :: u) → atoms k (.I t :: r) = atoms k c → False := by
        intro k t r c ht hc pc hi h
        match t, ht with
        | [], ht => simp [pos] at ht
        | v :: t, _ =>
          have := head_nonneg k c hc pc hi (neg v) (by rw [← h]; rfl)
          have := neg_lt v
          omega
      cases p with
      | I s =>
        cases q with
        | I t =>
          have h := hat
          simp only [atoms] at h
          obtain ⟨e1, e2⟩ := split_neg h (head_nonneg k a (isN_tail ha) pa' (notI_of_I ha)) (head_nonneg k b (isN_tail hb) pb' (notI_of_I hb))
          subst e1
          rw [ih b k (isN_tail ha) (isN_tail hb) pa' pb' (by simpa [inL, in1] using hin) e2]
        | R m => exact (headI k s a _ pp hb pb (fun _ _ e => by cases e) hat).elim
        | D m => exact (headI k s a _ pp hb pb (fun _ _ e => by cases e) hat).elim
      | R n =>
        cases q with
        | I t => exact (headI k t b _ pq ha pa (fun _ _ e => by cases e) hat.symm).elim
        | R m =>
          have h := hat
          simp only [atoms] at h
          obtain ⟨e1, e2⟩ := run_eq h (not_run k n a ha pa') (not_run k m b hb pb')
          subst e1
          rw [ih b (k + n) (isN_tail ha) (isN_tail hb) pa' pb' (by simpa [inL, in1] using hin) e2]
        | D m =>
          exfalso
          have h1 := head_atoms k _ ha pa (fun _ _ e => by cases e)
          have h2 := head_atoms k _ hb pb (fun _ _ e => by cases e)
          rw [hat, h2] at h1
          simp [pos] at pq
          match b, h1 with
          | [], h1 => simp [first] at h1
          | .R j :: r, h1 => simp only [first, Option.map_some, Option.some.injEq] at h1; omega
          | .I t :: r, h1 => simp [first] at h1
          | .D j :: r, h1 => simp [first] at h1
      | D n =>
        cases q with
        | I t => exact (headI k t b _ pq ha pa (fun _ _ e => by cases e) hat.symm).elim
        | R m =>
          exfalso
          have h1 := head_atoms k _ ha pa (fun _ _ e => by cases e)
          have h2 := head_atoms k _ hb pb (fun _ _ e => by cases e)
          rw [← hat, h1] at h2
          simp [pos] at pp
          match a, h2 with
          | [], h2 => simp [first] at h2
          | .R j :: r, h2 => simp only [first, Option.map_some, Option.some.injEq] at h2; omega
          | .I t :: r, h2 => simp [first] at h2
          | .D j :: r, h2 => simp [first] at h2
        | D m =>
          have h1 := head_atoms k _ ha pa (fun _ _ e => by cases e)
          have h2 := head_atoms k _ hb pb (fun _ _ e => by cases e)
          rw [hat, h2] at h1
          match a, b, ha, hb, pa', pb', h1, hin, hat, ih with
          | [], [], _, _, _, _, _, hin, _, _ => simp [inL, in1] at hin; rw [hin]
          | .D _ :: _, _, ha, _, _, _, _, _, _, _ => have := isN_ok ha; simp [ok] at this
          | .I _ :: _, _, ha, _, _, _, _, _, _, _ => have := isN_ok ha; simp [ok] at this
          | _, .D _ :: _, _, hb, _, _, _, _, _, _ => have := isN_ok hb; simp [ok] at this
          | _, .I _ :: _, _, hb, _, _, _, _, _, _ => have := isN_ok hb; simp [ok] at this
          | [], .R _ :: _, _, _, _, _, h1, _, _, _ => simp [first] at h1
          | .R _ :: _, [], _, _, _, _, h1, _, _, _ => simp [first] at h1
          | .R x :: a, .R y :: b, ha, hb, pa', pb', h1, hin, hat, ih =>
            simp only [first, Option.map_some, Option.some.injEq] at h1
            have e : n = m := by omega
            subst e
            have h := hat
            rw [show atoms k (.D n :: .R x :: a) = atoms (k + n) (.R x :: a) from rfl, show atoms k (.D n :: .R y :: b) = atoms (k + n) (.R y :: b) from rfl] at h
            rw [ih (.R y :: b) (k + n) (isN_tail ha) (isN_tail hb) pa' pb' (by simpa [inL, in1] using hin) h]
/-- Two lists of valid pieces have the same normal form exactly if they have the same input length and the same atoms. -/
theorem nf_iff (a b : List Q) (pa : allPos a = true) (pb : allPos b = true) : nf a = nf b ↔ inL a = inL b ∧ atoms 0 a = atoms 0 b := by
  constructor
  · intro h
    exact ⟨by rw [← inL_nf a, ← inL_nf b, h], by rw [← atoms_nf a 0, ← atoms_nf b 0, h]⟩
  · intro ⟨h1, h2⟩
    exact nf_unique (nf a) (nf b) 0 (isN_nf a) (isN_nf b) (allPos_nf a pa) (allPos_nf b pb) (by rw [inL_nf, inL_nf, h1]) (by rw [atoms_nf, atoms_nf, h2])
end Go.Proofs.YtlkkgjkbjjifmaaDoor.D
