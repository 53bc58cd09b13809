/- The plain mathematics of UTF-8 strings: continuation bytes, boundaries, decoding and encoding, over lists of bytes. It speaks of no program. -/
namespace Go.Proofs.Ytniccjbcchdkoaa.U

def cont (b : UInt8) : Bool := decide (128 ≤ b.toNat) && decide (b.toNat < 192)
def ext (b : UInt8) : Nat := if b.toNat < 128 then 1 else if b.toNat < 192 then 0 else if b.toNat < 224 then 2 else if b.toNat < 240 then 3 else if b.toNat < 248 then 4 else 0
def base (n : Nat) : Nat := if n = 2 then 192 else if n = 3 then 224 else if n = 4 then 240 else 0
def isR (r : Int) : Bool := decide (0 ≤ r) && decide (r ≤ 1114111) && (decide (r < 55296) || decide (57343 < r))
def wid (r : Int) : Nat := if r < 128 then 1 else if r < 2048 then 2 else if r < 65536 then 3 else 4
def bndN (l : List UInt8) (k : Nat) : Bool := decide (k ≤ l.length) && (k == l.length || !cont (l.getD k 0))
def bnd (l : List UInt8) (at_ : Int) : Bool := decide (0 ≤ at_) && bndN l at_.toNat
def cntTo (l : List UInt8) (k : Nat) : Nat := ((List.range k).filter fun i => !cont (l.getD i 0)).length
def cnt (l : List UInt8) : Nat := cntTo l l.length

/-- What r bytes make, the first of them given as a number. -/
def acc (r : Int) : List UInt8 → Int
  | [] => r
  | b :: t => acc (64 * r + ((b.toNat : Int) - 128)) t
def raw (l : List UInt8) : Int := acc (((l.getD 0 0).toNat : Int) - base (ext (l.getD 0 0))) ((l.drop 1).take (ext (l.getD 0 0) - 1))
def decB (l : List UInt8) : Bool :=
  decide (0 < ext (l.getD 0 0)) && decide (ext (l.getD 0 0) ≤ l.length) && ((l.drop 1).take (ext (l.getD 0 0) - 1)).all cont && isR (raw l) && (wid (raw l) == ext (l.getD 0 0))
def decR (l : List UInt8) : Int := if decB l then raw l else 0
def decN (l : List UInt8) : Nat := if decB l then ext (l.getD 0 0) else 0
def decE (l : List UInt8) : Int := if l = [] then 3 else if decB l then 0 else 11

def encN (r : Nat) : List Nat :=
  if r < 128 then [r] else if r < 2048 then [192 + r / 64, 128 + r % 64]
  else if r < 65536 then [224 + r / 4096, 128 + r / 64 % 64, 128 + r % 64]
  else [240 + r / 262144, 128 + r / 4096 % 64, 128 + r / 64 % 64, 128 + r % 64]
def encL (r : Int) : List UInt8 := if isR r then (encN r.toNat).map UInt8.ofNat else []
def encE (r : Int) : Int := if isR r then 0 else 2

def validF : Nat → List UInt8 → Bool
  | 0, l => l.isEmpty
  | k + 1, l => l.isEmpty || (decB l && validF k (l.drop (decN l)))
def valid (l : List UInt8) : Bool := validF l.length l

def nxt (l : List UInt8) (at_ : Int) : Option Nat := (List.range (l.length + 1)).find? fun i => decide (at_ < (i : Int)) && bndN l i
def prv (l : List UInt8) (at_ : Int) : Option Nat := (List.range (l.length + 1)).reverse.find? fun i => decide ((i : Int) < at_) && bndN l i
def clipN (l : List UInt8) (n : Int) : Nat := (prv l (n + 1)).getD 0

/-- The boundaries from a on, in ascending order; those up to m, in descending order. -/
def ups (l : List UInt8) (a k : Nat) : List Nat := (List.range k).filter fun i => decide (a ≤ i) && bndN l i
def dns (l : List UInt8) (k : Nat) : List Nat := (List.range k).reverse.filter fun i => bndN l i

/-! ### Bytes -/
theorem ofNat_toNat {n : Nat} (h : n < 256) : (UInt8.ofNat n).toNat = n := by
  simp [UInt8.toNat_ofNat']; omega
theorem lt256 (b : UInt8) : b.toNat < 256 := b.toNat_lt
theorem ext_cases (b : UInt8) : ext b = 0 ∨ ext b = 1 ∨ ext b = 2 ∨ ext b = 3 ∨ ext b = 4 := by
  unfold ext; split; omega; split; omega; split; omega; split; omega; split <;> omega
theorem ext_le (b : UInt8) : ext b ≤ 4 := by rcases ext_cases b with h | h | h | h | h <;> omega
theorem cont_iff (b : UInt8) : cont b = true ↔ 128 ≤ b.toNat ∧ b.toNat < 192 := by simp [cont]
theorem cont_ext (b : UInt8) : cont b = true ↔ (128 ≤ b.toNat ∧ b.toNat < 192) := cont_iff b

/-! ### Boundaries -/
theorem bnd_natCast (l : List UInt8) (k : Nat) : bnd l (k : Int) = bndN l k := by simp [bnd]
theorem bndN_len (l : List UInt8) : bndN l l.length = true := by simp [bndN]
theorem bndN_lt (l : List UInt8) {k : Nat} (h : k < l.length) : bndN l k = !cont (l.getD k 0) := by
  have h1 : (k == l.length) = false := by simp; omega
  simp [bndN, h1, Nat.le_of_lt h]
theorem bndN_le (l : List UInt8) {k : Nat} (h : bndN l k = true) : k ≤ l.length := by
  simp [bndN] at h; exact h.1

/-! ### Ascending and descending -/
theorem ups_succ (l : List UInt8) (a k : Nat) (h : a ≤ k) : ups l a (k + 1) = ups l a k ++ (if bndN l k then [k] else []) := by
  unfold ups
  rw [List.range_succ, List.filter_append]
  congr 1
  by_cases hb : bndN l k = true <;> simp [h, hb]
theorem ups_start (l : List UInt8) (a : Nat) : ups l a a = [] := by
  unfold ups
  rw [List.filter_eq_nil_iff]
  intro i hi
  simp at hi ⊢
  omega
theorem ups_prefix (l : List UInt8) (a k m : Nat) (h : k ≤ m) : ups l a k <+: ups l a m := by
  obtain ⟨d, rfl⟩ := Nat.le.dest h
  unfold ups
  induction d with
  | zero => exact List.prefix_refl _
  | succ d ih =>
    rw [← Nat.add_assoc, List.range_succ, List.filter_append]
    exact (ih (by omega)).trans (List.prefix_append _ _)
theorem ups_head (l : List UInt8) (a k : Nat) : (ups l a k).head? = (List.range k).find? fun i => decide (a ≤ i) && bndN l i := by
  unfold ups; rw [List.head?_filter]
theorem dns_succ (l : List UInt8) (k : Nat) : dns l (k + 1) = (if bndN l k then [k] else []) ++ dns l k := by
  unfold dns
  rw [List.range_succ, List.reverse_append, List.filter_append]
  congr 1
  by_cases hb : bndN l k = true <;> simp [hb]
theorem dns_zero (l : List UInt8) : dns l 0 = [] := rfl
theorem dns_head (l : List UInt8) (k : Nat) : (dns l k).head? = (List.range k).reverse.find? fun i => bndN l i := by
  unfold dns; rw [List.head?_filter]

theorem find_congr {α : Type} {p q : α → Bool} : ∀ {l : List α}, (∀ x ∈ l, p x = q x) → l.find? p = l.find? q
  | [], _ => rfl
  | x :: t, h => by
    rw [List.find?_cons, List.find?_cons, h x (List.mem_cons_self), find_congr (fun y hy => h y (List.mem_cons_of_mem _ hy))]

/-- What the first ascending boundary from min(max(at, -1), len) + 1 on is. -/
theorem nxt_of_ups (l : List UInt8) (at_ : Int) (a : Nat) (ha : (a : Int) = min (max at_ (-1)) l.length + 1) : (ups l a (l.length + 1)).head? = nxt l at_ := by
  rw [ups_head]
  unfold nxt
  apply find_congr
  intro i hi
  simp at hi
  congr 1
  rw [decide_eq_decide]
  omega
theorem prv_of_dns (l : List UInt8) (at_ : Int) (k : Nat) (hk : (k : Int) = min (max at_ 0) (l.length + 1)) : (dns l k).head? = prv l at_ := by
  rw [dns_head]
  unfold prv
  have hle : k ≤ l.length + 1 := by omega
  generalize hm : l.length + 1 = m at hle
  have key : ∀ d, (List.range k).reverse.find? (fun i => bndN l i) = (List.range (k + d)).reverse.find? fun i => decide (i < k) && bndN l i := by
    intro d
    induction d with
    | zero =>
      apply find_congr
      intro i hi
      simp at hi
      simp [hi]
    | succ d ih =>
      rw [← Nat.add_assoc, List.range_succ, List.reverse_append, List.reverse_singleton, List.singleton_append, List.find?_cons]
      rw [ih, show decide (k + d < k) = false by simp]
      rfl
  obtain ⟨d, rfl⟩ := Nat.le.dest hle
  rw [key d]
  apply find_congr
  intro i hi
  simp at hi
  congr 1
  rw [decide_eq_decide]
  omega

theorem cnt_of_ups (l : List UInt8) : (ups l 0 (l.length + 1)).length = cnt l + 1 := by
  rw [ups_succ l 0 _ (Nat.zero_le _), bndN_len]
  have : ups l 0 l.length = (List.range l.length).filter fun i => !cont (l.getD i 0) := by
    unfold ups
    apply List.filter_congr
    intro i hi
    simp only [List.mem_range] at hi
    simp [bndN_lt l hi]
  rw [this]
  simp [cnt, cntTo]
theorem cntTo_succ (l : List UInt8) (k : Nat) : cntTo l (k + 1) = cntTo l k + if cont (l.getD k 0) then 0 else 1 := by
  unfold cntTo
  rw [List.range_succ, List.filter_append, List.length_append]
  congr 1
  cases hb : cont (l.getD k 0) <;> rw [List.filter_cons, hb] <;> rfl
theorem cntTo_le (l : List UInt8) (k : Nat) : cntTo l k ≤ k := by
  unfold cntTo
  have := List.length_filter_le (fun i => !cont (l.getD i 0)) (List.range k)
  simpa using this

/-! ### Decoding, byte by byte -/
def accK (l : List UInt8) (k : Nat) : Int := acc (((l.getD 0 0).toNat : Int) - base (ext (l.getD 0 0))) ((l.drop 1).take (k - 1))
def conK (l : List UInt8) (k : Nat) : Bool := ((l.drop 1).take (k - 1)).all cont
theorem acc_append (r : Int) (a b : List UInt8) : acc r (a ++ b) = acc (acc r a) b := by
  induction a generalizing r with
  | nil => rfl
  | cons x a ih => exact ih _
theorem take_snoc (l : List UInt8) (k : Nat) (h1 : 1 ≤ k) (h : k < l.length) : (l.drop 1).take (k + 1 - 1) = (l.drop 1).take (k - 1) ++ [l.getD k 0] := by
  obtain ⟨j, rfl⟩ := Nat.exists_eq_add_of_le h1
  rw [show 1 + j + 1 - 1 = j + 1 by omega, show 1 + j - 1 = j by omega, List.take_succ_eq_append_getElem (by simp; omega)]
  simp [show j + 1 < l.length by omega, Nat.add_comm 1 j]
theorem accK_one (l : List UInt8) : accK l 1 = ((l.getD 0 0).toNat : Int) - base (ext (l.getD 0 0)) := by simp [accK, acc]
theorem conK_one (l : List UInt8) : conK l 1 = true := by simp [conK]
theorem accK_succ (l : List UInt8) (k : Nat) (h1 : 1 ≤ k) (h : k < l.length) : accK l (k + 1) = 64 * accK l k + (((l.getD k 0).toNat : Int) - 128) := by
  unfold accK; rw [take_snoc l k h1 h, acc_append]; rfl
theorem conK_succ (l : List UInt8) (k : Nat) (h1 : 1 ≤ k) (h : k < l.length) : conK l (k + 1) = (conK l k && cont (l.getD k 0)) := by
  unfold conK; rw [take_snoc l k h1 h, List.all_append]; simp
theorem conK_mono (l : List UInt8) {k m : Nat} (h : k ≤ m) (hm : conK l m = true) : conK l k = true := by
  unfold conK at hm ⊢
  rw [List.all_eq_true] at hm ⊢
  intro x hx
  exact hm x (List.take_subset_take_left _ (by omega) hx)
theorem base_le (b : UInt8) : (base (ext b) : Int) ≤ b.toNat ∧ (b.toNat : Int) - base (ext b) < 256 := by
  have hb := lt256 b
  unfold ext base
  (repeat' split) <;> simp_all <;> omega
theorem accK_bd (l : List UInt8) (k : Nat) (h1 : 1 ≤ k) (h : k ≤ l.length) (h4 : k ≤ 4) (hc : conK l k = true) : 0 ≤ accK l k ∧ accK l k < 67108864 := by
  have b := base_le (l.getD 0 0)
  have e1 := accK_one l
  have step : ∀ j, 1 ≤ j → j < k → accK l (j + 1) = 64 * accK l j + (((l.getD j 0).toNat : Int) - 128) ∧ 128 ≤ (l.getD j 0).toNat ∧ (l.getD j 0).toNat < 192 := by
    intro j hj hk
    refine ⟨accK_succ l j hj (by omega), ?_⟩
    have := conK_mono l (show j + 1 ≤ k by omega) hc
    rw [conK_succ l j hj (by omega), Bool.and_eq_true] at this
    exact (cont_iff _).1 this.2
  have s1 : 1 < k → accK l 2 = 64 * accK l 1 + (((l.getD 1 0).toNat : Int) - 128) ∧ 128 ≤ (l.getD 1 0).toNat ∧ (l.getD 1 0).toNat < 192 := step 1 (by omega)
  have s2 : 2 < k → accK l 3 = 64 * accK l 2 + (((l.getD 2 0).toNat : Int) - 128) ∧ 128 ≤ (l.getD 2 0).toNat ∧ (l.getD 2 0).toNat < 192 := step 2 (by omega)
  have s3 : 3 < k → accK l 4 = 64 * accK l 3 + (((l.getD 3 0).toNat : Int) - 128) ∧ 128 ≤ (l.getD 3 0).toNat ∧ (l.getD 3 0).toNat < 192 := step 3 (by omega)
  have hk : k = 1 ∨ k = 2 ∨ k = 3 ∨ k = 4 := by omega
  rcases hk with rfl | rfl | rfl | rfl
  · omega
  · have := s1 (by omega); omega
  · have := s1 (by omega); have := s2 (by omega); omega
  · have := s1 (by omega); have := s2 (by omega); have := s3 (by omega); omega

theorem decB_size (l : List UInt8) (h : ext (l.getD 0 0) = 0 ∨ l.length < ext (l.getD 0 0)) : decB l = false := by
  have : ¬ (0 < ext (l.getD 0 0) ∧ ext (l.getD 0 0) ≤ l.length) := by omega
  unfold decB
  by_cases h0 : 0 < ext (l.getD 0 0)
  · have h1 : ¬ ext (l.getD 0 0) ≤ l.length := fun h1 => this ⟨h0, h1⟩
    rw [decide_eq_false h1]; simp
  · rw [decide_eq_false h0]; simp
theorem decB_conK (l : List UInt8) {k : Nat} (hk : k ≤ ext (l.getD 0 0)) (h : conK l k = false) : decB l = false := by
  have : conK l (ext (l.getD 0 0)) = false := by
    cases hc : conK l (ext (l.getD 0 0)) with
    | false => rfl
    | true => rw [conK_mono l hk hc] at h; cases h
  unfold decB
  unfold conK at this
  rw [this]; simp
theorem decB_end (l : List UInt8) (h0 : 0 < ext (l.getD 0 0)) (h1 : ext (l.getD 0 0) ≤ l.length) (hc : conK l (ext (l.getD 0 0)) = true) :
    decB l = (isR (accK l (ext (l.getD 0 0))) && (wid (accK l (ext (l.getD 0 0))) == ext (l.getD 0 0))) := by
  unfold decB
  unfold conK at hc
  rw [decide_eq_true h0, decide_eq_true h1, hc]; simp [raw, accK]
theorem raw_eq (l : List UInt8) : raw l = accK l (ext (l.getD 0 0)) := rfl

end Go.Proofs.Ytniccjbcchdkoaa.U
