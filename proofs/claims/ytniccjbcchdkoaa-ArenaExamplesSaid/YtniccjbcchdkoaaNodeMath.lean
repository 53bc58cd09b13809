/- The plain mathematics of nodes: shapes, measures, finding a child, the encoding and back. It speaks of no program. -/
import Derived.Test.YtniccjbcchdkoaaHandleMath
namespace Go.Proofs.Ytniccjbcchdkoaa.N
open Go.Proofs.Ytniccjbcchdkoaa.H (Ok ok_lt)

/-! ### Nodes -/
structure K where
  at_ : Nat
  b : Int
  r : Int
  l : Int
deriving DecidableEq
structure Nd where
  h : Int
  t : List UInt8
  ks : List K
deriving DecidableEq
def lo (h : Nat) : Nat := 8 * 2 ^ (h - 1)
def hi (h : Nat) : Nat := min (16 * 4 ^ (h - 1)) 65536
theorem lo_step (h : Nat) (k : 1 ≤ h) : lo (h + 1) = lo h * 2 := by
  unfold lo; rw [show h + 1 - 1 = (h - 1) + 1 by omega, Nat.pow_succ, Nat.mul_assoc]
theorem hi_step (h : Nat) (k : 1 ≤ h) : hi (h + 1) = min (hi h * 4) 65536 := by
  unfold hi; rw [show h + 1 - 1 = (h - 1) + 1 by omega, Nat.pow_succ]; omega
structure KOk (h : Nat) (k : K) : Prop where
  at_ : Ok k.at_
  lo : (lo h : Int) ≤ k.b
  hi : k.b ≤ (hi h : Int)
  r0 : 0 ≤ k.r
  r1 : k.r ≤ k.b
  l0 : 0 ≤ k.l
  l1 : k.l ≤ k.r
instance (h : Nat) (k : K) : Decidable (KOk h k) := decidable_of_iff (Ok k.at_ ∧ (lo h : Int) ≤ k.b ∧ k.b ≤ (hi h : Int) ∧ 0 ≤ k.r ∧ k.r ≤ k.b ∧ 0 ≤ k.l ∧ k.l ≤ k.r) ⟨fun x => ⟨x.1, x.2.1, x.2.2.1, x.2.2.2.1, x.2.2.2.2.1, x.2.2.2.2.2.1, x.2.2.2.2.2.2⟩, fun x => ⟨x.1, x.2, x.3, x.4, x.5, x.6, x.7⟩⟩
def formed (x : Nd) : Prop := if x.h = 0 then 1 ≤ x.t.length ∧ x.t.length ≤ 16 ∧ x.ks = [] else 0 < x.h ∧ x.h ≤ 16 ∧ x.t = [] ∧ 2 ≤ x.ks.length ∧ x.ks.length ≤ 4 ∧ ∀ k ∈ x.ks, KOk x.h.toNat k
instance (x : Nd) : Decidable (formed x) := by unfold formed; infer_instance
def sum (f : K → Int) (l : List K) : Int := (l.map f).sum
theorem sum_cons (f : K → Int) (k : K) (l : List K) : sum f (k :: l) = f k + sum f l := by simp [sum]
theorem sum_append (f : K → Int) (a b : List K) : sum f (a ++ b) = sum f a + sum f b := by
  induction a with
  | nil => simp [sum]
  | cons k a ih => rw [List.cons_append, sum_cons, sum_cons, ih]; omega
/-- P12.1. -/
def chk (x : Nd) : Int := if formed x then (if 65536 < sum K.b x.ks then 5 else 0) else 23
theorem chk_iff (x : Nd) : chk x = 0 ↔ formed x ∧ sum K.b x.ks ≤ 65536 := by
  unfold chk
  constructor
  · intro h
    split at h
    · split at h
      · cases h
      · exact ⟨by assumption, by omega⟩
    · cases h
  · rintro ⟨h1, h2⟩; rw [if_pos h1, if_neg (by omega)]
structure Leaf (x : Nd) : Prop where
  h : x.h = 0
  t1 : 1 ≤ x.t.length
  t2 : x.t.length ≤ 16
  ks : x.ks = []
structure Inner (x : Nd) : Prop where
  h1 : 0 < x.h
  h2 : x.h ≤ 16
  t : x.t = []
  k2 : 2 ≤ x.ks.length
  k4 : x.ks.length ≤ 4
  ok : ∀ k ∈ x.ks, KOk x.h.toNat k
  sm : sum K.b x.ks ≤ 65536
theorem chk_cases {x : Nd} (h : chk x = 0) : Leaf x ∨ Inner x := by
  obtain ⟨h1, h2⟩ := (chk_iff x).1 h
  unfold formed at h1
  split at h1
  · rename_i c; exact Or.inl ⟨c, h1.1, h1.2.1, h1.2.2⟩
  · exact Or.inr ⟨h1.1, h1.2.1, h1.2.2.1, h1.2.2.2.1, h1.2.2.2.2.1, h1.2.2.2.2.2, h2⟩
theorem chk_leaf {x : Nd} (k : Leaf x) : chk x = 0 := by
  rw [chk_iff]; unfold formed; rw [if_pos k.h, k.ks]; exact ⟨⟨k.t1, k.t2, rfl⟩, by simp [sum]⟩
theorem chk_inner {x : Nd} (k : Inner x) : chk x = 0 := by
  rw [chk_iff]; unfold formed; rw [if_neg (by have := k.h1; omega)]; exact ⟨⟨k.h1, k.h2, k.t, k.k2, k.k4, k.ok⟩, k.sm⟩
/-- Parts that are not negative: no part is greater than the sum. -/
theorem le_sum {f : K → Int} {l : List K} (h : ∀ k ∈ l, 0 ≤ f k) {k : K} (hk : k ∈ l) : f k ≤ sum f l := by
  induction l with
  | nil => cases hk
  | cons a l ih =>
    have h0 : 0 ≤ sum f l := by
      have : ∀ m : List K, (∀ k ∈ m, 0 ≤ f k) → 0 ≤ sum f m := by
        intro m
        induction m with
        | nil => intro _; simp [sum]
        | cons b m ih => intro h; rw [sum_cons]; have := h b List.mem_cons_self; have := ih fun k hk => h k (List.mem_cons_of_mem _ hk); omega
      exact this l fun k hk => h k (List.mem_cons_of_mem _ hk)
    rw [sum_cons]
    rcases List.mem_cons.1 hk with rfl | hk
    · omega
    · have := ih (fun k hk => h k (List.mem_cons_of_mem _ hk)) hk
      have := h a List.mem_cons_self; omega
theorem sum_nonneg {f : K → Int} {l : List K} (h : ∀ k ∈ l, 0 ≤ f k) : 0 ≤ sum f l := by
  induction l with
  | nil => simp [sum]
  | cons b m ih => rw [sum_cons]; have := h b List.mem_cons_self; have := ih fun k hk => h k (List.mem_cons_of_mem _ hk); omega
theorem sum_mono {f g : K → Int} {l : List K} (h : ∀ k ∈ l, f k ≤ g k) : sum f l ≤ sum g l := by
  induction l with
  | nil => simp [sum]
  | cons b m ih => rw [sum_cons, sum_cons]; have := h b List.mem_cons_self; have := ih fun k hk => h k (List.mem_cons_of_mem _ hk); omega
theorem sum_const {f : K → Int} {c : Int} {l : List K} (h : ∀ k ∈ l, c ≤ f k) : l.length * c ≤ sum f l := by
  induction l with
  | nil => simp [sum]
  | cons b m ih =>
    rw [sum_cons, List.length_cons]
    have := h b List.mem_cons_self; have := ih fun k hk => h k (List.mem_cons_of_mem _ hk)
    rw [Int.natCast_succ, Int.add_mul, Int.one_mul]; omega
theorem lo_pos (h : Nat) : 8 ≤ lo h := by unfold lo; have := Nat.pow_pos (n := h - 1) (show 0 < 2 by omega); omega
theorem Inner.pos {x : Nd} (k : Inner x) : (∀ y ∈ x.ks, 0 ≤ y.b) ∧ (∀ y ∈ x.ks, 0 ≤ y.r) ∧ (∀ y ∈ x.ks, 0 ≤ y.l) :=
  ⟨fun y hy => by have := (k.ok y hy).r0; have := (k.ok y hy).r1; omega, fun y hy => (k.ok y hy).r0, fun y hy => (k.ok y hy).l0⟩
theorem Inner.small {x : Nd} (k : Inner x) : ∀ y ∈ x.ks, y.b < 65536 ∧ y.r < 65536 ∧ y.l < 65536 := by
  intro y hy
  have ok := k.ok y hy
  have hlo := lo_pos x.h.toNat
  -- another child has at least eight bytes
  have key : ∀ l : List K, (∀ z ∈ l, 8 ≤ z.b) → 2 ≤ l.length → ∀ z ∈ l, z.b + 8 ≤ sum K.b l := by
    intro l
    induction l with
    | nil => intro _ _ z hz; cases hz
    | cons a m ih =>
      intro h8 hl z hz
      rw [sum_cons]
      have hm8 : ∀ z ∈ m, 8 ≤ z.b := fun z hz => h8 z (List.mem_cons_of_mem _ hz)
      have hm0 : ∀ z ∈ m, 0 ≤ K.b z := fun z hz => by have := hm8 z hz; omega
      rcases List.mem_cons.1 hz with rfl | hz
      · cases m with
        | nil => simp at hl
        | cons c m =>
          have := le_sum hm0 (List.mem_cons_self (a := c) (l := m))
          have := hm8 c List.mem_cons_self; omega
      · have := le_sum hm0 hz
        have := h8 a List.mem_cons_self; omega
  have h8 : ∀ z ∈ x.ks, 8 ≤ z.b := fun z hz => by have := (k.ok z hz).lo; omega
  have := key x.ks h8 k.k2 y hy
  have := k.sm
  have := ok.r1; have := ok.l1
  omega
theorem Inner.height {x : Nd} (k : Inner x) : x.h ≤ 13 := by
  have h1 := sum_const (f := K.b) (c := (lo x.h.toNat : Int)) (l := x.ks) fun y hy => (k.ok y hy).lo
  have h2 := k.sm
  have h3 := k.k2
  refine Int.not_lt.1 fun c => ?_
  have e : lo 14 ≤ lo x.h.toNat := by
    unfold lo
    have : 2 ^ (14 - 1) ≤ 2 ^ (x.h.toNat - 1) := Nat.pow_le_pow_right (by omega) (by omega)
    omega
  have e14 : lo 14 = 65536 := by decide
  have : (2 : Int) * (lo x.h.toNat : Int) ≤ x.ks.length * (lo x.h.toNat : Int) := Int.mul_le_mul_of_nonneg_right (by omega) (by omega)
  omega
theorem Inner.bytes {x : Nd} (k : Inner x) : 16 ≤ sum K.b x.ks := by
  have h1 := sum_const (f := K.b) (c := 8) (l := x.ks) fun y hy => by have := (k.ok y hy).lo; have := lo_pos x.h.toNat; omega
  have := k.k2; omega
theorem Inner.parts {x : Nd} (k : Inner x) : 0 ≤ sum K.r x.ks ∧ sum K.r x.ks ≤ sum K.b x.ks ∧ 0 ≤ sum K.l x.ks ∧ sum K.l x.ks ≤ sum K.r x.ks :=
  ⟨sum_nonneg k.pos.2.1, sum_mono fun y hy => (k.ok y hy).r1, sum_nonneg k.pos.2.2, sum_mono fun y hy => (k.ok y hy).l1⟩

/-! ### Finding a child (P12.3 to P12.5, P12.9) -/
/-- The first child with which the sum is greater than n, and what is left of n. -/
def fnd (f : K → Int) : List K → Int → Nat × Int
  | [], n => (0, n)
  | k :: l, n => if n < f k then (0, n) else ((fnd f l (n - f k)).1 + 1, (fnd f l (n - f k)).2)
structure Fnd (f : K → Int) (l : List K) (n : Int) : Prop where
  lt : (fnd f l n).1 < l.length
  sum : sum f (l.take (fnd f l n).1) + (fnd f l n).2 = n
  rest : 0 ≤ (fnd f l n).2
  in_ : ∀ k, l[(fnd f l n).1]? = some k → (fnd f l n).2 < f k
theorem fnd_ok {f : K → Int} : ∀ {l : List K} {n : Int}, 0 ≤ n → n < sum f l → Fnd f l n
  | [], n, h0, h => by simp [sum] at h; omega
  | k :: l, n, h0, h => by
    rw [sum_cons] at h
    by_cases c : n < f k
    · have e : fnd f (k :: l) n = (0, n) := by unfold fnd; rw [if_pos c]
      refine ⟨by rw [e]; simp, by rw [e]; simp [sum], by rw [e]; exact h0, fun y hy => ?_⟩
      rw [e] at hy ⊢
      cases hy; exact c
    · have ih := fnd_ok (f := f) (l := l) (n := n - f k) (by omega) (by omega)
      have e : fnd f (k :: l) n = ((fnd f l (n - f k)).1 + 1, (fnd f l (n - f k)).2) := by rw [fnd, if_neg c]
      refine ⟨by rw [e]; have := ih.lt; simpa using this, ?_, by rw [e]; exact ih.rest, fun y hy => ?_⟩
      · rw [e]
        show sum f ((k :: l).take ((fnd f l (n - f k)).1 + 1)) + (fnd f l (n - f k)).2 = n
        rw [List.take_succ_cons, sum_cons]
        have := ih.sum; omega
      · rw [e] at hy ⊢
        exact ih.in_ y (by simpa using hy)
/-- There is no other such child. -/
theorem fnd_eq {f : K → Int} : ∀ {l : List K} {n : Int} {i : Nat}, (∀ k ∈ l, 0 ≤ f k) → i < l.length → sum f (l.take i) ≤ n → n < sum f (l.take (i + 1)) → fnd f l n = (i, n - sum f (l.take i))
  | [], n, i, _, hi, _, _ => by simp at hi
  | k :: l, n, 0, h, hi, h1, h2 => by
    have : n < f k := by simpa [sum] using h2
    unfold fnd; rw [if_pos this]; simp [sum]
  | k :: l, n, i + 1, h, hi, h1, h2 => by
    rw [List.take_succ_cons, sum_cons] at h1 h2
    have hl : ∀ k ∈ l, 0 ≤ f k := fun y hy => h y (List.mem_cons_of_mem _ hy)
    have h0 : 0 ≤ sum f (l.take i) := sum_nonneg fun y hy => hl y (List.mem_of_mem_take hy)
    have := fnd_eq (f := f) (l := l) (n := n - f k) (i := i) hl (by simpa using hi) (by omega) (by omega)
    rw [fnd, if_neg (by omega), this, List.take_succ_cons, sum_cons]
    simp only [Prod.mk.injEq, true_and]; omega
theorem fnd_mono {f : K → Int} : ∀ {l : List K} {n m : Int}, n ≤ m → (fnd f l n).1 ≤ (fnd f l m).1
  | [], _, _, _ => Nat.le_refl _
  | k :: l, n, m, h => by
    rw [fnd, fnd]
    by_cases c : n < f k
    · rw [if_pos c]; exact Nat.zero_le _
    · rw [if_neg c, if_neg (by omega)]
      exact Nat.succ_le_succ (fnd_mono (by omega))

/-! ### The encoding (P12.6, P12.8) -/
/-- A number in bytes, the most significant one first. -/
def be : Nat → Nat → List UInt8
  | 0, _ => []
  | s + 1, n => be s (n / 256) ++ [UInt8.ofNat (n % 256)]
def val (l : List UInt8) : Nat := l.foldl (fun n c => 256 * n + c.toNat) 0
theorem val_snoc (l : List UInt8) (c : UInt8) : val (l ++ [c]) = 256 * val l + c.toNat := by unfold val; rw [List.foldl_append]; rfl
theorem be_len : ∀ s n, (be s n).length = s
  | 0, _ => rfl
  | s + 1, n => by rw [be, List.length_append, be_len s]; rfl
theorem val_be : ∀ s n, n < 256 ^ s → val (be s n) = n
  | 0, n, h => by have : n = 0 := by simpa using h
                  subst this; rfl
  | s + 1, n, h => by
    rw [be, val_snoc, val_be s (n / 256) (by rw [Nat.pow_succ] at h; omega), UInt8.toNat_ofNat']
    omega
theorem val_lt (l : List UInt8) : val l < 256 ^ l.length := by
  have key : ∀ (k : Nat) (l : List UInt8), l.length = k → val l < 256 ^ k := by
    intro k
    induction k with
    | zero => intro l h; rw [List.eq_nil_of_length_eq_zero h]; decide
    | succ k ih =>
      intro l h
      obtain ⟨i, c, rfl⟩ : ∃ i c, l = i ++ [c] := ⟨l.dropLast, l.getLast (by intro e; rw [e] at h; simp at h), (List.dropLast_concat_getLast _).symm⟩
      have := ih i (by rw [List.length_append] at h; simpa using h)
      have := c.toNat_lt
      rw [val_snoc, Nat.pow_succ]; omega
  exact key _ l rfl
theorem be_val : ∀ (s : Nat) (l : List UInt8), l.length = s → be s (val l) = l
  | 0, l, h => (List.eq_nil_of_length_eq_zero h).symm
  | s + 1, l, h => by
    obtain ⟨i, c, rfl⟩ : ∃ i c, l = i ++ [c] := ⟨l.dropLast, l.getLast (by intro e; rw [e] at h; simp at h), (List.dropLast_concat_getLast _).symm⟩
    have hc := c.toNat_lt
    rw [val_snoc, be, show (256 * val i + c.toNat) / 256 = val i by omega, show (256 * val i + c.toNat) % 256 = c.toNat by omega, be_val s i (by rw [List.length_append] at h; simpa using h)]
    simp
def encK (k : K) : List UInt8 := be 6 k.at_ ++ be 2 k.b.toNat ++ be 2 k.r.toNat ++ be 2 k.l.toNat
theorem encK_len (k : K) : (encK k).length = 12 := by unfold encK; simp [be_len]
def enc (x : Nd) : List UInt8 := if chk x = 0 then UInt8.ofNat x.h.toNat :: (x.t ++ x.ks.flatMap encK) else []
def decK (s : List UInt8) : K := ⟨val (s.take 6), (val ((s.drop 6).take 2) : Int), (val ((s.drop 8).take 2) : Int), (val ((s.drop 10).take 2) : Int)⟩
/-- The children in bytes. -/
def kids (s : List UInt8) : Option (List K) :=
  if s = [] then some [] else if s.length < 12 then none else (kids (s.drop 12)).map (decK (s.take 12) :: ·)
termination_by s.length
decreasing_by rename_i _ h2; rw [List.length_drop]; omega
theorem kids_nil : kids [] = some [] := by rw [kids, if_pos rfl]
theorem kids_short {s : List UInt8} (h : s ≠ []) (k : s.length < 12) : kids s = none := by rw [kids, if_neg h, if_pos k]
theorem kids_more {s : List UInt8} (k : 12 ≤ s.length) : kids s = (kids (s.drop 12)).map (decK (s.take 12) :: ·) := by
  rw [kids, if_neg (fun e => by rw [e] at k; simp at k), if_neg (by omega)]
theorem decK_encK {k : K} (h1 : k.at_ < 281474976710656) (h2 : 0 ≤ k.b ∧ k.b < 65536) (h3 : 0 ≤ k.r ∧ k.r < 65536) (h4 : 0 ≤ k.l ∧ k.l < 65536) : decK (encK k) = k := by
  have l6 := be_len 6 k.at_
  have lb := be_len 2 k.b.toNat
  have lr := be_len 2 k.r.toNat
  have ll := be_len 2 k.l.toNat
  have e1 : (encK k).take 6 = be 6 k.at_ := by
    unfold encK; rw [List.append_assoc, List.append_assoc, List.take_left' l6]
  have e2 : ((encK k).drop 6).take 2 = be 2 k.b.toNat := by
    unfold encK; rw [List.append_assoc, List.append_assoc, List.drop_left' l6, List.take_left' lb]
  have e3 : ((encK k).drop 8).take 2 = be 2 k.r.toNat := by
    have : encK k = (be 6 k.at_ ++ be 2 k.b.toNat) ++ (be 2 k.r.toNat ++ be 2 k.l.toNat) := by unfold encK; simp
    rw [this, List.drop_left' (by simp [l6, lb]), List.take_left' lr]
  have e4 : ((encK k).drop 10).take 2 = be 2 k.l.toNat := by
    have : encK k = (be 6 k.at_ ++ be 2 k.b.toNat ++ be 2 k.r.toNat) ++ be 2 k.l.toNat := rfl
    rw [this, List.drop_left' (by simp [l6, lb, lr]), List.take_of_length_le (by omega)]
  unfold decK
  rw [e1, e2, e3, e4, val_be 6 _ (by omega), val_be 2 _ (by omega), val_be 2 _ (by omega), val_be 2 _ (by omega)]
  obtain ⟨a, b, r, l⟩ := k
  dsimp only at h2 h3 h4 ⊢
  rw [Int.toNat_of_nonneg h2.1, Int.toNat_of_nonneg h3.1, Int.toNat_of_nonneg h4.1]
theorem encK_decK {s : List UInt8} (h : s.length = 12) : encK (decK s) = s := by
  unfold encK decK
  simp only [Int.toNat_natCast]
  rw [be_val 6 _ (by rw [List.length_take]; omega), be_val 2 _ (by rw [List.length_take, List.length_drop]; omega), be_val 2 _ (by rw [List.length_take, List.length_drop]; omega), be_val 2 _ (by rw [List.length_take, List.length_drop]; omega)]
  have a : s.drop 8 = (s.drop 6).drop 2 := by rw [List.drop_drop]
  have b : s.drop 10 = ((s.drop 6).drop 2).drop 2 := by rw [List.drop_drop, List.drop_drop]
  have c : (s.drop 10).take 2 = s.drop 10 := List.take_of_length_le (by rw [List.length_drop]; omega)
  rw [c, a, b, List.append_assoc, List.append_assoc, List.take_append_drop, List.take_append_drop, List.take_append_drop]
theorem kids_enc : ∀ (l : List K), (∀ k ∈ l, decK (encK k) = k) → kids (l.flatMap encK) = some l
  | [], _ => kids_nil
  | k :: l, h => by
    rw [List.flatMap_cons, kids_more (by rw [List.length_append, encK_len]; omega), List.drop_left' (encK_len k), List.take_left' (encK_len k), kids_enc l fun y hy => h y (List.mem_cons_of_mem _ hy), h k List.mem_cons_self]
    rfl
theorem enc_kids : ∀ (n : Nat) (s : List UInt8) (l : List K), s.length ≤ n → kids s = some l → l.flatMap encK = s := by
  intro n
  induction n with
  | zero =>
    intro s l hn h
    have : s = [] := List.eq_nil_of_length_eq_zero (by omega)
    subst this
    rw [kids_nil] at h; cases h; rfl
  | succ n ih =>
    intro s l hn h
    by_cases c : s = []
    · subst c; rw [kids_nil] at h; cases h; rfl
    · by_cases d : s.length < 12
      · rw [kids_short c d] at h; cases h
      · rw [kids_more (by omega)] at h
        obtain ⟨m, hm, rfl⟩ := Option.map_eq_some_iff.1 h
        have := ih (s.drop 12) m (by rw [List.length_drop]; omega) hm
        rw [List.flatMap_cons, this, encK_decK (by rw [List.length_take]; omega), List.take_append_drop]
def mk (c : UInt8) (r : List UInt8) : Option Nd := if c.toNat = 0 then some ⟨0, r, []⟩ else (kids r).map fun ks => ⟨(c.toNat : Int), [], ks⟩
/-- P12.6. -/
def dec : List UInt8 → Option Nd
  | [] => none
  | c :: r => (mk c r).bind fun x => if chk x = 0 then some x else none
theorem dec_cons (c : UInt8) (r : List UInt8) : dec (c :: r) = (mk c r).bind fun x => if chk x = 0 then some x else none := rfl
theorem dec_enc {x : Nd} (h : chk x = 0) : dec (enc x) = some x := by
  unfold enc
  rw [if_pos h]
  rcases chk_cases h with k | k
  · have : x = ⟨0, x.t, []⟩ := by obtain ⟨a, b, c⟩ := x; have := k.h; have := k.ks; dsimp only at *; subst_vars; rfl
    have h0 : (UInt8.ofNat x.h.toNat).toNat = 0 := by rw [k.h]; rfl
    rw [dec_cons]
    unfold mk
    rw [if_pos h0, k.ks, List.flatMap_nil, List.append_nil, ← this]
    show (if chk x = 0 then some x else none) = some x
    rw [if_pos h]
  · have h1 := k.h1
    have h2 := k.h2
    have h0 : (UInt8.ofNat x.h.toNat).toNat = x.h.toNat := by rw [UInt8.toNat_ofNat']; omega
    rw [dec_cons]
    unfold mk
    rw [h0, if_neg (by omega), k.t, List.nil_append, kids_enc x.ks fun y hy => ?_]
    · have e : (⟨(x.h.toNat : Int), [], x.ks⟩ : Nd) = x := by
        obtain ⟨a, b, c⟩ := x
        have := k.t
        dsimp only at *
        subst_vars
        rw [show ((a.toNat : Nat) : Int) = a by omega]
      show (if chk (⟨(x.h.toNat : Int), [], x.ks⟩ : Nd) = 0 then some (⟨(x.h.toNat : Int), [], x.ks⟩ : Nd) else none) = some x
      rw [e, if_pos h]
    · have ok := k.ok y hy
      have s := k.small y hy
      have p := k.pos
      exact decK_encK (ok_lt ok.at_) ⟨p.1 y hy, s.1⟩ ⟨p.2.1 y hy, s.2.1⟩ ⟨p.2.2 y hy, s.2.2⟩
theorem enc_dec {s : List UInt8} {x : Nd} (h : dec s = some x) : chk x = 0 ∧ enc x = s := by
  cases s with
  | nil => cases h
  | cons c r =>
    rw [dec_cons] at h
    obtain ⟨y, hy, h2⟩ := Option.bind_eq_some_iff.1 h
    split at h2
    · rename_i hc
      cases h2
      refine ⟨hc, ?_⟩
      unfold enc
      rw [if_pos hc]
      unfold mk at hy
      split at hy
      · rename_i c0
        cases hy
        have : c = 0 := UInt8.toNat_inj.1 c0
        subst this
        show UInt8.ofNat (0 : Int).toNat :: (r ++ [].flatMap encK) = _
        rw [List.flatMap_nil, List.append_nil]; rfl
      · obtain ⟨ks, hk, rfl⟩ := Option.map_eq_some_iff.1 hy
        show UInt8.ofNat ((c.toNat : Nat) : Int).toNat :: ([] ++ ks.flatMap encK) = _
        rw [List.nil_append, enc_kids r.length r ks (Nat.le_refl _) hk, Int.toNat_natCast]
        simp
    · cases h2
/-- Valid nodes with the same encoding are equal. -/
theorem enc_inj {x y : Nd} (hx : chk x = 0) (hy : chk y = 0) (h : enc x = enc y) : x = y := by
  have a := dec_enc hx
  have b := dec_enc hy
  rw [h, b] at a
  exact (Option.some.inj a).symm
end Go.Proofs.Ytniccjbcchdkoaa.N
