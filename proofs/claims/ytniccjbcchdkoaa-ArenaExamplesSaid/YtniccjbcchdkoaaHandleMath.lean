/- The plain mathematics of handles: packing, numbers in digits, the text form, sorted handles. It speaks of no program. -/
import Derived.Test.YtniccjbcchdkoaaDeltaTxt
namespace Go.Proofs.Ytniccjbcchdkoaa.H
open Go.Proofs.Ytniccjbcchdkoaa.D (digs digs_lt digs_ge digs_len)

/-! ### Packing -/
def slot (h : Nat) : Nat := h % 65536
def gen (h : Nat) : Nat := h / 65536
def pack (s g : Nat) : Nat := g * 65536 + s
structure Ok (h : Nat) : Prop where
  slot : slot h < 16384
  one : 1 ≤ gen h
  max : gen h ≤ 4294967295
instance (h : Nat) : Decidable (Ok h) := decidable_of_iff (slot h < 16384 ∧ 1 ≤ gen h ∧ gen h ≤ 4294967295) ⟨fun k => ⟨k.1, k.2.1, k.2.2⟩, fun k => ⟨k.1, k.2, k.3⟩⟩
theorem slot_pack {s : Nat} (g : Nat) (h : s < 65536) : slot (pack s g) = s := by unfold slot pack; omega
theorem gen_pack {s : Nat} (g : Nat) (h : s < 65536) : gen (pack s g) = g := by unfold gen pack; omega
theorem pack_back (h : Nat) : pack (slot h) (gen h) = h := by unfold pack slot gen; omega
theorem ok_pack {s g : Nat} (hs : s < 16384) (h1 : 1 ≤ g) (h2 : g ≤ 4294967295) : Ok (pack s g) :=
  ⟨by rw [slot_pack g (by omega)]; exact hs, by rw [gen_pack g (by omega)]; exact h1, by rw [gen_pack g (by omega)]; exact h2⟩
theorem ok_lt {h : Nat} (k : Ok h) : h < 281474976710656 := by have := k.max; unfold gen at this; omega
/-- P10.1. -/
def mkE (s g : Int) : Int := if s < 0 ∨ 16384 ≤ s then 3 else if g < 1 ∨ 4294967295 < g then 3 else 0
def mkV (s g : Int) : Int := if mkE s g = 0 then g * 65536 + s else 0
theorem mkE_iff (s g : Int) : mkE s g = 0 ↔ 0 ≤ s ∧ s < 16384 ∧ 1 ≤ g ∧ g ≤ 4294967295 := by
  unfold mkE
  constructor
  · intro h
    split at h
    · cases h
    · split at h
      · cases h
      · omega
  · intro h; rw [if_neg (by omega), if_neg (by omega)]
theorem mkE_or (s g : Int) : mkE s g = 0 ∨ mkE s g = 3 := by unfold mkE; split <;> (try split) <;> simp
theorem mkV_nat {s g : Nat} (h : mkE s g = 0) : mkV s g = (pack s g : Nat) := by unfold mkV pack; rw [if_pos h]; omega
theorem mkE_ok {h : Nat} (k : Ok h) : mkE (slot h : Nat) (gen h : Nat) = 0 := (mkE_iff _ _).2 ⟨by omega, by have := k.slot; omega, by have := k.one; omega, by have := k.max; omega⟩
def ckE (h : Nat) : Int := if Ok h then 0 else 2
/-- P10.2. -/
def slotV (h : Nat) : Int := if Ok h then (slot h : Int) else 0
def genV (h : Nat) : Int := if Ok h then (gen h : Int) else 0
def nxE (h : Nat) : Int := if Ok h then (if gen h = 4294967295 then 3 else 0) else 2
def nxV (h : Nat) : Int := if nxE h = 0 then ((h + 65536 : Nat) : Int) else 0
theorem next_pack (h : Nat) : pack (slot h) (gen h + 1) = h + 65536 := by unfold pack slot gen; omega
theorem next_ok {h : Nat} (k : Ok h) (m : gen h ≠ 4294967295) : Ok (h + 65536) ∧ slot (h + 65536) = slot h ∧ gen (h + 65536) = gen h + 1 := by
  have := k.max
  have e := next_pack h
  have s := k.slot
  rw [← e]
  exact ⟨ok_pack s (by omega) (by omega), slot_pack _ (by omega), gen_pack _ (by omega)⟩
theorem nx_mk {h : Nat} (k : Ok h) : nxE h = mkE (slot h : Nat) ((gen h + 1 : Nat) : Int) ∧ nxV h = mkV (slot h : Nat) ((gen h + 1 : Nat) : Int) := by
  have hs := k.slot
  have hm := k.max
  by_cases c : gen h = 4294967295
  · have e1 : nxE h = 3 := by unfold nxE; rw [if_pos k, if_pos c]
    have e2 : mkE (slot h : Nat) ((gen h + 1 : Nat) : Int) = 3 := by unfold mkE; rw [if_neg (by omega), if_pos (by omega)]
    refine ⟨by rw [e1, e2], ?_⟩
    unfold nxV mkV; rw [e1, e2]; rfl
  · have e1 : nxE h = 0 := by unfold nxE; rw [if_pos k, if_neg c]
    have e2 : mkE (slot h : Nat) ((gen h + 1 : Nat) : Int) = 0 := (mkE_iff _ _).2 ⟨by omega, by omega, by omega, by omega⟩
    refine ⟨by rw [e1, e2], ?_⟩
    rw [mkV_nat e2, next_pack]
    unfold nxV; rw [if_pos e1]

/-! ### Numbers in digits -/
def isD (c : UInt8) : Bool := decide (48 ≤ c.toNat) && decide (c.toNat ≤ 57)
theorem isD_iff (c : UInt8) : isD c = true ↔ 48 ≤ c.toNat ∧ c.toNat ≤ 57 := by unfold isD; simp
/-- The value, behind the one that was read. -/
def val : Nat → List UInt8 → Option Nat
  | n, [] => some n
  | n, c :: r => if isD c = true then val (10 * n + (c.toNat - 48)) r else none
/-- The value, bounded. -/
def sat : Nat → List UInt8 → Option Nat
  | n, [] => some n
  | n, c :: r => if isD c = true then sat (if n < 576460752303423488 then 10 * n + (c.toNat - 48) else 9223372036854775808) r else none
def near (n m : Nat) : Prop := n = m ∨ (576460752303423488 ≤ n ∧ 576460752303423488 ≤ m)
theorem sat_val : ∀ (l : List UInt8) (n m : Nat), near n m → (sat n l = none ∧ val m l = none) ∨ ∃ x y, sat n l = some x ∧ val m l = some y ∧ near x y
  | [], n, m, h => Or.inr ⟨n, m, rfl, rfl, h⟩
  | c :: r, n, m, h => by
    unfold sat val
    by_cases k : isD c = true
    · rw [if_pos k, if_pos k]
      refine sat_val r _ _ ?_
      unfold near at h ⊢
      rcases h with rfl | ⟨h1, h2⟩
      · split
        · exact Or.inl rfl
        · exact Or.inr ⟨by omega, by omega⟩
      · rw [if_neg (by omega)]; exact Or.inr ⟨by omega, by omega⟩
    · rw [if_neg k, if_neg k]; exact Or.inl ⟨rfl, rfl⟩
theorem val_append : ∀ (a b : List UInt8) (n : Nat), val n (a ++ b) = (val n a).bind fun m => val m b
  | [], _, _ => rfl
  | c :: a, b, n => by
    rw [List.cons_append, val, val]
    by_cases h : isD c = true
    · rw [if_pos h, if_pos h, val_append]
    · rw [if_neg h, if_neg h]; rfl
theorem dig_toNat {n : Nat} (h : n < 10) : (UInt8.ofNat (48 + n)).toNat = 48 + n := by
  rw [UInt8.toNat_ofNat']; omega
theorem isD_dig {n : Nat} (h : n < 10) : isD (UInt8.ofNat (48 + n)) = true := by rw [isD_iff, dig_toNat h]; omega
theorem digs_isD (n : Nat) : ∀ c ∈ digs n, isD c = true := by
  induction n using Nat.strongRecOn with
  | ind n ih =>
    intro c hc
    by_cases h : n < 10
    · rw [digs_lt h] at hc; rw [List.mem_singleton.1 hc]; exact isD_dig h
    · rw [digs_ge h, List.mem_append] at hc
      rcases hc with hc | hc
      · exact ih (n / 10) (by omega) c hc
      · rw [List.mem_singleton.1 hc]; exact isD_dig (by omega)
theorem digs_ne (n : Nat) : digs n ≠ [] := by
  by_cases h : n < 10
  · rw [digs_lt h]; simp
  · rw [digs_ge h]; simp
theorem val_digs (n : Nat) : val 0 (digs n) = some n := by
  induction n using Nat.strongRecOn with
  | ind n ih =>
    by_cases h : n < 10
    · rw [digs_lt h, val, if_pos (isD_dig h), dig_toNat h, val]; congr 1; omega
    · rw [digs_ge h, val_append, ih (n / 10) (by omega)]
      show val (n / 10) [_] = _
      rw [val, if_pos (isD_dig (by omega)), dig_toNat (by omega), val]; congr 1; omega
theorem digs_head (n : Nat) (h : 0 < n) : (digs n).head? ≠ some 48 := by
  induction n using Nat.strongRecOn with
  | ind n ih =>
    by_cases k : n < 10
    · rw [digs_lt k]
      intro e
      have e' : UInt8.ofNat (48 + n) = 48 := by simpa using e
      have := congrArg UInt8.toNat e'
      rw [dig_toNat k] at this
      have h48 : (48 : UInt8).toNat = 48 := rfl
      omega
    · rw [digs_ge k, List.head?_append]
      have := ih (n / 10) (by omega) (by omega)
      cases hd : (digs (n / 10)).head? with
      | none => exact absurd (List.head?_eq_none_iff.1 hd) (digs_ne _)
      | some c => rw [hd] at this; simpa using this
/-- Does a text have a first digit that a number does not have? -/
def lead (l : List UInt8) : Bool := decide (1 < l.length) && (l.head? == some 48)
theorem lead_digs (n : Nat) : lead (digs n) = false := by
  unfold lead
  by_cases h : n < 10
  · rw [digs_lt h]; rfl
  · have := digs_head n (by omega)
    rw [Bool.and_eq_false_iff]; right; simpa using this
theorem val_ge : ∀ (l : List UInt8) (n x : Nat), val n l = some x → n ≤ x
  | [], n, x, h => by cases h; exact Nat.le_refl _
  | c :: r, n, x, h => by
    unfold val at h
    split at h
    · have := val_ge r _ _ h; omega
    · cases h
/-- A number is written in one way. -/
theorem digs_val (l : List UInt8) (x : Nat) (h : val 0 l = some x) (h0 : l ≠ []) (hl : lead l = false) : l = digs x := by
  -- by the last digit
  have key : ∀ (k : Nat) (l : List UInt8) (x : Nat), l.length = k + 1 → val 0 l = some x → lead l = false → l = digs x := by
    intro k
    induction k with
    | zero =>
      intro l x hk h _
      obtain ⟨c, rfl⟩ := List.length_eq_one_iff.1 hk
      unfold val at h
      split at h
      · rename_i hd
        rw [isD_iff] at hd
        unfold val at h; cases h
        rw [digs_lt (by omega), show 48 + (10 * 0 + (c.toNat - 48)) = c.toNat by omega]
        simp
      · cases h
    | succ k ih =>
      intro l x hk h hl
      obtain ⟨i, c, rfl⟩ : ∃ i c, l = i ++ [c] := ⟨l.dropLast, l.getLast (by intro e; rw [e] at hk; simp at hk), (List.dropLast_concat_getLast _).symm⟩
      rw [List.length_append] at hk
      have hk' : i.length = k + 1 := by simpa using hk
      rw [val_append] at h
      cases hv : val 0 i with
      | none => rw [hv] at h; cases h
      | some m =>
        rw [hv] at h
        have h' : val m [c] = some x := h
        unfold val at h'
        split at h'
        · rename_i hd
          rw [isD_iff] at hd
          unfold val at h'; cases h'
          -- i has no leading zero, and is not zero
          have hi0 : i.head? ≠ some 48 := by
            unfold lead at hl
            rw [Bool.and_eq_false_iff] at hl
            rcases hl with hl | hl
            · rw [decide_eq_false_iff_not, List.length_append] at hl; exact absurd (show 1 < i.length + 1 by omega) hl
            · cases i with
              | nil => simp at hk'
              | cons a i => simpa using hl
          have hil : lead i = false := by unfold lead; rw [Bool.and_eq_false_iff]; right; simpa using hi0
          have e := ih i m hk' hv hil
          have m0 : 0 < m := by
            rcases Nat.eq_zero_or_pos m with z | z
            · subst z
              rw [e, digs_lt (by omega)] at hi0
              exact absurd rfl hi0
            · exact z
          rw [digs_ge (by omega), show (10 * m + (c.toNat - 48)) / 10 = m by omega, ← e, show 48 + (10 * m + (c.toNat - 48)) % 10 = c.toNat by omega]
          simp
        · cases h'
  cases l with
  | nil => exact absurd rfl h0
  | cons c l => exact key l.length (c :: l) x (by simp) h hl
/-- A number of at most 20 digits, bounded. -/
def num (l : List UInt8) : Option Nat := if l.length < 1 ∨ 20 < l.length ∨ lead l = true then none else sat 0 l
theorem num_digs {n : Nat} (h : n < 576460752303423488) : num (digs n) = some n := by
  have hl : (digs n).length ≤ 20 := digs_len 19 n (by omega)
  have h0 := List.length_pos_iff.2 (digs_ne n)
  unfold num
  rw [if_neg (by rw [lead_digs]; rintro (c | c | c); · omega
                 · omega
                 · cases c)]
  rcases sat_val (digs n) 0 0 (Or.inl rfl) with ⟨_, h2⟩ | ⟨x, y, h1, h2, h3⟩
  · rw [val_digs] at h2; cases h2
  · rw [val_digs] at h2; cases h2
    rw [h1]
    rcases h3 with h3 | h3
    · rw [h3]
    · omega
theorem digs_num {l : List UInt8} {x : Nat} (h : num l = some x) (hx : x < 576460752303423488) : l = digs x := by
  unfold num at h
  split at h
  · cases h
  · rename_i k
    have k1 : ¬ l.length < 1 := fun c => k (Or.inl c)
    have k2 : lead l = false := by
      cases e : lead l with
      | false => rfl
      | true => exact absurd (Or.inr (Or.inr e)) k
    rcases sat_val l 0 0 (Or.inl rfl) with ⟨h1, _⟩ | ⟨a, y, h1, h2, h3⟩
    · rw [h] at h1; cases h1
    · rw [h] at h1; cases h1
      have e : x = y := by
        rcases h3 with h3 | h3
        · exact h3
        · omega
      rw [← e] at h2
      exact digs_val l x h2 (fun e => k1 (by rw [e]; simp)) k2

/-! ### The text form (P10.3, P10.5) -/
def textL (h : Nat) : List UInt8 := if Ok h then digs (slot h) ++ 46 :: digs (gen h) else []
/-- What stands before the first period, and behind it. -/
def dot : List UInt8 → List UInt8 → Option (List UInt8 × List UInt8)
  | _, [] => none
  | g, c :: r => if c = 46 then some (g, r) else dot (g ++ [c]) r
theorem dot_some : ∀ (l g x y : List UInt8), dot g l = some (x, y) → g ++ l = x ++ 46 :: y
  | [], g, x, y, h => by cases h
  | c :: r, g, x, y, h => by
    unfold dot at h
    split at h
    · rename_i e; cases h; rw [e]
    · have := dot_some r _ x y h
      rw [← this]; simp
theorem dot_at : ∀ (x g y : List UInt8), (∀ c ∈ x, c ≠ 46) → dot g (x ++ 46 :: y) = some (g ++ x, y)
  | [], g, y, _ => by rw [List.nil_append, dot, if_pos rfl, List.append_nil]
  | c :: x, g, y, h => by
    rw [List.cons_append, dot, if_neg (h c List.mem_cons_self), dot_at x _ y fun d hd => h d (List.mem_cons_of_mem _ hd)]
    simp
def two (x y : List UInt8) : Int × Int :=
  match num x, num y with
  | some s, some g => if 16384 ≤ s then (0, 3) else (mkV s g, mkE s g)
  | _, _ => (0, 4)
def parse (l : List UInt8) : Int × Int :=
  match dot [] l with
  | none => (0, 4)
  | some (x, y) => two x y
theorem isD_ne {c : UInt8} (h : isD c = true) : c ≠ 46 := by
  intro e; subst e; cases h
theorem parse_text {h : Nat} (k : Ok h) : parse (textL h) = ((h : Int), 0) := by
  unfold parse textL
  rw [if_pos k, dot_at _ _ _ fun c hc => isD_ne (digs_isD _ c hc)]
  have hs := k.slot
  have hm := k.max
  show two ([] ++ digs (slot h)) (digs (gen h)) = _
  rw [List.nil_append]
  unfold two
  rw [num_digs (by omega), num_digs (by omega)]
  show (if 16384 ≤ slot h then ((0 : Int), (3 : Int)) else (mkV (slot h : Nat) (gen h : Nat), mkE (slot h : Nat) (gen h : Nat))) = _
  rw [if_neg (by omega), mkV_nat (mkE_ok k), mkE_ok k, pack_back]
theorem text_parse {l : List UInt8} {p : Int} (h : parse l = (p, 0)) : ∃ n : Nat, p = n ∧ Ok n ∧ textL n = l := by
  unfold parse at h
  split at h
  · cases h
  · rename_i x y hd
    have hl := dot_some l [] x y hd
    rw [List.nil_append] at hl
    unfold two at h
    split at h
    · rename_i s g h1 h2
      split at h
      · cases h
      · have e : mkE s g = 0 := congrArg Prod.snd h
        have v : mkV s g = p := congrArg Prod.fst h
        have b := (mkE_iff _ _).1 e
        have ok := ok_pack (s := s) (g := g) (by omega) (by omega) (by omega)
        refine ⟨pack s g, by rw [← v, mkV_nat e], ok, ?_⟩
        unfold textL
        rw [if_pos ok, slot_pack g (by omega), gen_pack g (by omega), ← digs_num h1 (by omega), ← digs_num h2 (by omega), hl]
    · cases h
theorem parse_err (l : List UInt8) : (parse l).2 = 0 ∨ (parse l).1 = 0 := by
  unfold parse
  split
  · exact Or.inr rfl
  · unfold two
    split
    · rename_i s g _ _
      split
      · exact Or.inr rfl
      · show mkE s g = 0 ∨ mkV s g = 0
        by_cases c : mkE s g = 0
        · exact Or.inl c
        · exact Or.inr (if_neg c)
    · exact Or.inr rfl

/-! ### Sorting (P10.4, P10.6) -/
def bf (a b : Nat) : Prop := slot a < slot b ∨ (slot a = slot b ∧ a < b)
instance (a b : Nat) : Decidable (bf a b) := inferInstanceAs (Decidable (_ ∨ _))
theorem bf_irr (a : Nat) : ¬ bf a a := by unfold bf; omega
theorem bf_trans {a b c : Nat} (h : bf a b) (k : bf b c) : bf a c := by unfold bf at *; omega
theorem bf_total {a b : Nat} (h : a ≠ b) : bf a b ∨ bf b a := by unfold bf; omega
theorem bf_ext : ∀ {a b : List Nat}, a.Pairwise bf → b.Pairwise bf → (∀ x, x ∈ a ↔ x ∈ b) → a = b
  | [], [], _, _, _ => rfl
  | [], y :: b, _, _, h => by have := (h y).2 List.mem_cons_self; cases this
  | x :: a, [], _, _, h => by have := (h x).1 List.mem_cons_self; cases this
  | x :: a, y :: b, ha, hb, h => by
    rw [List.pairwise_cons] at ha hb
    have e : x = y := by
      rcases List.mem_cons.1 ((h x).1 List.mem_cons_self) with e | hx
      · exact e
      · rcases List.mem_cons.1 ((h y).2 List.mem_cons_self) with e | hy
        · exact e.symm
        · exact absurd (bf_trans (ha.1 y hy) (hb.1 x hx)) (bf_irr x)
    subst e
    have : a = b := bf_ext ha.2 hb.2 fun z => by
      constructor
      · intro hz
        rcases List.mem_cons.1 ((h z).1 (List.mem_cons_of_mem _ hz)) with e | hz'
        · have := ha.1 z hz; rw [e] at this; exact absurd this (bf_irr _)
        · exact hz'
      · intro hz
        rcases List.mem_cons.1 ((h z).2 (List.mem_cons_of_mem _ hz)) with e | hz'
        · have := hb.1 z hz; rw [e] at this; exact absurd this (bf_irr _)
        · exact hz'
    rw [this]
/-- A number put in, once. -/
def ins : List Nat → Nat → List Nat
  | [], x => [x]
  | y :: l, x => if bf y x then y :: ins l x else if y = x then y :: l else x :: y :: l
def srt (l : List Nat) : List Nat := l.foldl ins []
theorem mem_ins {l : List Nat} {x z : Nat} : z ∈ ins l x ↔ z = x ∨ z ∈ l := by
  induction l with
  | nil => simp [ins]
  | cons y l ih =>
    unfold ins; split
    · rw [List.mem_cons, ih, List.mem_cons]
      constructor
      · rintro (h | h | h) <;> simp [h]
      · rintro (h | h | h) <;> simp [h]
    · split
      · rename_i e; subst e; simp
      · simp
theorem ins_asc {l : List Nat} {x : Nat} (h : l.Pairwise bf) : (ins l x).Pairwise bf := by
  induction l with
  | nil => exact List.pairwise_singleton _ _
  | cons y l ih =>
    have h' := List.pairwise_cons.1 h
    unfold ins; split
    · rename_i k
      rw [List.pairwise_cons]
      refine ⟨fun z hz => ?_, ih h'.2⟩
      rcases mem_ins.1 hz with rfl | hz
      · exact k
      · exact h'.1 z hz
    · rename_i k
      split
      · exact h
      · rename_i e
        have k' : bf x y := by rcases bf_total e with c | c
                               · exact absurd c k
                               · exact c
        rw [List.pairwise_cons]
        refine ⟨fun z hz => ?_, h⟩
        rcases List.mem_cons.1 hz with rfl | hz
        · exact k'
        · exact bf_trans k' (h'.1 z hz)
theorem srt_aux : ∀ (l acc : List Nat), acc.Pairwise bf → (l.foldl ins acc).Pairwise bf ∧ ∀ z, z ∈ l.foldl ins acc ↔ z ∈ acc ∨ z ∈ l
  | [], acc, h => ⟨h, fun z => by simp⟩
  | x :: l, acc, h => by
    have := srt_aux l (ins acc x) (ins_asc h)
    refine ⟨this.1, fun z => (this.2 z).trans ?_⟩
    rw [mem_ins, List.mem_cons]
    constructor
    · rintro ((h | h) | h) <;> simp [h]
    · rintro (h | h | h) <;> simp [h]
theorem srt_asc (l : List Nat) : (srt l).Pairwise bf := (srt_aux l [] .nil).1
theorem mem_srt (l : List Nat) (z : Nat) : z ∈ srt l ↔ z ∈ l := by rw [srt, (srt_aux l [] .nil).2]; simp
theorem srt_unique {l k : List Nat} (hk : k.Pairwise bf) (h : ∀ z, z ∈ k ↔ z ∈ l) : srt l = k := bf_ext (srt_asc l) hk fun z => by rw [mem_srt, h]
theorem srt_srt (l : List Nat) : srt (srt l) = srt l := srt_unique (srt_asc l) fun _ => Iff.rfl
theorem srt_congr {l k : List Nat} (h : ∀ z, z ∈ l ↔ z ∈ k) : srt l = srt k := srt_unique (srt_asc k) fun z => by rw [mem_srt, h]
end Go.Proofs.Ytniccjbcchdkoaa.H
