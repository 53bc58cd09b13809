/- The text form of deltas, written and read: plain functions on lists of bytes, and that each undoes the other. It speaks of no program. -/
import Derived.Test.YtniccjbcchdkoaaPackMath
namespace Go.Proofs.Ytniccjbcchdkoaa.D

def digs (n : Nat) : List UInt8 := if n < 10 then [UInt8.ofNat (48 + n)] else digs (n / 10) ++ [UInt8.ofNat (48 + n % 10)]
theorem digs_lt {n : Nat} (h : n < 10) : digs n = [UInt8.ofNat (48 + n)] := by rw [digs, if_pos h]
theorem digs_ge {n : Nat} (h : ¬ n < 10) : digs n = digs (n / 10) ++ [UInt8.ofNat (48 + n % 10)] := by rw [digs, if_neg h]
theorem digs_len : ∀ (k n : Nat), n < 10 ^ (k + 1) → (digs n).length ≤ k + 1
  | 0, n, h => by rw [digs_lt (by simpa using h)]; simp
  | k + 1, n, h => by
    by_cases hn : n < 10
    · rw [digs_lt hn]; simp
    · rw [digs_ge hn, List.length_append]
      have : n / 10 < 10 ^ (k + 1) := by
        rw [Nat.pow_succ] at h
        omega
      have := digs_len k (n / 10) this
      simp; omega
def hexN (n : Nat) : UInt8 := if n < 10 then UInt8.ofNat (48 + n) else UInt8.ofNat (87 + n)
def hexL (t : List UInt8) : List UInt8 := t.flatMap fun b => [hexN (b.toNat / 16), hexN (b.toNat % 16)]
theorem hexL_len (t : List UInt8) : (hexL t).length = 2 * t.length := by
  unfold hexL
  induction t with
  | nil => rfl
  | cons b r ih => simp [ih]; omega
def form1 : Q → List UInt8
  | .R n => 61 :: digs n
  | .I t => 43 :: hexL t
  | .D n => 45 :: digs n
def text : List Q → List UInt8
  | [] => []
  | q :: r => form1 q ++ r.flatMap fun q => 32 :: form1 q
theorem text_snoc (a : List Q) (q : Q) : text (a ++ [q]) = text a ++ (if a.length = 0 then [] else [32]) ++ form1 q := by
  cases a with
  | nil => simp [text]
  | cons p r => simp [text, List.append_assoc]
theorem form1_len (q : Q) (hi : in1 q ≤ 1048576) : (form1 q).length ≤ 8 + 2 * out1 q := by
  cases q with
  | R n => have := digs_len 6 n (by simp only [in1] at hi; omega); simp only [form1, List.length_cons]; omega
  | I t => have := hexL_len t; simp only [form1, List.length_cons, out1]; omega
  | D n => have := digs_len 6 n (by simp only [in1] at hi; omega); simp only [form1, List.length_cons]; omega
theorem rest_len (r : List Q) (hi : inL r ≤ 1048576) : (r.flatMap fun q => 32 :: form1 q).length ≤ 9 * r.length + 2 * outL r := by
  induction r with
  | nil => simp
  | cons q r ih =>
    have e1 : inL (q :: r) = in1 q + inL r := rfl
    have e2 : outL (q :: r) = out1 q + outL r := rfl
    rw [e1] at hi
    have h1 := form1_len q (by omega)
    have h2 := ih (by omega)
    rw [e2, List.flatMap_cons, List.length_append, List.length_cons, List.length_cons]
    omega
theorem text_len (a : List Q) (hi : inL a ≤ 1048576) : (text a).length ≤ 9 * a.length + 2 * outL a := by
  cases a with
  | nil => simp [text]
  | cons q r =>
    have e1 : inL (q :: r) = in1 q + inL r := rfl
    have e2 : outL (q :: r) = out1 q + outL r := rfl
    rw [e1] at hi
    have h1 := form1_len q (by omega)
    have h2 := rest_len r (by omega)
    rw [e2, text, List.length_append, List.length_cons]
    omega
def half (c : Nat) : Nat := if 48 ≤ c ∧ c ≤ 57 then c - 48 else if 97 ≤ c ∧ c ≤ 102 then c - 87 else 16
theorem half_le (c : Nat) : half c ≤ 16 := by unfold half; split <;> (try split) <;> omega
/-- Bytes that are written in hexadecimal digits. -/
def unhex : List UInt8 → Option (List UInt8)
  | [] => some []
  | [_] => none
  | x :: y :: r => if 15 < half x.toNat ∨ 15 < half y.toNat then none else (unhex r).map fun t => UInt8.ofNat (16 * half x.toNat + half y.toNat) :: t
/-- A number that is written in digits, behind the number that was read. -/
def numF : Nat → List UInt8 → Option Nat
  | n, [] => if n ≤ 1048576 then some n else none
  | n, c :: r => if c.toNat < 48 ∨ 57 < c.toNat ∨ 1048576 < n then none else numF (10 * n + (c.toNat - 48)) r
def one (s : List UInt8) : Option Q :=
  match s with
  | [] => none
  | [_] => none
  | c :: d :: r =>
    if c = 43 then (unhex (d :: r)).map .I
    else if c = 45 then (if d = 48 then none else (numF 0 (d :: r)).map .D)
    else if c = 61 then (if d = 48 then none else (numF 0 (d :: r)).map .R)
    else none

/-- A text, cut at its blanks. -/
def cut : List UInt8 → List UInt8 → List (List UInt8)
  | g, [] => [g]
  | g, c :: r => if c = 32 then g :: cut [] r else cut (g ++ [c]) r
def ones : List (List UInt8) → Option (List Q)
  | [] => some []
  | g :: r => match one g with
    | none => none
    | some q => (ones r).map (q :: ·)
/-- The pieces with a text form. -/
def parse (s : List UInt8) : Option (List Q) := if s = [] then some [] else ones (cut [] s)
/-- Reading from left to right: a number, a text, a piece, and what is left. -/
def rdNum : Nat → List UInt8 → Option (Nat × List UInt8)
  | n, [] => if n = 0 then none else some (n, [])
  | n, c :: r => if c = 32 then (if n = 0 then none else some (n, c :: r)) else if c.toNat < 48 ∨ 57 < c.toNat then none
    else if 10 * n + (c.toNat - 48) < 1 ∨ 1048576 < 10 * n + (c.toNat - 48) then none else rdNum (10 * n + (c.toNat - 48)) r
def rdTxt : List UInt8 → List UInt8 → Option (List UInt8 × List UInt8)
  | t, [] => if t = [] then none else some (t, [])
  | t, [c] => if c = 32 then (if t = [] then none else some (t, [c])) else none
  | t, c :: e :: r => if c = 32 then (if t = [] then none else some (t, c :: e :: r)) else if 15 < half c.toNat ∨ 15 < half e.toNat then none
    else rdTxt (t ++ [UInt8.ofNat (16 * half c.toNat + half e.toNat)]) r
def rd1 : List UInt8 → Option (Q × List UInt8)
  | [] => none
  | c :: r => if c = 61 then (rdNum 0 r).map fun x => (.R x.1, x.2) else if c = 45 then (rdNum 0 r).map fun x => (.D x.1, x.2) else if c = 43 then (rdTxt [] r).map fun x => (.I x.1, x.2) else none
def no32 (g : List UInt8) : Prop := ∀ c ∈ g, c ≠ 32
theorem no32_cons {c : UInt8} {r : List UInt8} (h : no32 (c :: r)) : c ≠ 32 ∧ no32 r := ⟨h c (by simp), fun d hd => h d (by simp [hd])⟩
def tl32 (t : List UInt8) : Prop := t = [] ∨ ∃ r, t = 32 :: r
theorem cut_first (s : List UInt8) : ∃ g t, s = g ++ t ∧ no32 g ∧ tl32 t := by
  induction s with
  | nil => exact ⟨[], [], rfl, fun _ h => by simp at h, .inl rfl⟩
  | cons c r ih =>
    by_cases hc : c = 32
    · subst hc; exact ⟨[], 32 :: r, rfl, fun _ h => by simp at h, .inr ⟨r, rfl⟩⟩
    · obtain ⟨g, t, rfl, hg, ht⟩ := ih
      refine ⟨c :: g, t, rfl, fun d hd => ?_, ht⟩
      rcases List.mem_cons.1 hd with rfl | hd
      · exact hc
      · exact hg d hd
theorem cut_app (g : List UInt8) : ∀ (x r : List UInt8), no32 g → cut x (g ++ r) = cut (x ++ g) r := by
  induction g with
  | nil => intro x r _; simp
  | cons c g ih =>
    intro x r h
    obtain ⟨h1, h2⟩ := no32_cons h
    show cut x (c :: (g ++ r)) = _
    rw [cut, if_neg h1, ih _ _ h2, List.append_assoc]
    rfl
theorem cut_end (g : List UInt8) (h : no32 g) : cut [] g = [g] := by
  have := cut_app g [] [] h
  rw [List.append_nil, List.nil_append] at this
  rw [this]; rfl
theorem cut_more (g r : List UInt8) (h : no32 g) : cut [] (g ++ 32 :: r) = g :: cut [] r := by
  rw [cut_app g [] (32 :: r) h, List.nil_append, cut, if_pos rfl]
theorem numF_big (n : Nat) (g : List UInt8) (h : 1048576 < n) : numF n g = none := by
  cases g with
  | nil => rw [numF, if_neg (by omega)]
  | cons c r => rw [numF, if_pos (.inr (.inr h))]
theorem rdNum_app (g : List UInt8) : ∀ (n : Nat) (t : List UInt8), no32 g → tl32 t → 1 ≤ n → n ≤ 1048576 → rdNum n (g ++ t) = (numF n g).map fun x => (x, t) := by
  induction g with
  | nil =>
    intro n t _ ht h1 h2
    rw [numF, if_pos h2]
    rcases ht with rfl | ⟨r, rfl⟩
    · show rdNum n [] = _
      rw [rdNum, if_neg (by omega)]; rfl
    · show rdNum n (32 :: r) = _
      rw [rdNum, if_pos rfl, if_neg (by omega)]; rfl
  | cons c g ih =>
    intro n t hg ht h1 h2
    obtain ⟨hc, hg'⟩ := no32_cons hg
    show rdNum n (c :: (g ++ t)) = _
    rw [rdNum, if_neg hc, numF]
    by_cases h : c.toNat < 48 ∨ 57 < c.toNat
    · rw [if_pos h, if_pos (h.elim .inl fun h => .inr (.inl h))]; rfl
    · rw [if_neg h, if_neg (show ¬ (c.toNat < 48 ∨ 57 < c.toNat ∨ 1048576 < n) by omega)]
      by_cases hb : 1048576 < 10 * n + (c.toNat - 48)
      · rw [if_pos (.inr hb), numF_big _ _ hb]; rfl
      · rw [if_neg (by omega), ih _ _ hg' ht (by omega) (by omega)]
theorem rdNum_zero (d : UInt8) (g t : List UInt8) (hg : no32 (d :: g)) (ht : tl32 t) : rdNum 0 ((d :: g) ++ t) = if d = 48 then none else (numF 0 (d :: g)).map fun x => (x, t) := by
  obtain ⟨hc, hg'⟩ := no32_cons hg
  show rdNum 0 (d :: (g ++ t)) = _
  rw [rdNum, if_neg hc, numF]
  by_cases h : d.toNat < 48 ∨ 57 < d.toNat
  · rw [if_pos h, if_pos (show d.toNat < 48 ∨ 57 < d.toNat ∨ 1048576 < 0 from h.elim .inl fun h => .inr (.inl h))]
    split <;> rfl
  · rw [if_neg h, if_neg (show ¬ (d.toNat < 48 ∨ 57 < d.toNat ∨ 1048576 < 0) by omega)]
    by_cases hd : d = 48
    · subst hd; rfl
    · have : d.toNat ≠ 48 := fun e => hd (UInt8.toNat_inj.1 e)
      rw [if_neg hd, if_neg (by omega), rdNum_app g _ t hg' ht (by omega) (by omega)]
theorem half32 : half (32 : UInt8).toNat = 16 := rfl
theorem rdTxt_app : ∀ (g t u : List UInt8), no32 g → tl32 u → rdTxt t (g ++ u) = (unhex g).bind fun x => if t ++ x = [] then none else some (t ++ x, u)
  | [], t, u, _, hu => by
    rw [unhex]
    rcases hu with rfl | ⟨r, rfl⟩
    · show rdTxt t [] = _
      rw [rdTxt]; simp
    · show rdTxt t (32 :: r) = _
      cases r with
      | nil => rw [rdTxt]; simp
      | cons e r => rw [rdTxt, if_pos rfl]; simp
  | [c], t, u, hg, hu => by
    obtain ⟨hc, _⟩ := no32_cons hg
    rw [unhex]
    rcases hu with rfl | ⟨r, rfl⟩
    · show rdTxt t [c] = _
      rw [rdTxt, if_neg hc]; rfl
    · show rdTxt t (c :: 32 :: r) = _
      rw [rdTxt, if_neg hc, if_pos (.inr (by rw [half32]; omega))]; rfl
  | c :: e :: g, t, u, hg, hu => by
    obtain ⟨hc, hg'⟩ := no32_cons hg
    obtain ⟨he, hg'⟩ := no32_cons hg'
    show rdTxt t (c :: e :: (g ++ u)) = _
    rw [rdTxt, if_neg hc, unhex]
    by_cases h : 15 < half c.toNat ∨ 15 < half e.toNat
    · rw [if_pos h, if_pos h]; rfl
    · rw [if_neg h, if_neg h, rdTxt_app g _ u hg' hu]
      cases unhex g with
      | none => rfl
      | some x => simp
/-- What reads a piece from the left reads the first part. -/
theorem rd1_app (g t : List UInt8) (hg : no32 g) (ht : tl32 t) : rd1 (g ++ t) = (one g).map fun q => (q, t) := by
  match g, hg with
  | [], _ =>
    rcases ht with rfl | ⟨r, rfl⟩
    · rfl
    · rfl
  | [c], hg =>
    have e : one [c] = none := rfl
    rw [e]
    show rd1 (c :: t) = none
    rw [rd1]
    have h1 : rdNum 0 t = none := by
      rcases ht with rfl | ⟨r, rfl⟩
      · rfl
      · rfl
    have h2 : rdTxt [] t = none := by
      rcases ht with rfl | ⟨r, rfl⟩
      · rfl
      · cases r <;> rfl
    rw [h1, h2]
    split
    · rfl
    · split
      · rfl
      · split <;> rfl
  | c :: d :: r, hg =>
    obtain ⟨_, hg'⟩ := no32_cons hg
    show rd1 (c :: ((d :: r) ++ t)) = _
    rw [rd1, rdNum_zero d r t hg' ht, rdTxt_app (d :: r) [] t hg' ht, one]
    by_cases c1 : c = 43
    · subst c1
      rw [if_neg (by decide), if_neg (by decide), if_pos rfl, if_pos rfl]
      cases hu : unhex (d :: r) with
      | none => rfl
      | some x =>
        have hx : x ≠ [] := by
          intro e; subst e
          cases r with
          | nil => simp [unhex] at hu
          | cons e r =>
            rw [unhex] at hu
            split at hu
            · cases hu
            · cases h : unhex r <;> simp [h] at hu
        simp [hx]
    · by_cases c2 : c = 45
      · subst c2
        rw [if_neg (by decide), if_pos rfl, if_neg c1, if_pos rfl]
        split
        · rfl
        · cases numF 0 (d :: r) <;> rfl
      · by_cases c3 : c = 61
        · subst c3
          rw [if_pos rfl, if_neg c1, if_neg c2, if_pos rfl]
          split
          · rfl
          · cases numF 0 (d :: r) <;> rfl
        · rw [if_neg c3, if_neg c2, if_neg c1, if_neg c1, if_neg c2, if_neg c3]; rfl
/-- One more piece, from what is left of a text. -/
theorem rd_step (s : List UInt8) : ones (cut [] s) = match rd1 s with
    | none => none
    | some (q, []) => some [q]
    | some (q, _ :: r) => (ones (cut [] r)).map (q :: ·) := by
  obtain ⟨g, t, rfl, hg, ht⟩ := cut_first s
  rw [rd1_app g t hg ht]
  rcases ht with rfl | ⟨r, rfl⟩
  · rw [List.append_nil, cut_end g hg, ones]
    cases one g <;> rfl
  · rw [cut_more g r hg, ones]
    cases one g <;> rfl
theorem rd1_le {s : List UInt8} {q : Q} {t : List UInt8} (h : rd1 s = some (q, t)) : t.length < s.length ∧ s.drop (s.length - t.length) = t ∧ tl32 t := by
  obtain ⟨g, u, rfl, hg, hu⟩ := cut_first s
  rw [rd1_app g u hg hu] at h
  cases ho : one g with
  | none => rw [ho] at h; cases h
  | some p =>
    rw [ho] at h
    simp only [Option.map_some, Option.some.injEq, Prod.mk.injEq] at h
    obtain ⟨rfl, rfl⟩ := h
    have : g ≠ [] := by intro e; subst e; cases ho
    have : 0 < g.length := List.length_pos_iff.2 this
    rw [List.length_append]
    refine ⟨by omega, ?_, hu⟩
    rw [show g.length + u.length - u.length = g.length by omega, List.drop_left]

/-! ### Writing and reading -/
theorem digs_ne (n : Nat) : digs n ≠ [] := by
  by_cases h : n < 10
  · rw [digs_lt h]; simp
  · rw [digs_ge h]; simp
theorem digs_head (n : Nat) : 0 < n → ∃ d r, digs n = d :: r ∧ d ≠ 48 := by
  induction n using Nat.strongRecOn with
  | _ n ih =>
    intro hn
    by_cases h : n < 10
    · refine ⟨_, [], digs_lt h, fun e => ?_⟩
      have := congrArg UInt8.toNat e
      simp at this; omega
    · obtain ⟨d, r, e, hd⟩ := ih (n / 10) (by omega) (by omega)
      exact ⟨d, _, by rw [digs_ge h, e]; rfl, hd⟩
theorem dig_nat {k : Nat} (h : k < 10) : (UInt8.ofNat (48 + k)).toNat = 48 + k := by simp; omega
theorem digs_mem (n : Nat) : ∀ c ∈ digs n, 48 ≤ c.toNat ∧ c.toNat ≤ 57 := by
  induction n using Nat.strongRecOn with
  | _ n ih =>
    intro c hc
    by_cases h : n < 10
    · rw [digs_lt h] at hc
      simp only [List.mem_singleton] at hc
      subst hc; rw [dig_nat h]; omega
    · rw [digs_ge h] at hc
      rcases List.mem_append.1 hc with hc | hc
      · exact ih _ (by omega) c hc
      · simp only [List.mem_singleton] at hc
        subst hc; rw [dig_nat (by omega)]; omega
theorem numF_step (n : Nat) (c : UInt8) (r : List UInt8) (h1 : 48 ≤ c.toNat) (h2 : c.toNat ≤ 57) (h3 : n ≤ 1048576) : numF n (c :: r) = numF (10 * n + (c.toNat - 48)) r := by
  rw [numF, if_neg (by omega)]
theorem numF_digs (n : Nat) : ∀ r, n ≤ 1048576 → numF 0 (digs n ++ r) = numF n r := by
  induction n using Nat.strongRecOn with
  | _ n ih =>
    intro r hn
    by_cases h : n < 10
    · rw [digs_lt h]
      show numF 0 (_ :: r) = _
      rw [numF_step _ _ _ (by rw [dig_nat h]; omega) (by rw [dig_nat h]; omega) (by omega), dig_nat h]
      congr 1; omega
    · rw [digs_ge h, List.append_assoc, ih (n / 10) (by omega) _ (by omega)]
      show numF _ (_ :: r) = _
      have hk : n % 10 < 10 := by omega
      rw [numF_step _ _ _ (by rw [dig_nat hk]; omega) (by rw [dig_nat hk]; omega) (by omega), dig_nat hk]
      congr 1; omega
theorem digs_snoc (m : Nat) (c : UInt8) (hm : 0 < m) (h1 : 48 ≤ c.toNat) (h2 : c.toNat ≤ 57) : digs (10 * m + (c.toNat - 48)) = digs m ++ [c] := by
  rw [digs_ge (by omega), show (10 * m + (c.toNat - 48)) / 10 = m by omega, show (10 * m + (c.toNat - 48)) % 10 = c.toNat - 48 by omega, show 48 + (c.toNat - 48) = c.toNat by omega]
  simp
theorem digs_numF (l : List UInt8) : ∀ (m n : Nat), 0 < m → numF m l = some n → digs n = digs m ++ l ∧ m ≤ n ∧ n ≤ 1048576 := by
  induction l with
  | nil =>
    intro m n hm h
    rw [numF] at h
    split at h
    · cases h; rw [List.append_nil]; exact ⟨rfl, Nat.le_refl _, by assumption⟩
    · cases h
  | cons c r ih =>
    intro m n hm h
    rw [numF] at h
    split at h
    · cases h
    · rename_i hc
      obtain ⟨e, h1, h2⟩ := ih _ n (by omega) h
      rw [e, digs_snoc m c hm (by omega) (by omega), List.append_assoc]
      exact ⟨rfl, by omega, h2⟩
theorem digs_of_num {d : UInt8} {r : List UInt8} {n : Nat} (hd : d ≠ 48) (h : numF 0 (d :: r) = some n) : digs n = d :: r ∧ 0 < n ∧ n ≤ 1048576 := by
  rw [numF] at h
  split at h
  · cases h
  · rename_i hc
    have : d.toNat ≠ 48 := fun e => hd (UInt8.toNat_inj.1 e)
    rw [show 10 * 0 + (d.toNat - 48) = d.toNat - 48 by omega] at h
    obtain ⟨e, h1, h2⟩ := digs_numF r (d.toNat - 48) n (by omega) h
    refine ⟨?_, by omega, h2⟩
    rw [e, digs_lt (by omega), show 48 + (d.toNat - 48) = d.toNat by omega]
    simp
theorem half_hexN {m : Nat} (h : m < 16) : half (hexN m).toNat = m := by
  unfold hexN half
  split
  · rename_i h1
    rw [show (UInt8.ofNat (48 + m)).toNat = 48 + m by simp; omega, if_pos (by omega)]; omega
  · rename_i h1
    rw [show (UInt8.ofNat (87 + m)).toNat = 87 + m by simp; omega, if_neg (by omega), if_pos (by omega)]; omega
theorem hexN_half {c : UInt8} (h : half c.toNat ≤ 15) : hexN (half c.toNat) = c := by
  unfold half at h ⊢
  unfold hexN
  split
  · rw [if_pos (by omega), show 48 + (c.toNat - 48) = c.toNat by omega]; simp
  · split
    · rw [if_neg (by omega), show 87 + (c.toNat - 87) = c.toNat by omega]; simp
    · rename_i h1 h2; rw [if_neg h1, if_neg h2] at h; omega
theorem hexL_cons (b : UInt8) (t : List UInt8) : hexL (b :: t) = hexN (b.toNat / 16) :: hexN (b.toNat % 16) :: hexL t := by simp [hexL]
theorem unhex_hexL (t : List UInt8) : unhex (hexL t) = some t := by
  induction t with
  | nil => rfl
  | cons b t ih =>
    have hb : b.toNat < 256 := UInt8.toNat_lt b
    rw [hexL_cons, unhex, half_hexN (by omega), half_hexN (by omega), if_neg (by omega), ih, show 16 * (b.toNat / 16) + b.toNat % 16 = b.toNat by omega]
    simp
theorem hexL_unhex : ∀ (l t : List UInt8), unhex l = some t → hexL t = l
  | [], t, h => by rw [unhex] at h; cases h; rfl
  | [_], t, h => by rw [unhex] at h; cases h
  | c :: e :: r, t, h => by
    rw [unhex] at h
    split at h
    · cases h
    · rename_i hc
      cases hr : unhex r with
      | none => rw [hr] at h; cases h
      | some u =>
        rw [hr] at h
        simp only [Option.map_some, Option.some.injEq] at h
        subst h
        have h1 := half_le c.toNat
        have h2 := half_le e.toNat
        have e1 : (UInt8.ofNat (16 * half c.toNat + half e.toNat)).toNat = 16 * half c.toNat + half e.toNat := by simp; omega
        rw [hexL_cons, e1, show (16 * half c.toNat + half e.toNat) / 16 = half c.toNat by omega, show (16 * half c.toNat + half e.toNat) % 16 = half e.toNat by omega,
          hexN_half (by omega), hexN_half (by omega), hexL_unhex r u hr]
theorem one_num (c d : UInt8) (r : List UInt8) : one (c :: d :: r) = if c = 43 then (unhex (d :: r)).map .I else if c = 45 then (if d = 48 then none else (numF 0 (d :: r)).map .D) else if c = 61 then (if d = 48 then none else (numF 0 (d :: r)).map .R) else none := by rw [one]
theorem one_form (q : Q) (hq : pos q = true) (hi : in1 q ≤ 1048576) : one (form1 q) = some q := by
  cases q with
  | R n =>
    simp only [pos, decide_eq_true_eq] at hq
    simp only [in1] at hi
    obtain ⟨d, r, e, hd⟩ := digs_head n hq
    have h := numF_digs n [] hi
    rw [List.append_nil, numF, if_pos hi, e] at h
    rw [form1, e, one_num, if_neg (by decide), if_neg (by decide), if_pos rfl, if_neg hd, h]; rfl
  | D n =>
    simp only [pos, decide_eq_true_eq] at hq
    simp only [in1] at hi
    obtain ⟨d, r, e, hd⟩ := digs_head n hq
    have h := numF_digs n [] hi
    rw [List.append_nil, numF, if_pos hi, e] at h
    rw [form1, e, one_num, if_neg (by decide), if_pos rfl, if_neg hd, h]; rfl
  | I t =>
    cases t with
    | nil => simp [pos] at hq
    | cons b t => rw [form1, hexL_cons, one_num, if_pos rfl, ← hexL_cons, unhex_hexL]; rfl
theorem form_one (g : List UInt8) (q : Q) (h : one g = some q) : form1 q = g ∧ pos q = true ∧ in1 q ≤ 1048576 := by
  match g, h with
  | [], h => cases h
  | [_], h => cases h
  | c :: d :: r, h =>
    rw [one_num] at h
    split at h
    · rename_i hc; subst hc
      cases hu : unhex (d :: r) with
      | none => rw [hu] at h; cases h
      | some t =>
        rw [hu] at h; cases h
        have e := hexL_unhex _ _ hu
        refine ⟨by rw [form1, e], ?_, by simp [in1]⟩
        cases t with
        | nil => simp [hexL] at e
        | cons => rfl
    · split at h
      · rename_i hc; subst hc
        split at h
        · cases h
        · rename_i hd
          cases hu : numF 0 (d :: r) with
          | none => rw [hu] at h; cases h
          | some n =>
            rw [hu] at h; cases h
            obtain ⟨e, h1, h2⟩ := digs_of_num hd hu
            exact ⟨by rw [form1, e], by simpa [pos] using h1, h2⟩
      · split at h
        · rename_i hc; subst hc
          split at h
          · cases h
          · rename_i hd
            cases hu : numF 0 (d :: r) with
            | none => rw [hu] at h; cases h
            | some n =>
              rw [hu] at h; cases h
              obtain ⟨e, h1, h2⟩ := digs_of_num hd hu
              exact ⟨by rw [form1, e], by simpa [pos] using h1, h2⟩
        · cases h
theorem form1_no32 (q : Q) : no32 (form1 q) := by
  intro c hc e
  subst e
  cases q with
  | R n =>
    rw [form1] at hc
    rcases List.mem_cons.1 hc with h | h
    · cases h
    · have := digs_mem n _ h; simp at this
  | D n =>
    rw [form1] at hc
    rcases List.mem_cons.1 hc with h | h
    · cases h
    · have := digs_mem n _ h; simp at this
  | I t =>
    rw [form1] at hc
    rcases List.mem_cons.1 hc with h | h
    · cases h
    · unfold hexL at h
      obtain ⟨b, _, hb⟩ := List.mem_flatMap.1 h
      have key : ∀ m, m < 16 → (32 : UInt8) ≠ hexN m := fun m hm e => by
        have := half_hexN hm
        rw [← e, half32] at this; omega
      have hb8 : b.toNat < 256 := UInt8.toNat_lt b
      simp only [List.mem_cons, List.not_mem_nil, or_false] at hb
      rcases hb with hb | hb
      · exact key _ (by omega) hb
      · exact key _ (by omega) hb
def joinT : List Q → List UInt8
  | [] => []
  | q :: r => 32 :: (form1 q ++ joinT r)
theorem joinT_eq (r : List Q) : (r.flatMap fun q => 32 :: form1 q) = joinT r := by
  induction r with
  | nil => rfl
  | cons q r ih => rw [List.flatMap_cons, ih]; rfl
theorem text_cons (q : Q) (r : List Q) : text (q :: r) = form1 q ++ joinT r := by rw [text, joinT_eq]
theorem cut_joinT (r : List Q) : ∀ g, no32 g → cut [] (g ++ joinT r) = g :: r.map form1 := by
  induction r with
  | nil => intro g hg; rw [joinT, List.append_nil, cut_end g hg]; rfl
  | cons q r ih =>
    intro g hg
    rw [joinT, cut_more g _ hg, ih _ (form1_no32 q)]
    rfl
theorem ones_forms (a : List Q) (pa : allPos a = true) (hi : inL a ≤ 1048576) : ones (a.map form1) = some a := by
  induction a with
  | nil => rfl
  | cons q a ih =>
    unfold allPos at pa
    simp only [List.all_cons, Bool.and_eq_true] at pa
    have e : inL (q :: a) = in1 q + inL a := rfl
    rw [List.map_cons, ones, one_form q pa.1 (by omega), ih (by unfold allPos; exact pa.2) (by omega)]
    rfl
theorem form1_ne (q : Q) : form1 q ≠ [] := by cases q <;> simp [form1]
theorem parse_text (a : List Q) (pa : allPos a = true) (hi : inL a ≤ 1048576) : parse (text a) = some a := by
  cases a with
  | nil => rfl
  | cons q r =>
    rw [text_cons, parse, if_neg (by simp [form1_ne]), cut_joinT r _ (form1_no32 q)]
    exact ones_forms (q :: r) pa hi
theorem forms_ones : ∀ (l : List (List UInt8)) (a : List Q), ones l = some a → a.map form1 = l ∧ allPos a = true
  | [], a, h => by rw [ones] at h; cases h; exact ⟨rfl, rfl⟩
  | g :: l, a, h => by
    rw [ones] at h
    cases ho : one g with
    | none => rw [ho] at h; cases h
    | some q =>
      rw [ho] at h
      simp only at h
      cases hl : ones l with
      | none => rw [hl] at h; cases h
      | some b =>
        rw [hl] at h
        simp only [Option.map_some, Option.some.injEq] at h
        subst h
        obtain ⟨e1, e2, _⟩ := form_one g q ho
        obtain ⟨e3, e4⟩ := forms_ones l b hl
        exact ⟨by rw [List.map_cons, e1, e3], by unfold allPos at *; rw [List.all_cons, e2, e4]; rfl⟩
def glue : List (List UInt8) → List UInt8
  | [] => []
  | g :: r => g ++ (r.flatMap fun x => 32 :: x)
theorem glue_cut (s : List UInt8) : ∀ g, glue (cut g s) = g ++ s := by
  induction s with
  | nil => intro g; simp [cut, glue]
  | cons c r ih =>
    intro g
    rw [cut]
    split
    · rename_i hc; subst hc
      rw [glue]
      have h := ih []
      rw [List.nil_append] at h
      cases hr : cut [] r with
      | nil => rw [hr] at h; simp [glue] at h; subst h; simp [cut] at hr
      | cons x y =>
        rw [hr, glue] at h
        rw [← h]; simp
    · rw [ih]; simp
theorem text_glue (a : List Q) : text a = glue (a.map form1) := by
  cases a with
  | nil => rfl
  | cons q r => rw [text, List.map_cons, glue, List.flatMap_map]
theorem text_parse (s : List UInt8) (a : List Q) (h : parse s = some a) : text a = s ∧ allPos a = true := by
  rw [parse] at h
  split at h
  · rename_i hs; subst hs; cases h; exact ⟨rfl, rfl⟩
  · obtain ⟨e, pa⟩ := forms_ones _ a h
    exact ⟨by rw [text_glue, e, glue_cut, List.nil_append], pa⟩
end Go.Proofs.Ytniccjbcchdkoaa.D
