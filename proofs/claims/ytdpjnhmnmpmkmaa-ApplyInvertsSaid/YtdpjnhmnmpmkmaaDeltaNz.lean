/- The plain mathematics of a normal form that is built piece by piece: what is settled, what is kept, and a gap. It speaks of no program. -/
import Derived.Test.YtdpjnhmnmpmkmaaDeltaForm
namespace Go.Proofs.Ytdpjnhmnmpmkmaa.D

/-- What has been settled, the bytes kept since, and the gap behind. -/
structure S where
  set : List Q
  kept : Nat
  ins : List UInt8
  rem : Nat
def S.add (s : S) : Q → S
  | .R n => ⟨(s.set ++ oI s.ins) ++ oD s.rem, s.kept + n, [], 0⟩
  | .I t => ⟨s.set ++ oR s.kept, 0, s.ins ++ t, s.rem⟩
  | .D n => ⟨s.set ++ oR s.kept, 0, s.ins, s.rem + n⟩
def S.fin (s : S) : List Q := ((s.set ++ oR s.kept) ++ oI s.ins) ++ oD s.rem
def endsR (l : List Q) : Prop := l = [] ∨ ∃ y n, l = y ++ [.R n]
def endsN (l : List Q) : Prop := l = [] ∨ ∃ y p, l = y ++ [p] ∧ isR p = false
/-- The state says what has been added. -/
def Sok (s : S) (a : List Q) : Prop :=
  (s.kept = 0 ∧ endsR s.set ∧ (s.set = [] ∨ s.ins ≠ [] ∨ 0 < s.rem) ∧ nf a = s.set ++ (oI s.ins ++ oD s.rem)) ∨
  (0 < s.kept ∧ s.ins = [] ∧ s.rem = 0 ∧ endsN s.set ∧ nf a = s.set ++ [.R s.kept])
theorem isN_split (y : List Q) (p : Q) (x : List Q) : isN (y ++ p :: x) = (isN (y ++ [p]) && isN (p :: x)) := by
  induction y with
  | nil => simp [isN]
  | cons q y ih =>
    cases y with
    | nil => simp [isN]
    | cons r y => simp only [List.cons_append, isN] at ih ⊢; rw [ih, Bool.and_assoc]
theorem nf_snoc (a s x : List Q) (q : Q) (z : List Q) (h : nf a = s ++ x) (hz : nf (x ++ [q]) = z) (hn : isN (s ++ z) = true) : nf (a ++ [q]) = s ++ z := by
  rw [← nf_left, h, List.append_assoc, ← nf_right, hz, nf_of_isN _ hn]
theorem isN_left {y x : List Q} (h : isN (y ++ x) = true) : isN y = true := by
  induction y with
  | nil => rfl
  | cons q y ih =>
    cases y with
    | nil => rfl
    | cons r y =>
      simp only [List.cons_append, isN, Bool.and_eq_true] at h ih ⊢
      exact ⟨h.1, ih h.2⟩
theorem glueR {s x z : List Q} (hs : endsR s) (h : isN (s ++ x) = true) (h0 : isN z = true) (hz : ∀ n, isN (.R n :: z) = true) : isN (s ++ z) = true := by
  rcases hs with rfl | ⟨y, n, rfl⟩
  · exact h0
  · have h1 := isN_left h
    rw [List.append_assoc]
    show isN (y ++ .R n :: z) = true
    rw [isN_split, h1, hz n]; rfl
theorem glueR' {s x z : List Q} (hs : endsR s) (h : isN (s ++ x) = true) (h0 : isN z = true) (hz : s = [] ∨ ∀ n, isN (.R n :: z) = true) : isN (s ++ z) = true := by
  rcases hz with rfl | hz
  · exact h0
  · exact glueR hs h h0 hz
theorem glueN {s x : List Q} {k : Nat} {r : List Q} (hs : endsN s) (h : isN (s ++ x) = true) (h0 : isN (.R k :: r) = true) : isN (s ++ .R k :: r) = true := by
  rcases hs with rfl | ⟨y, p, rfl, hp⟩
  · exact h0
  · have h1 := isN_left h
    rw [List.append_assoc]
    show isN (y ++ p :: .R k :: r) = true
    rw [isN_split, h1]
    cases p with
    | R n => simp [isR] at hp
    | I t => exact isN_cons (p := .I t) (q := .R k) rfl h0
    | D n => exact isN_cons (p := .D n) (q := .R k) rfl h0
theorem Sok_init : Sok ⟨[], 0, [], 0⟩ [] := .inl ⟨rfl, .inl rfl, .inl rfl, rfl⟩
theorem Sok_fin {s : S} {a : List Q} (h : Sok s a) : s.fin = nf a := by
  obtain ⟨st, k, i, r⟩ := s
  rcases h with ⟨h1, _, _, h⟩ | ⟨h1, h2, h3, _, h⟩
  · simp only at h1 h; subst h1; rw [h]; simp [S.fin, oR_zero]
  · simp only at h1 h2 h3 h; subst h2; subst h3; rw [h]; simp [S.fin, oI_nil, oD_zero, oR_pos h1]
theorem Sok_add {s : S} {a : List Q} {q : Q} (h : Sok s a) (hq : pos q = true) : Sok (s.add q) (a ++ [q]) := by
  obtain ⟨st, k, i, r⟩ := s
  have hN := isN_nf a
  rcases h with ⟨h1, h2, h3, h⟩ | ⟨h1, h2, h3, h4, h⟩
  · simp only at h1 h2 h3 h
    subst h1
    rw [h] at hN
    cases q with
    | R n =>
      have hn : 0 < n := by simpa [pos] using hq
      refine .inr ⟨by simp only [S.add]; omega, rfl, rfl, ?_, ?_⟩
      · show endsN ((st ++ oI i) ++ oD r)
        by_cases hr : r = 0
        · subst hr
          rw [oD_zero, List.append_nil]
          by_cases hi : i = []
          · subst hi
            rcases h3 with h3 | h3 | h3
            · subst h3; exact .inl rfl
            · exact absurd rfl h3
            · omega
          · rw [oI_pos hi]; exact .inr ⟨_, _, rfl, rfl⟩
        · rw [oD_pos (by omega)]; exact .inr ⟨_, _, rfl, rfl⟩
      · show nf (a ++ [.R n]) = ((st ++ oI i) ++ oD r) ++ [.R (0 + n)]
        rw [Nat.zero_add, nf_snoc a st _ (.R n) ((oI i ++ oD r) ++ [.R n]) h ?_ ?_]
        · simp
        · refine nf_of_isN _ ?_
          unfold oI oD
          split <;> split <;> rfl
        · refine glueR' h2 hN ?_ ?_
          · unfold oI oD
            split <;> split <;> rfl
          · rcases h3 with h3 | h3 | h3
            · exact .inl h3
            · right; intro m; rw [oI_pos h3]; unfold oD; split <;> rfl
            · right; intro m; rw [oD_pos h3]; unfold oI; split <;> rfl
    | I t =>
      have ht : t ≠ [] := by intro e; subst e; simp [pos] at hq
      have hit : i ++ t ≠ [] := fun e => ht (List.append_eq_nil_iff.1 e).2
      refine .inl ⟨rfl, ?_, .inr (.inl hit), ?_⟩
      · show endsR (st ++ oR 0); rw [oR_zero, List.append_nil]; exact h2
      · show nf (a ++ [.I t]) = (st ++ oR 0) ++ (oI (i ++ t) ++ oD r)
        rw [oR_zero, List.append_nil]
        refine nf_snoc a st _ (.I t) _ h ?_ ?_
        · rw [oI_pos hit]
          unfold oI oD
          split
          · rename_i e; subst e
            split <;> rfl
          · split <;> rfl
        · refine glueR h2 hN ?_ (fun m => ?_)
          · rw [oI_pos hit]; unfold oD; split <;> rfl
          · rw [oI_pos hit]; unfold oD; split <;> rfl
    | D n =>
      have hn : 0 < n := by simpa [pos] using hq
      refine .inl ⟨rfl, ?_, .inr (.inr (by simp only [S.add]; omega)), ?_⟩
      · show endsR (st ++ oR 0); rw [oR_zero, List.append_nil]; exact h2
      · show nf (a ++ [.D n]) = (st ++ oR 0) ++ (oI i ++ oD (r + n))
        rw [oR_zero, List.append_nil]
        refine nf_snoc a st _ (.D n) _ h ?_ ?_
        · rw [oD_pos (show 0 < r + n by omega)]
          unfold oI oD
          split <;> split
          · rename_i e; subst e; rw [Nat.zero_add]; rfl
          · rfl
          · rename_i e; subst e; rw [Nat.zero_add]; rfl
          · rfl
        · refine glueR h2 hN ?_ (fun m => ?_)
          · rw [oD_pos (show 0 < r + n by omega)]; unfold oI; split <;> rfl
          · rw [oD_pos (show 0 < r + n by omega)]; unfold oI; split <;> rfl
  · simp only at h1 h2 h3 h4 h
    subst h2
    subst h3
    rw [h] at hN
    cases q with
    | R n =>
      have hn : 0 < n := by simpa [pos] using hq
      refine .inr ⟨by simp only [S.add]; omega, rfl, rfl, ?_, ?_⟩
      · show endsN ((st ++ oI []) ++ oD 0); rw [oI_nil, oD_zero, List.append_nil, List.append_nil]; exact h4
      · show nf (a ++ [.R n]) = ((st ++ oI []) ++ oD 0) ++ [.R (k + n)]
        rw [oI_nil, oD_zero, List.append_nil, List.append_nil]
        exact nf_snoc a st _ (.R n) _ h rfl (glueN h4 hN rfl)
    | I t =>
      have ht : t ≠ [] := by intro e; subst e; simp [pos] at hq
      refine .inl ⟨rfl, ?_, .inr (.inl ht), ?_⟩
      · show endsR (st ++ oR k); rw [oR_pos h1]; exact .inr ⟨_, _, rfl⟩
      · show nf (a ++ [.I t]) = (st ++ oR k) ++ (oI ([] ++ t) ++ oD 0)
        rw [oR_pos h1, List.nil_append, oI_pos ht, oD_zero, List.append_nil, List.append_assoc]
        exact nf_snoc a st _ (.I t) _ h rfl (glueN h4 hN rfl)
    | D n =>
      have hn : 0 < n := by simpa [pos] using hq
      refine .inl ⟨rfl, ?_, .inr (.inr (by simp only [S.add]; omega)), ?_⟩
      · show endsR (st ++ oR k); rw [oR_pos h1]; exact .inr ⟨_, _, rfl⟩
      · show nf (a ++ [.D n]) = (st ++ oR k) ++ (oI [] ++ oD (0 + n))
        rw [oR_pos h1, Nat.zero_add, oI_nil, List.nil_append, oD_pos hn, List.append_assoc]
        exact nf_snoc a st _ (.D n) _ h rfl (glueN h4 hN rfl)
def runS (s : S) (a : List Q) : S := a.foldl S.add s
theorem Sok_run (a : List Q) (pa : allPos a = true) : ∀ (s : S) (b : List Q), Sok s b → Sok (runS s a) (b ++ a) := by
  induction a with
  | nil => intro s b h; simpa [runS] using h
  | cons q a ih =>
    intro s b h
    unfold allPos at pa
    simp only [List.all_cons, Bool.and_eq_true] at pa
    have := ih (by unfold allPos; exact pa.2) (s.add q) (b ++ [q]) (Sok_add h pa.1)
    simpa [runS] using this
theorem inL_oR (n : Nat) : inL (oR n) = n := by
  unfold oR; split
  · rename_i h; rw [h]; rfl
  · rfl
theorem inL_oD (n : Nat) : inL (oD n) = n := by
  unfold oD; split
  · rename_i h; rw [h]; rfl
  · rfl
theorem outL_oI (t : List UInt8) : outL (oI t) = t.length := by
  unfold oI; split
  · rename_i h; rw [h]; rfl
  · rfl
/-- How large a state gets. -/
theorem S_bd {s : S} {a : List Q} (h : Sok s a) : s.set.length ≤ a.length ∧ s.kept ≤ inL a ∧ s.ins.length ≤ outL a ∧ s.rem ≤ inL a := by
  have e := Sok_fin h
  have hl := nf_length a
  have hi := inL_nf a
  have ho := outL_nf a
  rw [← e] at hl hi ho
  unfold S.fin at hl hi ho
  rw [inL_append, inL_append, inL_append] at hi
  rw [outL_append, outL_append, outL_append] at ho
  have k1 := inL_oR s.kept
  have k2 := inL_oD s.rem
  have k3 := outL_oI s.ins
  simp only [List.length_append] at hl
  omega
end Go.Proofs.Ytdpjnhmnmpmkmaa.D
