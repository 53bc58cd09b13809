/- The plain mathematics of lists of slots: taking, giving back, what is free, live and withdrawn; no handle twice. It speaks of no program. -/
import Derived.Test.YtniccjbcchdkoaaHandleMath
namespace Go.Proofs.Ytniccjbcchdkoaa.FL
open Go.Proofs.Ytniccjbcchdkoaa.H (Ok slot gen pack slot_pack gen_pack ok_pack pack_back)

/-- A list: states (0 free, 1 taken, 2 withdrawn), generations, the free slots, the top one first. -/
structure S where
  gens : Nat
  st : List Nat
  now : List Nat
  stk : List Nat
def S.at_ (s : S) (i : Nat) : Nat := s.st.getD i 3
def S.gn (s : S) (i : Nat) : Nat := s.now.getD i 0
def new (n g : Nat) : S := ⟨g, List.replicate n 0, List.replicate n 1, List.range n⟩
def S.live (s : S) (h : Nat) : Bool := decide (Ok h) && decide (slot h < s.st.length) && decide (s.at_ (slot h) = 1) && decide (gen h = s.gn (slot h))
theorem live_iff {s : S} {h : Nat} : s.live h = true ↔ Ok h ∧ slot h < s.st.length ∧ s.at_ (slot h) = 1 ∧ gen h = s.gn (slot h) := by
  unfold S.live; simp [and_assoc]
/-- P11.2. -/
def S.tkE (s : S) : Int := if s.stk = [] then 6 else 0
def S.tkH (s : S) : Nat := match s.stk with
  | [] => 0
  | x :: _ => pack x (s.gn x)
def S.tk (s : S) : S := match s.stk with
  | [] => s
  | x :: r => { s with st := s.st.set x 1, stk := r }
/-- P11.3. -/
def S.gvE (s : S) (h : Nat) : Int := if s.live h = true then 0 else 10
def S.gvB (s : S) (h : Nat) : Bool := s.live h && decide (s.gn (slot h) = s.gens)
def S.gv (s : S) (h : Nat) : S :=
  if s.live h = true then
    if s.gn (slot h) = s.gens then { s with st := s.st.set (slot h) 2 }
    else { s with st := s.st.set (slot h) 0, now := s.now.set (slot h) (s.gn (slot h) + 1), stk := slot h :: s.stk }
  else s
/-- P11.4. -/
def S.gnE (s : S) (i : Int) : Int := if i < 0 ∨ (s.st.length : Int) ≤ i then 3 else if s.at_ i.toNat = 2 then 7 else 0
def S.gnV (s : S) (i : Int) : Nat := if s.gnE i = 0 then s.gn i.toNat else 0
def S.those (s : S) (k : Nat) : List Nat := (List.range s.st.length).filter fun i => decide (s.at_ i = k)
def S.hands (s : S) : List Nat := (s.those 1).map fun i => pack i (s.gn i)
structure Inv (s : S) : Prop where
  n1 : 1 ≤ s.st.length
  n2 : s.st.length ≤ 16384
  g1 : 1 ≤ s.gens
  g2 : s.gens ≤ 4294967295
  len : s.now.length = s.st.length
  at_ : ∀ i, i < s.st.length → s.at_ i ≤ 2
  now : ∀ i, i < s.st.length → 1 ≤ s.gn i ∧ s.gn i ≤ s.gens
  nodup : s.stk.Nodup
  stk : ∀ i, i ∈ s.stk ↔ i < s.st.length ∧ s.at_ i = 0
theorem getD_set (l : List Nat) (i k v d : Nat) (h : i < l.length) : (l.set i v).getD k d = if k = i then v else l.getD k d := by
  rw [List.getD_eq_getElem?_getD, List.getD_eq_getElem?_getD, List.getElem?_set]
  by_cases e : i = k
  · subst e; rw [if_pos rfl, if_pos rfl, if_pos h]; rfl
  · rw [if_neg e, if_neg (fun c => e c.symm)]
theorem inv_new {n g : Nat} (h1 : 1 ≤ n) (h2 : n ≤ 16384) (h3 : 1 ≤ g) (h4 : g ≤ 4294967295) : Inv (new n g) := by
  have a : ∀ i, i < n → (new n g).at_ i = 0 := fun i hi => by
    unfold S.at_ new; rw [List.getD_eq_getElem?_getD, List.getElem?_replicate, if_pos hi]; rfl
  have b : ∀ i, i < n → (new n g).gn i = 1 := fun i hi => by
    unfold S.gn new; rw [List.getD_eq_getElem?_getD, List.getElem?_replicate, if_pos hi]; rfl
  have l : (new n g).st.length = n := List.length_replicate
  have l' : (new n g).now.length = n := List.length_replicate
  refine ⟨by omega, by omega, h3, h4, by omega, fun i hi => ?_, fun i hi => ?_, List.nodup_range, fun i => ?_⟩
  · rw [a i (by omega)]; omega
  · rw [b i (by omega)]; exact ⟨Nat.le_refl _, h3⟩
  · rw [l]
    show i ∈ List.range n ↔ _
    rw [List.mem_range]
    exact ⟨fun h => ⟨h, a i h⟩, fun h => h.1⟩
theorem tk_nil {s : S} (h : s.stk = []) : s.tk = s ∧ s.tkH = 0 ∧ s.tkE = 6 := by unfold S.tk S.tkH S.tkE; rw [h]; exact ⟨rfl, rfl, rfl⟩
/-- What a call of Take that returns a handle does. -/
structure Tk (s : S) (x : Nat) (r : List Nat) : Prop where
  stk : s.stk = x :: r
  err : s.tkE = 0
  hand : s.tkH = pack x (s.gn x)
  len : s.tk.st.length = s.st.length
  at_ : ∀ i, s.tk.at_ i = if i = x then 1 else s.at_ i
  gn : ∀ i, s.tk.gn i = s.gn i
  gens : s.tk.gens = s.gens
  rest : s.tk.stk = r
  lt : x < s.st.length
  was : s.at_ x = 0
  ok : Ok (pack x (s.gn x))
  slot : slot (pack x (s.gn x)) = x
  gen : gen (pack x (s.gn x)) = s.gn x
theorem tk_cons {s : S} (v : Inv s) {x : Nat} {r : List Nat} (h : s.stk = x :: r) : Tk s x r := by
  have hx := (v.stk x).1 (by rw [h]; exact List.mem_cons_self)
  have hn := v.now x hx.1
  have l := v.n2
  have g := v.g2
  have e : s.tk = { s with st := s.st.set x 1, stk := r } := by unfold S.tk; rw [h]
  refine ⟨h, by unfold S.tkE; rw [h, if_neg (by simp)], by unfold S.tkH; rw [h], by rw [e]; exact List.length_set, fun i => ?_, fun i => by rw [e]; rfl, by rw [e], by rw [e], hx.1, hx.2, ok_pack (by omega) (by omega) (by omega), slot_pack _ (by omega), gen_pack _ (by omega)⟩
  rw [e]; unfold S.at_; exact getD_set _ _ _ _ _ hx.1
theorem inv_tk {s : S} (v : Inv s) : Inv s.tk := by
  cases h : s.stk with
  | nil => rw [(tk_nil h).1]; exact v
  | cons x r =>
    have t := tk_cons v h
    have nd := v.nodup
    rw [h, List.nodup_cons] at nd
    have el : s.tk.now = s.now := by unfold S.tk; rw [h]
    refine ⟨by rw [t.len]; exact v.n1, by rw [t.len]; exact v.n2, by rw [t.gens]; exact v.g1, by rw [t.gens]; exact v.g2, by rw [el, t.len]; exact v.len, fun i hi => ?_, fun i hi => ?_, by rw [t.rest]; exact nd.2, fun i => ?_⟩
    · rw [t.len] at hi; rw [t.at_]; split
      · omega
      · exact v.at_ i hi
    · rw [t.len] at hi; rw [t.gn, t.gens]; exact v.now i hi
    · rw [t.rest, t.len, t.at_]
      have := v.stk i
      rw [h, List.mem_cons] at this
      by_cases c : i = x
      · subst c; rw [if_pos rfl]; exact ⟨fun k => absurd k nd.1, fun k => by omega⟩
      · rw [if_neg c, ← this]; exact ⟨Or.inr, fun k => k.resolve_left c⟩
/-- What a call of Give with a live handle does. -/
structure Gv (s : S) (h : Nat) : Prop where
  lt : slot h < s.st.length
  was : s.at_ (slot h) = 1
  len : (s.gv h).st.length = s.st.length
  gens : (s.gv h).gens = s.gens
  at_ : ∀ i, (s.gv h).at_ i = if i = slot h then (if s.gn (slot h) = s.gens then 2 else 0) else s.at_ i
  gn : ∀ i, (s.gv h).gn i = if i = slot h ∧ s.gn (slot h) ≠ s.gens then s.gn i + 1 else s.gn i
  stk : (s.gv h).stk = if s.gn (slot h) = s.gens then s.stk else slot h :: s.stk
  nlen : (s.gv h).now.length = s.now.length
theorem gv_no {s : S} {h : Nat} (k : s.live h = false) : s.gv h = s := by unfold S.gv; rw [if_neg (by rw [k]; simp)]
theorem gv_yes {s : S} (v : Inv s) {h : Nat} (k : s.live h = true) : Gv s h := by
  obtain ⟨_, k2, k3, _⟩ := live_iff.1 k
  by_cases c : s.gn (slot h) = s.gens
  · have e : s.gv h = { s with st := s.st.set (slot h) 2 } := by unfold S.gv; rw [if_pos k, if_pos c]
    refine ⟨k2, k3, by rw [e]; exact List.length_set, by rw [e], fun i => ?_, fun i => ?_, by rw [e, if_pos c], by rw [e]⟩
    · rw [e, if_pos c]; unfold S.at_; exact getD_set _ _ _ _ _ k2
    · rw [e, if_neg (fun x => x.2 c)]; rfl
  · have e : s.gv h = { s with st := s.st.set (slot h) 0, now := s.now.set (slot h) (s.gn (slot h) + 1), stk := slot h :: s.stk } := by unfold S.gv; rw [if_pos k, if_neg c]
    refine ⟨k2, k3, by rw [e]; exact List.length_set, by rw [e], fun i => ?_, fun i => ?_, by rw [e, if_neg c], by rw [e]; exact List.length_set⟩
    · rw [e, if_neg c]; unfold S.at_; exact getD_set _ _ _ _ _ k2
    · rw [e]
      have := getD_set s.now (slot h) i (s.gn (slot h) + 1) 0 (by rw [v.len]; exact k2)
      show (s.now.set (slot h) (s.gn (slot h) + 1)).getD i 0 = _
      rw [this]
      by_cases d : i = slot h
      · subst d; rw [if_pos rfl, if_pos ⟨rfl, c⟩]
      · rw [if_neg d, if_neg (fun x => d x.1)]; rfl
theorem inv_gv {s : S} (v : Inv s) (h : Nat) : Inv (s.gv h) := by
  cases k : s.live h with
  | false => rw [gv_no k]; exact v
  | true =>
    have t := gv_yes v k
    have nn := v.now (slot h) t.lt
    refine ⟨by rw [t.len]; exact v.n1, by rw [t.len]; exact v.n2, by rw [t.gens]; exact v.g1, by rw [t.gens]; exact v.g2, by rw [t.nlen, t.len]; exact v.len, fun i hi => ?_, fun i hi => ?_, ?_, fun i => ?_⟩
    · rw [t.len] at hi; rw [t.at_]; split
      · split <;> omega
      · exact v.at_ i hi
    · rw [t.len] at hi; rw [t.gn, t.gens]; have := v.now i hi; split
      · rename_i c; obtain ⟨rfl, c⟩ := c; omega
      · exact this
    · rw [t.stk]; split
      · exact v.nodup
      · rw [List.nodup_cons]
        refine ⟨fun c => ?_, v.nodup⟩
        have := ((v.stk _).1 c).2
        have := t.was; omega
    · rw [t.stk, t.len, t.at_]
      have b := v.stk i
      by_cases c : s.gn (slot h) = s.gens
      · rw [if_pos c, if_pos c, b]
        by_cases d : i = slot h
        · subst d; rw [if_pos rfl]; have := t.was; omega
        · rw [if_neg d]
      · rw [if_neg c, if_neg c, List.mem_cons, b]
        by_cases d : i = slot h
        · subst d; rw [if_pos rfl]; exact ⟨fun _ => ⟨t.lt, rfl⟩, fun _ => Or.inl rfl⟩
        · rw [if_neg d]; exact ⟨fun x => x.resolve_left d, Or.inr⟩

/-! ### Each slot is exactly one of three (P11.5) -/
theorem mem_those {s : S} {k i : Nat} : i ∈ s.those k ↔ i < s.st.length ∧ s.at_ i = k := by unfold S.those; rw [List.mem_filter, List.mem_range]; simp
theorem those_nodup (s : S) (k : Nat) : (s.those k).Nodup := List.nodup_range.filter _
theorem those_asc (s : S) (k : Nat) : (s.those k).Pairwise (· < ·) := List.Pairwise.filter _ List.pairwise_lt_range
theorem count_one {l : List Nat} (h : l.Nodup) (i : Nat) : l.count i = if i ∈ l then 1 else 0 := by
  split
  · rename_i c; have := List.count_pos_iff.2 c; have := List.nodup_iff_count.1 h i; omega
  · rename_i c; exact List.count_eq_zero.2 c
theorem partition {s : S} (v : Inv s) {i : Nat} (h : i < s.st.length) : s.stk.count i + (s.those 2).count i + (s.those 1).count i = 1 := by
  rw [count_one v.nodup, count_one (those_nodup s 2), count_one (those_nodup s 1)]
  have := v.at_ i h
  have a := v.stk i
  have b := mem_those (s := s) (k := 2) (i := i)
  have c := mem_those (s := s) (k := 1) (i := i)
  rcases (show s.at_ i = 0 ∨ s.at_ i = 1 ∨ s.at_ i = 2 by omega) with e | e | e
  · rw [if_pos (a.2 ⟨h, e⟩), if_neg (fun x => by have := (b.1 x).2; omega), if_neg (fun x => by have := (c.1 x).2; omega)]
  · rw [if_neg (fun x => by have := (a.1 x).2; omega), if_neg (fun x => by have := (b.1 x).2; omega), if_pos (c.2 ⟨h, e⟩)]
  · rw [if_neg (fun x => by have := (a.1 x).2; omega), if_pos (b.2 ⟨h, e⟩), if_neg (fun x => by have := (c.1 x).2; omega)]
theorem hand_of {s : S} (v : Inv s) {i : Nat} (h : i < s.st.length) : Ok (pack i (s.gn i)) ∧ slot (pack i (s.gn i)) = i ∧ gen (pack i (s.gn i)) = s.gn i := by
  have := v.n2; have := v.g2; have := v.now i h
  exact ⟨ok_pack (by omega) (by omega) (by omega), slot_pack _ (by omega), gen_pack _ (by omega)⟩
theorem mem_hands {s : S} (v : Inv s) {h : Nat} : h ∈ s.hands ↔ s.live h = true := by
  unfold S.hands
  rw [List.mem_map, live_iff]
  constructor
  · rintro ⟨i, hi, rfl⟩
    obtain ⟨h1, h2⟩ := mem_those.1 hi
    obtain ⟨k1, k2, k3⟩ := hand_of v h1
    rw [k2, k3]; exact ⟨k1, h1, h2, rfl⟩
  · rintro ⟨k1, k2, k3, k4⟩
    exact ⟨slot h, mem_those.2 ⟨k2, k3⟩, by rw [← k4, pack_back]⟩
theorem hands_nodup {s : S} (v : Inv s) : s.hands.Nodup := by
  unfold S.hands
  unfold List.Nodup
  rw [List.pairwise_map]
  refine List.Pairwise.imp_of_mem ?_ (those_nodup s 1)
  intro a b ha hb hne e
  have h1 := hand_of v (mem_those.1 ha).1
  have h2 := hand_of v (mem_those.1 hb).1
  rw [e] at h1
  exact hne (h1.2.1.symm.trans h2.2.1)

/-! ### No handle twice (P11.5) -/
/-- All handles that were returned, and those that were given back. -/
structure Hist (s : S) (all dead : List Nat) : Prop where
  nodup : all.Nodup
  all_ : ∀ h, h ∈ all ↔ Ok h ∧ slot h < s.st.length ∧ (gen h < s.gn (slot h) ∨ (gen h = s.gn (slot h) ∧ s.at_ (slot h) ≠ 0))
  dead_ : ∀ h, h ∈ dead ↔ h ∈ all ∧ s.live h = false
theorem hist_new {n g : Nat} : Hist (new n g) [] [] := by
  refine ⟨List.nodup_nil, fun h => ?_, fun h => by simp⟩
  have l : (new n g).st.length = n := List.length_replicate
  refine ⟨fun k => by (cases k), ?_⟩
  rintro ⟨k1, k2, k3⟩
  have e : (new n g).gn (slot h) = 1 := by unfold S.gn new; rw [List.getD_eq_getElem?_getD, List.getElem?_replicate, if_pos (by omega)]; rfl
  have e0 : (new n g).at_ (slot h) = 0 := by unfold S.at_ new; rw [List.getD_eq_getElem?_getD, List.getElem?_replicate, if_pos (by omega)]; rfl
  have := k1.one
  rcases k3 with k3 | k3 <;> omega
theorem live_tk {s : S} (v : Inv s) {x : Nat} {r : List Nat} (h : s.stk = x :: r) (g : Nat) : s.tk.live g = true ↔ s.live g = true ∨ g = pack x (s.gn x) := by
  have t := tk_cons v h
  rw [live_iff, live_iff, t.len, t.at_, t.gn]
  constructor
  · rintro ⟨k1, k2, k3, k4⟩
    by_cases c : slot g = x
    · right; rw [← c, ← k4, pack_back]
    · rw [if_neg c] at k3; exact Or.inl ⟨k1, k2, k3, k4⟩
  · rintro (⟨k1, k2, k3, k4⟩ | rfl)
    · refine ⟨k1, k2, ?_, k4⟩
      split
      · rfl
      · exact k3
    · rw [t.slot, t.gen, if_pos rfl]; exact ⟨t.ok, t.lt, rfl, rfl⟩
theorem hist_tk {s : S} (v : Inv s) {all dead : List Nat} (k : Hist s all dead) {x : Nat} {r : List Nat} (h : s.stk = x :: r) :
    s.tkH ∉ all ∧ s.tk.live s.tkH = true ∧ Hist s.tk (all ++ [s.tkH]) dead := by
  have t := tk_cons v h
  have hn : s.tkH ∉ all := by
    rw [t.hand, k.all_]
    rintro ⟨_, _, c⟩
    rw [t.slot, t.gen] at c
    have := t.was
    rcases c with c | c <;> omega
  have hl : s.tk.live s.tkH = true := (live_tk v h _).2 (Or.inr t.hand)
  refine ⟨hn, hl, ?_, fun g => ?_, fun g => ?_⟩
  · rw [List.nodup_append]
    refine ⟨k.nodup, List.pairwise_singleton _ _, fun a ha b hb => ?_⟩
    rw [List.mem_singleton.1 hb]
    intro e; rw [e] at ha; exact hn ha
  · rw [List.mem_append, List.mem_singleton, k.all_, t.len, t.gn, t.at_, t.hand]
    constructor
    · rintro (⟨k1, k2, k3⟩ | rfl)
      · refine ⟨k1, k2, ?_⟩
        rcases k3 with k3 | k3
        · exact Or.inl k3
        · refine Or.inr ⟨k3.1, ?_⟩
          split
          · omega
          · exact k3.2
      · rw [t.slot, t.gen, if_pos rfl]; exact ⟨t.ok, t.lt, Or.inr ⟨rfl, by omega⟩⟩
    · rintro ⟨k1, k2, k3⟩
      by_cases c : slot g = x
      · rcases k3 with k3 | k3
        · exact Or.inl ⟨k1, k2, Or.inl k3⟩
        · right; rw [← c, ← k3.1, pack_back]
      · rw [if_neg c] at k3; exact Or.inl ⟨k1, k2, k3⟩
  · rw [k.dead_, List.mem_append, List.mem_singleton]
    have lt := live_tk v h g
    rw [← t.hand] at lt
    constructor
    · rintro ⟨k1, k2⟩
      refine ⟨Or.inl k1, ?_⟩
      cases c : s.tk.live g with
      | false => rfl
      | true =>
        rcases lt.1 c with d | d
        · rw [d] at k2; cases k2
        · rw [d] at k1; exact absurd k1 hn
    · rintro ⟨k1, k2⟩
      have nl : s.live g = false := by
        cases c : s.live g with
        | false => rfl
        | true => rw [lt.2 (Or.inl c)] at k2; cases k2
      rcases k1 with k1 | rfl
      · exact ⟨k1, nl⟩
      · rw [hl] at k2; cases k2
theorem live_gv {s : S} (v : Inv s) {h : Nat} (k : s.live h = true) (g : Nat) : (s.gv h).live g = true ↔ s.live g = true ∧ g ≠ h := by
  have t := gv_yes v k
  obtain ⟨o1, o2, o3, o4⟩ := live_iff.1 k
  rw [live_iff, live_iff, t.len, t.at_, t.gn]
  constructor
  · rintro ⟨k1, k2, k3, k4⟩
    by_cases c : slot g = slot h
    · rw [if_pos c] at k3; split at k3 <;> cases k3
    · rw [if_neg c] at k3
      rw [if_neg (fun x => c x.1)] at k4
      exact ⟨⟨k1, k2, k3, k4⟩, fun e => c (by rw [e])⟩
  · rintro ⟨⟨k1, k2, k3, k4⟩, k5⟩
    have c : slot g ≠ slot h := fun c => k5 (by rw [← pack_back g, ← pack_back h, c, k4, o4, c])
    rw [if_neg c, if_neg (fun x => c x.1)]
    exact ⟨k1, k2, k3, k4⟩
theorem hist_gv {s : S} (v : Inv s) {all dead : List Nat} (k : Hist s all dead) {h : Nat} (hl : s.live h = true) :
    h ∈ all ∧ h ∉ dead ∧ Hist (s.gv h) all (dead ++ [h]) := by
  have t := gv_yes v hl
  obtain ⟨o1, o2, o3, o4⟩ := live_iff.1 hl
  have ha : h ∈ all := (k.all_ h).2 ⟨o1, o2, Or.inr ⟨o4, by omega⟩⟩
  have hd : h ∉ dead := fun c => by have := ((k.dead_ h).1 c).2; rw [hl] at this; cases this
  have hn := v.now (slot h) o2
  refine ⟨ha, hd, k.nodup, fun g => ?_, fun g => ?_⟩
  · rw [k.all_, t.len, t.gn, t.at_]
    by_cases c : slot g = slot h
    · rw [if_pos c]
      by_cases d : s.gn (slot h) = s.gens
      · rw [if_pos d, if_neg (fun x => x.2 d), c]
        have := o3
        constructor
        · rintro ⟨k1, k2, k3⟩
          refine ⟨k1, k2, ?_⟩
          rcases k3 with k3 | k3
          · exact Or.inl k3
          · exact Or.inr ⟨k3.1, by omega⟩
        · rintro ⟨k1, k2, k3⟩
          refine ⟨k1, k2, ?_⟩
          rcases k3 with k3 | k3
          · exact Or.inl k3
          · exact Or.inr ⟨k3.1, by omega⟩
      · rw [if_neg d, if_pos ⟨c, d⟩, c]
        constructor
        · rintro ⟨k1, k2, k3⟩
          refine ⟨k1, k2, Or.inl ?_⟩
          rcases k3 with k3 | k3 <;> omega
        · rintro ⟨k1, k2, k3⟩
          refine ⟨k1, k2, ?_⟩
          rcases k3 with k3 | k3
          · rcases Nat.lt_or_eq_of_le (Nat.le_of_lt_succ k3) with e | e
            · exact Or.inl e
            · exact Or.inr ⟨e, by omega⟩
          · exact absurd rfl k3.2
    · rw [if_neg c, if_neg (fun x => c x.1)]
  · rw [List.mem_append, List.mem_singleton, k.dead_]
    have lg := live_gv v hl g
    constructor
    · rintro (⟨k1, k2⟩ | rfl)
      · refine ⟨k1, ?_⟩
        cases c : (s.gv h).live g with
        | false => rfl
        | true => rw [(lg.1 c).1] at k2; cases k2
      · refine ⟨ha, ?_⟩
        cases c : (s.gv g).live g with
        | false => rfl
        | true => exact absurd rfl (lg.1 c).2
    · rintro ⟨k1, k2⟩
      by_cases e : g = h
      · exact Or.inr e
      · left
        refine ⟨k1, ?_⟩
        cases c : s.live g with
        | false => rfl
        | true => rw [lg.2 ⟨c, e⟩] at k2; cases k2
/-- A handle that was returned is live exactly if it was not given back. -/
theorem hist_live {s : S} {all dead : List Nat} (k : Hist s all dead) {h : Nat} (ha : h ∈ all) : s.live h = true ↔ h ∉ dead := by
  rw [k.dead_]
  cases s.live h <;> simp [ha]
theorem live_in {s : S} {all dead : List Nat} (k : Hist s all dead) {h : Nat} (hl : s.live h = true) : h ∈ all := by
  obtain ⟨o1, o2, o3, o4⟩ := live_iff.1 hl
  exact (k.all_ h).2 ⟨o1, o2, Or.inr ⟨o4, by omega⟩⟩
/-- As many of all handles are live as there are live handles. -/
theorem many {s : S} (v : Inv s) {all dead : List Nat} (k : Hist s all dead) : (all.filter fun h => s.live h).length = s.hands.length := by
  have p : (all.filter fun h => s.live h).Perm s.hands := by
    rw [List.perm_ext_iff_of_nodup (k.nodup.filter _) (hands_nodup v)]
    intro h
    rw [List.mem_filter, mem_hands v]
    exact ⟨fun x => x.2, fun x => ⟨live_in k x, x⟩⟩
  exact p.length_eq

/-! ### The stack (P11.7) -/
theorem stack {s : S} (v : Inv s) {x : Nat} {r : List Nat} (h : s.stk = x :: r) : s.tk.gvE s.tkH = 0 ∧
    (s.tk.gvB s.tkH = true → (s.tk.gv s.tkH).stk = s.tk.stk) ∧
    (s.tk.gvB s.tkH = false → (s.tk.gv s.tkH).tkE = 0 ∧ (s.tk.gv s.tkH).tkH = s.tkH + 65536 ∧ gen s.tkH ≠ 4294967295 ∧ (s.tk.gv s.tkH).tk.stk = s.tk.stk) := by
  have t := tk_cons v h
  have hl : s.tk.live s.tkH = true := (live_tk v h _).2 (Or.inr t.hand)
  have u := gv_yes (inv_tk v) hl
  have es : slot s.tkH = x := by rw [t.hand, t.slot]
  have ug := u.gn
  have us := u.stk
  rw [es, t.gn, t.gens] at us
  refine ⟨by unfold S.gvE; rw [if_pos hl], fun k => ?_, fun k => ?_⟩
  · have c : s.gn x = s.gens := by unfold S.gvB at k; rw [hl, es, t.gn, t.gens] at k; simpa using k
    rw [us, if_pos c]
  · have c : s.gn x ≠ s.gens := by unfold S.gvB at k; rw [hl, es, t.gn, t.gens] at k; simpa using k
    rw [if_neg c] at us
    have t2 := tk_cons (inv_gv (inv_tk v) _) us
    have hn := v.now x t.lt
    have g2 := v.g2
    refine ⟨t2.err, ?_, ?_, t2.rest⟩
    · rw [t2.hand, ug, es, if_pos ⟨rfl, by rw [t.gn, t.gens]; exact c⟩, t.gn, t.hand]
      unfold pack; omega
    · rw [t.hand, t.gen]; omega

/-! ### How often a slot is taken (P11.6) -/
/-- How often a slot was taken. -/
def S.took (s : S) (i : Nat) : Nat := s.gn i - 1 + (if s.at_ i = 0 then 0 else 1)
/-- How often slots were taken and given back. -/
def S.deeds (s : S) : Nat := ((List.range s.st.length).map fun i => 2 * (s.gn i - 1) + s.at_ i).sum
theorem took_le {s : S} (v : Inv s) {i : Nat} (h : i < s.st.length) : s.took i ≤ s.gens := by
  have := v.now i h
  unfold S.took; split <;> omega
theorem took_tk {s : S} (v : Inv s) {x : Nat} {r : List Nat} (h : s.stk = x :: r) (i : Nat) : s.tk.took i = if i = x then s.took i + 1 else s.took i := by
  have t := tk_cons v h
  unfold S.took
  rw [t.gn, t.at_]
  by_cases c : i = x
  · subst c; rw [if_pos rfl, if_pos rfl, t.was, if_pos rfl, if_neg (by omega)]
  · rw [if_neg c, if_neg c]
theorem took_gv {s : S} (v : Inv s) {h : Nat} (k : s.live h = true) (i : Nat) : (s.gv h).took i = s.took i := by
  have t := gv_yes v k
  have hn := v.now (slot h) t.lt
  unfold S.took
  rw [t.gn, t.at_]
  by_cases c : i = slot h
  · subst c
    rw [if_pos rfl, t.was]
    by_cases d : s.gn (slot h) = s.gens
    · rw [if_pos d, if_neg (fun x => x.2 d)]; rfl
    · rw [if_neg d, if_pos ⟨rfl, d⟩, if_pos rfl, if_neg (by omega)]; omega
  · rw [if_neg c, if_neg (fun x => c x.1)]
theorem sum_add {f g : Nat → Nat} {x d : Nat} (hx : g x = f x + d) (hf : ∀ i, i ≠ x → g i = f i) : ∀ n, x < n → ((List.range n).map g).sum = ((List.range n).map f).sum + d := by
  have same : ∀ n, n ≤ x → ((List.range n).map g).sum = ((List.range n).map f).sum := by
    intro n
    induction n with
    | zero => intro _; rfl
    | succ n ih =>
      intro h
      rw [List.range_succ, List.map_append, List.map_append, List.sum_append, List.sum_append, ih (by omega)]
      simp [hf n (by omega)]
  intro n
  induction n with
  | zero => intro h; omega
  | succ n ih =>
    intro h
    rw [List.range_succ, List.map_append, List.map_append, List.sum_append, List.sum_append]
    by_cases c : x = n
    · subst c; rw [same x (Nat.le_refl _)]; simp [hx]; omega
    · rw [ih (by omega)]; simp [hf n (fun e => c e.symm)]; omega
theorem deeds_tk {s : S} (v : Inv s) {x : Nat} {r : List Nat} (h : s.stk = x :: r) : s.tk.deeds = s.deeds + 1 := by
  have t := tk_cons v h
  unfold S.deeds
  rw [t.len]
  refine sum_add (x := x) ?_ (fun i hi => ?_) _ t.lt
  · rw [t.gn, t.at_, if_pos rfl, t.was]
  · rw [t.gn, t.at_, if_neg hi]
theorem deeds_gv {s : S} (v : Inv s) {h : Nat} (k : s.live h = true) : (s.gv h).deeds = s.deeds + 1 := by
  have t := gv_yes v k
  have hn := v.now (slot h) t.lt
  unfold S.deeds
  rw [t.len]
  refine sum_add (x := slot h) ?_ (fun i hi => ?_) _ t.lt
  · rw [t.gn, t.at_, if_pos rfl, t.was]
    by_cases d : s.gn (slot h) = s.gens
    · rw [if_pos d, if_neg (fun x => x.2 d)]
    · rw [if_neg d, if_pos ⟨rfl, d⟩]; omega
  · rw [t.gn, t.at_, if_neg hi, if_neg (fun x => hi x.1)]
theorem deeds_le {s : S} (v : Inv s) : s.deeds ≤ 2 * s.st.length * s.gens := by
  unfold S.deeds
  have : ∀ n, n ≤ s.st.length → ((List.range n).map fun i => 2 * (s.gn i - 1) + s.at_ i).sum ≤ n * (2 * s.gens) := by
    intro n
    induction n with
    | zero => intro _; simp
    | succ n ih =>
      intro h
      rw [List.range_succ, List.map_append, List.sum_append]
      have := ih (by omega)
      have := v.now n (by omega)
      have := v.at_ n (by omega)
      rw [Nat.succ_mul]
      simp; omega
  have := this _ (Nat.le_refl _)
  rw [Nat.mul_comm 2, Nat.mul_assoc]; exact this
/-- Nothing is free or live any more. -/
theorem all_gone {s : S} (v : Inv s) (h1 : s.stk = []) (h2 : s.hands = []) {i : Nat} (h : i < s.st.length) : s.at_ i = 2 ∧ i ∈ s.those 2 := by
  have a := v.at_ i h
  have b := v.stk i
  rw [h1] at b
  have c : s.those 1 = [] := by unfold S.hands at h2; exact List.map_eq_nil_iff.1 h2
  have d := mem_those (s := s) (k := 1) (i := i)
  rw [c] at d
  have e0 : s.at_ i ≠ 0 := fun e => by have := b.2 ⟨h, e⟩; cases this
  have e1 : s.at_ i ≠ 1 := fun e => by have := d.2 ⟨h, e⟩; cases this
  exact ⟨by omega, mem_those.2 ⟨h, by omega⟩⟩
/-- A withdrawn slot has the last generation. -/
def Wd (s : S) : Prop := ∀ i, i < s.st.length → s.at_ i = 2 → s.gn i = s.gens
theorem wd_new (n g : Nat) : Wd (new n g) := fun i hi h => by
  have l : (new n g).st.length = n := List.length_replicate
  have : (new n g).at_ i = 0 := by unfold S.at_ new; rw [List.getD_eq_getElem?_getD, List.getElem?_replicate, if_pos (by omega)]; rfl
  omega
theorem wd_tk {s : S} (v : Inv s) (k : Wd s) : Wd s.tk := by
  cases h : s.stk with
  | nil => rw [(tk_nil h).1]; exact k
  | cons x r =>
    have t := tk_cons v h
    intro i hi e
    rw [t.len] at hi
    rw [t.at_] at e
    rw [t.gn, t.gens]
    split at e
    · cases e
    · exact k i hi e
theorem wd_gv {s : S} (v : Inv s) (k : Wd s) (h : Nat) : Wd (s.gv h) := by
  cases l : s.live h with
  | false => rw [gv_no l]; exact k
  | true =>
    have t := gv_yes v l
    intro i hi e
    rw [t.len] at hi
    rw [t.at_] at e
    rw [t.gn, t.gens]
    by_cases c : i = slot h
    · rw [if_pos c] at e
      by_cases d : s.gn (slot h) = s.gens
      · rw [if_neg (fun x => x.2 d), c]; exact d
      · rw [if_neg d] at e; cases e
    · rw [if_neg c] at e
      rw [if_neg (fun x => c x.1)]; exact k i hi e
theorem took_all {s : S} (k : Wd s) {i : Nat} (v : Inv s) (h : i < s.st.length) (e : s.at_ i = 2) : s.took i = s.gens := by
  have := k i h e
  have := v.now i h
  unfold S.took; rw [if_neg (by omega)]; omega
/-- How many slots are withdrawn. -/
def S.gone (s : S) : Nat := (s.those 2).length
theorem gone_le (s : S) : s.gone ≤ s.st.length := by
  unfold S.gone S.those
  have := List.length_filter_le (fun i => decide (s.at_ i = 2)) (List.range s.st.length)
  rw [List.length_range] at this; exact this
theorem those_congr {s u : S} {k : Nat} (hl : u.st.length = s.st.length) (h : ∀ i, i < s.st.length → (u.at_ i = k ↔ s.at_ i = k)) : u.those k = s.those k := by
  unfold S.those
  rw [hl]
  refine List.filter_congr fun i hi => ?_
  rw [decide_eq_decide]; exact h i (List.mem_range.1 hi)
theorem gone_new (n g : Nat) : (new n g).gone = 0 := by
  have l : (new n g).st.length = n := List.length_replicate
  unfold S.gone
  have : (new n g).those 2 = [] := by
    unfold S.those
    rw [List.filter_eq_nil_iff]
    intro i hi
    have hi := List.mem_range.1 hi
    have : (new n g).at_ i = 0 := by unfold S.at_ new; rw [List.getD_eq_getElem?_getD, List.getElem?_replicate, if_pos (by omega)]; rfl
    simp [this]
  rw [this]; rfl
theorem gone_tk {s : S} (v : Inv s) : s.tk.gone = s.gone := by
  cases h : s.stk with
  | nil => rw [(tk_nil h).1]
  | cons x r =>
    have t := tk_cons v h
    unfold S.gone
    rw [those_congr t.len fun i hi => ?_]
    rw [t.at_]
    by_cases c : i = x
    · subst c; rw [if_pos rfl, t.was]; omega
    · rw [if_neg c]
theorem filter_add {p q : Nat → Bool} {x : Nat} (hx : p x = false) (hq : q x = true) (h : ∀ i, i ≠ x → q i = p i) : ∀ n, x < n → ((List.range n).filter q).length = ((List.range n).filter p).length + 1 := by
  intro n hn
  have e : ∀ r : Nat → Bool, ((List.range n).filter r).length = ((List.range n).map fun i => if r i = true then 1 else 0).sum := by
    intro r
    induction List.range n with
    | nil => rfl
    | cons a l ih => rw [List.filter_cons, List.map_cons, List.sum_cons, ← ih]; split <;> simp <;> omega
  rw [e q, e p]
  exact sum_add (x := x) (by rw [hx, hq]; rfl) (fun i hi => by rw [h i hi]) n hn
theorem gone_gv {s : S} (v : Inv s) (h : Nat) : (s.gv h).gone = s.gone + (if s.gvB h = true then 1 else 0) := by
  cases l : s.live h with
  | false => rw [gv_no l]; unfold S.gvB; rw [l]; rfl
  | true =>
    have t := gv_yes v l
    by_cases d : s.gn (slot h) = s.gens
    · have b : s.gvB h = true := by unfold S.gvB; rw [l]; simpa using d
      rw [b, if_pos rfl]
      unfold S.gone S.those
      rw [t.len]
      refine filter_add (x := slot h) (by rw [t.was]; rfl) (by rw [t.at_, if_pos rfl, if_pos d]; rfl) (fun i hi => by rw [t.at_, if_neg hi]) _ t.lt
    · have b : s.gvB h = false := by unfold S.gvB; rw [l]; simpa using d
      rw [b, if_neg (by simp)]
      unfold S.gone
      rw [those_congr t.len fun i hi => ?_]; · rfl
      rw [t.at_]
      by_cases c : i = slot h
      · subst c; rw [if_pos rfl, if_neg d, t.was]; omega
      · rw [if_neg c]
/-- Behind enough rounds, each of which takes or gives back as long as it can, all slots are withdrawn. -/
theorem bound {s : S} (v : Inv s) (k : Wd s) {n g : Nat} (hn : s.st.length = n) (hg : s.gens = g) (h : (s.stk = [] ∧ s.hands = []) ∨ 4 * n * g ≤ s.deeds) : s.stk = [] ∧ s.gone = n ∧ ∀ i, i < n → s.took i = g := by
  have d : s.stk = [] ∧ s.hands = [] := by
    rcases h with h | h
    · exact h
    · have l := deeds_le v
      have a := v.n1
      have b := v.g1
      rw [hn, hg] at l
      have : 0 < n * g := Nat.mul_pos (by omega) (by omega)
      rw [Nat.mul_assoc] at l h
      omega
  have f : ∀ i, i < s.st.length → s.at_ i = 2 := fun i hi => (all_gone v d.1 d.2 hi).1
  refine ⟨d.1, ?_, fun i hi => by rw [took_all k v (by omega) (f i (by omega)), hg]⟩
  unfold S.gone S.those
  rw [List.filter_eq_self.2 fun i hi => by simpa using f i (List.mem_range.1 hi), List.length_range, hn]
end Go.Proofs.Ytniccjbcchdkoaa.FL
