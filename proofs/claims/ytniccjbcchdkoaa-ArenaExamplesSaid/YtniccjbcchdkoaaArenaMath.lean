/- The plain mathematics of arenas: a list of slots with a node for each live handle, and counts. It speaks of no program. -/
import Derived.Test.YtniccjbcchdkoaaFreeMath
import Derived.Test.YtniccjbcchdkoaaNodeMath
namespace Go.Proofs.Ytniccjbcchdkoaa.A13
open Go.Proofs.Ytniccjbcchdkoaa

/-- The measure of a node is a parameter: three numbers. -/
structure A where
  l : FL.S
  items : List (Nat × N.Nd)
  al : Nat
  fr : Nat
  st : Nat
def new (n g : Nat) : A := ⟨FL.new n g, [], 0, 0, 0⟩
def A.look (a : A) (h : Nat) : Option N.Nd := (a.items.find? fun i => i.1 == h).map Prod.snd
variable (ms : N.Nd → Int × Int × Int)
def kidE (a : A) (x : N.Nd) (k : N.K) : Int := match a.look k.at_ with
  | none => 10
  | some y => if y.h = x.h - 1 ∧ ms y = (k.b, k.r, k.l) then 0 else 23
def kidsE (a : A) (x : N.Nd) : List N.K → Int
  | [] => 0
  | k :: r => if kidE ms a x k = 0 then kidsE a x r else kidE ms a x k
/-- P13.2. -/
def alE (a : A) (x : N.Nd) : Int := if N.chk x = 0 then (if kidsE ms a x x.ks = 0 then a.l.tkE else kidsE ms a x x.ks) else N.chk x
def alH (a : A) (x : N.Nd) : Nat := if alE ms a x = 0 then a.l.tkH else 0
def al (a : A) (x : N.Nd) : A := if alE ms a x = 0 then { a with l := a.l.tk, items := a.items ++ [(a.l.tkH, x)], al := a.al + 1 } else a
/-- P13.3. -/
def A.has (a : A) (h : Nat) : Bool := (a.look h).isSome
def A.gtE (a : A) (h : Nat) : Int := if a.has h = true then 0 else 10
def A.gt (a : A) (h : Nat) : A := if a.has h = true then a else { a with st := a.st + 1 }
def A.free (a : A) (h : Nat) : A := if a.has h = true then { a with l := a.l.gv h, items := a.items.filter (fun i => !(i.1 == h)), fr := a.fr + 1 } else { a with st := a.st + 1 }
structure Inv (a : A) : Prop where
  l : FL.Inv a.l
  nodup : (a.items.map Prod.fst).Nodup
  live : ∀ h, h ∈ a.items.map Prod.fst ↔ a.l.live h = true
theorem look_some {a : A} {h : Nat} {x : N.Nd} (k : a.look h = some x) : (h, x) ∈ a.items := by
  unfold A.look at k
  obtain ⟨i, hi, rfl⟩ := Option.map_eq_some_iff.1 k
  have h1 := List.mem_of_find?_eq_some hi
  have h2 := List.find?_some hi
  have : i.1 = h := by simpa using h2
  rw [← this]; exact h1
theorem look_none {a : A} {h : Nat} : a.look h = none ↔ h ∉ a.items.map Prod.fst := by
  unfold A.look
  rw [Option.map_eq_none_iff, List.find?_eq_none, List.mem_map]
  constructor
  · rintro k ⟨i, hi, e⟩; exact k i hi (by simpa using e)
  · intro k i hi e; exact k ⟨i, hi, by simpa using e⟩
theorem pair_eq {l : List (Nat × N.Nd)} (h : (l.map Prod.fst).Nodup) : ∀ {i j : Nat × N.Nd}, i ∈ l → j ∈ l → i.1 = j.1 → i = j := by
  induction l with
  | nil => intro i j hi; cases hi
  | cons a l ih =>
    rw [List.map_cons, List.nodup_cons] at h
    intro i j hi hj e
    rcases List.mem_cons.1 hi with h1 | h1 <;> rcases List.mem_cons.1 hj with h2 | h2
    · rw [h1, h2]
    · exact absurd (List.mem_map.2 ⟨j, h2, by rw [← e, h1]⟩) h.1
    · exact absurd (List.mem_map.2 ⟨i, h1, by rw [e, h2]⟩) h.1
    · exact ih h.2 h1 h2 e
theorem look_of {a : A} (v : Inv a) {h : Nat} {x : N.Nd} (k : (h, x) ∈ a.items) : a.look h = some x := by
  cases e : a.look h with
  | none => exact absurd (List.mem_map.2 ⟨_, k, rfl⟩) (look_none.1 e)
  | some y => have := pair_eq v.nodup (look_some e) k rfl; cases this; rfl
theorem look_iff {a : A} (v : Inv a) {h : Nat} {x : N.Nd} : a.look h = some x ↔ (h, x) ∈ a.items := ⟨look_some, look_of v⟩
theorem has_iff {a : A} (v : Inv a) {h : Nat} : a.has h = true ↔ a.l.live h = true := by
  rw [← v.live]
  unfold A.has
  cases e : a.look h with
  | none => exact ⟨fun k => (by cases k), fun k => absurd k (look_none.1 e)⟩
  | some x => exact ⟨fun _ => List.mem_map.2 ⟨_, look_some e, rfl⟩, fun _ => rfl⟩
theorem inv_new {n g : Nat} (h1 : 1 ≤ n) (h2 : n ≤ 16384) (h3 : 1 ≤ g) (h4 : g ≤ 4294967295) : Inv (new n g) := by
  refine ⟨FL.inv_new h1 h2 h3 h4, List.nodup_nil, fun h => ⟨fun k => (by cases k), fun k => ?_⟩⟩
  have := FL.live_in (FL.hist_new (n := n) (g := g)) k
  cases this
variable {ms}
/-- What an Alloc that returns a handle does. -/
structure Al (ms : N.Nd → Int × Int × Int) (a : A) (x : N.Nd) : Prop where
  node : N.chk x = 0
  kids : kidsE ms a x x.ks = 0
  top : ∃ s r, a.l.stk = s :: r
  hand : alH ms a x = a.l.tkH
  next : al ms a x = { a with l := a.l.tk, items := a.items ++ [(a.l.tkH, x)], al := a.al + 1 }
theorem al_yes {a : A} {x : N.Nd} (h : alE ms a x = 0) : Al ms a x := by
  have h' := h
  unfold alE at h
  split at h
  · rename_i h1
    split at h
    · rename_i h2
      refine ⟨h1, h2, ?_, by unfold alH; rw [if_pos h'], by unfold al; rw [if_pos h']⟩
      cases e : a.l.stk with
      | nil => rw [(FL.tk_nil e).2.2] at h; cases h
      | cons s r => exact ⟨s, r, rfl⟩
    · rename_i h2; exact absurd h h2
  · rename_i h1; exact absurd h h1
theorem al_no {a : A} {x : N.Nd} (h : alE ms a x ≠ 0) : al ms a x = a ∧ alH ms a x = 0 := by unfold al alH; rw [if_neg h, if_neg h]; exact ⟨rfl, rfl⟩
theorem inv_al {a : A} (v : Inv a) (x : N.Nd) : Inv (al ms a x) := by
  by_cases h : alE ms a x = 0
  · have k := al_yes h
    obtain ⟨s, r, e⟩ := k.top
    have t := FL.tk_cons v.l e
    have nl : a.l.tkH ∉ a.items.map Prod.fst := fun c => by
      have := FL.live_iff.1 ((v.live _).1 c)
      rw [t.hand, t.slot] at this
      have := t.was; omega
    rw [k.next]
    refine ⟨FL.inv_tk v.l, ?_, fun h => ?_⟩
    · show ((a.items ++ [(a.l.tkH, x)]).map Prod.fst).Nodup
      rw [List.map_append, List.nodup_append]
      refine ⟨v.nodup, List.pairwise_singleton _ _, fun p hp q hq => ?_⟩
      rw [List.mem_singleton.1 hq]
      intro e; rw [e] at hp; exact nl hp
    · show h ∈ (a.items ++ [(a.l.tkH, x)]).map Prod.fst ↔ _
      rw [List.map_append, List.mem_append, v.live]
      show _ ∨ h ∈ [a.l.tkH] ↔ a.l.tk.live h = true
      rw [List.mem_singleton, FL.live_tk v.l e, t.hand]
  · rw [(al_no h).1]; exact v
theorem inv_gt {a : A} (v : Inv a) (h : Nat) : Inv (a.gt h) := by
  unfold A.gt; split
  · exact v
  · exact ⟨v.l, v.nodup, v.live⟩
theorem mem_free {a : A} {h g : Nat} : g ∈ (a.items.filter (fun i => !(i.1 == h))).map Prod.fst ↔ g ∈ a.items.map Prod.fst ∧ g ≠ h := by
  rw [List.mem_map, List.mem_map]
  constructor
  · rintro ⟨i, hi, rfl⟩
    rw [List.mem_filter] at hi
    exact ⟨⟨i, hi.1, rfl⟩, by simpa using hi.2⟩
  · rintro ⟨⟨i, hi, rfl⟩, hne⟩
    exact ⟨i, List.mem_filter.2 ⟨hi, by simpa using hne⟩, rfl⟩
theorem inv_free {a : A} (v : Inv a) (h : Nat) : Inv (a.free h) := by
  unfold A.free; split
  · rename_i k
    have hl := (has_iff v).1 k
    refine ⟨FL.inv_gv v.l h, ?_, fun g => ?_⟩
    · exact v.nodup.sublist (List.filter_sublist.map _)
    · show g ∈ (a.items.filter (fun i => !(i.1 == h))).map Prod.fst ↔ (a.l.gv h).live g = true
      rw [mem_free, v.live, FL.live_gv v.l hl]
  · exact ⟨v.l, v.nodup, v.live⟩
/-- P13.6: what is live keeps its node. -/
theorem keeps_al {a : A} (v : Inv a) (x : N.Nd) {h : Nat} (k : a.has h = true) : (al ms a x).look h = a.look h := by
  by_cases e : alE ms a x = 0
  · have t := al_yes e
    cases l : a.look h with
    | none => unfold A.has at k; rw [l] at k; cases k
    | some y => exact look_of (inv_al v x) (by rw [t.next]; exact List.mem_append_left _ (look_some l))
  · rw [(al_no e).1]
theorem look_new {a : A} (v : Inv a) {x : N.Nd} (e : alE ms a x = 0) : (al ms a x).look (alH ms a x) = some x := by
  have t := al_yes e
  exact look_of (inv_al v x) (by rw [t.next, t.hand]; exact List.mem_append_right _ List.mem_cons_self)
theorem keeps_free {a : A} (v : Inv a) {h g : Nat} (k : g ≠ h) : (a.free h).look g = a.look g := by
  unfold A.free; split
  · rename_i c
    have v' := inv_free v h
    unfold A.free at v'; rw [if_pos c] at v'
    cases l : a.look g with
    | none => exact look_none.2 fun m => look_none.1 l (mem_free.1 m).1
    | some y => exact look_of v' (List.mem_filter.2 ⟨look_some l, by simpa using k⟩)
  · rfl
theorem look_gone {a : A} (h : Nat) (k : a.has h = true) : (a.free h).look h = none := by
  unfold A.free; rw [if_pos k]
  exact look_none.2 fun m => (mem_free.1 m).2 rfl
theorem keeps_gt (a : A) (h g : Nat) : (a.gt h).look g = a.look g := by unfold A.gt; split <;> rfl

/-! ### Counts (P13.5, P13.7) -/
theorem items_len {a : A} (v : Inv a) : a.items.length = a.l.hands.length := by
  have p : (a.items.map Prod.fst).Perm a.l.hands := by
    rw [List.perm_ext_iff_of_nodup v.nodup (FL.hands_nodup v.l)]
    intro h; rw [v.live, FL.mem_hands v.l]
  have := p.length_eq
  rw [List.length_map] at this; exact this
theorem three {s : FL.S} (v : FL.Inv s) : s.stk.length + s.hands.length + s.gone = s.st.length := by
  have p : s.stk.Perm (s.those 0) := by
    rw [List.perm_ext_iff_of_nodup v.nodup (FL.those_nodup s 0)]
    intro i; rw [v.stk, FL.mem_those]
  have e1 : s.hands.length = (s.those 1).length := by unfold FL.S.hands; rw [List.length_map]
  rw [p.length_eq, e1]
  unfold FL.S.gone FL.S.those
  have key : ∀ n, n ≤ s.st.length → ((List.range n).filter fun i => decide (s.at_ i = 0)).length + ((List.range n).filter fun i => decide (s.at_ i = 1)).length + ((List.range n).filter fun i => decide (s.at_ i = 2)).length = n := by
    intro n
    induction n with
    | zero => intro _; rfl
    | succ n ih =>
      intro h
      have := ih (by omega)
      have := v.at_ n (by omega)
      rw [List.range_succ, List.filter_append, List.filter_append, List.filter_append, List.length_append, List.length_append, List.length_append]
      rcases (show s.at_ n = 0 ∨ s.at_ n = 1 ∨ s.at_ n = 2 by omega) with e | e | e <;> simp [e] <;> omega
  exact key _ (Nat.le_refl _)
/-- How often slots were taken in all. -/
def tookAll (s : FL.S) : Nat := ((List.range s.st.length).map s.took).sum
theorem tookAll_le {s : FL.S} (v : FL.Inv s) : tookAll s ≤ s.st.length * s.gens := by
  unfold tookAll
  have : ∀ n, n ≤ s.st.length → ((List.range n).map s.took).sum ≤ n * s.gens := by
    intro n
    induction n with
    | zero => intro _; simp
    | succ n ih =>
      intro h
      rw [List.range_succ, List.map_append, List.sum_append, Nat.succ_mul]
      have := ih (by omega)
      have := FL.took_le v (i := n) (by omega)
      have e : ([n].map s.took).sum = s.took n := by simp
      rw [e]; omega
  exact this _ (Nat.le_refl _)
theorem tookAll_tk {s : FL.S} (v : FL.Inv s) {x : Nat} {r : List Nat} (h : s.stk = x :: r) : tookAll s.tk = tookAll s + 1 := by
  have t := FL.tk_cons v h
  unfold tookAll
  rw [t.len]
  exact FL.sum_add (x := x) (by rw [FL.took_tk v h, if_pos rfl]) (fun i hi => by rw [FL.took_tk v h, if_neg hi]) _ t.lt
theorem tookAll_gv {s : FL.S} (v : FL.Inv s) {h : Nat} (k : s.live h = true) : tookAll (s.gv h) = tookAll s := by
  unfold tookAll
  rw [(FL.gv_yes v k).len]
  congr 1
  exact List.map_congr_left fun i _ => FL.took_gv v k i
structure Cnt (a : A) : Prop where
  live : a.al = a.fr + a.items.length
  gone : a.l.gone ≤ a.fr
  took : a.al = tookAll a.l
theorem cnt_new (n g : Nat) : Cnt (new n g) := by
  refine ⟨rfl, by show (FL.new n g).gone ≤ 0; rw [FL.gone_new]; exact Nat.le_refl _, ?_⟩
  show 0 = tookAll (FL.new n g)
  unfold tookAll
  have l : (FL.new n g).st.length = n := List.length_replicate
  have z : ∀ i, i < n → (FL.new n g).took i = 0 := fun i hi => by
    have e0 : (FL.new n g).at_ i = 0 := by unfold FL.S.at_ FL.new; rw [List.getD_eq_getElem?_getD, List.getElem?_replicate, if_pos hi]; rfl
    have e1 : (FL.new n g).gn i = 1 := by unfold FL.S.gn FL.new; rw [List.getD_eq_getElem?_getD, List.getElem?_replicate, if_pos hi]; rfl
    unfold FL.S.took; rw [e0, e1]; rfl
  rw [l]
  have : ∀ k, k ≤ n → ((List.range k).map (FL.new n g).took).sum = 0 := by
    intro k
    induction k with
    | zero => intro _; rfl
    | succ k ih => intro h; rw [List.range_succ, List.map_append, List.sum_append, ih (by omega)]; simp [z k (by omega)]
  exact (this n (Nat.le_refl _)).symm
theorem cnt_al {a : A} (v : Inv a) (c : Cnt a) (x : N.Nd) : Cnt (al ms a x) := by
  by_cases h : alE ms a x = 0
  · have k := al_yes h
    obtain ⟨s, r, e⟩ := k.top
    rw [k.next]
    refine ⟨?_, ?_, ?_⟩
    · show a.al + 1 = a.fr + (a.items ++ [(a.l.tkH, x)]).length
      rw [List.length_append]; have := c.live; simp; omega
    · show a.l.tk.gone ≤ a.fr
      rw [FL.gone_tk v.l]; exact c.gone
    · show a.al + 1 = tookAll a.l.tk
      rw [tookAll_tk v.l e, c.took]
  · rw [(al_no h).1]; exact c
theorem cnt_gt {a : A} (c : Cnt a) (h : Nat) : Cnt (a.gt h) := by
  unfold A.gt; split
  · exact c
  · exact ⟨c.live, c.gone, c.took⟩
theorem filter_one {l : List (Nat × N.Nd)} (h : (l.map Prod.fst).Nodup) {g : Nat} (k : g ∈ l.map Prod.fst) : (l.filter (fun i => !(i.1 == g))).length + 1 = l.length := by
  induction l with
  | nil => cases k
  | cons a l ih =>
    rw [List.map_cons, List.nodup_cons] at h
    rw [List.map_cons, List.mem_cons] at k
    by_cases c : a.1 = g
    · have : l.filter (fun i => !(i.1 == g)) = l := by
        rw [List.filter_eq_self]; intro i hi
        have : i.1 ≠ g := fun e => h.1 (by rw [c]; exact List.mem_map.2 ⟨i, hi, e⟩)
        simpa using this
      rw [List.filter_cons, if_neg (by simpa using c), this]; rfl
    · rw [List.filter_cons, if_pos (by simpa using c), List.length_cons, List.length_cons, ih h.2 (k.resolve_left fun e => c e.symm)]
theorem cnt_free {a : A} (v : Inv a) (c : Cnt a) (h : Nat) : Cnt (a.free h) := by
  unfold A.free; split
  · rename_i k
    have hl := (has_iff v).1 k
    have f := filter_one v.nodup ((v.live h).2 hl)
    have := c.live
    have := c.gone
    refine ⟨?_, ?_, ?_⟩
    · show a.al = a.fr + 1 + (a.items.filter (fun i => !(i.1 == h))).length
      omega
    · show (a.l.gv h).gone ≤ a.fr + 1
      rw [FL.gone_gv v.l]; split <;> omega
    · show a.al = tookAll (a.l.gv h)
      rw [tookAll_gv v.l hl]; exact c.took
  · exact ⟨c.live, c.gone, c.took⟩

/-! ### Trees (P13.8) -/
/-- Each child of a live node is live, one level lower, and has the measure that its parent states. -/
def Tree (ms : N.Nd → Int × Int × Int) (a : A) : Prop := ∀ h x, a.look h = some x → N.chk x = 0 ∧ ∀ k ∈ x.ks, ∃ y, a.look k.at_ = some y ∧ y.h = x.h - 1 ∧ ms y = (k.b, k.r, k.l)
theorem kids_ok {a : A} {x : N.Nd} : ∀ {l : List N.K}, kidsE ms a x l = 0 ↔ ∀ k ∈ l, ∃ y, a.look k.at_ = some y ∧ y.h = x.h - 1 ∧ ms y = (k.b, k.r, k.l)
  | [] => by simp [kidsE]
  | k :: r => by
    have one : kidE ms a x k = 0 ↔ ∃ y, a.look k.at_ = some y ∧ y.h = x.h - 1 ∧ ms y = (k.b, k.r, k.l) := by
      unfold kidE
      cases e : a.look k.at_ with
      | none => exact ⟨fun c => (by cases c), fun ⟨y, hy, _⟩ => by cases hy⟩
      | some y =>
        show (if _ then (0 : Int) else 23) = 0 ↔ _
        constructor
        · intro c; split at c
          · rename_i d; exact ⟨y, rfl, d.1, d.2⟩
          · cases c
        · rintro ⟨z, hz, d⟩; cases hz; rw [if_pos d]
    rw [kidsE, List.forall_mem_cons, ← one, ← kids_ok (l := r)]
    by_cases c : kidE ms a x k = 0
    · rw [if_pos c]; exact ⟨fun h => ⟨c, h⟩, fun h => h.2⟩
    · rw [if_neg c]; exact ⟨fun h => absurd h c, fun h => absurd h.1 c⟩
theorem tree_new (n g : Nat) : Tree ms (new n g) := fun h x k => by cases k
theorem tree_al {a : A} (v : Inv a) (t : Tree ms a) (x : N.Nd) : Tree ms (al ms a x) := by
  by_cases e : alE ms a x = 0
  · have k := al_yes e
    intro h y hy
    have hm := look_some hy
    rw [k.next] at hm
    have up : ∀ z k', (∃ y, a.look k' = some y ∧ y.h = z ∧ ms y = ms y) → (al ms a x).look k' = a.look k' := fun z k' ⟨y, hy, _⟩ => keeps_al v x (by unfold A.has; rw [hy]; rfl)
    rcases List.mem_append.1 hm with hm | hm
    · obtain ⟨c, d⟩ := t h y (look_of v hm)
      refine ⟨c, fun q hq => ?_⟩
      obtain ⟨z, hz, r⟩ := d q hq
      exact ⟨z, (up z.h _ ⟨z, hz, rfl, rfl⟩).trans hz, r⟩
    · have e2 : (h, y) = (a.l.tkH, x) := List.mem_singleton.1 hm
      cases e2
      refine ⟨k.node, fun q hq => ?_⟩
      obtain ⟨z, hz, r⟩ := kids_ok.1 k.kids q hq
      exact ⟨z, (up z.h _ ⟨z, hz, rfl, rfl⟩).trans hz, r⟩
  · rw [(al_no e).1]; exact t
theorem tree_gt {a : A} (t : Tree ms a) (h : Nat) : Tree ms (a.gt h) := fun g x k => by
  rw [keeps_gt] at k
  obtain ⟨c, d⟩ := t g x k
  exact ⟨c, fun q hq => by obtain ⟨z, hz, r⟩ := d q hq; exact ⟨z, (keeps_gt a h _).trans hz, r⟩⟩
theorem tree_free {a : A} (v : Inv a) (t : Tree ms a) {h : Nat} (nb : ∀ g x, a.look g = some x → ∀ k ∈ x.ks, k.at_ ≠ h) : Tree ms (a.free h) := by
  intro g x k
  by_cases c : a.has h = true
  · by_cases e : g = h
    · rw [e, look_gone h c] at k; cases k
    · rw [keeps_free v e] at k
      obtain ⟨u, d⟩ := t g x k
      exact ⟨u, fun q hq => by obtain ⟨z, hz, r⟩ := d q hq; exact ⟨z, (keeps_free v (nb g x k q hq)).trans hz, r⟩⟩
  · have e : ∀ g, (a.free h).look g = a.look g := fun g => by unfold A.free; rw [if_neg c]; rfl
    rw [e] at k
    obtain ⟨u, d⟩ := t g x k
    exact ⟨u, fun q hq => by obtain ⟨z, hz, r⟩ := d q hq; exact ⟨z, (e _).trans hz, r⟩⟩
end Go.Proofs.Ytniccjbcchdkoaa.A13
