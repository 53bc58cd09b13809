/- Texts joined: MarkMath MarkSortM MarkMergeM MarkStableM -/
/- MarkMath -/
namespace Go.Proofs.Ytmbgcbgbdjiacaa.K

/-- A mark: its ID, its position, its gravity. -/
structure M where
  id : Int
  at_ : Int
  g : Int
deriving DecidableEq
/-- The error of marks behind one with an ID. -/
def chkF (n : Int) : Int → List M → Int
  | _, [] => 0
  | p, m :: r => if m.id ≤ p ∨ 1 < m.g then 2 else if m.at_ < 0 ∨ n < m.at_ then 3 else chkF n m.id r
/-- P9.1. -/
def chk (n : Int) (l : List M) : Int := if n < 0 then 2 else if 64 < l.length then 20 else chkF n 0 l
theorem chkF_iff (n : Int) : ∀ (l : List M) (p : Int), chkF n p l = 0 ↔ (∀ m ∈ l, p < m.id ∧ m.g ≤ 1 ∧ 0 ≤ m.at_ ∧ m.at_ ≤ n) ∧ l.Pairwise (fun x y => x.id < y.id)
  | [], p => by simp [chkF]
  | m :: r, p => by
    unfold chkF
    split
    · rename_i h
      constructor
      · intro k; cases k
      · rintro ⟨k, _⟩
        have := k m List.mem_cons_self
        omega
    · split
      · rename_i h
        constructor
        · intro k; cases k
        · rintro ⟨k, _⟩
          have := k m List.mem_cons_self
          omega
      · rename_i h1 h2
        rw [chkF_iff n r m.id, List.pairwise_cons]
        constructor
        · rintro ⟨k1, k2⟩
          refine ⟨fun x hx => ?_, fun x hx => (k1 x hx).1, k2⟩
          rcases List.mem_cons.1 hx with rfl | hx
          · exact ⟨by omega, by omega, by omega, by omega⟩
          · have := k1 x hx; exact ⟨by omega, this.2.1, this.2.2.1, this.2.2.2⟩
        · rintro ⟨k1, k2, k3⟩
          exact ⟨fun x hx => ⟨k2 x hx, (k1 x (List.mem_cons_of_mem _ hx)).2⟩, k3⟩
/-- Marks are a set for a string of n bytes. -/
structure Set (n : Int) (l : List M) : Prop where
  len : l.length ≤ 64
  ok : ∀ m ∈ l, 0 < m.id ∧ m.g ≤ 1 ∧ 0 ≤ m.at_ ∧ m.at_ ≤ n
  asc : l.Pairwise (fun x y => x.id < y.id)
theorem chk_iff {n : Int} (hn : 0 ≤ n) (l : List M) : chk n l = 0 ↔ Set n l := by
  unfold chk
  rw [if_neg (by omega)]
  split
  · rename_i h
    exact ⟨fun k => (by cases k), fun k => by have := k.len; omega⟩
  · rename_i h
    rw [chkF_iff]
    exact ⟨fun k => ⟨by omega, k.1, k.2⟩, fun k => ⟨k.ok, k.asc⟩⟩
theorem Set.weak {n m : Int} {l : List M} (h : Set n l) (k : n ≤ m) : Set m l := ⟨h.len, fun x hx => by have := h.ok x hx; exact ⟨this.1, this.2.1, this.2.2.1, by omega⟩, h.asc⟩
def big : Int := 9223372036854775807
/-- Are marks a set for a string of some length? -/
def isB (l : List M) : Bool := chk big l == 0
theorem isB_iff (l : List M) : isB l = true ↔ Set big l := by
  unfold isB; rw [beq_iff_eq]; exact chk_iff (by decide) l
theorem Set.nil (n : Int) : Set n [] := ⟨by simp, (fun _ h => nomatch h), List.Pairwise.nil⟩

/-! ### Finding -/
def find (l : List M) (i : Int) : Option M := l.find? fun m => m.id == i
theorem find_some {l : List M} {i : Int} {m : M} (h : find l i = some m) : m ∈ l ∧ m.id = i :=
  ⟨List.mem_of_find?_eq_some h, by have := List.find?_some h; simpa using this⟩
theorem find_none {l : List M} {i : Int} : find l i = none ↔ ∀ m ∈ l, m.id ≠ i := by
  unfold find; rw [List.find?_eq_none]; simp
theorem asc_inj {l : List M} (h : l.Pairwise (fun x y => x.id < y.id)) : ∀ {x y : M}, x ∈ l → y ∈ l → x.id = y.id → x = y := by
  induction l with
  | nil => intro x y hx; cases hx
  | cons m r ih =>
    rw [List.pairwise_cons] at h
    intro x y hx hy e
    rcases List.mem_cons.1 hx with hx1 | hx1 <;> rcases List.mem_cons.1 hy with hy1 | hy1
    · rw [hx1, hy1]
    · have := h.1 y hy1; rw [hx1] at e; omega
    · have := h.1 x hx1; rw [hy1] at e; omega
    · exact ih h.2 hx1 hy1 e
theorem find_mem {l : List M} (h : l.Pairwise (fun x y => x.id < y.id)) {m : M} (hm : m ∈ l) : find l m.id = some m := by
  cases hf : find l m.id with
  | none => exact absurd rfl (find_none.1 hf m hm)
  | some y =>
    have := find_some hf
    rw [asc_inj h this.1 hm this.2]
/-- Two ascending lists with the same marks are the same. -/
theorem asc_ext : ∀ {a b : List M}, a.Pairwise (fun x y => x.id < y.id) → b.Pairwise (fun x y => x.id < y.id) → (∀ x, x ∈ a ↔ x ∈ b) → a = b
  | [], [], _, _, _ => rfl
  | [], y :: b, _, _, h => by have := (h y).2 List.mem_cons_self; cases this
  | x :: a, [], _, _, h => by have := (h x).1 List.mem_cons_self; cases this
  | x :: a, y :: b, ha, hb, h => by
    rw [List.pairwise_cons] at ha hb
    have e : x = y := by
      rcases List.mem_cons.1 ((h x).1 List.mem_cons_self) with e | hx
      · exact e
      · rcases List.mem_cons.1 ((h y).2 List.mem_cons_self) with e | hy
        · exact e.symm
        · have h1 := ha.1 y hy
          have h2 := hb.1 x hx
          omega
    subst e
    have : a = b := asc_ext ha.2 hb.2 fun z => by
      constructor
      · intro hz
        rcases List.mem_cons.1 ((h z).1 (List.mem_cons_of_mem _ hz)) with e | hz'
        · have := ha.1 z hz; rw [e] at this; omega
        · exact hz'
      · intro hz
        rcases List.mem_cons.1 ((h z).2 (List.mem_cons_of_mem _ hz)) with e | hz'
        · have := hb.1 z hz; rw [e] at this; omega
        · exact hz'
    rw [this]

/-! ### Setting and dropping -/
def without (l : List M) (i : Int) : List M := l.filter fun m => !(m.id == i)
theorem mem_without {l : List M} {i : Int} {x : M} : x ∈ without l i ↔ x ∈ l ∧ x.id ≠ i := by
  unfold without; rw [List.mem_filter]; simp
theorem without_asc {l : List M} (h : l.Pairwise (fun x y => x.id < y.id)) (i : Int) : (without l i).Pairwise (fun x y => x.id < y.id) := h.filter _
theorem without_id {l : List M} {i : Int} (h : ∀ m ∈ l, m.id ≠ i) : without l i = l := by
  unfold without; rw [List.filter_eq_self]; intro m hm; simpa using h m hm
theorem without_le (l : List M) (i : Int) : (without l i).length ≤ l.length := List.length_filter_le _ _
theorem without_len {l : List M} (h : l.Pairwise (fun x y => x.id < y.id)) {m : M} (hm : m ∈ l) : (without l m.id).length + 1 = l.length := by
  induction l with
  | nil => cases hm
  | cons x r ih =>
    rw [List.pairwise_cons] at h
    rcases List.mem_cons.1 hm with rfl | hr
    · have : without (m :: r) m.id = r := by
        have := without_id (l := r) (i := m.id) (fun y hy => by have := h.1 y hy; omega)
        unfold without at this ⊢
        rw [List.filter_cons, if_neg (by simp), this]
      rw [this]; rfl
    · have hne : ¬ x.id = m.id := by have := h.1 m hr; omega
      have : without (x :: r) m.id = x :: without r m.id := by
        unfold without; rw [List.filter_cons, if_pos (by simpa using hne)]
      rw [this, List.length_cons, ih h.2 hr, List.length_cons]
/-- A mark put into an ascending list that has none with its ID. -/
def put (l : List M) (m : M) : List M := l.takeWhile (fun x => decide (x.id < m.id)) ++ m :: l.dropWhile (fun x => decide (x.id < m.id))
theorem put_nil (m : M) : put [] m = [m] := rfl
theorem put_cons (x : M) (l : List M) (m : M) : put (x :: l) m = if x.id < m.id then x :: put l m else m :: x :: l := by
  unfold put
  rw [List.takeWhile_cons, List.dropWhile_cons]
  by_cases h : x.id < m.id
  · rw [if_pos (by simpa using h), if_pos (by simpa using h), if_pos h]; rfl
  · rw [if_neg (by simpa using h), if_neg (by simpa using h), if_neg h]; rfl
theorem mem_put {l : List M} {m x : M} : x ∈ put l m ↔ x = m ∨ x ∈ l := by
  unfold put
  have e := List.takeWhile_append_dropWhile (p := fun x : M => decide (x.id < m.id)) (l := l)
  rw [List.mem_append, List.mem_cons]
  conv => rhs; rw [← e, List.mem_append]
  constructor
  · rintro (h | h | h)
    · exact Or.inr (Or.inl h)
    · exact Or.inl h
    · exact Or.inr (Or.inr h)
  · rintro (h | h | h)
    · exact Or.inr (Or.inl h)
    · exact Or.inl h
    · exact Or.inr (Or.inr h)
theorem put_len (l : List M) (m : M) : (put l m).length = l.length + 1 := by
  unfold put
  have e := congrArg List.length (List.takeWhile_append_dropWhile (p := fun x : M => decide (x.id < m.id)) (l := l))
  rw [List.length_append] at e
  rw [List.length_append, List.length_cons]; omega
theorem put_asc : ∀ {l : List M} {m : M}, l.Pairwise (fun x y => x.id < y.id) → (∀ x ∈ l, x.id ≠ m.id) → (put l m).Pairwise (fun x y => x.id < y.id)
  | [], m, _, _ => by rw [put_nil]; exact List.pairwise_singleton _ _
  | x :: l, m, h, hm => by
    have h' := List.pairwise_cons.1 h
    rw [put_cons]
    split
    · rename_i k
      rw [List.pairwise_cons]
      refine ⟨fun y hy => ?_, put_asc h'.2 fun y hy => hm y (List.mem_cons_of_mem _ hy)⟩
      rcases mem_put.1 hy with rfl | hy
      · exact k
      · exact h'.1 y hy
    · rename_i k
      rw [List.pairwise_cons]
      refine ⟨fun y hy => ?_, h⟩
      have hx := hm x List.mem_cons_self
      rcases List.mem_cons.1 hy with rfl | hy
      · omega
      · have := h'.1 y hy; omega
/-- P9.2: the errors and the sets. -/
def setE (l : List M) (m : M) : Int := if isB l = true ∧ isB [m] = true then (if 64 ≤ (without l m.id).length then 20 else 0) else 2
def setL (l : List M) (m : M) : List M := if setE l m = 0 then put (without l m.id) m else []
def drpE (l : List M) (i : Int) : Int := if isB l = true then (if find l i = none then 7 else 0) else 2
def drpL (l : List M) (i : Int) : List M := if drpE l i = 0 then without l i else []
structure SetOk (l : List M) (m : M) : Prop where
  set : Set big l
  one : Set big [m]
  room : (without l m.id).length < 64
theorem setE_iff (l : List M) (m : M) : setE l m = 0 ↔ SetOk l m := by
  unfold setE
  constructor
  · intro h
    split at h
    · rename_i k
      split at h
      · cases h
      · exact ⟨(isB_iff l).1 k.1, (isB_iff [m]).1 k.2, by omega⟩
    · cases h
  · intro h
    rw [if_pos ⟨(isB_iff l).2 h.set, (isB_iff [m]).2 h.one⟩, if_neg (by have := h.room; omega)]
theorem setL_ok {l : List M} {m : M} (h : setE l m = 0) : setL l m = put (without l m.id) m := if_pos h
theorem setL_bad {l : List M} {m : M} (h : setE l m ≠ 0) : setL l m = [] := if_neg h
theorem mem_setL {l : List M} {m x : M} (h : setE l m = 0) : x ∈ setL l m ↔ x = m ∨ (x ∈ l ∧ x.id ≠ m.id) := by
  rw [setL_ok h, mem_put, mem_without]
theorem setL_set {l : List M} {m : M} (h : setE l m = 0) : Set big (setL l m) := by
  have k := (setE_iff l m).1 h
  refine ⟨?_, fun x hx => ?_, ?_⟩
  · rw [setL_ok h, put_len]; have := k.room; omega
  · rcases (mem_setL h).1 hx with rfl | hx
    · exact k.one.ok x List.mem_cons_self
    · exact k.set.ok x hx.1
  · rw [setL_ok h]; exact put_asc (without_asc k.set.asc _) fun x hx => (mem_without.1 hx).2
theorem setL_len {l : List M} {m : M} (h : setE l m = 0) : (setL l m).length = (without l m.id).length + 1 := by rw [setL_ok h, put_len]
/-- P9.5: what is set is found, what is not touched stays, and dropping it again leaves the others. -/
theorem set_find {l : List M} {m : M} (h : setE l m = 0) : find (setL l m) m.id = some m := find_mem (setL_set h).asc ((mem_setL h).2 (Or.inl rfl))
theorem set_stays {l : List M} {m x : M} (h : setE l m = 0) (hx : x ∈ l) (hi : x.id ≠ m.id) : find (setL l m) x.id = some x := find_mem (setL_set h).asc ((mem_setL h).2 (Or.inr ⟨hx, hi⟩))
theorem set_drop {l : List M} {m : M} (h : setE l m = 0) : drpE (setL l m) m.id = 0 ∧ drpL (setL l m) m.id = without l m.id := by
  have k := (setE_iff l m).1 h
  have e : drpE (setL l m) m.id = 0 := by
    unfold drpE
    rw [if_pos ((isB_iff _).2 (setL_set h)), set_find h, if_neg (by simp)]
  refine ⟨e, ?_⟩
  unfold drpL
  rw [if_pos e]
  refine asc_ext (without_asc (setL_set h).asc _) (without_asc k.set.asc _) fun x => ?_
  rw [mem_without, mem_setL h, mem_without]
  constructor
  · rintro ⟨rfl | hx, hi⟩
    · exact absurd rfl hi
    · exact hx
  · intro hx; exact ⟨Or.inr hx, hx.2⟩
theorem drop_gone (l : List M) (i : Int) : find (without l i) i = none := find_none.2 fun _ hx => (mem_without.1 hx).2
theorem drop_stays {l : List M} (h : l.Pairwise (fun x y => x.id < y.id)) {x : M} {i : Int} (hx : x ∈ l) (hi : x.id ≠ i) : find (without l i) x.id = some x := find_mem (without_asc h _) (mem_without.2 ⟨hx, hi⟩)
theorem set_lens {l : List M} {m : M} (h : setE l m = 0) : (drpL (setL l m) m.id).length + 1 = (setL l m).length ∧ (setL l m).length ≤ l.length + 1 ∧ l.length ≤ (setL l m).length := by
  have k := (setE_iff l m).1 h
  rw [(set_drop h).2, setL_len h]
  have h1 := without_le l m.id
  refine ⟨rfl, by omega, ?_⟩
  by_cases c : ∃ x ∈ l, x.id = m.id
  · obtain ⟨x, hx, e⟩ := c
    have := without_len k.set.asc hx
    rw [e] at this; omega
  · rw [without_id fun x hx e => c ⟨x, hx, e⟩]; omega
/-- Two marks may be set in either order. -/
theorem set_both {l : List M} {m k : M} (h1 : setE l m = 0) (h2 : setE (setL l m) k = 0) (h3 : setE l k = 0) (hne : m.id ≠ k.id) : setE (setL l k) m = 0 ∧ setL (setL l k) m = setL (setL l m) k := by
  have a := (setE_iff l m).1 h1
  have b := (setE_iff _ k).1 h2
  have c := (setE_iff l k).1 h3
  have e : setE (setL l k) m = 0 := by
    rw [setE_iff]
    refine ⟨setL_set h3, a.one, ?_⟩
    -- both leave out m and k; the other one is put in
    have e1 : without (setL l m) k.id = put (without (without l m.id) k.id) m := by
      refine asc_ext (without_asc (setL_set h1).asc _) (put_asc (without_asc (without_asc a.set.asc _) _) fun x hx => (mem_without.1 (mem_without.1 hx).1).2) fun x => ?_
      rw [mem_without, mem_setL h1, mem_put, mem_without, mem_without]
      constructor
      · rintro ⟨rfl | hx, hi⟩
        · exact Or.inl rfl
        · exact Or.inr ⟨hx, hi⟩
      · rintro (rfl | ⟨hx, hi⟩)
        · exact ⟨Or.inl rfl, hne⟩
        · exact ⟨Or.inr hx, hi⟩
    have e2 : without (setL l k) m.id = put (without (without l k.id) m.id) k := by
      refine asc_ext (without_asc (setL_set h3).asc _) (put_asc (without_asc (without_asc a.set.asc _) _) fun x hx => (mem_without.1 (mem_without.1 hx).1).2) fun x => ?_
      rw [mem_without, mem_setL h3, mem_put, mem_without, mem_without]
      constructor
      · rintro ⟨rfl | hx, hi⟩
        · exact Or.inl rfl
        · exact Or.inr ⟨hx, hi⟩
      · rintro (rfl | ⟨hx, hi⟩)
        · exact ⟨Or.inl rfl, fun e => hne e.symm⟩
        · exact ⟨Or.inr hx, hi⟩
    have e3 : without (without l m.id) k.id = without (without l k.id) m.id := by
      unfold without; rw [List.filter_filter, List.filter_filter]; congr 1; funext x; exact Bool.and_comm _ _
    have := b.room
    rw [e1, put_len, e3] at this
    rw [e2, put_len]; exact this
  refine ⟨e, asc_ext (setL_set e).asc (setL_set h2).asc fun x => ?_⟩
  rw [mem_setL e, mem_setL h3, mem_setL h2, mem_setL h1]
  constructor
  · rintro (rfl | ⟨rfl | ⟨hx, i1⟩, i2⟩)
    · exact Or.inr ⟨Or.inl rfl, hne⟩
    · exact Or.inl rfl
    · exact Or.inr ⟨Or.inr ⟨hx, i2⟩, i1⟩
  · rintro (rfl | ⟨rfl | ⟨hx, i1⟩, i2⟩)
    · exact Or.inr ⟨Or.inl rfl, fun e => hne e.symm⟩
    · exact Or.inl rfl
    · exact Or.inr ⟨Or.inr ⟨hx, i2⟩, i1⟩

/-! ### Listing by position -/
def le (x y : M) : Bool := decide (x.at_ < y.at_) || (decide (x.at_ = y.at_) && decide (x.id ≤ y.id))
theorem le_iff (x y : M) : le x y = true ↔ x.at_ < y.at_ ∨ (x.at_ = y.at_ ∧ x.id ≤ y.id) := by unfold le; simp
theorem le_trans {x y z : M} (h : le x y = true) (k : le y z = true) : le x z = true := by rw [le_iff] at h k ⊢; omega
theorem le_total (x y : M) : le x y = true ∨ le y x = true := by rw [le_iff, le_iff]; omega
def key (x y : M) : Bool := decide (x.at_ = y.at_) && decide (x.id = y.id)
theorem key_iff (x y : M) : key x y = true ↔ x.at_ = y.at_ ∧ x.id = y.id := by unfold key; simp
theorem le_both {x y : M} (h : le x y = true) (k : le y x = true) : key x y = true := by rw [le_iff] at h k; rw [key_iff]; omega
/-- A mark put behind all that are not greater. -/
def ins : List M → M → List M
  | [], m => [m]
  | x :: l, m => if le x m = true then x :: ins l m else m :: x :: l
def srt (l : List M) : List M := l.foldl ins []
theorem mem_ins {l : List M} {m x : M} : x ∈ ins l m ↔ x = m ∨ x ∈ l := by
  induction l with
  | nil => simp [ins]
  | cons y l ih =>
    unfold ins; split
    · rw [List.mem_cons, ih, List.mem_cons]
      constructor
      · rintro (h | h | h) <;> simp [h]
      · rintro (h | h | h) <;> simp [h]
    · simp
theorem ins_len (l : List M) (m : M) : (ins l m).length = l.length + 1 := by
  induction l with
  | nil => rfl
  | cons y l ih => unfold ins; split <;> simp [ih]
theorem ins_asc {l : List M} {m : M} (h : l.Pairwise (fun x y => le x y = true)) : (ins l m).Pairwise (fun x y => le x y = true) := by
  induction l with
  | nil => exact List.pairwise_singleton _ _
  | cons y l ih =>
    have h' := List.pairwise_cons.1 h
    unfold ins; split
    · rename_i k
      rw [List.pairwise_cons]
      refine ⟨fun z hz => ?_, ih h'.2⟩
      rcases mem_ins.1 hz with rfl | hz
      · exact k
      · exact h'.1 z hz
    · rename_i k
      have k' : le m y = true := by rcases le_total m y with c | c
                                    · exact c
                                    · exact absurd c k
      rw [List.pairwise_cons]
      refine ⟨fun z hz => ?_, h⟩
      rcases List.mem_cons.1 hz with rfl | hz
      · exact k'
      · exact le_trans k' (h'.1 z hz)
/-- The order of marks with the same key stays. -/
theorem ins_key {l : List M} {m : M} (h : l.Pairwise (fun x y => le x y = true)) (c : M) : (ins l m).filter (key c) = l.filter (key c) ++ (if key c m = true then [m] else []) := by
  induction l with
  | nil => by_cases k : key c m = true
           · rw [if_pos k]; simp [ins, k]
           · rw [if_neg k]; simp [ins, k]
  | cons y l ih =>
    have h' := List.pairwise_cons.1 h
    unfold ins; split
    · rw [List.filter_cons, List.filter_cons, ih h'.2]
      split <;> rfl
    · rename_i k
      rw [List.filter_cons]
      by_cases e : key c m = true
      · rw [if_pos e, if_pos e]
        have none : (y :: l).filter (key c) = [] := by
          rw [List.filter_eq_nil_iff]
          intro z hz hk
          have hyz : le y z = true := by
            rcases List.mem_cons.1 hz with rfl | hz
            · rw [le_iff]; omega
            · exact h'.1 z hz
          apply k
          rw [key_iff] at e hk
          rw [le_iff] at hyz ⊢; omega
        rw [none]; rfl
      · rw [if_neg e, if_neg e, List.append_nil]
theorem srt_aux (c : M) : ∀ (l acc : List M), acc.Pairwise (fun x y => le x y = true) → (l.foldl ins acc).Pairwise (fun x y => le x y = true) ∧ (l.foldl ins acc).filter (key c) = acc.filter (key c) ++ l.filter (key c)
  | [], acc, h => ⟨h, by simp⟩
  | m :: l, acc, h => by
    have := srt_aux c l (ins acc m) (ins_asc h)
    refine ⟨this.1, this.2.trans ?_⟩
    rw [ins_key h c, List.append_assoc, List.filter_cons]
    congr 1
    by_cases k : key c m = true
    · rw [if_pos k, if_pos k]; rfl
    · rw [if_neg k, if_neg k]; rfl
theorem srt_asc (l : List M) : (srt l).Pairwise (fun x y => le x y = true) := (srt_aux ⟨0, 0, 0⟩ l [] .nil).1
theorem srt_key (l : List M) (c : M) : (srt l).filter (key c) = l.filter (key c) := (srt_aux c l [] .nil).2
theorem key_refl (c : M) : key c c = true := (key_iff c c).2 ⟨rfl, rfl⟩
/-- There is one way of sorting that keeps the order of marks with the same key. -/
theorem stable_unique : ∀ {a b : List M}, a.Pairwise (fun x y => le x y = true) → b.Pairwise (fun x y => le x y = true) → (∀ c, a.filter (key c) = b.filter (key c)) → a = b
  | [], [], _, _, _ => rfl
  | [], y :: b, _, _, h => by have := h y; rw [List.filter_cons, if_pos (key_refl y)] at this; cases this
  | x :: a, [], _, _, h => by have := h x; rw [List.filter_cons, if_pos (key_refl x)] at this; cases this
  | x :: a, y :: b, ha, hb, h => by
    have ha' := List.pairwise_cons.1 ha
    have hb' := List.pairwise_cons.1 hb
    have mem : ∀ z : M, z ∈ x :: a ↔ z ∈ y :: b := fun z => by
      have := h z
      have k1 : z ∈ (x :: a).filter (key z) ↔ z ∈ x :: a := by rw [List.mem_filter]; simp [key_refl]
      have k2 : z ∈ (y :: b).filter (key z) ↔ z ∈ y :: b := by rw [List.mem_filter]; simp [key_refl]
      rw [← k1, ← k2, this]
    have hxy : le x y = true := by
      rcases List.mem_cons.1 ((mem y).2 List.mem_cons_self) with e | hy
      · rw [e, le_iff]; omega
      · exact ha'.1 y hy
    have hyx : le y x = true := by
      rcases List.mem_cons.1 ((mem x).1 List.mem_cons_self) with e | hx
      · rw [e, le_iff]; omega
      · exact hb'.1 x hx
    have kxy := le_both hxy hyx
    have e : x = y := by
      have := h x
      rw [List.filter_cons, List.filter_cons, if_pos (key_refl x), if_pos kxy] at this
      exact (List.cons.inj this).1
    subst e
    have : a = b := stable_unique ha'.2 hb'.2 fun c => by
      have := h c
      rw [List.filter_cons, List.filter_cons] at this
      split at this
      · exact (List.cons.inj this).2
      · exact this
    rw [this]
/-- P9.3. -/
def inside (l : List M) (f t : Int) : List M := l.filter fun m => decide (f ≤ m.at_) && decide (m.at_ ≤ t)
def btw (l : List M) (f t : Int) : List M := srt (inside l f t)
end Go.Proofs.Ytmbgcbgbdjiacaa.K
/- MarkSortM -/
namespace Go.Proofs.Ytmbgcbgbdjiacaa.K

abbrev Asc (l : List M) : Prop := l.Pairwise (fun x y => le x y = true)
theorem le_refl (x : M) : le x x = true := by rw [le_iff]; omega
theorem lt_of_not_le {x y : M} (h : ¬ le x y = true) : le y x = true := by
  rcases le_total x y with k | k
  · exact absurd k h
  · exact k
theorem key_le {c x y : M} (h : key c x = true) (k : key c y = true) : le x y = true := by rw [key_iff] at h k; rw [le_iff]; omega
/-- What the comparison of two marks returns. -/
def cf (x y : M) : Int := if x.at_ < y.at_ then -1 else if y.at_ < x.at_ then 1 else if x.id < y.id then -1 else if y.id < x.id then 1 else 0
theorem cf_neg (x y : M) : cf x y < 0 ↔ ¬ le y x = true := by
  unfold cf; rw [le_iff]
  split
  · omega
  · split
    · omega
    · split
      · omega
      · split <;> omega
/-- T has the marks of S, and those with the same key in the same order. -/
structure Same (S T : List M) : Prop where
  len : T.length = S.length
  key : ∀ c, T.filter (key c) = S.filter (key c)
theorem Same.refl (S : List M) : Same S S := ⟨rfl, fun _ => rfl⟩
theorem Same.trans {S T U : List M} (h : Same S T) (k : Same T U) : Same S U := ⟨k.len.trans h.len, fun c => (k.key c).trans (h.key c)⟩
theorem Same.app {S T U V : List M} (h : Same S T) (k : Same U V) : Same (S ++ U) (T ++ V) := ⟨by rw [List.length_append, List.length_append, h.len, k.len], fun c => by rw [List.filter_append, List.filter_append, h.key, k.key]⟩
theorem Same.mem {S T : List M} (h : Same S T) {x : M} : x ∈ T ↔ x ∈ S := by
  have k1 : ∀ A : List M, x ∈ A.filter (K.key x) ↔ x ∈ A := fun A => by rw [List.mem_filter]; simp [key_refl]
  rw [← k1 T, ← k1 S, h.key]
/-- Two blocks, all of the one less than all of the other, may change places. -/
theorem Same.swap {U V : List M} (h : ∀ x ∈ U, ∀ y ∈ V, ¬ le x y = true) : Same (U ++ V) (V ++ U) := by
  refine ⟨by simp only [List.length_append]; omega, fun c => ?_⟩
  rw [List.filter_append, List.filter_append]
  by_cases e : U.filter (K.key c) = []
  · rw [e]; simp
  · have : V.filter (K.key c) = [] := by
      obtain ⟨x, hx⟩ := List.exists_mem_of_ne_nil _ e
      rw [List.mem_filter] at hx
      rw [List.filter_eq_nil_iff]
      intro y hy k
      exact h x hx.1 y hy (key_le hx.2 k)
    rw [this]; simp
theorem srt_same (l : List M) (L : List M) (h : Same l L) (k : Asc L) : L = srt l := stable_unique k (srt_asc l) fun c => (h.key c).trans (srt_key l c).symm

/-! ### Segments -/
/-- L' is L but for the segment from a to b, which has been sorted. -/
structure Mrg (a b : Nat) (L L' : List M) : Prop where
  ex : ∃ P S T R, L = P ++ S ++ R ∧ L' = P ++ T ++ R ∧ P.length = a ∧ a + S.length = b ∧ Same S T ∧ Asc T
theorem Mrg.same {a b : Nat} {L L' : List M} (h : Mrg a b L L') : Same L L' := by
  obtain ⟨P, S, T, R, rfl, rfl, _, _, k, _⟩ := h.ex
  exact (((Same.refl P).app k).app (Same.refl R))
theorem Mrg.len {a b : Nat} {L L' : List M} (h : Mrg a b L L') : L'.length = L.length := h.same.len
/-- Between p and q the list ascends. -/
def Seg (L : List M) (p q : Nat) : Prop := ∀ i j x y, p ≤ i → i ≤ j → j < q → L[i]? = some x → L[j]? = some y → le x y = true
theorem Seg.mono {L : List M} {p q p' q' : Nat} (h : Seg L p q) (hp : p ≤ p') (hq : q' ≤ q) : Seg L p' q' := fun i j x y a b c d e => h i j x y (by omega) b (by omega) d e
theorem Seg.one (L : List M) (p : Nat) : Seg L p (p + 1) := fun i j x y a b c d e => by
  obtain rfl : i = j := by omega
  rw [d] at e; cases e; exact le_refl x
theorem seg_asc {P S R : List M} (h : Asc S) : Seg (P ++ S ++ R) P.length (P.length + S.length) := by
  intro i j x y a b c d e
  rw [List.append_assoc, List.getElem?_append_right (by omega), List.getElem?_append_left (by omega)] at d e
  by_cases hij : i = j
  · subst hij; rw [d] at e; cases e; exact le_refl x
  · have hi : i - P.length < S.length := by omega
    have hj : j - P.length < S.length := by omega
    rw [List.getElem?_eq_getElem hi] at d
    rw [List.getElem?_eq_getElem hj] at e
    cases d; cases e
    exact List.pairwise_iff_getElem.1 h _ _ hi hj (by omega)
theorem asc_seg {P S R : List M} (h : Seg (P ++ S ++ R) P.length (P.length + S.length)) : Asc S := by
  rw [Asc, List.pairwise_iff_getElem]
  intro i j hi hj hij
  refine h (P.length + i) (P.length + j) _ _ (by omega) (by omega) (by omega) ?_ ?_
  · rw [List.append_assoc, List.getElem?_append_right (by omega), List.getElem?_append_left (by omega), Nat.add_sub_cancel_left, List.getElem?_eq_getElem hi]
  · rw [List.append_assoc, List.getElem?_append_right (by omega), List.getElem?_append_left (by omega), Nat.add_sub_cancel_left, List.getElem?_eq_getElem hj]
theorem Mrg.inn {a b : Nat} {L L' : List M} (h : Mrg a b L L') : Seg L' a b := by
  obtain ⟨P, S, T, R, rfl, rfl, e1, e2, k, h⟩ := h.ex
  have := seg_asc (P := P) (R := R) h
  rw [e1, k.len, e2] at this; exact this
theorem Mrg.out {a b : Nat} {L L' : List M} (h : Mrg a b L L') {i : Nat} (hi : i < a ∨ b ≤ i) : L'[i]? = L[i]? := by
  obtain ⟨P, S, T, R, rfl, rfl, e1, e2, k, _⟩ := h.ex
  have hl := k.len
  rcases hi with hi | hi
  · rw [List.append_assoc, List.append_assoc, List.getElem?_append_left (by omega), List.getElem?_append_left (by omega)]
  · rw [List.getElem?_append_right (by rw [List.length_append]; omega), List.getElem?_append_right (by rw [List.length_append]; omega), List.length_append, List.length_append, hl]
/-- A list cut at places. -/
theorem cut3 (L : List M) (a b : Nat) (h : a ≤ b) (hb : b ≤ L.length) : ∃ P S R, L = P ++ S ++ R ∧ P.length = a ∧ a + S.length = b :=
  ⟨L.take a, (L.take b).drop a, L.drop b, by
    have : L.take a = (L.take b).take a := by rw [List.take_take, Nat.min_eq_left h]
    rw [this, List.take_append_drop, List.take_append_drop], by rw [List.length_take]; omega, by rw [List.length_drop, List.length_take]; omega⟩
theorem Mrg.refl {a b : Nat} {L : List M} (h : a ≤ b) (hb : b ≤ L.length) (k : Seg L a b) : Mrg a b L L := by
  obtain ⟨P, S, R, rfl, rfl, rfl⟩ := cut3 L a b h hb
  exact ⟨P, S, S, R, rfl, rfl, rfl, rfl, Same.refl S, asc_seg k⟩

/-! ### Insertion -/
/-- A mark on its way down: before it what has been sorted, behind it what it has passed. -/
structure Ins (a i j : Nat) (L L' : List M) : Prop where
  ex : ∃ P S T1 x T2 R, L = P ++ S ++ R ∧ L' = P ++ T1 ++ x :: T2 ++ R ∧ P.length = a ∧ a + S.length = i + 1 ∧ a + T1.length = j ∧ j + T2.length = i ∧ Same S (T1 ++ x :: T2) ∧ Asc (T1 ++ T2) ∧ ∀ y ∈ T2, ¬ le y x = true
theorem Ins.start {a i : Nat} {L L' : List M} (h : Mrg a i L L') (hi : i < L.length) : Ins a i i L L' := by
  obtain ⟨P, S, T, R, rfl, rfl, e1, e2, k, s⟩ := h.ex
  cases R with
  | nil => simp at hi; omega
  | cons x R =>
    have := k.len
    refine ⟨P, S ++ [x], T, x, [], R, by simp, by simp, e1, by simp; omega, by omega, by simp, ?_, by simpa using s, fun _ h => nomatch h⟩
    exact k.app (Same.refl [x])
/-- The mark at j is less than the one before it: they change places. -/
theorem Ins.step {a i j : Nat} {L L' : List M} {x y : M} (h : Ins a i (j + 1) L L') (haj : a ≤ j) (hx : L'[j + 1]? = some x) (hy : L'[j]? = some y) (hlt : ¬ le y x = true) :
    Ins a i j L ((L'.set (j + 1) y).set j x) := by
  obtain ⟨P, S, T1, x', T2, R, rfl, rfl, e1, e2, e3, e4, k, s, g⟩ := h.ex
  obtain ⟨T, y', rfl⟩ : ∃ T y', T1 = T ++ [y'] := by
    rcases List.eq_nil_or_concat T1 with h | ⟨T, y', h⟩
    · subst h; simp at e3; omega
    · exact ⟨T, y', by rw [h, List.concat_eq_append]⟩
  simp only [List.length_append, List.length_cons, List.length_nil] at e3
  have f : P ++ (T ++ [y']) ++ x' :: T2 ++ R = (P ++ T) ++ (y' :: x' :: (T2 ++ R)) := by simp
  have hj : (P ++ T).length = j := by rw [List.length_append]; omega
  rw [f] at hx hy ⊢
  rw [List.getElem?_append_right (by omega), hj, Nat.add_sub_cancel_left] at hx
  rw [List.getElem?_append_right (by omega), hj, Nat.sub_self] at hy
  cases hx; cases hy
  have fs : ((((P ++ T) ++ (y :: x :: (T2 ++ R))).set (j + 1) y).set j x) = (P ++ T) ++ (x :: y :: (T2 ++ R)) := by
    rw [List.set_append_right _ _ (by omega), List.set_append_right _ _ (by omega), hj, Nat.add_sub_cancel_left, Nat.sub_self]; rfl
  rw [fs]
  have pw : Asc (T ++ (y :: T2)) := by simpa using s
  refine ⟨P, S, T, x, y :: T2, R, rfl, by simp, e1, e2, by omega, by simp; omega, ?_, pw, fun z hz => ?_⟩
  · refine k.trans ?_
    have : Same ([y] ++ [x]) ([x] ++ [y]) := Same.swap fun u hu v hv => by
      rw [List.mem_singleton] at hu hv; subst hu; subst hv; exact hlt
    have := ((Same.refl T).app this).app (Same.refl T2)
    simpa using this
  · rcases List.mem_cons.1 hz with rfl | hz
    · exact hlt
    · exact g z hz
/-- The mark at j is not less than the one before it, or there is none. -/
theorem Ins.stop {a i j : Nat} {L L' : List M} (h : Ins a i j L L') (hs : ∀ j' x y, j = j' + 1 → a ≤ j' → L'[j]? = some x → L'[j']? = some y → le y x = true) : Mrg a (i + 1) L L' := by
  obtain ⟨P, S, T1, x, T2, R, rfl, rfl, e1, e2, e3, e4, k, s, g⟩ := h.ex
  refine ⟨P, S, T1 ++ x :: T2, R, rfl, by simp, e1, e2, k, ?_⟩
  have s' := List.pairwise_append.1 s
  have hx : ∀ y ∈ T1, le y x = true := by
    rcases List.eq_nil_or_concat T1 with h | ⟨T, y', h⟩
    · subst h; exact fun _ h => nomatch h
    · rw [List.concat_eq_append] at h
      subst h
      simp only [List.length_append, List.length_cons, List.length_nil] at e3
      have hj : (P ++ T).length = a + T.length := by rw [List.length_append]; omega
      have l1 : le y' x = true := by
        refine hs (a + T.length) x y' (by omega) (by omega) ?_ ?_
        · rw [show P ++ (T ++ [y']) ++ x :: T2 ++ R = (P ++ T) ++ (y' :: x :: (T2 ++ R)) by simp, List.getElem?_append_right (by omega), hj, show j - (a + T.length) = 1 by omega]; rfl
        · rw [show P ++ (T ++ [y']) ++ x :: T2 ++ R = (P ++ T) ++ (y' :: x :: (T2 ++ R)) by simp, List.getElem?_append_right (by omega), hj, Nat.sub_self]; rfl
      intro y hy
      have st := List.pairwise_append.1 s'.1
      rcases List.mem_append.1 hy with hy | hy
      · exact le_trans (st.2.2 y hy y' (by simp)) l1
      · rw [List.mem_singleton] at hy; subst hy; exact l1
  rw [Asc, List.pairwise_append]
  refine ⟨s'.1, List.pairwise_cons.2 ⟨fun z hz => lt_of_not_le (g z hz), s'.2.1⟩, fun y hy z hz => ?_⟩
  rcases List.mem_cons.1 hz with rfl | hz
  · exact hx y hy
  · exact s'.2.2 y hy z hz

/-! ### Exchanging two blocks -/
/-- Between two rounds of an exchange of n marks at a with those at b: the first k are done. -/
structure Xch (a b n k : Nat) (L L' : List M) : Prop where
  ex : ∃ P X1 X2 Q Y1 Y2 R, L = P ++ (X1 ++ X2) ++ Q ++ (Y1 ++ Y2) ++ R ∧ L' = P ++ (Y1 ++ X2) ++ Q ++ (X1 ++ Y2) ++ R ∧ P.length = a ∧ X1.length = k ∧ Y1.length = k ∧ k + X2.length = n ∧ k + Y2.length = n ∧ a + n + Q.length = b
theorem Xch.start {P X Q Y R : List M} {a b n : Nat} (h1 : P.length = a) (h2 : X.length = n) (h3 : Y.length = n) (h4 : a + n + Q.length = b) : Xch a b n 0 (P ++ X ++ Q ++ Y ++ R) (P ++ X ++ Q ++ Y ++ R) :=
  ⟨P, [], X, Q, [], Y, R, by simp, by simp, h1, rfl, rfl, by omega, by omega, h4⟩
theorem Xch.step {a b n k : Nat} {L L' : List M} {x y : M} (h : Xch a b n k L L') (hk : k < n) (hx : L'[a + k]? = some x) (hy : L'[b + k]? = some y) : Xch a b n (k + 1) L ((L'.set (a + k) y).set (b + k) x) := by
  obtain ⟨P, X1, X2, Q, Y1, Y2, R, rfl, rfl, e1, e2, e3, e4, e5, e6⟩ := h.ex
  cases X2 with
  | nil => simp at e4; omega
  | cons x' X2 =>
    cases Y2 with
    | nil => simp at e5; omega
    | cons y' Y2 =>
      simp only [List.length_cons] at e4 e5
      have f : P ++ (Y1 ++ x' :: X2) ++ Q ++ (X1 ++ y' :: Y2) ++ R = (P ++ Y1) ++ x' :: ((X2 ++ Q ++ X1) ++ y' :: (Y2 ++ R)) := by simp
      have hl : (P ++ Y1).length = a + k := by rw [List.length_append]; omega
      have hm : (X2 ++ Q ++ X1).length + (a + k) + 1 = b + k := by simp only [List.length_append]; omega
      rw [f] at hx hy ⊢
      rw [List.getElem?_append_right (by omega), hl, Nat.sub_self] at hx
      rw [List.getElem?_append_right (by omega), hl, show b + k - (a + k) = (X2 ++ Q ++ X1).length + 1 by omega, List.getElem?_cons_succ, List.getElem?_append_right (Nat.le_refl _), Nat.sub_self] at hy
      cases hx; cases hy
      have fs : ((((P ++ Y1) ++ x :: ((X2 ++ Q ++ X1) ++ y :: (Y2 ++ R))).set (a + k) y).set (b + k) x) = (P ++ Y1) ++ y :: ((X2 ++ Q ++ X1) ++ x :: (Y2 ++ R)) := by
        rw [List.set_append_right _ _ (by omega), hl, Nat.sub_self, List.set_cons_zero, List.set_append_right _ _ (by omega), hl, show b + k - (a + k) = (X2 ++ Q ++ X1).length + 1 by omega, List.set_cons_succ, List.set_append_right _ _ (Nat.le_refl _), Nat.sub_self, List.set_cons_zero]
      rw [fs]
      exact ⟨P, X1 ++ [x], X2, Q, Y1 ++ [y], Y2, R, by simp, by simp, e1, by simp [e2], by simp [e3], by omega, by omega, e6⟩
/-- What an exchange comes to. -/
def Xch.Done (a b n : Nat) (L L' : List M) : Prop := ∀ P X Q Y R, L = P ++ X ++ Q ++ Y ++ R → P.length = a → X.length = n → Y.length = n → a + n + Q.length = b → L' = P ++ Y ++ Q ++ X ++ R
theorem Xch.stop {a b n : Nat} {L L' : List M} (h : Xch a b n n L L') : Xch.Done a b n L L' := by
  obtain ⟨P, X1, X2, Q, Y1, Y2, R, hL, rfl, e1, e2, e3, e4, e5, e6⟩ := h.ex
  obtain rfl : X2 = [] := List.eq_nil_of_length_eq_zero (by omega)
  obtain rfl : Y2 = [] := List.eq_nil_of_length_eq_zero (by omega)
  intro P' X Q' Y R' h h1 h2 h3 h4
  rw [hL] at h
  simp only [List.append_nil] at h ⊢
  obtain ⟨h, r1⟩ := List.append_inj' h (by
    have := congrArg List.length h
    simp only [List.length_append] at this; omega)
  obtain ⟨h, r2⟩ := List.append_inj' h (by omega)
  obtain ⟨h, r3⟩ := List.append_inj' h (by omega)
  obtain ⟨r4, r5⟩ := List.append_inj' h (by omega)
  rw [r1, r2, r3, r4, r5]
theorem Xch.lt {a b n k : Nat} {L L' : List M} (h : Xch a b n k L L') : L'.length = L.length ∧ a + n ≤ b ∧ b + n ≤ L.length := by
  obtain ⟨P, X1, X2, Q, Y1, Y2, R, rfl, rfl, e1, e2, e3, e4, e5, e6⟩ := h.ex
  simp only [List.length_append]
  omega
/-- Between two rounds of a rotation: what is left to exchange are i marks before m and j behind it; G is what it comes to. -/
structure Rot (m i j : Nat) (G L : List M) : Prop where
  ex : ∃ P U V R, L = P ++ U ++ V ++ R ∧ G = P ++ V ++ U ++ R ∧ P.length + i = m ∧ U.length = i ∧ V.length = j
theorem Rot.big {m i j : Nat} {G L L' : List M} (h : Rot m i j G L) (hij : j < i) (hx : Xch.Done (m - i) m j L L') : Rot m (i - j) j G L' := by
  obtain ⟨P, U, V, R, rfl, rfl, e1, e2, e3⟩ := h.ex
  have d := (List.take_append_drop j U).symm
  have l1 : (U.take j).length = j := by rw [List.length_take]; omega
  have l2 : (U.drop j).length = i - j := by rw [List.length_drop]; omega
  generalize U.take j = U1 at d l1
  generalize U.drop j = U2 at d l2
  subst d
  have := hx P U1 U2 V R (by simp) (by omega) l1 e3 (by omega)
  subst this
  exact ⟨P ++ V, U2, U1, R, by simp, by simp, by simp; omega, l2, l1⟩
theorem Rot.small {m i j : Nat} {G L L' : List M} (h : Rot m i j G L) (hij : i < j) (hx : Xch.Done (m - i) (m + j - i) i L L') : Rot m i (j - i) G L' := by
  obtain ⟨P, U, V, R, rfl, rfl, e1, e2, e3⟩ := h.ex
  have d := (List.take_append_drop (j - i) V).symm
  have l1 : (V.take (j - i)).length = j - i := by rw [List.length_take]; omega
  have l2 : (V.drop (j - i)).length = i := by rw [List.length_drop]; omega
  generalize V.take (j - i) = V1 at d l1
  generalize V.drop (j - i) = V2 at d l2
  subst d
  have := hx P U V1 V2 R (by simp) (by omega) e2 l2 (by omega)
  subst this
  exact ⟨P, V2, V1, U ++ R, by simp, by simp, by omega, l2, l1⟩
theorem Rot.last {m i : Nat} {G L L' : List M} (h : Rot m i i G L) (hx : Xch.Done (m - i) m i L L') : L' = G := by
  obtain ⟨P, U, V, R, rfl, rfl, e1, e2, e3⟩ := h.ex
  have := hx P U [] V R (by simp) (by omega) e2 e3 (by simp; omega)
  rw [this]; simp
theorem Rot.xch1 {m i j : Nat} {G L : List M} (h : Rot m i j G L) (hij : j ≤ i) : Xch (m - i) m j 0 L L := by
  obtain ⟨P, U, V, R, rfl, _, e1, e2, e3⟩ := h.ex
  have d := (List.take_append_drop j U).symm
  have l1 : (U.take j).length = j := by rw [List.length_take]; omega
  have l2 : (U.drop j).length = i - j := by rw [List.length_drop]; omega
  have := Xch.start (P := P) (X := U.take j) (Q := U.drop j) (Y := V) (R := R) (a := m - i) (b := m) (n := j) (by omega) l1 e3 (by omega)
  rw [show P ++ U.take j ++ U.drop j ++ V ++ R = P ++ U ++ V ++ R by rw [List.append_assoc P, List.take_append_drop]] at this
  exact this
theorem Rot.xch2 {m i j : Nat} {G L : List M} (h : Rot m i j G L) (hij : i < j) : Xch (m - i) (m + j - i) i 0 L L := by
  obtain ⟨P, U, V, R, rfl, _, e1, e2, e3⟩ := h.ex
  have d := (List.take_append_drop (j - i) V).symm
  have l1 : (V.take (j - i)).length = j - i := by rw [List.length_take]; omega
  have l2 : (V.drop (j - i)).length = i := by rw [List.length_drop]; omega
  have := Xch.start (P := P) (X := U) (Q := V.take (j - i)) (Y := V.drop (j - i)) (R := R) (a := m - i) (b := m + j - i) (n := i) (by omega) e2 l2 (by omega)
  rw [show P ++ U ++ V.take (j - i) ++ V.drop (j - i) ++ R = P ++ U ++ V ++ R by rw [List.append_assoc (P ++ U), List.take_append_drop]] at this
  exact this
end Go.Proofs.Ytmbgcbgbdjiacaa.K
/- MarkMergeM -/
namespace Go.Proofs.Ytmbgcbgbdjiacaa.K

/-- A mark on its way up from a: it has come to k, and is to come behind i - 1 - a marks. -/
structure Up (a k e : Nat) (L L' : List M) : Prop where
  ex : ∃ P x A B R, L = P ++ x :: (A ++ B) ++ R ∧ L' = P ++ A ++ x :: B ++ R ∧ P.length = a ∧ a + A.length = k ∧ k + B.length = e
theorem Up.start {a e : Nat} {L : List M} (h : a ≤ e) (he : e < L.length) : Up a a e L L := by
  obtain ⟨P, S, R, rfl, e1, e2⟩ := cut3 L a (e + 1) (by omega) (by omega)
  cases S with
  | nil => simp at e2; omega
  | cons x S => exact ⟨P, x, [], S, R, rfl, by simp, e1, by simp, by simp at e2; omega⟩
theorem Up.step {a k e : Nat} {L L' : List M} {x y : M} (h : Up a k e L L') (hk : k < e) (hx : L'[k]? = some x) (hy : L'[k + 1]? = some y) : Up a (k + 1) e L ((L'.set k y).set (k + 1) x) := by
  obtain ⟨P, x', A, B, R, rfl, rfl, e1, e2, e3⟩ := h.ex
  cases B with
  | nil => simp at e3; omega
  | cons y' B =>
    have f : P ++ A ++ x' :: y' :: B ++ R = (P ++ A) ++ (x' :: y' :: (B ++ R)) := by simp
    have hl : (P ++ A).length = k := by rw [List.length_append]; omega
    rw [f] at hx hy ⊢
    rw [List.getElem?_append_right (by omega), hl, Nat.sub_self] at hx
    rw [List.getElem?_append_right (by omega), hl, Nat.add_sub_cancel_left] at hy
    cases hx; cases hy
    have fs : (((P ++ A) ++ (x :: y :: (B ++ R))).set k y).set (k + 1) x = (P ++ A) ++ (y :: x :: (B ++ R)) := by
      rw [List.set_append_right _ _ (by omega), List.set_append_right _ _ (by omega), hl, Nat.add_sub_cancel_left, Nat.sub_self]; rfl
    rw [fs]
    exact ⟨P, x, A ++ [y], B, R, by simp, by simp, e1, by simp; omega, by simp at e3; omega⟩
/-- A segment of one mark and an ascending one, merged. -/
theorem Up.stop {a b e : Nat} {L L' : List M} (h : Up a e e L L') (hb : e < b) (hbl : b ≤ L.length) (hs : Seg L (a + 1) b)
    (h1 : ∀ k x y, a + 1 ≤ k → k ≤ e → L[a]? = some x → L[k]? = some y → ¬ le x y = true) (h2 : ∀ k x y, e < k → k < b → L[a]? = some x → L[k]? = some y → le x y = true) : Mrg a b L L' := by
  obtain ⟨P, x, A, B, R, rfl, rfl, e1, e2, e3⟩ := h.ex
  obtain rfl : B = [] := List.eq_nil_of_length_eq_zero (by omega)
  simp only [List.append_nil] at *
  simp only [List.length_append, List.length_cons] at hbl
  obtain ⟨C, hC⟩ : ∃ C, C = R.take (b - (e + 1)) := ⟨_, rfl⟩
  obtain ⟨D, hD⟩ : ∃ D, D = R.drop (b - (e + 1)) := ⟨_, rfl⟩
  have hR : R = C ++ D := by rw [hC, hD, List.take_append_drop]
  have hCl : C.length = b - (e + 1) := by rw [hC, List.length_take]; omega
  clear hC hD
  subst hR
  have hx : (P ++ x :: A ++ (C ++ D))[a]? = some x := by
    rw [List.append_assoc, List.getElem?_append_right (by omega), e1, Nat.sub_self]; rfl
  have sAC : Asc (A ++ C) := by
    have : Seg ((P ++ [x]) ++ (A ++ C) ++ D) (P ++ [x]).length ((P ++ [x]).length + (A ++ C).length) := by
      rw [show (P ++ [x]) ++ (A ++ C) ++ D = P ++ x :: A ++ (C ++ D) by simp]
      exact hs.mono (by simp; omega) (by simp; omega)
    exact asc_seg this
  have gA : ∀ y ∈ A, ¬ le x y = true := fun y hy => by
    obtain ⟨i, hi, rfl⟩ := List.getElem_of_mem hy
    refine h1 (a + 1 + i) x _ (by omega) (by omega) hx ?_
    rw [show P ++ x :: A ++ (C ++ D) = (P ++ [x]) ++ (A ++ (C ++ D)) by simp, List.getElem?_append_right (by simp; omega), List.getElem?_append_left (by simp; omega), show a + 1 + i - (P ++ [x]).length = i by simp; omega, List.getElem?_eq_getElem hi]
  have gC : ∀ y ∈ C, le x y = true := fun y hy => by
    obtain ⟨i, hi, rfl⟩ := List.getElem_of_mem hy
    refine h2 (e + 1 + i) x _ (by omega) (by omega) hx ?_
    rw [show P ++ x :: A ++ (C ++ D) = (P ++ [x] ++ A) ++ (C ++ D) by simp, List.getElem?_append_right (by simp; omega), List.getElem?_append_left (by simp; omega), show e + 1 + i - (P ++ [x] ++ A).length = i by simp; omega, List.getElem?_eq_getElem hi]
  refine ⟨P, x :: A ++ C, A ++ x :: C, D, by simp, by simp, e1, by simp; omega, ?_, ?_⟩
  · have : Same ([x] ++ A) (A ++ [x]) := Same.swap fun u hu v hv => by rw [List.mem_singleton] at hu; subst hu; exact gA v hv
    have := this.app (Same.refl C)
    simpa using this
  · have s' := List.pairwise_append.1 sAC
    rw [Asc, List.pairwise_append]
    refine ⟨s'.1, List.pairwise_cons.2 ⟨gC, s'.2.1⟩, fun y hy z hz => ?_⟩
    rcases List.mem_cons.1 hz with rfl | hz
    · exact lt_of_not_le (gA y hy)
    · exact s'.2.2 y hy z hz
/-- A mark on its way down from e: it has come to k. -/
structure Down (k e : Nat) (L L' : List M) : Prop where
  ex : ∃ P A x B R, L = P ++ (A ++ B) ++ x :: R ∧ L' = P ++ A ++ x :: B ++ R ∧ P.length + A.length = k ∧ k + B.length = e
theorem Down.start {e : Nat} {L : List M} (he : e < L.length) : Down e e L L := by
  refine ⟨L.take e, [], L[e], [], L.drop (e + 1), ?_, ?_, by simp; omega, by simp⟩
  · simp
  · simp
theorem Down.step {k e : Nat} {L L' : List M} {x y : M} (h : Down (k + 1) e L L') (hx : L'[k + 1]? = some x) (hy : L'[k]? = some y) : Down k e L ((L'.set (k + 1) y).set k x) := by
  obtain ⟨P, A, x', B, R, rfl, rfl, e2, e3⟩ := h.ex
  obtain ⟨Z, hZ⟩ : ∃ Z, Z = P ++ A := ⟨_, rfl⟩
  have hZl : Z.length = k + 1 := by rw [hZ, List.length_append]; omega
  obtain ⟨Y, y', hY⟩ : ∃ Y y', Z = Y ++ [y'] := by
    rcases List.eq_nil_or_concat Z with h | ⟨T, y', h⟩
    · rw [h] at hZl; simp at hZl
    · exact ⟨T, y', by rw [h, List.concat_eq_append]⟩
  rw [← hZ, hY] at hx hy ⊢
  have hYl : Y.length = k := by rw [hY] at hZl; simp at hZl; omega
  have f : Y ++ [y'] ++ x' :: B ++ R = Y ++ (y' :: x' :: (B ++ R)) := by simp
  rw [f] at hx hy ⊢
  rw [List.getElem?_append_right (by omega), hYl, Nat.add_sub_cancel_left] at hx
  rw [List.getElem?_append_right (by omega), hYl, Nat.sub_self] at hy
  cases hx; cases hy
  have fs : ((Y ++ (y :: x :: (B ++ R))).set (k + 1) y).set k x = Y ++ (x :: y :: (B ++ R)) := by
    rw [List.set_append_right _ _ (by omega), List.set_append_right _ _ (by omega), hYl, Nat.add_sub_cancel_left, Nat.sub_self]; rfl
  rw [fs]
  exact ⟨Y, [], x, y :: B, R, by rw [← List.append_assoc P, ← hZ, hY]; simp, by simp, by simp; omega, by simp; omega⟩
theorem Down.stop {a k e : Nat} {L L' : List M} (h : Down k e L L') (ha : a ≤ k) (hs : Seg L a e)
    (h1 : ∀ j x y, a ≤ j → j < k → L[e]? = some x → L[j]? = some y → le y x = true) (h2 : ∀ j x y, k ≤ j → j < e → L[e]? = some x → L[j]? = some y → ¬ le y x = true) : Mrg a (e + 1) L L' := by
  obtain ⟨P0, A0, x, B, R, rfl, rfl, e2, e3⟩ := h.ex
  obtain ⟨Z, hZ⟩ : ∃ Z, Z = P0 ++ A0 := ⟨_, rfl⟩
  have hZl : Z.length = k := by rw [hZ, List.length_append]; omega
  rw [← List.append_assoc P0, ← hZ] at hs h1 h2 ⊢
  clear hZ e2 h
  obtain ⟨P, hP⟩ : ∃ P, P = Z.take a := ⟨_, rfl⟩
  obtain ⟨A, hA⟩ : ∃ A, A = Z.drop a := ⟨_, rfl⟩
  have hR : Z = P ++ A := by rw [hP, hA, List.take_append_drop]
  have hPl : P.length = a := by rw [hP, List.length_take]; omega
  clear hP hA
  subst hR
  rw [List.length_append] at hZl
  have hx : (P ++ A ++ B ++ x :: R)[e]? = some x := by
    rw [List.getElem?_append_right (by simp; omega), show e - (P ++ A ++ B).length = 0 by simp; omega]; rfl
  have sAB : Asc (A ++ B) := by
    have : Seg (P ++ (A ++ B) ++ (x :: R)) P.length (P.length + (A ++ B).length) := by
      rw [show P ++ (A ++ B) ++ (x :: R) = P ++ A ++ B ++ x :: R by simp]
      exact hs.mono (by omega) (by simp; omega)
    exact asc_seg this
  have gA : ∀ y ∈ A, le y x = true := fun y hy => by
    obtain ⟨i, hi, rfl⟩ := List.getElem_of_mem hy
    refine h1 (a + i) x _ (by omega) (by omega) hx ?_
    rw [show P ++ A ++ B ++ x :: R = P ++ (A ++ (B ++ x :: R)) by simp, List.getElem?_append_right (by omega), List.getElem?_append_left (by omega), show a + i - P.length = i by omega, List.getElem?_eq_getElem hi]
  have gB : ∀ y ∈ B, ¬ le y x = true := fun y hy => by
    obtain ⟨i, hi, rfl⟩ := List.getElem_of_mem hy
    refine h2 (k + i) x _ (by omega) (by omega) hx ?_
    rw [show P ++ A ++ B ++ x :: R = (P ++ A) ++ (B ++ x :: R) by simp, List.getElem?_append_right (by simp; omega), List.getElem?_append_left (by simp; omega), show k + i - (P ++ A).length = i by simp; omega, List.getElem?_eq_getElem hi]
  refine ⟨P, A ++ B ++ [x], A ++ x :: B, R, by simp, by simp, hPl, by simp; omega, ?_, ?_⟩
  · have : Same (B ++ [x]) ([x] ++ B) := Same.swap fun u hu v hv => by rw [List.mem_singleton] at hv; subst hv; exact gB u hu
    have := (Same.refl A).app this
    simpa using this
  · have s' := List.pairwise_append.1 sAB
    rw [Asc, List.pairwise_append]
    refine ⟨s'.1, List.pairwise_cons.2 ⟨fun z hz => lt_of_not_le (gB z hz), s'.2.1⟩, fun y hy z hz => ?_⟩
    rcases List.mem_cons.1 hz with rfl | hz
    · exact gA y hy
    · exact s'.2.2 y hy z hz

/-! ### Two segments cut and exchanged -/
theorem cut6 (L : List M) (a s m e b : Nat) (h1 : a ≤ s) (h2 : s ≤ m) (h3 : m ≤ e) (h4 : e ≤ b) (h5 : b ≤ L.length) :
    ∃ P A U V B R, L = P ++ A ++ U ++ V ++ B ++ R ∧ P.length = a ∧ a + A.length = s ∧ s + U.length = m ∧ m + V.length = e ∧ e + B.length = b := by
  obtain ⟨P, S, R, hL, e1, e2⟩ := cut3 L a b (by omega) h5
  obtain ⟨A, T, B, hS, e3, e4⟩ := cut3 S (s - a) (e - a) (by omega) (by omega)
  obtain ⟨U, V, X, hT, e5, e6⟩ := cut3 T (m - s) T.length (by omega) (Nat.le_refl _)
  have hX : X = [] := by
    have := congrArg List.length hT
    simp only [List.length_append] at this
    exact List.eq_nil_of_length_eq_zero (by omega)
  subst hX
  subst hL hS hT
  simp only [List.length_append, List.length_nil] at *
  exact ⟨P, A, U, V, B, R, by simp, e1, by omega, by omega, by omega, by omega⟩
/-- How two ascending segments are merged: a part of the first and a part of the second change places, then both halves are merged. -/
structure Sym (a s m e b d : Nat) (L G : List M) : Prop where
  rot : Rot m (m - s) (e - m) G L
  same : s = m ∨ m = e → G = L
  len : G.length = L.length
  l1 : Seg G a s
  l2 : Seg G s d
  l3 : ¬ (a < s ∧ s < d) → Seg G a d
  r1 : ∀ L1, Mrg a d G L1 → Seg L1 d e
  r2 : ∀ L1, Mrg a d G L1 → Seg L1 e b
  r3 : ¬ (d < e ∧ e < b) → ∀ L1, Mrg a d G L1 → Seg L1 d b
  all : ∀ L1 L2, Mrg a d G L1 → Mrg d b L1 L2 → Mrg a b L L2
theorem sym {a s m e b d : Nat} {L : List M} (h1 : a ≤ s) (h2 : s ≤ m) (h3 : m ≤ e) (h4 : e ≤ b) (h5 : b ≤ L.length) (hd : s + e = d + m) (hA : Seg L a m) (hB : Seg L m b)
    (g1 : s < m → m < e → ∀ x y, L[s]? = some x → L[e - 1]? = some y → ¬ le x y = true) (g2 : a < s → e < b → ∀ x y, L[s - 1]? = some x → L[e]? = some y → le x y = true) : ∃ G, Sym a s m e b d L G := by
  obtain ⟨P, A, U, V, B, R, rfl, e1, e2, e3, e4, e5⟩ := cut6 L a s m e b h1 h2 h3 h4 h5
  have sAU : Asc (A ++ U) := by
    have : Seg (P ++ (A ++ U) ++ (V ++ B ++ R)) P.length (P.length + (A ++ U).length) := by
      rw [show P ++ (A ++ U) ++ (V ++ B ++ R) = P ++ A ++ U ++ V ++ B ++ R by simp]
      exact hA.mono (by omega) (by simp; omega)
    exact asc_seg this
  have sVB : Asc (V ++ B) := by
    have : Seg ((P ++ A ++ U) ++ (V ++ B) ++ R) (P ++ A ++ U).length ((P ++ A ++ U).length + (V ++ B).length) := by
      rw [show (P ++ A ++ U) ++ (V ++ B) ++ R = P ++ A ++ U ++ V ++ B ++ R by simp]
      exact hB.mono (by simp; omega) (by simp; omega)
    exact asc_seg this
  have pAU := List.pairwise_append.1 sAU
  have pVB := List.pairwise_append.1 sVB
  -- all of V is less than all of U
  have gUV : ∀ x ∈ U, ∀ y ∈ V, ¬ le x y = true := by
    cases U with
    | nil => exact fun _ h => nomatch h
    | cons u U =>
      rcases List.eq_nil_or_concat V with hV | ⟨V', v, hV⟩
      · subst hV; exact fun _ _ _ h => nomatch h
      · rw [List.concat_eq_append] at hV
        subst hV
        simp only [List.length_append, List.length_cons, List.length_nil] at e3 e4
        have k := g1 (by omega) (by omega) u v (by
          rw [show P ++ A ++ u :: U ++ (V' ++ [v]) ++ B ++ R = (P ++ A) ++ (u :: (U ++ (V' ++ [v]) ++ B ++ R)) by simp, List.getElem?_append_right (by simp; omega), show s - (P ++ A).length = 0 by simp; omega]; rfl) (by
          rw [show P ++ A ++ u :: U ++ (V' ++ [v]) ++ B ++ R = (P ++ A ++ u :: U ++ V') ++ (v :: (B ++ R)) by simp, List.getElem?_append_right (by simp; omega), show e - 1 - (P ++ A ++ u :: U ++ V').length = 0 by simp; omega]; rfl)
        have pU := List.pairwise_cons.1 pAU.2.1
        have pV := List.pairwise_append.1 pVB.1
        intro x hx y hy c
        have c1 : le u x = true := by
          rcases List.mem_cons.1 hx with rfl | hx
          · exact le_refl _
          · exact pU.1 x hx
        have c2 : le y v = true := by
          rcases List.mem_append.1 hy with hy | hy
          · exact pV.2.2 y hy v (by simp)
          · rw [List.mem_singleton] at hy; subst hy; exact le_refl _
        exact k (le_trans c1 (le_trans c c2))
  -- all of A is at most all of B
  have gAB : ∀ x ∈ A, ∀ y ∈ B, le x y = true := by
    rcases List.eq_nil_or_concat A with hA' | ⟨A', v, hA'⟩
    · subst hA'; exact fun _ h => nomatch h
    · rw [List.concat_eq_append] at hA'
      subst hA'
      cases B with
      | nil => exact fun _ _ _ h => nomatch h
      | cons u B =>
        simp only [List.length_append, List.length_cons, List.length_nil] at e2 e5
        have k := g2 (by omega) (by omega) v u (by
          rw [show P ++ (A' ++ [v]) ++ U ++ V ++ u :: B ++ R = (P ++ A') ++ (v :: (U ++ V ++ u :: B ++ R)) by simp, List.getElem?_append_right (by simp; omega), show s - 1 - (P ++ A').length = 0 by simp; omega]; rfl) (by
          rw [show P ++ (A' ++ [v]) ++ U ++ V ++ u :: B ++ R = (P ++ (A' ++ [v]) ++ U ++ V) ++ (u :: (B ++ R)) by simp, List.getElem?_append_right (by simp; omega), show e - (P ++ (A' ++ [v]) ++ U ++ V).length = 0 by simp; omega]; rfl)
        have pB := List.pairwise_cons.1 pVB.2.1
        have pA := List.pairwise_append.1 pAU.1
        intro x hx y hy
        have c1 : le x v = true := by
          rcases List.mem_append.1 hx with hx | hx
          · exact pA.2.2 x hx v (by simp)
          · rw [List.mem_singleton] at hx; subst hx; exact le_refl _
        have c2 : le u y = true := by
          rcases List.mem_cons.1 hy with rfl | hy
          · exact le_refl _
          · exact pB.1 y hy
        exact le_trans c1 (le_trans k c2)
  have eG : ∀ X Y : List M, P ++ X ++ Y ++ R = P ++ X ++ (Y ++ R) := fun X Y => by simp
  refine ⟨P ++ (A ++ V) ++ (U ++ B) ++ R, ⟨P ++ A, U, V, B ++ R, by simp, by simp, by simp; omega, by omega, by omega⟩, fun h => ?_, by simp; omega, ?_, ?_, fun h => ?_, ?_, ?_, ?_, ?_⟩
  · rcases h with h | h
    · obtain rfl : U = [] := List.eq_nil_of_length_eq_zero (by omega)
      simp
    · obtain rfl : V = [] := List.eq_nil_of_length_eq_zero (by omega)
      simp
  · have := seg_asc (P := P) (R := V ++ (U ++ B) ++ R) pAU.1
    rw [show P ++ (A ++ V) ++ (U ++ B) ++ R = P ++ A ++ (V ++ (U ++ B) ++ R) by simp]
    exact this.mono (by omega) (by omega)
  · have := seg_asc (P := P ++ A) (R := (U ++ B) ++ R) pVB.1
    rw [show P ++ (A ++ V) ++ (U ++ B) ++ R = P ++ A ++ V ++ ((U ++ B) ++ R) by simp]
    exact this.mono (by simp; omega) (by simp; omega)
  · have k : A = [] ∨ V = [] := by
      by_cases c : a < s
      · exact Or.inr (List.eq_nil_of_length_eq_zero (by omega))
      · exact Or.inl (List.eq_nil_of_length_eq_zero (by omega))
    have : Asc (A ++ V) := by
      rcases k with rfl | rfl
      · exact pVB.1
      · rw [List.append_nil]; exact pAU.1
    have := seg_asc (P := P) (R := (U ++ B) ++ R) this
    rw [show P ++ (A ++ V) ++ (U ++ B) ++ R = P ++ (A ++ V) ++ ((U ++ B) ++ R) by simp]
    exact this.mono (by omega) (by simp; omega)
  all_goals
    intro L1
  · rintro ⟨P', S, T, R', hG, rfl, f1, f2, f3, f4⟩
    obtain ⟨h', hR⟩ := List.append_inj (show (P ++ (A ++ V)) ++ (U ++ B ++ R) = (P' ++ S) ++ R' by rw [← hG]; simp) (by simp; omega)
    have hl := f3.len
    subst hR
    have := seg_asc (P := P' ++ T) (R := B ++ R) pAU.2.1
    rw [show P' ++ T ++ (U ++ B ++ R) = P' ++ T ++ U ++ (B ++ R) by simp]
    exact this.mono (by simp; omega) (by simp; omega)
  · rintro ⟨P', S, T, R', hG, rfl, f1, f2, f3, f4⟩
    obtain ⟨h', hR⟩ := List.append_inj (show (P ++ (A ++ V)) ++ (U ++ B ++ R) = (P' ++ S) ++ R' by rw [← hG]; simp) (by simp; omega)
    have hl := f3.len
    subst hR
    have := seg_asc (P := P' ++ T ++ U) (R := R) pVB.2.1
    rw [show P' ++ T ++ (U ++ B ++ R) = P' ++ T ++ U ++ B ++ R by simp]
    exact this.mono (by simp; omega) (by simp; omega)
  · intro L1
    rintro ⟨P', S, T, R', hG, rfl, f1, f2, f3, f4⟩
    obtain ⟨h', hR⟩ := List.append_inj (show (P ++ (A ++ V)) ++ (U ++ B ++ R) = (P' ++ S) ++ R' by rw [← hG]; simp) (by simp; omega)
    have hl := f3.len
    subst hR
    have k : U = [] ∨ B = [] := by
      by_cases c : d < e
      · exact Or.inr (List.eq_nil_of_length_eq_zero (by omega))
      · exact Or.inl (List.eq_nil_of_length_eq_zero (by omega))
    have : Asc (U ++ B) := by
      rcases k with rfl | rfl
      · exact pVB.2.1
      · rw [List.append_nil]; exact pAU.2.1
    have := seg_asc (P := P' ++ T) (R := R) this
    rw [show P' ++ T ++ (U ++ B) ++ R = P' ++ T ++ (U ++ B ++ R) by simp] at this
    exact this.mono (by simp; omega) (by simp; omega)
  · rintro L2 ⟨P', S, T, R', hG, rfl, f1, f2, f3, f4⟩ ⟨P'', S', T', R'', hG', rfl, i1, i2, i3, i4⟩
    obtain ⟨h', hR⟩ := List.append_inj (show (P ++ (A ++ V)) ++ (U ++ B ++ R) = (P' ++ S) ++ R' by rw [← hG]; simp) (by simp; omega)
    obtain ⟨hP, hS⟩ := List.append_inj h' (by omega)
    have hl := f3.len
    subst hR hP hS
    obtain ⟨h'', hR⟩ := List.append_inj (show (P ++ T) ++ (U ++ B) ++ R = (P'' ++ S') ++ R'' by rw [← hG']; simp) (by
      simp only [List.length_append] at f2 hl ⊢; omega)
    obtain ⟨hP, hS⟩ := List.append_inj h'' (by simp only [List.length_append] at f2 hl ⊢; omega)
    have hl' := i3.len
    subst hR hP hS
    refine ⟨P, A ++ U ++ V ++ B, T ++ T', R, by simp, by simp, e1, by simp; omega, ?_, ?_⟩
    · have : Same (A ++ U ++ V ++ B) ((A ++ V) ++ (U ++ B)) := by
        have := ((Same.refl A).app (Same.swap gUV)).app (Same.refl B)
        simpa using this
      exact this.trans (f3.app i3)
    · rw [Asc, List.pairwise_append]
      refine ⟨f4, i4, fun x hx y hy => ?_⟩
      rw [f3.mem, List.mem_append] at hx
      rw [i3.mem, List.mem_append] at hy
      rcases hx with hx | hx <;> rcases hy with hy | hy
      · exact pAU.2.2 x hx y hy
      · exact gAB x hx y hy
      · exact lt_of_not_le (gUV y hy x hx)
      · exact pVB.2.2 x hx y hy

end Go.Proofs.Ytmbgcbgbdjiacaa.K
/- MarkStableM -/
namespace Go.Proofs.Ytmbgcbgbdjiacaa.K

theorem Seg.nil (L : List M) {p q : Nat} (h : q ≤ p) : Seg L p q := fun i j x y a b c => by omega
theorem Mrg.seg {a b : Nat} {L L' : List M} (h : Mrg a b L L') {p q : Nat} (hpq : q ≤ a ∨ b ≤ p) (hs : Seg L p q) : Seg L' p q := fun i j x y h1 h2 h3 hx hy => by
  rw [h.out (by omega)] at hx
  rw [h.out (by omega)] at hy
  exact hs i j x y h1 h2 h3 hx hy
/-- All runs of length z ascend, the last one, which may be shorter, too. -/
def Runs (z n : Nat) (L : List M) : Prop := ∀ i, Seg L (i * z) (min ((i + 1) * z) n)
/-- The first k runs of length z ascend. -/
def Full (z k : Nat) (L : List M) : Prop := ∀ i, i < k → Seg L (i * z) ((i + 1) * z)
theorem Full.next {z k : Nat} {L L' : List M} (h : Full z k L) (hm : Mrg (k * z) (k * z + z) L L') : Full z (k + 1) L' := fun i hi => by
  by_cases e : i = k
  · subst e
    rw [Nat.succ_mul]; exact hm.inn
  · refine hm.seg (Or.inl ?_) (h i (by omega))
    exact Nat.mul_le_mul_right z (by omega)
theorem Full.last {z k n : Nat} {L L' : List M} (h : Full z k L) (hm : Mrg (k * z) n L L') (hk : k * z ≤ n) (hn : n < k * z + z) : Runs z n L' := fun i => by
  rcases Nat.lt_trichotomy i k with c | c | c
  · have := Nat.mul_le_mul_right z (show i + 1 ≤ k by omega)
    rw [Nat.min_eq_left (by omega)]
    exact hm.seg (Or.inl this) (h i c)
  · subst c
    rw [Nat.min_eq_right (by rw [Nat.succ_mul]; omega)]; exact hm.inn
  · have := Nat.mul_le_mul_right z (show k + 1 ≤ i by omega)
    rw [Nat.succ_mul] at this
    exact Seg.nil _ (by omega)
/-- From the a-th mark on runs of length z ascend, before it runs of twice this length. -/
structure Half (z k n : Nat) (L : List M) : Prop where
  full : Full (2 * z) k L
  rest : ∀ i, k * (2 * z) ≤ i * z → Seg L (i * z) (min ((i + 1) * z) n)
theorem Half.start {z n : Nat} {L : List M} (h : Runs z n L) : Half z 0 n L := ⟨fun i hi => by omega, fun i _ => h i⟩
theorem Half.one {z k n : Nat} {L : List M} (h : Half z k n L) (hn : k * (2 * z) + z ≤ n) : Seg L (k * (2 * z)) (k * (2 * z) + z) := by
  have e : (2 * k) * z = k * (2 * z) := by rw [Nat.mul_comm 2 k, Nat.mul_assoc]
  have e2 : (2 * k + 1) * z = k * (2 * z) + z := by rw [Nat.succ_mul, e]
  have := h.rest (2 * k) (by omega)
  rw [e, e2, Nat.min_eq_left hn] at this
  exact this
theorem Half.two {z k n q : Nat} {L : List M} (h : Half z k n L) (hq : q ≤ n) (hq2 : q ≤ k * (2 * z) + z + z) : Seg L (k * (2 * z) + z) q := by
  have e : (2 * k + 1) * z = k * (2 * z) + z := by rw [Nat.succ_mul, Nat.mul_comm 2 k, Nat.mul_assoc]
  have e2 : (2 * k + 1 + 1) * z = k * (2 * z) + z + z := by rw [Nat.succ_mul, e]
  have := h.rest (2 * k + 1) (by omega)
  rw [e, e2] at this
  exact this.mono (Nat.le_refl _) (by omega)
theorem Half.short {z k n : Nat} {L : List M} (h : Half z k n L) (hn : n ≤ k * (2 * z) + z) : Seg L (k * (2 * z)) n := by
  have e : (2 * k) * z = k * (2 * z) := by rw [Nat.mul_comm 2 k, Nat.mul_assoc]
  have e2 : (2 * k + 1) * z = k * (2 * z) + z := by rw [Nat.succ_mul, e]
  have := h.rest (2 * k) (by omega)
  rw [e, e2, Nat.min_eq_right hn] at this
  exact this
theorem Half.next {z k n : Nat} {L L' : List M} (hz : 0 < z) (h : Half z k n L) (hm : Mrg (k * (2 * z)) (k * (2 * z) + 2 * z) L L') : Half z (k + 1) n L' := by
  refine ⟨h.full.next hm, fun i hi => ?_⟩
  rw [Nat.succ_mul] at hi
  exact hm.seg (Or.inr hi) (h.rest i (by omega))
theorem Half.last {z k n : Nat} {L L' : List M} (h : Half z k n L) (hm : Mrg (k * (2 * z)) n L L') (hk : k * (2 * z) ≤ n) (hn : n < k * (2 * z) + 2 * z) : Runs (2 * z) n L' := h.full.last hm hk hn
theorem Runs.done {z n : Nat} {L : List M} (h : Runs z n L) (hn : n ≤ z) (hl : n = L.length) : Asc L := by
  have := h 0
  rw [Nat.zero_mul, Nat.zero_add, Nat.one_mul, Nat.min_eq_right hn] at this
  have k := asc_seg (P := []) (S := L) (R := []) (by simpa [hl] using this)
  exact k
end Go.Proofs.Ytmbgcbgbdjiacaa.K
