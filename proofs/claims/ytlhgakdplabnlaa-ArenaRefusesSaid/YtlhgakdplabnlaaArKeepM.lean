/- What is known of the nodes so far, live and dead (layer 13's ArenaKeeps): the mathematics, and a row of yes and no beside the nodes. -/
import Derived.Test.YtlhgakdplabnlaaArCnt
namespace Go.Proofs.Ytlhgakdplabnlaa
open Go.RowKit

/-- What a deed does, told in three. -/
theorem Ar.did3 (d : Ar.Dd) (all : List Ar.I) (a : A13.A) : (d.opK = 0 ∧ d.opE all a = 0 ∧ N.chk (d.opX all a) = 0 ∧ d.opH all a = A13.alH Ar.ms a (d.opX all a) ∧ d.op all a = A13.al Ar.ms a (d.opX all a) ∧ A13.alE Ar.ms a (d.opX all a) = 0) ∨
    (d.opK = 2 ∧ d.opE all a = 0 ∧ a.has (d.opH all a) = true ∧ d.op all a = a.free (d.opH all a)) ∨
    (((d.opK = 0 ∧ d.opE all a ≠ 0) ∨ d.opK = 1 ∨ (d.opK = 2 ∧ d.opE all a ≠ 0)) ∧ ∃ n, n ≤ a.st + 1 ∧ d.op all a = { a with st := n }) := by
  cases Ar.did d all a with
  | made k e c h o z => exact .inl ⟨k, e, c, h, o, z⟩
  | not k e h o => exact .inr (.inr ⟨.inl ⟨k, e⟩, a.st, by omega, o⟩)
  | freed k e h s o => exact .inr (.inl ⟨k, e, by rw [h]; exact s, by rw [h]; exact o⟩)
  | read k e h s o => exact .inr (.inr ⟨.inr (.inl k), a.st, by omega, o⟩)
  | stale k e h s o =>
    refine .inr (.inr ⟨?_, a.st + 1, Nat.le_refl _, o⟩)
    rcases k with k | k
    · exact .inr (.inl k)
    · exact .inr (.inr ⟨k, by rw [e]; decide⟩)
/-- Which of the nodes so far are dead; the others are live and as they were written. -/
def Ar.Kp (a : A13.A) (all : List Ar.I) (ds : List Bool) : Prop := ∀ (k : Nat) (i : Ar.I) (d : Bool), all[k]? = some i → ds[k]? = some d → (d = true → a.has i.h = false) ∧ (d = false → a.look i.h = some i.x.nd)
/-- Those that are dead behind a free of h. -/
def Ar.dy (h : Nat) (all : List Ar.I) (ds : List Bool) : List Bool := List.zipWith (fun i d => d || decide (i.h = h)) all ds
def Ar.stt (a : A13.A) (n : Nat) : A13.A := { a with st := n }
theorem Ar.look_has {a : A13.A} {h : Nat} {x : N.Nd} (k : a.look h = some x) : a.has h = true := by unfold A13.A.has; rw [k]; rfl
theorem Ar.Kp.nil (a : A13.A) : Ar.Kp a [] [] := fun k i d h _ => by cases h
theorem Ar.Kp.stt {a : A13.A} {all : List Ar.I} {ds : List Bool} (h : Ar.Kp a all ds) (n : Nat) : Ar.Kp (Ar.stt a n) all ds := h
theorem Ar.dy_len {h : Nat} {all : List Ar.I} {ds : List Bool} (hl : all.length = ds.length) : (Ar.dy h all ds).length = ds.length := by unfold Ar.dy; rw [List.length_zipWith, hl, Nat.min_self]
theorem Ar.dy_at {h k : Nat} {all : List Ar.I} {ds : List Bool} {i : Ar.I} {d : Bool} (hi : all[k]? = some i) (hd : ds[k]? = some d) : (Ar.dy h all ds)[k]? = some (d || decide (i.h = h)) := by unfold Ar.dy; rw [List.getElem?_zipWith, hi, hd]
theorem Ar.Kp.freed {a : A13.A} {all : List Ar.I} {ds : List Bool} (v : A13.Inv a) (k : Ar.Kp a all ds) (hl : all.length = ds.length) {h : Nat} (hh : a.has h = true) : Ar.Kp (a.free h) all (Ar.dy h all ds) := fun j i d' hi hd' => by
  obtain ⟨d, hd⟩ : ∃ d, ds[j]? = some d := ⟨_, List.getElem?_eq_getElem (by rw [← hl]; exact (List.getElem?_eq_some_iff.1 hi).1)⟩
  rw [Ar.dy_at hi hd] at hd'
  obtain ⟨k1, k2⟩ := k j i d hi hd
  injection hd' with hd'
  subst hd'
  by_cases e : i.h = h
  · refine ⟨fun _ => ?_, fun c => ?_⟩
    · rw [e]; unfold A13.A.has; rw [A13.look_gone h hh]; rfl
    · rw [decide_eq_true e] at c; simp at c
  · rw [decide_eq_false e, Bool.or_false]
    refine ⟨fun c => ?_, fun c => ?_⟩
    · have := k1 c
      unfold A13.A.has at this ⊢
      rw [A13.keeps_free v e]; exact this
    · rw [A13.keeps_free v e]; exact k2 c
theorem Ar.look_al {a : A13.A} {x : N.Nd} {k : Nat} (e : A13.alE Ar.ms a x = 0) (h : k ≠ A13.alH Ar.ms a x) : (A13.al Ar.ms a x).look k = a.look k := by
  have t := A13.al_yes e
  rw [t.hand] at h
  rw [t.next]
  unfold A13.A.look
  show ((a.items ++ [(a.l.tkH, x)]).find? _).map Prod.snd = _
  rw [List.find?_append]
  have : ([(a.l.tkH, x)] : List (Nat × N.Nd)).find? (fun i => i.1 == k) = none := by
    rw [List.find?_cons]
    have : (a.l.tkH == k) = false := by simpa using fun e => h e.symm
    rw [this]; rfl
  rw [this, Option.or_none]
theorem Ar.Kp.made {a : A13.A} {all : List Ar.I} {ds : List Bool} (v : A13.Inv a) (k : Ar.Kp a all ds) (hl : all.length = ds.length) {x : N.Nd} (e : A13.alE Ar.ms a x = 0) (hn : ∀ i ∈ all, i.h ≠ A13.alH Ar.ms a x) {y : N.NArg} (hy : y.nd = x) :
    Ar.Kp (A13.al Ar.ms a x) (all ++ [⟨A13.alH Ar.ms a x, y⟩]) (ds ++ [false]) := fun j i d hi hd => by
  by_cases hj : j < all.length
  · rw [List.getElem?_append_left hj] at hi
    rw [List.getElem?_append_left (by omega)] at hd
    obtain ⟨k1, k2⟩ := k j i d hi hd
    have hne := hn i (List.mem_of_getElem? hi)
    refine ⟨fun c => ?_, fun c => ?_⟩
    · have := k1 c
      unfold A13.A.has at this ⊢
      rw [Ar.look_al e hne]; exact this
    · rw [Ar.look_al e hne]; exact k2 c
  · rw [List.getElem?_append_right (by omega)] at hi hd
    have hz : j - all.length = 0 := by
      have := (List.getElem?_eq_some_iff.1 hi).1
      simp at this; omega
    rw [hz] at hi
    rw [show j - ds.length = 0 by omega] at hd
    simp at hi hd
    subst hi
    subst hd
    refine ⟨(fun c => by cases c), fun _ => ?_⟩
    dsimp only
    rw [hy]
    exact A13.look_new v e
theorem Ar.hist_al {a : A13.A} (v : A13.Inv a) {all dead : List Nat} (k : FL.Hist a.l all dead) {x : N.Nd} (e : A13.alE Ar.ms a x = 0) : A13.alH Ar.ms a x ∉ all ∧ FL.Hist (A13.al Ar.ms a x).l (all ++ [A13.alH Ar.ms a x]) dead := by
  have t := A13.al_yes e
  obtain ⟨s, r, hs⟩ := t.top
  obtain ⟨h1, _, h3⟩ := FL.hist_tk v.l k hs
  have el : (A13.al Ar.ms a x).l = a.l.tk := by rw [t.next]
  rw [t.hand, el]
  exact ⟨h1, h3⟩
theorem Ar.hist_free {a : A13.A} (v : A13.Inv a) {all dead : List Nat} (k : FL.Hist a.l all dead) {h : Nat} (hh : a.has h = true) : FL.Hist (a.free h).l all (dead ++ [h]) := by
  rw [A13.free_yes hh]
  exact (FL.hist_gv v.l k ((A13.has_iff v).1 hh)).2.2
/-- Some of the row are turned already. -/
def Ar.mid (ds ds' : List Bool) (k : Nat) : List Bool := ds'.take k ++ ds.drop k
theorem Ar.mid_zero (ds ds' : List Bool) : Ar.mid ds ds' 0 = ds := by unfold Ar.mid; simp
theorem Ar.mid_all {ds ds' : List Bool} {n : Nat} (h : ds.length ≤ n) (h' : ds'.length ≤ n) : Ar.mid ds ds' n = ds' := by unfold Ar.mid; rw [List.take_of_length_le h', List.drop_eq_nil_of_le h, List.append_nil]
theorem Ar.mid_len {ds ds' : List Bool} (h : ds'.length = ds.length) {k : Nat} (hk : k ≤ ds.length) : (Ar.mid ds ds' k).length = ds.length := by unfold Ar.mid; rw [List.length_append, List.length_take, List.length_drop]; omega
theorem Ar.mid_at {ds ds' : List Bool} (h : ds'.length = ds.length) {k : Nat} (hk : k < ds.length) : (Ar.mid ds ds' k)[k]? = ds[k]? := by
  unfold Ar.mid
  rw [List.getElem?_append_right (by rw [List.length_take]; omega), List.length_take, List.getElem?_drop]
  congr 1
  omega
theorem Ar.mid_next {ds ds' : List Bool} (h : ds'.length = ds.length) {k : Nat} {d : Bool} (hd : ds'[k]? = some d) : (Ar.mid ds ds' k).set k d = Ar.mid ds ds' (k + 1) := by
  have hk := (List.getElem?_eq_some_iff.1 hd).1
  apply List.ext_getElem?
  intro i
  rw [List.getElem?_set, Ar.mid_len h (by omega)]
  have key : ∀ n, n ≤ ds.length → (Ar.mid ds ds' n)[i]? = if i < n then ds'[i]? else ds[i]? := fun n hn => by
    unfold Ar.mid
    by_cases c : i < n
    · rw [if_pos c, List.getElem?_append_left (by rw [List.length_take]; omega), List.getElem?_take, if_pos c]
    · rw [if_neg c, List.getElem?_append_right (by rw [List.length_take]; omega), List.length_take, List.getElem?_drop]
      congr 1
      omega
  rw [key k (by omega), key (k + 1) (by omega)]
  by_cases c : k = i
  · subst c
    rw [if_pos rfl, if_pos (by omega), if_pos (by omega), hd]
  · rw [if_neg c]
    by_cases c2 : i < k
    · rw [if_pos c2, if_pos (by omega)]
    · rw [if_neg c2, if_neg (by omega)]
theorem Ar.mid_same {ds ds' : List Bool} (h : ds'.length = ds.length) {k : Nat} {d : Bool} (hd : ds[k]? = some d) (hd' : ds'[k]? = some d) : Ar.mid ds ds' k = Ar.mid ds ds' (k + 1) := by
  have hk := (List.getElem?_eq_some_iff.1 hd').1
  rw [← Ar.mid_next h hd']
  apply List.ext_getElem?
  intro i
  rw [List.getElem?_set]
  by_cases c : k = i
  · subst c
    rw [if_pos rfl, if_pos (by rw [Ar.mid_len h (by omega)]; omega), Ar.mid_at h (by omega), hd]
  · rw [if_neg c]
/-! ### In memory -/
section
variable {O : World → Nat → A13.A → (Nat → Prop) → Prop} {w W W' : World} {p : Nat} {a a' : A13.A} {v u : Value} {all pend : List Ar.I} {L : Nat → Prop}
/-- The law's own row has grown. -/
theorem Ar.St.grow (X : Ar.Pa O) (h : Ar.St O w p a v all pend L W) (hg : W.grownBy W' u.ownBlock) (hL : ∀ k, u.ownBlock = some k → L k) {L' : Nat → Prop} (hL' : ∀ k, L' k → L k ∨ (W.heap.size ≤ k ∧ k < W'.heap.size)) : Ar.St O w p a v all pend L' W' := by
  obtain ⟨R, K, hO, hR, hv, hk, h1, h2, h3⟩ := h.ex
  have hb : FL.But (fun k => u.ownBlock = some k) W W' := FL.But.grown hg (fun _ c => c)
  have hlt := X.lt hO
  refine ⟨hb.toBelow h.below h.below.size (fun k c => (h3 k (hL k c)).2), h.chk, R, K, X.but hO hb (fun k c c' => (h2 k (.inr (hL k c'))).1 c), hR, hb.row hv (fun k c c' => (h2 k (.inr (hL k c'))).2.1 c), hk.but hb (fun k c c' => (h3 k (hL k c')).1 c), h1, fun k c => ?_, fun k c => ?_⟩
  · rcases c with c | c
    · exact ⟨(h2 k (.inl c)).1, (h2 k (.inl c)).2.1, Nat.lt_of_lt_of_le (h2 k (.inl c)).2.2 hb.size⟩
    · rcases hL' k c with c | c
      · exact ⟨(h2 k (.inr c)).1, (h2 k (.inr c)).2.1, Nat.lt_of_lt_of_le (h2 k (.inr c)).2.2 hb.size⟩
      · exact ⟨fun c' => by have := hlt k c'; omega, fun e => by have := (hv.lt k e).2; omega, c.2⟩
  · rcases hL' k c with c | c
    · exact h3 k c
    · exact ⟨fun c' => by have := (h2 k (.inl c')).2.2; omega, by have := h.below.size; omega⟩
theorem Ar.kept_own {base n : Nat} {e : TypeId} {m : Nat} {xs : List Value} (ho : W.ownsRow base e m u n xs) (hk : Ar.Kept L W W') (hL : ∀ k, u.ownBlock = some k → L k) : W'.ownsRow base e m u n xs := by
  refine ⟨ho.1, ?_⟩
  rcases ho.2 with hn | ⟨g, cap, cur, rfl, hb, hg, rest⟩
  · exact .inl hn
  · refine .inr ⟨g, cap, cur, rfl, hb, ?_, rest⟩
    rw [(hk g (hL g rfl)).2]; exact hg
/-- An arena, the nodes so far, and a row of yes and no of the law's own. -/
structure Ar.Kr (O : World → Nat → A13.A → (Nat → Prop) → Prop) (w : World) (p : Nat) (a : A13.A) (v u : Value) (all : List Ar.I) (bs : List Bool) (W : World) : Prop where
  st : Ar.St O w p a v all [] (fun k => u.ownBlock = some k) W
  row : W.ownsRow w.heap.size 4 1 u bs.length (FL.bools bs)
theorem Ar.Kr.on (X : Ar.Pa O) {bs : List Bool} (h : Ar.Kr O w p a v u all bs W) (hb : Below W.heap.size W W') : Ar.Kr O w p a v u all bs W' := ⟨h.st.on X hb, D.own_below h.row hb⟩
/-- A place of the row is written. -/
theorem Ar.Kr.set (X : Ar.Pa O) {bs : List Bool} {g n c : Nat} (h : Ar.Kr O w p a v (.slice (some ⟨g, 0, none⟩) n c) all bs W) (hn : n = bs.length) (k : Nat) (b : Bool) : Ar.Kr O w p a v (.slice (some ⟨g, 0, none⟩) n c) all (bs.set k b) (W.setCell ⟨g, k, none⟩ (.bool b)) := by
  subst hn
  exact ⟨h.st.put X rfl k _, by rw [List.length_set, ← FL.b_set]; exact V.own_set h.row k _⟩
end
theorem Ar.append_bool {W : World} {ops : Array Oper} {rest : List Oper} {o : Oper} {a : Act} {Q : Exit → Act → World → Prop} (hgd : o.guard = none) (s x : Operand)
    (ho : o.op = .call { callee := .builtin .append, args := #[s, x], argTypes := #[72, 72] })
    (base : Nat) (v : Value) (k : Nat) (bs : List Bool) (hs : a.eval s = v) (hown : W.ownsRow base 4 1 v k (FL.bools bs)) (hk : k = bs.length) (b : Bool) (cc : Nat) (hx : a.eval x = .slice (some ⟨W.heap.size, 0, none⟩) 1 cc) (hn : k ≤ 1000000) (hbase : base ≤ W.heap.size)
    (h : ∀ v' w', Hid (w'.ownsRow base 4 1 v' (bs ++ [b]).length (FL.bools (bs ++ [b]))) → Hid (W.grownBy w' v.ownBlock) → Hid (v'.ownBlock = v.ownBlock ∨ ∃ g, v'.ownBlock = some g ∧ W.heap.size ≤ g) → wpList Try.prog ops Q rest (a.put o.dst v') w') :
    wpList Try.prog ops Q (o :: rest) a (W.alloc (.cells #[.bool b] 4)) := by
  subst hk
  obtain ⟨ip, hp, hp0, hp1, hp2⟩ := info_parts FL.infoBool
  refine wpList_append_own_at _ hgd s x _ ho base 4 ip (.bool false) 1 1 Try.underlying72 hp hp0 hp1 hp2 rfl (by decide) v bs.length (FL.bools bs) hs (hown.alloc _) ⟨W.heap.size, 0, none⟩ 1 cc [.bool b] hx rfl ?_ (fun y hy => by rw [List.mem_singleton.1 hy]; rfl) (by unfold maxLen; omega) (by omega) (by simp only [World.size_alloc]; omega) ?_
  · exact D.news W [.bool b] 4
  · intro v' w' h1 h2 _ h4
    refine h v' w' ?_ ⟨h2.os, h2.tape, h2.output, Nat.le_trans (by simp only [World.size_alloc]; omega) h2.size, fun k hk hne => (h2.block k (by simp only [World.size_alloc]; omega) hne).trans (Lib.alloc_old W _ k hk)⟩ ?_
    · show w'.ownsRow _ _ _ _ _ _
      rw [List.length_append]
      unfold FL.bools at h1 ⊢
      rw [List.map_append]; exact h1
    · rcases h4 with h4 | h4
      · exact .inl h4
      · exact .inr ⟨_, h4, by simp only [World.size_alloc]; omega⟩
end Go.Proofs.Ytlhgakdplabnlaa
