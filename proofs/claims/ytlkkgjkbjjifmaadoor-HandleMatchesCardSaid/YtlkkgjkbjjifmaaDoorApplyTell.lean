/- What a string of different bytes tells of a delta: the mathematics of P4.5. It speaks of no program. -/
import Derived.Test.YtlkkgjkbjjifmaaDoorApplyMath
namespace Go.Proofs.YtlkkgjkbjjifmaaDoor.D

/-- The byte that an entry of 'atoms' stands for. -/
def vb (S : List UInt8) (i : Int) : UInt8 := if i < 0 then UInt8.ofNat (-1 - i).toNat else S.getD i.toNat 0
theorem vb_neg (S : List UInt8) (c : UInt8) : vb S (neg c) = c := by
  unfold vb neg
  rw [if_pos (by omega)]
  have : (-1 - (-1 - (c.toNat : Int))).toNat = c.toNat := by omega
  rw [this, UInt8.ofNat_toNat]
theorem vb_at (S : List UInt8) (k : Nat) : vb S (k : Int) = S.getD k 0 := by
  unfold vb
  rw [if_neg (by omega), Int.toNat_natCast]
theorem map_vb_run (S : List UInt8) (k n : Nat) (h : k + n ≤ S.length) : ((List.range n).map fun i => ((k + i : Nat) : Int)).map (vb S) = (S.drop k).take n := by
  rw [List.map_map]
  refine List.ext_getElem (by simp; omega) fun i h1 h2 => ?_
  simp only [List.length_map, List.length_range] at h1
  rw [List.getElem_map, List.getElem_range, List.getElem_take, List.getElem_drop]
  show vb S ((k + i : Nat) : Int) = _
  rw [vb_at, List.getD_eq_getElem?_getD, List.getElem?_eq_getElem (by omega)]
  rfl
theorem apl_atoms (S : List UInt8) (a : List Q) : ∀ k, k + inL a ≤ S.length → apl (S.drop k) a = (atoms k a).map (vb S) := by
  induction a with
  | nil => intro k _; rfl
  | cons p r ih =>
    intro k h
    have hr : inL (p :: r) = in1 p + inL r := rfl
    cases p with
    | R n =>
      simp only [in1] at hr
      simp only [apl, atoms, List.map_append]
      rw [map_vb_run S k n (by omega), List.drop_drop, ih _ (by omega)]
    | I t =>
      simp only [in1] at hr
      simp only [apl, atoms, List.map_append, List.map_map]
      rw [ih _ (by omega)]
      have : t.map (vb S ∘ neg) = t := by
        rw [show (vb S ∘ neg) = id from funext fun c => vb_neg S c, List.map_id]
      rw [this]
    | D n =>
      simp only [in1] at hr
      simp only [apl, atoms]
      rw [List.drop_drop, ih _ (by omega)]
theorem atoms_good (a : List Q) : ∀ k, ∀ x ∈ atoms k a, (∃ c ∈ insd a, x = neg c) ∨ ∃ i : Nat, x = (i : Int) ∧ k ≤ i ∧ i < k + inL a := by
  induction a with
  | nil => intro k x hx; cases hx
  | cons p r ih =>
    intro k x hx
    have hr : inL (p :: r) = in1 p + inL r := rfl
    cases p with
    | R n =>
      simp only [in1] at hr
      simp only [atoms, List.mem_append] at hx
      rcases hx with hx | hx
      · obtain ⟨i, hi, rfl⟩ := List.mem_map.1 hx
        have := List.mem_range.1 hi
        exact .inr ⟨k + i, rfl, by omega, by omega⟩
      · rcases ih _ x hx with ⟨c, hc, e⟩ | ⟨i, e, h1, h2⟩
        · exact .inl ⟨c, hc, e⟩
        · exact .inr ⟨i, e, by omega, by omega⟩
    | I t =>
      simp only [in1] at hr
      simp only [atoms, List.mem_append] at hx
      rcases hx with hx | hx
      · obtain ⟨c, hc, rfl⟩ := List.mem_map.1 hx
        exact .inl ⟨c, by simp only [insd, List.mem_append]; exact .inl hc, rfl⟩
      · rcases ih _ x hx with ⟨c, hc, e⟩ | ⟨i, e, h1, h2⟩
        · exact .inl ⟨c, by simp only [insd, List.mem_append]; exact .inr hc, e⟩
        · exact .inr ⟨i, e, by omega, by omega⟩
    | D n =>
      simp only [in1] at hr
      simp only [atoms] at hx
      rcases ih _ x hx with ⟨c, hc, e⟩ | ⟨i, e, h1, h2⟩
      · exact .inl ⟨c, hc, e⟩
      · exact .inr ⟨i, e, by omega, by omega⟩
theorem map_inj_on {f : Int → UInt8} : ∀ (la lb : List Int), (∀ x ∈ la, ∀ y ∈ lb, f x = f y → x = y) → la.map f = lb.map f → la = lb
  | [], [], _, _ => rfl
  | [], _ :: _, _, e => by simp at e
  | _ :: _, [], _, e => by simp at e
  | x :: la, y :: lb, h, e => by
    simp only [List.map_cons, List.cons.injEq] at e
    rw [h x (by simp) y (by simp) e.1, map_inj_on la lb (fun u hu v hv => h u (by simp [hu]) v (by simp [hv])) e.2]
/-- For a string of different bytes that no text has, two deltas have the same result exactly if they have the same normal form. -/
theorem tells (S : List UInt8) (a b : List Q) (pa : allPos a = true) (pb : allPos b = true) (ha : inL a = S.length) (hb : inL b = S.length) (hn : S.Nodup) (fa : ∀ c ∈ insd a, c ∉ S) (fb : ∀ c ∈ insd b, c ∉ S) :
    apl S a = apl S b ↔ nf a = nf b := by
  constructor
  · intro e
    rw [nf_iff a b pa pb]
    refine ⟨by omega, ?_⟩
    have e1 := apl_atoms S a 0 (by omega)
    have e2 := apl_atoms S b 0 (by omega)
    rw [List.drop_zero] at e1 e2
    rw [e1, e2] at e
    refine map_inj_on _ _ (fun x hx y hy hxy => ?_) e
    rcases atoms_good a 0 x hx with ⟨c, hc, rfl⟩ | ⟨i, rfl, _, h2⟩ <;> rcases atoms_good b 0 y hy with ⟨d, hd, rfl⟩ | ⟨j, rfl, _, h4⟩
    · rw [vb_neg, vb_neg] at hxy; rw [hxy]
    · rw [vb_neg, vb_at, List.getD_eq_getElem?_getD, List.getElem?_eq_getElem (by omega)] at hxy
      exact absurd (hxy ▸ List.getElem_mem _) (fa c hc)
    · rw [vb_neg, vb_at, List.getD_eq_getElem?_getD, List.getElem?_eq_getElem (by omega)] at hxy
      exact absurd (hxy.symm ▸ List.getElem_mem _) (fb d hd)
    · rw [vb_at, vb_at, List.getD_eq_getElem?_getD, List.getElem?_eq_getElem (by omega), List.getD_eq_getElem?_getD, List.getElem?_eq_getElem (by omega)] at hxy
      have : i = j := (List.getElem_inj hn).1 hxy
      rw [this]
  · intro e
    rw [← apl_nf a, ← apl_nf b, e]
/-- A single edit: k bytes at an offset replaced by a text, in a string of n bytes. -/
def edit (n at_ k : Nat) (t : List UInt8) : List Q :=
  (if 0 < at_ then [.R at_] else []) ++ (if t = [] then [] else [.I t]) ++ (if 0 < k then [.D k] else []) ++ (if at_ + k < n then [.R (n - at_ - k)] else [])
theorem edit_inL (n at_ k : Nat) (t : List UInt8) (h : at_ + k ≤ n) : inL (edit n at_ k t) = n := by
  unfold edit
  rw [inL_append, inL_append, inL_append]
  split <;> split <;> split <;> split <;> simp [inL, in1] <;> omega
theorem edit_apl (s : List UInt8) (at_ k : Nat) (t : List UInt8) (h : at_ + k ≤ s.length) : apl s (edit s.length at_ k t) = s.take at_ ++ t ++ s.drop (at_ + k) := by
  unfold edit
  have e0 : ∀ x y : List Q, ∀ u v : List UInt8, inL x = u.length → apl (u ++ v) (x ++ y) = apl u x ++ apl v y := fun x y u v hu => apl_append x y u v hu
  have hs : s = s.take at_ ++ ([] ++ ((s.drop at_).take k ++ s.drop (at_ + k))) := by
    rw [List.nil_append, ← List.drop_drop, List.take_append_drop, List.take_append_drop]
  have l1 : (s.take at_).length = at_ := by rw [List.length_take]; omega
  have l2 : ((s.drop at_).take k).length = k := by rw [List.length_take, List.length_drop]; omega
  have l3 : (s.drop (at_ + k)).length = s.length - at_ - k := by rw [List.length_drop]; omega
  conv => lhs; arg 1; rw [hs]
  rw [List.append_assoc, List.append_assoc, e0 _ _ _ _ (by rw [l1]; split <;> simp [inL, in1] <;> omega), e0 _ _ _ _ (by split <;> simp [inL, in1]), e0 _ _ _ _ (by rw [l2]; split <;> simp [inL, in1] <;> omega)]
  have p1 : apl (s.take at_) (if 0 < at_ then [.R at_] else []) = s.take at_ := by
    split
    · simp only [apl, List.append_nil]; rw [List.take_take, Nat.min_self]
    · rw [show at_ = 0 by omega]; rfl
  have p2 : apl [] (if t = [] then [] else [.I t]) = t := by
    split
    · rename_i e; rw [e]; rfl
    · simp [apl]
  have p3 : apl ((s.drop at_).take k) (if 0 < k then [.D k] else []) = [] := by split <;> rfl
  have p4 : apl (s.drop (at_ + k)) (if at_ + k < s.length then [.R (s.length - at_ - k)] else []) = s.drop (at_ + k) := by
    split
    · simp only [apl, List.append_nil]; rw [← l3, List.take_length]
    · rw [List.drop_eq_nil_iff.2 (by omega)]; rfl
  rw [p1, p2, p3, p4, List.nil_append, List.append_assoc]
end Go.Proofs.YtlkkgjkbjjifmaaDoor.D
