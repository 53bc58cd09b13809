/- Joins of literal lists, and the mathematics of DeltaGroups. -/
import Derived.Test.YtmbgcbgbdjiacaaPackEqv
import Derived.Test.YtmbgcbgbdjiacaaPackOwn
namespace Go.Proofs.Ytmbgcbgbdjiacaa
open Go.RowKit

theorem D.Kn.made' {w wr w' : World} {L : List (Option Addr × List D.P)} (h : D.Kn w wr L) {l : List D.P} {v : Value} (hm : D.Made l wr v w') : ∃ ao c, v = .slice ao l.length c ∧ Hid (ao = none → c = 0) ∧ Hid (D.Kn w w' ((ao, l) :: L)) := by
  obtain ⟨ao, c, hv, hr, hc⟩ := hm.src
  exact ⟨ao, c, hv, hc, (h.on hm.below).add ao l hr⟩
def D.src (x : List D.P) : D.Src := ⟨none, 0, x⟩
def D.jE (Ls : List (List D.P)) : Int := D.joinE (Ls.map D.src)
def D.jP (Ls : List (List D.P)) : List D.P := D.joinP (Ls.map D.src)
theorem D.chkAll_src (L : List D.Src) : D.chkAll ((L.map D.Src.x).map D.src) = D.chkAll L := by
  induction L with
  | nil => rfl
  | cons s r ih => rw [List.map_cons, List.map_cons, D.chkAll, D.chkAll, ih]; rfl
theorem D.flat_src (L : List D.Src) : D.flat ((L.map D.Src.x).map D.src) = D.flat L := by
  induction L with
  | nil => rfl
  | cons s r ih =>
    have e : ∀ (u : D.Src) (v : List D.Src), D.flat (u :: v) = u.x ++ D.flat v := fun u v => by simp [D.flat]
    rw [List.map_cons, List.map_cons, e, e, ih]; rfl
theorem D.flat_ls (Ls : List (List D.P)) : D.flat (Ls.map D.src) = Ls.flatten := by
  induction Ls with
  | nil => rfl
  | cons s r ih =>
    have e : ∀ (u : D.Src) (v : List D.Src), D.flat (u :: v) = u.x ++ D.flat v := fun u v => by simp [D.flat]
    rw [List.map_cons, e, ih]; rfl
theorem D.joinE_src (L : List D.Src) : D.joinE L = D.jE (L.map D.Src.x) := by unfold D.jE D.joinE; rw [D.chkAll_src, D.flat_src]
theorem D.joinP_src (L : List D.Src) : D.joinP L = D.jP (L.map D.Src.x) := by
  have h := D.joinE_src L
  unfold D.jE at h
  unfold D.jP D.joinP
  rw [← h, D.flat_src]
def D.srcV (s : D.Src) : Value := .slice s.a s.x.length s.c
theorem D.rows_lit (W : World) (L : List D.Src) (u : TypeId) (h : ∀ s ∈ L, D.SrcOk W s) : D.Rows (W.alloc (.cells (L.map D.srcV).toArray u)) (some ⟨W.heap.size, 0, none⟩) L := fun i s hs => by
  refine ⟨W.heap.size, 0, rfl, by simp, ?_, (h s (List.mem_of_getElem? hs)).below ((Below.refl _ _).alloc (Nat.le_refl _) _)⟩
  rw [World.cell?_alloc_new]
  simp [hs, D.srcV]
theorem D.join_lit (L : List D.Src) (W : World) (u : TypeId) (h : ∀ s ∈ L, D.SrcOk W s) (hl : L.length ≤ 200) :
    Calls Try.prog 59 #[.slice (some ⟨W.heap.size, 0, none⟩) L.length L.length] (W.alloc (.cells (L.map D.srcV).toArray u)) (fun e w' => ∃ v, e = .returned (.tuple #[v, .int .i64 (D.jE (L.map D.Src.x))]) ∧ D.Made (D.jP (L.map D.Src.x)) W v w') := by
  refine (join_any _ L.length L _ hl (D.rows_lit W L u h)).mono fun e w' hh => ?_
  obtain ⟨v, he, hm⟩ := hh
  refine ⟨v, by rw [he, D.joinE_src], ?_⟩
  rw [← D.joinP_src]
  exact ⟨D.own_mono hm.own (by simp), ((Below.refl W.heap.size W).alloc (Nat.le_refl _) _).trans (hm.below.mono (by simp))⟩
/-- What a list of pieces must meet to be joined. -/
def D.Bd (x : List D.P) : Prop := x.length ≤ maxLen ∧ ∀ p ∈ x, p.t.size ≤ 140737488351232
theorem D.bd_of {x : List D.P} (h : D.chk x = 0) : D.Bd x := by
  obtain ⟨e, _, _, h4, _, h6⟩ := D.valid_qs h
  refine ⟨by unfold maxLen; omega, fun p hp => ?_⟩
  rw [← e] at hp
  have := D.txt_le_outL (D.qs x) p hp
  omega
theorem D.chkAll_zero {Ls : List (List D.P)} (h : D.chkAll (Ls.map D.src) = 0) : ∀ x ∈ Ls, D.chk x = 0 := by
  induction Ls with
  | nil => intro x hx; cases hx
  | cons y r ih =>
    rw [List.map_cons, D.chkAll] at h
    by_cases hy : D.chk (D.src y).x = 0
    · rw [if_pos hy] at h
      intro x hx
      rcases List.mem_cons.1 hx with rfl | hx
      · exact hy
      · exact ih h x hx
    · rw [if_neg hy] at h; exact absurd h hy
theorem D.jE_zero {Ls : List (List D.P)} (h : D.jE Ls = 0) : (∀ x ∈ Ls, D.chk x = 0) ∧ D.chk (D.normP Ls.flatten) = 0 ∧ D.jP Ls = D.normP Ls.flatten := by
  have hP : D.jP Ls = D.normP Ls.flatten := by
    have h' := h
    unfold D.jE at h'
    unfold D.jP D.joinP
    rw [if_pos h', D.flat_ls]
  unfold D.jE D.joinE at h
  by_cases h0 : D.chkAll (Ls.map D.src) = 0
  · rw [if_pos h0, D.flat_ls] at h
    refine ⟨D.chkAll_zero h0, ?_, hP⟩
    by_cases h1 : D.chk (D.normP Ls.flatten) = 0
    · exact h1
    · rw [if_neg h1] at h; exact absurd h (by decide)
  · rw [if_neg h0] at h; exact absurd h h0
theorem D.jE_of {Ls : List (List D.P)} (h : ∀ x ∈ Ls, D.chk x = 0) (h2 : D.chk (D.normP Ls.flatten) = 0) : D.jE Ls = 0 := by
  unfold D.jE D.joinE
  rw [if_pos (D.chkAll_ok _ fun s hs => by obtain ⟨x, hx, rfl⟩ := List.mem_map.1 hs; exact h x hx), D.flat_ls, if_pos h2]
theorem D.norm_left (x y : List D.P) : D.normP (D.normP x ++ y) = D.normP (x ++ y) := by
  unfold D.normP
  rw [D.qs_append, D.qs_raw, D.nf_left, ← D.qs_append]
theorem D.norm_right (x y : List D.P) : D.normP (x ++ D.normP y) = D.normP (x ++ y) := by
  unfold D.normP
  rw [D.qs_append, D.qs_raw, D.nf_right, ← D.qs_append]
structure D.Grp (A B C : List D.P) : Prop where
  a : D.chk A = 0
  b : D.chk B = 0
  c : D.chk C = 0
  ab : D.chk (D.jP [A, B]) = 0
  bc : D.chk (D.jP [B, C]) = 0
  all : D.chk (D.jP [A, B, C]) = 0
  x1 : D.jE [D.jP [A, B], C] = 0
  x2 : D.jP [D.jP [A, B], C] = D.jP [A, B, C]
  y1 : D.jE [A, D.jP [B, C]] = 0
  y2 : D.jP [A, D.jP [B, C]] = D.jP [A, B, C]
  n : D.chk (D.normP B) = 0
  z1 : D.jE [A, [], D.normP B, C] = 0
  z2 : D.jP [A, [], D.normP B, C] = D.jP [A, B, C]
  nm : D.normal (D.jP [A, B, C]) = true
  li : D.lenI (D.jP [A, B, C]) = D.lenI A + D.lenI B + D.lenI C
  lo : D.lenO (D.jP [A, B, C]) = D.lenO A + D.lenO B + D.lenO C
theorem D.groups {A B C : List D.P} (h1 : D.jE [A, B] = 0) (h2 : D.jE [B, C] = 0) (h3 : D.jE [A, B, C] = 0) : D.Grp A B C := by
  obtain ⟨a1, a2, a3⟩ := D.jE_zero h1
  obtain ⟨b1, b2, b3⟩ := D.jE_zero h2
  obtain ⟨c1, c2, c3⟩ := D.jE_zero h3
  have hA := a1 A (by simp)
  have hB := a1 B (by simp)
  have hC := b1 C (by simp)
  have f2 : ∀ x y : List D.P, [x, y].flatten = x ++ y := fun x y => by simp
  have f3 : ∀ x y z : List D.P, [x, y, z].flatten = x ++ (y ++ z) := fun x y z => by simp
  have f4 : ∀ x y z u : List D.P, [x, y, z, u].flatten = x ++ (y ++ (z ++ u)) := fun x y z u => by simp
  rw [f2] at a2 a3 b2 b3
  rw [f3] at c2 c3
  have hN := D.chk_normP hB
  have e1 : D.normP (D.jP [A, B] ++ C) = D.normP (A ++ (B ++ C)) := by rw [a3, D.norm_left, List.append_assoc]
  have e2 : D.normP (A ++ D.jP [B, C]) = D.normP (A ++ (B ++ C)) := by rw [b3, D.norm_right]
  have e3 : D.normP (A ++ ([] ++ (D.normP B ++ C))) = D.normP (A ++ (B ++ C)) := by
    rw [List.nil_append, ← D.norm_right A (D.normP B ++ C), D.norm_left, D.norm_right]
  have x1 : D.jE [D.jP [A, B], C] = 0 := D.jE_of (by simp; exact ⟨by rw [a3]; exact a2, hC⟩) (by rw [f2, e1]; exact c2)
  have y1 : D.jE [A, D.jP [B, C]] = 0 := D.jE_of (by simp; exact ⟨hA, by rw [b3]; exact b2⟩) (by rw [f2, e2]; exact c2)
  have z1 : D.jE [A, [], D.normP B, C] = 0 := D.jE_of (by simp; exact ⟨hA, rfl, hN, hC⟩) (by rw [f4, e3]; exact c2)
  have hall : D.chk (D.jP [A, B, C]) = 0 := by rw [c3]; exact c2
  refine ⟨hA, hB, hC, by rw [a3]; exact a2, by rw [b3]; exact b2, hall, x1, ?_, y1, ?_, hN, z1, ?_, ?_, ?_, ?_⟩
  · rw [(D.jE_zero x1).2.2, f2, e1, c3]
  · rw [(D.jE_zero y1).2.2, f2, e2, c3]
  · rw [(D.jE_zero z1).2.2, f4, e3, c3]
  · rw [D.normal_eq _ hall, c3]; unfold D.normP; rw [D.qs_raw]; exact D.isN_nf _
  · rw [(D.len_qs hall).1, (D.len_qs hA).1, (D.len_qs hB).1, (D.len_qs hC).1, c3]
    unfold D.normP
    rw [D.qs_raw, D.inL_nf, D.qs_append, D.qs_append, D.inL_append, D.inL_append]
    omega
  · rw [(D.len_qs hall).2, (D.len_qs hA).2, (D.len_qs hB).2, (D.len_qs hC).2, c3]
    unfold D.normP
    rw [D.qs_raw, D.outL_nf, D.qs_append, D.qs_append, D.outL_append, D.outL_append]
    omega
theorem D.len_bd {x : List D.P} (h : D.chk x = 0) : 0 ≤ D.lenI x ∧ D.lenI x ≤ 1048576 ∧ 0 ≤ D.lenO x ∧ D.lenO x ≤ 1048576 := by
  obtain ⟨_, _, _, _, h5, h6⟩ := D.valid_qs h
  rw [(D.len_qs h).1, (D.len_qs h).2]
  omega
theorem D.join2 (A B : List D.P) (W : World) (ao bo : Option Addr) (c d : Nat) (ha : D.Row W ao A) (hb : D.Row W bo B) (na : ao = none → c = 0) (nb : bo = none → d = 0) (ba : D.Bd A) (bb : D.Bd B) :
    Calls Try.prog 59 #[.slice (some ⟨W.heap.size, 0, none⟩) 2 2] (W.alloc (.cells #[.slice ao A.length c, .slice bo B.length d] 39)) (fun e w' => ∃ v, e = .returned (.tuple #[v, .int .i64 (D.jE [A, B])]) ∧ D.Made (D.jP [A, B]) W v w') :=
  D.join_lit [⟨ao, c, A⟩, ⟨bo, d, B⟩] W 39 (fun s hs => by
    simp at hs
    rcases hs with rfl | rfl
    · exact ⟨ha, ba.1, ba.2, na⟩
    · exact ⟨hb, bb.1, bb.2, nb⟩) (by simp)
theorem D.join3 (A B C : List D.P) (W : World) (ao bo co : Option Addr) (c d f : Nat) (ha : D.Row W ao A) (hb : D.Row W bo B) (hc : D.Row W co C) (na : ao = none → c = 0) (nb : bo = none → d = 0) (nc : co = none → f = 0) (ba : D.Bd A) (bb : D.Bd B) (bc : D.Bd C) :
    Calls Try.prog 59 #[.slice (some ⟨W.heap.size, 0, none⟩) 3 3] (W.alloc (.cells #[.slice ao A.length c, .slice bo B.length d, .slice co C.length f] 39)) (fun e w' => ∃ v, e = .returned (.tuple #[v, .int .i64 (D.jE [A, B, C])]) ∧ D.Made (D.jP [A, B, C]) W v w') :=
  D.join_lit [⟨ao, c, A⟩, ⟨bo, d, B⟩, ⟨co, f, C⟩] W 39 (fun s hs => by
    simp at hs
    rcases hs with rfl | rfl | rfl
    · exact ⟨ha, ba.1, ba.2, na⟩
    · exact ⟨hb, bb.1, bb.2, nb⟩
    · exact ⟨hc, bc.1, bc.2, nc⟩) (by simp)
theorem D.join4 (A B C : List D.P) (W : World) (ao bo co : Option Addr) (c d f : Nat) (ha : D.Row W ao A) (hb : D.Row W bo B) (hc : D.Row W co C) (na : ao = none → c = 0) (nb : bo = none → d = 0) (nc : co = none → f = 0) (ba : D.Bd A) (bb : D.Bd B) (bc : D.Bd C) :
    Calls Try.prog 59 #[.slice (some ⟨W.heap.size, 0, none⟩) 4 4] (W.alloc (.cells #[.slice ao A.length c, .slice none 0 0, .slice bo B.length d, .slice co C.length f] 39)) (fun e w' => ∃ v, e = .returned (.tuple #[v, .int .i64 (D.jE [A, [], B, C])]) ∧ D.Made (D.jP [A, [], B, C]) W v w') :=
  D.join_lit [⟨ao, c, A⟩, ⟨none, 0, []⟩, ⟨bo, d, B⟩, ⟨co, f, C⟩] W 39 (fun s hs => by
    simp at hs
    rcases hs with rfl | rfl | rfl | rfl
    · exact ⟨ha, ba.1, ba.2, na⟩
    · exact ⟨fun i p hp => by simp at hp, Nat.zero_le _, fun p hp => (by cases hp), fun _ => rfl⟩
    · exact ⟨hb, bb.1, bb.2, nb⟩
    · exact ⟨hc, bc.1, bc.2, nc⟩) (by simp)
end Go.Proofs.Ytmbgcbgbdjiacaa
