/- Texts joined: DeltaSrc -/
import Derived.Test.YtniccjbcchdkoaaDeltaOwn
import Derived.Laws.AppendOwnNone
/- DeltaSrc -/
namespace Go.Proofs.Ytniccjbcchdkoaa
open Go.RowKit

theorem D.cells_of_row {W : World} {b o : Nat} {x : List D.P} (h : D.Row W (some ⟨b, o, none⟩) x) : ∀ j u, (D.cellsL x)[j]? = some u → W.cell? ((⟨b, o, none⟩ : Addr).add j) = some u := by
  intro j u hu
  have hadd : (⟨b, o, none⟩ : Addr).add j = ⟨b, o + j, none⟩ := by unfold Addr.add; split <;> simp_all
  rw [hadd]
  have hj : j < x.length * 3 := by rw [← D.cellsL_len]; exact (List.getElem?_eq_some_iff.1 hu).1
  obtain ⟨p, hp⟩ : ∃ p, x[j / 3]? = some p := ⟨x[j / 3]'(by omega), List.getElem?_eq_getElem _⟩
  obtain ⟨b', o', e, _, h0, h1, h2⟩ := h _ p hp
  cases e
  obtain ⟨c0, c1, c2⟩ := D.cellsL_at x _ p hp
  have hm : j = j / 3 * 3 ∨ j = j / 3 * 3 + 1 ∨ j = j / 3 * 3 + 2 := by omega
  rcases hm with hm | hm | hm
  · rw [hm, c0] at hu; cases hu; rw [hm]; exact h0
  · rw [hm, c1] at hu; cases hu; rw [hm]; exact h1
  · rw [hm, c2] at hu; cases hu; rw [hm]; exact h2
theorem D.cells_one (x : List D.P) : ∀ u ∈ D.cellsL x, u.oneCell' = true := by
  intro u hu
  unfold D.cellsL at hu
  obtain ⟨p, _, hp⟩ := List.mem_flatMap.1 hu
  simp at hp
  rcases hp with rfl | rfl | rfl <;> rfl
/-- One delta of a list of deltas, as it lies in memory. -/
structure D.Src where
  a : Option Addr
  c : Nat
  x : List D.P
structure D.SrcOk (W : World) (s : D.Src) : Prop where
  row : D.Row W s.a s.x
  len : s.x.length ≤ maxLen
  txt : ∀ p ∈ s.x, p.t.size ≤ 140737488351232
  nil : s.a = none → s.c = 0
theorem D.SrcOk.below {W W' : World} {s : D.Src} (h : D.SrcOk W s) (hb : Below W.heap.size W W') : D.SrcOk W' s := ⟨h.row.below hb, h.len, h.txt, h.nil⟩
def D.Rows (W : World) (lo : Option Addr) (L : List D.Src) : Prop :=
  ∀ (i : Nat) (s : D.Src), L[i]? = some s → ∃ b o, lo = some ⟨b, o, none⟩ ∧ b < W.heap.size ∧ W.cell? ⟨b, o + i, none⟩ = some (.slice s.a s.x.length s.c) ∧ D.SrcOk W s
def D.chkAll : List D.Src → Int
  | [] => 0
  | s :: r => if D.chk s.x = 0 then D.chkAll r else D.chk s.x
def D.flat (L : List D.Src) : List D.P := L.flatMap D.Src.x
theorem D.flat_snoc (L : List D.Src) (k : Nat) (s : D.Src) (h : L[k]? = some s) : D.flat (L.take (k + 1)) = D.flat (L.take k) ++ s.x := by
  rw [List.take_add_one, h]
  simp [D.flat]
theorem D.qs_append (a b : List D.P) : D.qs (a ++ b) = D.qs a ++ D.qs b := by simp [D.qs]
theorem D.flat_ok (L : List D.Src) (h : D.chkAll L = 0) : (∀ p ∈ D.flat L, D.vP p = true) ∧ D.allPos (D.qs (D.flat L)) = true ∧ (D.flat L).length ≤ L.length * 4096 ∧ D.inL (D.qs (D.flat L)) ≤ L.length * 1048576 ∧ D.outL (D.qs (D.flat L)) ≤ L.length * 1048576 := by
  induction L with
  | nil => exact ⟨fun p hp => by simp [D.flat] at hp, rfl, by simp [D.flat], by simp [D.flat, D.qs, D.inL], by simp [D.flat, D.qs, D.outL]⟩
  | cons s r ih =>
    rw [D.chkAll] at h
    by_cases hs : D.chk s.x = 0
    · rw [if_pos hs] at h
      obtain ⟨i0, i1, i2, i3, i4⟩ := ih h
      obtain ⟨e, pa, h0, h1, h2, h3⟩ := D.valid_qs hs
      have hf : D.flat (s :: r) = s.x ++ D.flat r := by simp [D.flat]
      rw [hf, D.qs_append, D.inL_append, D.outL_append, List.length_append, List.length_cons]
      refine ⟨fun p hp => ?_, ?_, by omega, by omega, by omega⟩
      · rcases List.mem_append.1 hp with hp | hp
        · obtain ⟨k, hk⟩ := List.getElem?_of_mem hp
          exact D.piece_of_chk hs hk
        · exact i0 p hp
      · unfold D.allPos at pa i1 ⊢
        rw [List.all_append, pa, i1]; rfl
    · rw [if_neg hs] at h; exact absurd h hs
theorem D.txt_le_outL (a : List D.Q) : ∀ p ∈ a.map D.raw, p.t.size ≤ D.outL a := by
  induction a with
  | nil => intro p hp; cases hp
  | cons q r ih =>
    intro p hp
    rw [List.map_cons] at hp
    have e : D.outL (q :: r) = D.out1 q + D.outL r := rfl
    rw [e]
    rcases List.mem_cons.1 hp with rfl | hp
    · cases q with
      | R n => simp [D.raw, D.size_e]
      | I t => have := D.size_l t; simp only [D.raw, D.out1]; omega
      | D n => simp [D.raw, D.size_e]
    · have := ih p hp; omega
def D.joinE (L : List D.Src) : Int := if D.chkAll L = 0 then (if D.chk (D.normP (D.flat L)) = 0 then 0 else 5) else D.chkAll L
def D.joinP (L : List D.Src) : List D.P := if D.joinE L = 0 then D.normP (D.flat L) else []
theorem D.chkAll_ok (L : List D.Src) (h : ∀ s ∈ L, D.chk s.x = 0) : D.chkAll L = 0 := by
  induction L with
  | nil => rfl
  | cons s r ih => rw [D.chkAll, if_pos (h s (by simp))]; exact ih fun t ht => h t (by simp [ht])
theorem D.flat_len_take {L : List D.Src} {k : Nat} (h : ∀ s ∈ L.take k, D.chk s.x = 0) (hk : k ≤ L.length) : (D.flat (L.take k)).length ≤ k * 4096 := by
  have := (D.flat_ok (L.take k) (D.chkAll_ok _ h)).2.2.1
  rw [List.length_take] at this
  rw [Nat.min_eq_left hk] at this
  exact this
end Go.Proofs.Ytniccjbcchdkoaa
