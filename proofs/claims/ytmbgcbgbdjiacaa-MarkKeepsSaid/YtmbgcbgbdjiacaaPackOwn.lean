/- Texts joined: DeltaOwnKit DeltaOwnLaw -/
import Derived.Test.YtmbgcbgbdjiacaaPackSrc
import Derived.Test.YtmbgcbgbdjiacaaPackRef
/- DeltaOwnKit -/
namespace Go.Proofs.Ytmbgcbgbdjiacaa
open Go.RowKit

theorem D.append_src' {w0 w : World} {ops : Array Oper} {rest : List Oper} {o : Oper} {a : Act} {Q : Exit → Act → World → Prop} (hgd : o.guard = none) (s x : Operand)
    (ho : o.op = .call { callee := .builtin .append, args := #[s, x], argTypes := #[39, 39] })
    (v : Value) (n : Nat) (xs : List Value) (hs : a.eval s = v) (hown : w.ownsRow w0.heap.size 53 3 v n xs) (hB : Below w0.heap.size w0 w)
    (ao : Option Addr) (c : Nat) (l : List D.P) (hx : a.eval x = .slice ao l.length c) (hc : ao = none → c = 0) (hr : D.Row w ao l)
    (hn : (n + l.length) * 32 ≤ 140737488355328)
    (h : ∀ v' w', w'.ownsRow w0.heap.size 53 3 v' (n + l.length) (xs ++ D.cellsL l) → Below w0.heap.size w0 w' → wpList Try.prog ops Q rest (a.put o.dst v') w') : wpList Try.prog ops Q (o :: rest) a w := by
  obtain ⟨ip, hp, hp0, hp1, hp2⟩ := info_parts Try.infoPiece
  cases ao with
  | none =>
    have hl : l = [] := by
      cases l with
      | nil => rfl
      | cons p r => obtain ⟨_, _, e, _⟩ := hr 0 p rfl; cases e
    subst hl
    rw [hc rfl] at hx
    refine wpList_append_own_none hgd s x _ ho w0.heap.size 53 ip 3 Try.underlying39 hp v n xs hs hown hx ?_
    refine h v w ?_ hB
    simpa [D.cellsL] using hown
  | some ad =>
    have hnews : ∀ j u, (D.cellsL l)[j]? = some u → w.cell? (ad.add j) = some u := by
      cases l with
      | nil => intro j u hu; simp [D.cellsL] at hu
      | cons p r =>
        obtain ⟨b, q, e, _⟩ := hr 0 p rfl
        cases e
        exact D.cells_of_row hr
    refine wpList_append_own _ hgd s x _ ho w0.heap.size 53 ip (.agg #[.int .u8 0, .int .i64 0, .string ⟨#[]⟩]) 3 32 Try.underlying39 hp hp0 hp1 hp2 rfl (by decide) v n xs hs hown ad l.length c (D.cellsL l) hx (D.cellsL_len l) hnews (D.cells_one l) (by unfold maxLen; omega) (by omega) hB.size ?_
    intro v' w' h1 h2 _
    exact h v' w' h1 (hB.grown h2 hB.size (fun k e => (hown.lt k e).1))
def D.OwnEnd (l : List D.P) (w : World) (e : Ending) (w' : World) : Prop := ∃ v, e = .returned v ∧ D.Made l w v w'
/-- A list of one's own, ready to be handed on. -/
theorem D.Made.src {l : List D.P} {w : World} {v : Value} {w' : World} (h : D.Made l w v w') : ∃ ao c, v = .slice ao l.length c ∧ D.Row w' ao l ∧ (ao = none → c = 0) := by
  obtain ⟨ao, c, hv, hr⟩ := h.form
  refine ⟨ao, c, hv, hr, fun e => ?_⟩
  obtain ⟨_, ⟨e', _⟩ | ⟨g, cap, cur, e', _⟩⟩ := h.own
  · rw [hv] at e'; simp at e'; exact e'.2.2
  · rw [hv, e] at e'; simp at e'
end Go.Proofs.Ytmbgcbgbdjiacaa
/- DeltaOwnLaw -/
namespace Go.Proofs.Ytmbgcbgbdjiacaa
open Go.RowKit

theorem own_any (ao : Option Addr) (cap : Nat) (l : List D.P) (w : World) (hr : D.Row w ao l) (hc : ao = none → cap = 0) (hn : l.length * 32 ≤ 140737488351232) :
    Calls Try.prog 22 #[.slice ao l.length cap] w (D.OwnEnd l w) := by
  have hr1 := Lib.hid (hr.below ((Below.refl w.heap.size w).alloc (Nat.le_refl _) (.cells #[] 53)))
  have ho := Lib.hid (World.ownsRow_made (w := w) (base := w.heap.size) (e := 53) (size := 3) #[] 0 (Nat.le_refl _) (Nat.zero_le _) rfl)
  have hb := Lib.hid ((Below.refl w.heap.size w).alloc (Nat.le_refl _) (.cells #[] 53))
  have Hc := Lib.hid hc
  clear hr hc
  go_enter Try.func22, Try.ntmps22
  go_wp2_with (at_builtin; refine D.append_src' (w0 := w) rfl _ _ rfl _ _ _ rfl ho.out hb.out ao cap l rfl Hc.out hr1.out ?q1 ?_)
  case q1 => omega
  intro v' w3 hown' hb3
  have R : Hid (D.OwnEnd l w (.returned v') w3) := ⟨v', rfl, hown', hb3⟩
  clear hown' hb3
  go_wp2
  go_ret
  exact R.out
end Go.Proofs.Ytmbgcbgbdjiacaa
