/- What deeds do to an arena's counts (layer 13's laws). -/
import Derived.Test.YtniccjbcchdkoaaPackArAw
namespace Go.Proofs.Ytniccjbcchdkoaa
open Go.RowKit

theorem Ar.nn_of (n m : Int) (hm : 0 < m) (hm1 : m ≤ 1000) : ∃ k : Nat, (k : Int) = 1 + n % m ∧ 1 ≤ k ∧ (k : Int) ≤ m := by
  have b0 := Int.emod_nonneg n (show m ≠ 0 by omega)
  have b1 := Int.emod_lt_of_pos n hm
  exact ⟨(1 + n % m).toNat, by omega, by omega, by omega⟩
theorem Ar.opH_le {d : Ar.Dd} {all : List Ar.I} {a : A13.A} (v : A13.Inv a) (hd : d.h ≤ 18446744073709551615) (hok : ∀ i ∈ all, i.h ≤ 18446744073709551615) : d.opH all a ≤ 18446744073709551615 := by
  have hh := Ar.hand_le hd hok
  cases Ar.did d all a with
  | made k e c h o z =>
    rw [h]
    unfold A13.alH
    rw [if_pos z]
    cases es : a.l.stk with
    | nil => unfold FL.S.tkH; rw [es]; exact Nat.zero_le _
    | cons x r =>
      have t := FL.tk_cons v.l es
      have := H.ok_lt t.ok
      rw [t.hand]; omega
  | not k e h o => rw [h]; exact Nat.zero_le _
  | freed k e h s o => rw [h]; exact hh
  | read k e h s o => rw [h]; exact hh
  | stale k e h s o => rw [h]; exact hh
theorem Ar.chk_of {x : N.Nd} {t : ByteArray} {xo : Option Addr} {xc : Nat} (ht : t.data.toList = x.t) (c : N.chk x = 0) : N.chk (N.NArg.nd ⟨x.h, t, ⟨xo, xc, x.ks⟩⟩) = 0 := by
  have : N.NArg.nd ⟨x.h, t, ⟨xo, xc, x.ks⟩⟩ = x := by show (⟨_, _, _⟩ : N.Nd) = _; rw [ht]
  rw [this]; exact c
theorem Ar.op_st (d : Ar.Dd) (all : List Ar.I) (a : A13.A) : (d.op all a).st ≤ a.st + 1 := by
  cases Ar.did d all a with
  | made k e c h o z => rw [o]; unfold A13.al; rw [if_pos z]; exact Nat.le_succ _
  | not k e h o => rw [o]; exact Nat.le_succ _
  | freed k e h s o => rw [o, A13.free_yes s]; exact Nat.le_succ _
  | read k e h s o => rw [o]; exact Nat.le_succ _
  | stale k e h s o => rw [o]; exact Nat.le_refl _
/-- What the counts of an arena are. -/
theorem Ar.counts {a : A13.A} (v : A13.Inv a) (c : A13.Cnt a) {N G : Nat} (h1 : a.l.st.length = N) (h2 : a.l.gens = G) : a.items.length = a.l.hands.length ∧ a.l.stk.length + a.l.hands.length + (a.l.those 2).length = N ∧ a.al = a.fr + a.l.hands.length ∧ (a.l.those 2).length ≤ a.fr ∧ a.al ≤ N * G := by
  have e := A13.items_len v
  have s := (Ar.sums v).1
  have g : a.l.gone = (a.l.those 2).length := rfl
  have t := A13.tookAll_le v.l
  have := c.live
  have := c.gone
  have := c.took
  rw [h1, h2] at t
  exact ⟨e, by omega, by omega, by omega, by omega⟩
/-- The slots and generations stay. -/
theorem Ar.op_len {d : Ar.Dd} {all : List Ar.I} {a : A13.A} (v : A13.Inv a) : (d.op all a).l.st.length = a.l.st.length ∧ (d.op all a).l.gens = a.l.gens := by
  cases Ar.did d all a with
  | made k e c h o z =>
    rw [o]
    unfold A13.al
    rw [if_pos z]
    show a.l.tk.st.length = _ ∧ a.l.tk.gens = _
    cases es : a.l.stk with
    | nil => rw [(FL.tk_nil es).1]; exact ⟨rfl, rfl⟩
    | cons x r =>
      have t := FL.tk_cons v.l es
      exact ⟨t.len, t.gens⟩
  | not k e h o => rw [o]; exact ⟨rfl, rfl⟩
  | freed k e h s o =>
    rw [o, A13.free_yes s]
    have t := FL.gv_yes v.l ((A13.has_iff v).1 s)
    exact ⟨t.len, t.gens⟩
  | read k e h s o => rw [o]; exact ⟨rfl, rfl⟩
  | stale k e h s o => rw [o]; exact ⟨rfl, rfl⟩
end Go.Proofs.Ytniccjbcchdkoaa
