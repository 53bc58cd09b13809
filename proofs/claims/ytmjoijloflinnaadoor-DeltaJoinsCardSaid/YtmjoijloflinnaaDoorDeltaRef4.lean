/- The contracts of the reference of layer 3: Normal, Equivalent, Identity. -/
import Derived.Test.YtmjoijloflinnaaDoorDeltaRef3
namespace Go.Proofs.YtmjoijloflinnaaDoor
open Go.RowKit

def D.normal (l : List D.P) : Bool := decide (D.chk l = 0) && D.same l (D.normP l)
theorem D.Made.row {x : List D.P} {w : World} {v : Value} {wr : World} (h : D.Made x w v wr) : ∃ ao cap, Hid (v = .slice ao x.length cap) ∧ Hid (D.Row wr ao x) := D.row_of_own h.own
theorem D.normP_len (l : List D.P) : (D.normP l).length ≤ l.length := by
  unfold D.normP
  rw [List.length_map]
  refine Nat.le_trans (D.nf_length _) ?_
  unfold D.qs
  rw [List.length_map]
  exact Nat.le_refl _
set_option maxHeartbeats 1000000 in
theorem refNormal_any (ao : Option Addr) (cap : Nat) (l : List D.P) (w : World) (hn : l.length ≤ maxLen) (hr : D.Row w ao l) (ht : ∀ p ∈ l, p.t.size ≤ 140737488351232) :
    Calls Tryd.prog 20 #[.slice ao l.length cap] w (fun e w' => e = .returned (.bool (D.normal l)) ∧ Below w.heap.size w w') := by
  have Hc := Lib.hid (refCheck_any ao cap l w hn hr ht)
  by_cases h : D.chk l = 0
  · have hF : Hid (∀ V, Below w.heap.size w V → Calls Tryd.prog 42 #[.slice ao l.length cap] V (fun e w' => ∃ v, e = .returned v ∧ D.Made (D.normP l) V v w')) := fun V hb => refForm_valid ao cap l V h (hr.below hb)
    have hS : Hid (∀ bo cb V, Below w.heap.size w V → D.Row V bo (D.normP l) → Calls Tryd.prog 21 #[.slice ao l.length cap, .slice bo (D.normP l).length cb] V fun e w' => e = .returned (.bool (D.normal l)) ∧ Below V.heap.size V w') := fun bo cb V hb hr2 => by
      have := refSame_any ao bo cap cb l (D.normP l) V (hr.below hb) hr2 hn (Nat.le_trans (D.normP_len l) hn)
      have e : D.normal l = D.same l (D.normP l) := by unfold D.normal; rw [h]; rfl
      rw [e]; exact this
    rw [h] at Hc
    clear h hr ht hn
    go_enter Tryd.func20, Tryd.ntmps20
    go_wp2_with fail
    refine Hc.out.mono ?_
    rintro e w1 ⟨rfl, hb⟩
    have hb := Lib.hid hb
    go_wp2_with fail
    refine (hF.out _ hb.out).mono ?_
    rintro e w2 ⟨v, rfl, hm⟩
    obtain ⟨bo, cb, hv, hr2⟩ := hm.row
    have hb2 : Hid (Below w.heap.size w w2) := hb.out.trans (hm.below.mono hb.out.size)
    cases hv.out
    have H2 := Lib.hid (hS.out bo cb w2 hb2.out hr2.out)
    clear hm hv hr2
    go_wp2_with (go_at_call 21; refine H2.out.mono ?_; rintro e w3 ⟨rfl, hb3⟩; have R : Hid (Below w.heap.size w w3) := hb2.out.trans (hb3.mono hb2.out.size); clear hb3)
    go_ret
    exact ⟨rfl, R.out⟩
  · have e : D.normal l = false := by unfold D.normal; rw [decide_eq_false h]; rfl
    have h' : (D.chk l == 0) = false := by simpa using h
    rw [e]
    generalize D.chk l = c at Hc h'
    clear e h hr ht hn
    go_enter Tryd.func20, Tryd.ntmps20
    go_wp2_with fail
    refine Hc.out.mono ?_
    rintro e w1 ⟨rfl, hb⟩
    go_wp2
    go_ret
    exact ⟨rfl, hb⟩
def D.eqv (a b : List D.P) : Bool := decide (D.chk a = 0) && (decide (D.chk b = 0) && D.same (D.normP a) (D.normP b))
def D.eqvE (a b : List D.P) : Int := if D.chk a = 0 then D.chk b else D.chk a
set_option maxHeartbeats 1000000 in
theorem refEquivalent_any (ao bo : Option Addr) (ca cb : Nat) (a b : List D.P) (w : World) (la : a.length ≤ maxLen) (lb : b.length ≤ maxLen) (ha : D.Row w ao a) (hb : D.Row w bo b)
    (ta : ∀ p ∈ a, p.t.size ≤ 140737488351232) (tb : ∀ p ∈ b, p.t.size ≤ 140737488351232) :
    Calls Tryd.prog 26 #[.slice ao a.length ca, .slice bo b.length cb] w (fun e w' => e = .returned (.tuple #[.bool (D.eqv a b), .int .i64 (D.eqvE a b)]) ∧ Below w.heap.size w w') := by
  have Ha := Lib.hid (refCheck_any ao ca a w la ha ta)
  by_cases h : D.chk a = 0
  · have Hb : Hid (∀ V, Below w.heap.size w V → Calls Tryd.prog 18 #[.slice bo b.length cb] V fun e w' => e = .returned (.int .i64 (D.chk b)) ∧ Below V.heap.size V w') := fun V h1 => refCheck_any bo cb b V lb (hb.below h1) tb
    have hee : D.eqvE a b = D.chk b := by unfold D.eqvE; rw [if_pos h]
    rw [hee]
    by_cases h2 : D.chk b = 0
    · have hFa : Hid (∀ V, Below w.heap.size w V → Calls Tryd.prog 42 #[.slice ao a.length ca] V (fun e w' => ∃ v, e = .returned v ∧ D.Made (D.normP a) V v w')) := fun V h1 => refForm_valid ao ca a V h (ha.below h1)
      have hFb : Hid (∀ V, Below w.heap.size w V → Calls Tryd.prog 42 #[.slice bo b.length cb] V (fun e w' => ∃ v, e = .returned v ∧ D.Made (D.normP b) V v w')) := fun V h1 => refForm_valid bo cb b V h2 (hb.below h1)
      have hS : Hid (∀ xo xc yo yc V, D.Row V xo (D.normP a) → D.Row V yo (D.normP b) → Calls Tryd.prog 21 #[.slice xo (D.normP a).length xc, .slice yo (D.normP b).length yc] V fun e w' => e = .returned (.bool (D.eqv a b)) ∧ Below V.heap.size V w') := fun xo xc yo yc V r1 r2 => by
        have := refSame_any xo yo xc yc (D.normP a) (D.normP b) V r1 r2 (Nat.le_trans (D.normP_len a) la) (Nat.le_trans (D.normP_len b) lb)
        have e : D.eqv a b = D.same (D.normP a) (D.normP b) := by unfold D.eqv; rw [h, h2]; rfl
        rw [e]; exact this
      rw [h] at Ha
      rw [h2] at Hb ⊢
      clear hee h h2 ha hb ta tb la lb
      go_enter Tryd.func26, Tryd.ntmps26
      go_wp2_with fail
      refine Ha.out.mono ?_
      rintro e w1 ⟨rfl, hb1⟩
      have hb1 := Lib.hid hb1
      go_wp2_with fail
      refine (Hb.out _ hb1.out).mono ?_
      rintro e w2 ⟨rfl, hb2⟩
      have hb2 : Hid (Below w.heap.size w w2) := hb1.out.trans (hb2.mono hb1.out.size)
      clear hb1
      go_wp2_with fail
      refine (hFa.out _ hb2.out).mono ?_
      rintro e w3 ⟨v, rfl, hm⟩
      obtain ⟨xo, xc, hv, r1⟩ := hm.row
      have hb3 : Hid (Below w.heap.size w w3) := hb2.out.trans (hm.below.mono hb2.out.size)
      cases hv.out
      clear hm hv hb2
      go_wp2_with fail
      refine (hFb.out _ hb3.out).mono ?_
      rintro e w4 ⟨v, rfl, hm⟩
      obtain ⟨yo, yc, hv, r2⟩ := hm.row
      have r1' : Hid (D.Row w4 xo (D.normP a)) := r1.out.below hm.below
      have hb4 : Hid (Below w.heap.size w w4) := hb3.out.trans (hm.below.mono hb3.out.size)
      cases hv.out
      have H2 := Lib.hid (hS.out xo xc yo yc w4 r1'.out r2.out)
      clear hm hv r1 r2 r1' hb3
      go_wp2_with (go_at_call 21; refine H2.out.mono ?_; rintro e w5 ⟨rfl, hb5⟩; have R : Hid (Below w.heap.size w w5) := hb4.out.trans (hb5.mono hb4.out.size); clear hb5)
      go_ret2
      exact ⟨rfl, R.out⟩
    · have e : D.eqv a b = false := by unfold D.eqv; rw [decide_eq_false h2]; simp
      have h' : (D.chk b != 0) = true := by simpa using h2
      rw [e]
      rw [h] at Ha
      generalize D.chk b = c at Hb h'
      clear e h h2 ha hb ta tb la lb hee
      go_enter Tryd.func26, Tryd.ntmps26
      go_wp2_with fail
      refine Ha.out.mono ?_
      rintro e w1 ⟨rfl, hb1⟩
      have hb1 := Lib.hid hb1
      go_wp2_with fail
      refine (Hb.out _ hb1.out).mono ?_
      rintro e w2 ⟨rfl, hb2⟩
      have hb2 : Hid (Below w.heap.size w w2) := hb1.out.trans (hb2.mono hb1.out.size)
      clear hb1
      go_wp2
      go_ret2
      exact ⟨rfl, hb2.out⟩
  · have e : D.eqv a b = false := by unfold D.eqv; rw [decide_eq_false h]; rfl
    have ee : D.eqvE a b = D.chk a := by unfold D.eqvE; rw [if_neg h]
    have h' : (D.chk a != 0) = true := by simpa using h
    have h'' : (D.chk a == 0) = false := by simpa using h
    rw [e, ee]
    generalize D.chk a = c at Ha h' h''
    clear e ee h ha hb ta tb la lb
    go_enter Tryd.func26, Tryd.ntmps26
    go_wp2_with fail
    refine Ha.out.mono ?_
    rintro e w1 ⟨rfl, hb⟩
    go_wp2
    go_ret2
    exact ⟨rfl, hb⟩
def D.idE (n : Int) : Int := if n < 0 then 2 else if 1048576 < n then 5 else 0
def D.idP (n : Int) : List D.P := if 0 < n ∧ n ≤ 1048576 then [⟨1, n, ⟨#[]⟩⟩] else []
def D.IdEnd (n : Int) (w : World) (e : Ending) (w' : World) : Prop := ∃ v, e = .returned (.tuple #[v, .int .i64 (D.idE n)]) ∧ D.Made (D.idP n) w v w'
theorem refIdentity_any (n : Int) (h0 : -9223372036854775808 ≤ n) (h1 : n < 9223372036854775808) (w : World) :
    Calls Tryd.prog 30 #[.int .i64 n] w (D.IdEnd n w) := by
  by_cases h : n < 0
  · have R : Hid (D.IdEnd n w (.returned (.tuple #[.slice none 0 0, .int .i64 2])) w) := ⟨_, by unfold D.idE; rw [if_pos h], by unfold D.idP; rw [if_neg (by omega)]; exact D.Made.nil w (Below.refl _ _)⟩
    go_enter Tryd.func30, Tryd.ntmps30
    go_wp2
    go_ret2
    exact R.out
  · by_cases h2 : 1048576 < n
    · have R : Hid (D.IdEnd n w (.returned (.tuple #[.slice none 0 0, .int .i64 5])) w) := ⟨_, by unfold D.idE; rw [if_neg h, if_pos h2], by unfold D.idP; rw [if_neg (by omega)]; exact D.Made.nil w (Below.refl _ _)⟩
      go_enter Tryd.func30, Tryd.ntmps30
      go_wp2
      go_ret2
      exact R.out
    · by_cases h3 : n = 0
      · subst h3
        have R : Hid (D.IdEnd 0 w (.returned (.tuple #[.slice none 0 0, .int .i64 0])) w) := ⟨_, rfl, D.Made.nil w (Below.refl _ _)⟩
        go_enter Tryd.func30, Tryd.ntmps30
        go_wp2
        go_ret2
        exact R.out
      · have R : ∀ V cap (W : World), D.Made [⟨1, n, ⟨#[]⟩⟩] w (.slice V 1 cap) W → D.IdEnd n w (.returned (.tuple #[.slice V 1 cap, .int .i64 0])) W := fun V cap W hm => ⟨_, by unfold D.idE; rw [if_neg h, if_neg h2], by unfold D.idP; rw [if_pos (by omega)]; exact hm⟩
        have h4 : (n == 0) = false := by simpa using h3
        go_enter Tryd.func30, Tryd.ntmps30
        go_wp2
        go_ret2
        exact R _ _ _ ⟨World.ownsRow_lit w _ 1 (Nat.le_refl _) (by unfold maxLen; omega) rfl, (Below.refl _ _).alloc (Nat.le_refl _) _⟩
end Go.Proofs.YtmjoijloflinnaaDoor
