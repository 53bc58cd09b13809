/- Texts joined: ShiftRef1 ShiftRef2 ShiftRef3 -/
import Derived.Test.YtampekldlnlhdaaPackOwn
import Derived.Test.YtampekldlnlhdaaPackEqv
import Derived.Test.YtampekldlnlhdaaApplyRow
import Derived.Test.YtampekldlnlhdaaPackMath
import Derived.BigRegion
import Derived.Deep.RegionLaw
import Derived.Deep.AppendLies
import Derived.Test.YtampekldlnlhdaaPackShift
import Derived.Deep.QuietTactic
import Derived.BigQuiet
/- ShiftRef1 -/
namespace Go.Proofs.Ytampekldlnlhdaa
open Go.RowKit

abbrev S.Run := Nat × Nat × Nat
def S.cellsR (l : List S.Run) : List Value := l.flatMap fun x => [.int .i64 x.1, .int .i64 x.2.1, .int .i64 x.2.2]
theorem S.cellsR_append (x y : List S.Run) : S.cellsR (x ++ y) = S.cellsR x ++ S.cellsR y := by simp [S.cellsR]
theorem S.cellsR_one (p : S.Run) : S.cellsR [p] = [.int .i64 p.1, .int .i64 p.2.1, .int .i64 p.2.2] := by simp [S.cellsR]
theorem S.cellsR_len (x : List S.Run) : (S.cellsR x).length = x.length * 3 := by
  induction x with
  | nil => rfl
  | cons p x ih =>
    have : S.cellsR (p :: x) = [.int .i64 p.1, .int .i64 p.2.1, .int .i64 p.2.2] ++ S.cellsR x := by simp [S.cellsR]
    rw [this, List.length_append, ih]; simp; omega
theorem S.cellsR_at (x : List S.Run) (i : Nat) (p : S.Run) (h : x[i]? = some p) :
    (S.cellsR x)[i * 3]? = some (.int .i64 p.1) ∧ (S.cellsR x)[i * 3 + 1]? = some (.int .i64 p.2.1) ∧ (S.cellsR x)[i * 3 + 2]? = some (.int .i64 p.2.2) := by
  induction x generalizing i with
  | nil => simp at h
  | cons q x ih =>
    have e : S.cellsR (q :: x) = .int .i64 q.1 :: .int .i64 q.2.1 :: .int .i64 q.2.2 :: S.cellsR x := by simp [S.cellsR]
    rw [e]
    cases i with
    | zero => simp at h; subst h; exact ⟨rfl, rfl, rfl⟩
    | succ i =>
      obtain ⟨h0, h1, h2⟩ := ih i (by simpa using h)
      refine ⟨?_, ?_, ?_⟩
      · rw [show (i + 1) * 3 = i * 3 + 3 by omega]; exact h0
      · rw [show (i + 1) * 3 + 1 = i * 3 + 1 + 3 by omega]; exact h1
      · rw [show (i + 1) * 3 + 2 = i * 3 + 2 + 3 by omega]; exact h2
/-- Runs lie in a row. -/
def S.RRow (W : World) (ao : Option Addr) (l : List S.Run) : Prop :=
  ∀ (i : Nat) (p : S.Run), l[i]? = some p → ∃ b o, ao = some ⟨b, o, none⟩ ∧ b < W.heap.size ∧
    W.cell? ⟨b, o + i * 3, none⟩ = some (.int .i64 p.1) ∧ W.cell? ⟨b, o + i * 3 + 1, none⟩ = some (.int .i64 p.2.1) ∧ W.cell? ⟨b, o + i * 3 + 2, none⟩ = some (.int .i64 p.2.2)
theorem S.RRow.below {W W' : World} {ao : Option Addr} {l : List S.Run} (h : S.RRow W ao l) (hb : Below W.heap.size W W') : S.RRow W' ao l := fun i p hp => by
  obtain ⟨b, o, e, hlt, h0, h1, h2⟩ := h i p hp
  have hc := (D.bcell hb).1
  exact ⟨b, o, e, Nat.lt_of_lt_of_le hlt hb.size, (hc _ _ hlt).trans h0, (hc _ _ hlt).trans h1, (hc _ _ hlt).trans h2⟩
structure S.RMade (l : List S.Run) (w : World) (v : Value) (wr : World) : Prop where
  own : wr.ownsRow w.heap.size 72 3 v l.length (S.cellsR l)
  below : Below w.heap.size w wr
theorem S.RMade.form {x : List S.Run} {w : World} {v : Value} {W : World} (h : S.RMade x w v W) : ∃ ao cap, v = .slice ao x.length cap ∧ S.RRow W ao x := by
  obtain ⟨hl, ⟨rfl, h0⟩ | ⟨g, cap, cur, rfl, hb, hg, hnc, hcm, hcs, ht⟩⟩ := h.own
  · exact ⟨none, 0, by rw [h0], fun i p hp => by have := (List.getElem?_eq_some_iff.1 hp).1; omega⟩
  · have hlt := (Array.getElem?_eq_some_iff.1 hg).1
    refine ⟨some ⟨g, 0, none⟩, cap, rfl, fun i p hp => ⟨g, 0, rfl, hlt, ?_⟩⟩
    have hi := (List.getElem?_eq_some_iff.1 hp).1
    obtain ⟨h0, h1, h2⟩ := S.cellsR_at x i p hp
    have key : ∀ (j : Nat) (u : Value), (S.cellsR x)[j]? = some u → W.cell? ⟨g, j, none⟩ = some u := fun j u hu => by
      rw [← ht, List.getElem?_take] at hu
      have hj : j < x.length * 3 := by
        by_cases hj : j < x.length * 3
        · exact hj
        · rw [if_neg hj] at hu; cases hu
      rw [if_pos hj] at hu
      rw [cell_of_row W g _ cur _ _ hg]
      simpa using hu
    rw [Nat.zero_add]
    exact ⟨key _ _ h0, key _ _ h1, key _ _ h2⟩
theorem Try.infoRun : (Try.prog.info? 72).map (fun i => (i.zero, i.size, i.bytes)) = some (some (.agg #[.int .i64 0, .int .i64 0, .int .i64 0]), 3, 24) := by kernel_rfl
/-- An append of a run that has just been laid. -/
theorem S.append_run {W : World} {ops : Array Oper} {rest : List Oper} {o : Oper} {a : Act} {Q : Exit → Act → World → Prop} (hgd : o.guard = none) (s x : Operand)
    (ho : o.op = .call { callee := .builtin .append, args := #[s, x], argTypes := #[61, 61] })
    (base : Nat) (v : Value) (X : List S.Run) (hs : a.eval s = v) (hown : W.ownsRow base 72 3 v X.length (S.cellsR X)) (p : S.Run) (cc : Nat) (hx : a.eval x = .slice (some ⟨W.heap.size, 0, none⟩) 1 cc) (hn : X.length ≤ 1000000) (hbase : base ≤ W.heap.size)
    (h : ∀ Z v' w', Hid (Z = X ++ [p]) → w'.ownsRow base 72 3 v' Z.length (S.cellsR Z) → W.grownBy w' v.ownBlock → wpList Try.prog ops Q rest (a.put o.dst v') w') :
    wpList Try.prog ops Q (o :: rest) a (W.alloc (.cells #[.int .i64 p.1, .int .i64 p.2.1, .int .i64 p.2.2] 72)) := by
  obtain ⟨ip, hp, hp0, hp1, hp2⟩ := info_parts Try.infoRun
  refine wpList_append_own_at _ hgd s x _ ho base 72 ip (.agg #[.int .i64 0, .int .i64 0, .int .i64 0]) 3 24 Try.underlying61 hp hp0 hp1 hp2 rfl (by decide) v X.length (S.cellsR X) hs (hown.alloc _) ⟨W.heap.size, 0, none⟩ 1 cc (S.cellsR [p]) hx rfl ?_ (fun u hu => by rw [S.cellsR_one] at hu; simp only [List.mem_cons, List.not_mem_nil, or_false] at hu; rcases hu with rfl | rfl | rfl <;> rfl) (by unfold maxLen; omega) (by omega) (by simp only [World.size_alloc]; omega) ?_
  · rw [S.cellsR_one]
    exact D.news W [.int .i64 p.1, .int .i64 p.2.1, .int .i64 p.2.2] 72
  · intro v' w' h1 h2 _ h4
    refine h _ v' w' rfl ?_ ⟨h2.os, h2.tape, h2.output, Nat.le_trans (by simp only [World.size_alloc]; omega) h2.size, fun k hk hne => (h2.block k (by simp only [World.size_alloc]; omega) hne).trans (Lib.alloc_old W _ k hk)⟩
    rw [List.length_append, S.cellsR_append]; exact h1
theorem S.RMade.on {X Z : List S.Run} {w : World} {v v' : Value} {wr w' : World} (h : S.RMade X w v wr) (h1 : w'.ownsRow w.heap.size 72 3 v' Z.length (S.cellsR Z)) (h2 : wr.grownBy w' v.ownBlock) : S.RMade Z w v' w' := ⟨h1, h.below.grown h2 h.below.size (fun k e => (h.own.lt k e).1)⟩
theorem S.RMade.nil (w : World) {wr : World} (h : Below w.heap.size w wr) : S.RMade [] w (.slice none 0 0) wr := ⟨World.ownsRow_nil _ _ _ _, h⟩
/-- All numbers of runs are small. -/
def S.RBd (l : List S.Run) : Prop := ∀ x ∈ l, x.1 + x.2.2 ≤ 1048576 ∧ x.2.1 + x.2.2 ≤ 1048576
theorem S.rbd_runs (a : List D.Q) : ∀ i o, i + D.inL a ≤ 1048576 → o + D.outL a ≤ 1048576 → S.RBd (D.runs i o a) := by
  induction a with
  | nil => intro i o _ _ x hx; cases hx
  | cons q r ih =>
    intro i o hi ho
    cases q with
    | R n =>
      simp only [D.inL, D.outL, D.in1, D.out1] at hi ho
      intro x hx
      rcases List.mem_cons.1 hx with rfl | hx
      · exact ⟨by show i + n ≤ _; omega, by show o + n ≤ _; omega⟩
      · exact ih (i + n) (o + n) (by omega) (by omega) x hx
    | I t => simp only [D.inL, D.outL, D.in1, D.out1] at hi ho; exact ih i (o + t.length) (by omega) (by omega)
    | D n => simp only [D.inL, D.outL, D.in1, D.out1] at hi ho; exact ih (i + n) o (by omega) (by omega)
theorem S.rbd_turn {l : List S.Run} (h : S.RBd l) : S.RBd (D.turn l) := fun x hx => by
  obtain ⟨y, hy, rfl⟩ := List.mem_map.1 hx
  exact ⟨(h y hy).2, (h y hy).1⟩
theorem S.runs_len (a : List D.Q) : ∀ i o, (D.runs i o a).length ≤ a.length := by
  induction a with
  | nil => intro i o; exact Nat.le_refl _
  | cons q r ih => intro i o; cases q with
    | R n => have := ih (i + n) (o + n); simp only [D.runs, List.length_cons]; omega
    | I t => have := ih i (o + t.length); simp only [D.runs, List.length_cons]; omega
    | D n => have := ih (i + n) o; simp only [D.runs, List.length_cons]; omega
set_option maxRecDepth 100000 in
set_option maxHeartbeats 2000000 in
theorem refLeft_any (ao : Option Addr) (cap : Nat) (l : List S.Run) (p : Nat) (w : World) (hr : S.RRow w ao l) (hb : S.RBd l) (hp : p ≤ 1048576) (hl : l.length ≤ 1000000) :
    Calls Try.prog 40 #[.slice ao l.length cap, .int .i64 p] w fun e w' => e = .returned (.int .i64 (D.leftF p 0 l : Nat)) ∧ Below w.heap.size w w' := by
  have Hr := Lib.hid hr
  have Hb := Lib.hid hb
  obtain ⟨m, hm⟩ : ∃ m, Hid (l.length = m) := ⟨_, rfl⟩
  obtain ⟨z, hz⟩ : ∃ z, Hid (D.leftF p 0 l = z) := ⟨_, rfl⟩
  rw [hm.out] at hl ⊢
  rw [hz.out]
  clear hr hb
  go_enter Try.func40, Try.ntmps40
  go_wp2
  go_loopw [5, 6] (fun u v wr => ∃ k t : Nat, k ≤ m ∧ v = .int .i64 k ∧ u = .int .i64 t ∧ Hid (D.leftF p t (l.drop k) = z) ∧ Hid (Below w.heap.size w wr)) (fun _ v _ => m - (intOf v).toNat)
  case atStart => exact ⟨0, 0, Nat.zero_le _, rfl, rfl, hz, Below.refl _ _⟩
  case round =>
    obtain ⟨k, t, hk, rfl, rfl, hf, hB⟩ := hrel
    by_cases hlt : k < m
    · obtain ⟨x, hx, hdr⟩ : ∃ x, l[k]? = some x ∧ l.drop k = x :: l.drop (k + 1) := by
        have hkl : k < l.length := by rw [hm.out]; exact hlt
        exact ⟨l[k], List.getElem?_eq_getElem hkl, List.drop_eq_getElem_cons hkl⟩
      obtain ⟨b1, b2⟩ := Hb.out x (List.mem_of_getElem? hx)
      obtain ⟨b, o, e, hbl, c0, c1, c2⟩ := (Hr.out.below hB.out) k x hx
      obtain ⟨xi, xo, xn⟩ := x
      subst e
      dsimp only at b1 b2 c0 c1 c2
      have hf2 : Hid (D.leftF p (if xi < p then xo + min (p - xi) xn else t) (l.drop (k + 1)) = z) := by have := hf.out; rw [hdr] at this; exact this
      have hm' : Hid (m - (k + 1) < m - k) := by show _ < _; omega
      clear hx hdr hf
      by_cases hc : xi < p
      · rw [if_pos hc] at hf2
        have hc' : (xi : Int) < (p : Int) := by omega
        go_wp2
        go_region
        all_goals
          go_wp2
          go_roundw
          case rel => exact ⟨k + 1, xo + min (p - xi) xn, by omega, by go_num, by congr 1; omega, hf2, hB.out.drew⟩
          case measure => simp [intOf]; exact hm'.out
      · rw [if_neg hc] at hf2
        have hc' : ¬ (xi : Int) < (p : Int) := by omega
        go_wp2
        go_roundw
        case rel => exact ⟨k + 1, t, by omega, by go_num, rfl, hf2, hB⟩
        case measure => simp [intOf]; exact hm'.out
    · have e1 : Hid (t = z) := by
        have := hf.out
        rw [List.drop_of_length_le (by rw [hm.out]; omega)] at this
        exact this
      go_wp2
      go_ret
      exact ⟨by rw [e1.out]; rfl, hB.out⟩
set_option maxRecDepth 100000 in
set_option maxHeartbeats 2000000 in
theorem refRight_any (ao : Option Addr) (cap : Nat) (l : List S.Run) (p f : Nat) (w : World) (hr : S.RRow w ao l) (hb : S.RBd l) (hp : p ≤ 1048576) (hl : l.length ≤ 1000000) :
    Calls Try.prog 43 #[.slice ao l.length cap, .int .i64 p, .int .i64 f] w fun e w' => e = .returned (.int .i64 (D.rightF p f l : Nat)) ∧ Below w.heap.size w w' := by
  have Hr := Lib.hid hr
  have Hb := Lib.hid hb
  obtain ⟨m, hm⟩ : ∃ m, Hid (l.length = m) := ⟨_, rfl⟩
  obtain ⟨z, hz⟩ : ∃ z, Hid (D.rightF p f l = z) := ⟨_, rfl⟩
  rw [hm.out] at hl ⊢
  rw [hz.out]
  clear hr hb
  go_enter Try.func43, Try.ntmps43
  go_wp2
  go_loopw [7] (fun v wr => ∃ k : Nat, k ≤ m ∧ v = .int .i64 k ∧ Hid (D.rightF p f (l.drop k) = z) ∧ Hid (Below w.heap.size w wr)) (fun v _ => m - (intOf v).toNat)
  case atStart => exact ⟨0, Nat.zero_le _, rfl, hz, Below.refl _ _⟩
  case round =>
    obtain ⟨k, hk, rfl, hf, hB⟩ := hrel
    by_cases hlt : k < m
    · obtain ⟨x, hx, hdr⟩ : ∃ x, l[k]? = some x ∧ l.drop k = x :: l.drop (k + 1) := by
        have hkl : k < l.length := by rw [hm.out]; exact hlt
        exact ⟨l[k], List.getElem?_eq_getElem hkl, List.drop_eq_getElem_cons hkl⟩
      obtain ⟨b1, b2⟩ := Hb.out x (List.mem_of_getElem? hx)
      obtain ⟨b, o, e, hbl, c0, c1, c2⟩ := (Hr.out.below hB.out) k x hx
      obtain ⟨xi, xo, xn⟩ := x
      subst e
      dsimp only at b1 b2 c0 c1 c2
      have hf2 : Hid ((if p < xi + xn then xo + (p - xi) else D.rightF p f (l.drop (k + 1))) = z) := by have := hf.out; rw [hdr] at this; exact this
      have hm' : Hid (m - (k + 1) < m - k) := by show _ < _; omega
      clear hx hdr hf
      by_cases hc : p < xi + xn
      · rw [if_pos hc] at hf2
        have hc' : (p : Int) < (xi : Int) + (xn : Int) := by omega
        go_wp2
        go_region
        all_goals
          go_wp2
          go_region
        all_goals
          go_wp2
          go_ret
          refine ⟨?_, hB.out.drew.drew⟩
          have e2 : (xo : Int) + max ((p : Int) - xi) 0 = (z : Int) := by have := hf2.out; omega
          first | (rw [← e2]; rfl) | rw [← e2]
      · rw [if_neg hc] at hf2
        have hc' : (xi : Int) + (xn : Int) ≤ (p : Int) := by omega
        go_wp2
        go_region
        all_goals
          go_wp2
          go_roundw
          case rel => exact ⟨k + 1, by omega, by go_num, hf2, hB.out.drew⟩
          case measure => simp [intOf]; exact hm'.out
    · have e1 : Hid (f = z) := by
        have := hf.out
        rw [List.drop_of_length_le (by rw [hm.out]; omega)] at this
        exact this
      go_wp2
      go_ret
      exact ⟨by rw [e1.out]; rfl, hB.out⟩
set_option maxRecDepth 100000 in
set_option maxHeartbeats 2000000 in
theorem refTurned_any (ao : Option Addr) (cap : Nat) (l : List S.Run) (w : World) (hr : S.RRow w ao l) (hl : l.length ≤ 100000) :
    Calls Try.prog 41 #[.slice ao l.length cap] w fun e w' => ∃ v, e = .returned v ∧ S.RMade (D.turn l) w v w' := by
  have Hr := Lib.hid hr
  obtain ⟨m, hm⟩ : ∃ m, Hid (l.length = m) := ⟨_, rfl⟩
  rw [hm.out] at hl ⊢
  have R : Hid (∀ v w', S.RMade (D.turn l) w v w' → (fun e w' => ∃ v, e = .returned v ∧ S.RMade (D.turn l) w v w') (Ending.returned v) w') := fun v w' h => ⟨v, rfl, h⟩
  obtain ⟨Z, hZ⟩ : ∃ Z, Hid ((fun e w' => ∃ v, e = Ending.returned v ∧ S.RMade (D.turn l) w v w') = Z) := ⟨_, rfl⟩
  clear hr
  go_enter Try.func41, Try.ntmps41
  go_wp2
  go_loopw [3, 4] (fun u v wr => ∃ k : Nat, k ≤ m ∧ v = .int .i64 k ∧ Hid (S.RMade (D.turn (l.take k)) w u wr)) (fun _ v _ => m - (intOf v).toNat)
  case atStart => exact ⟨0, Nat.zero_le _, rfl, S.RMade.nil w (Below.refl _ _)⟩
  case round =>
    obtain ⟨k, hk, rfl, hM⟩ := hrel
    have hz := hM.out.below.size
    obtain ⟨va, vc, rfl⟩ := D.slice_of_own hM.out.own
    by_cases hlt : k < m
    · obtain ⟨x, hx⟩ : ∃ x, l[k]? = some x := ⟨_, List.getElem?_eq_getElem (show k < l.length by rw [hm.out]; exact hlt)⟩
      obtain ⟨b, o, e, hbl, c0, c1, c2⟩ := Hr.out k x hx
      replace c0 := (hM.out.below.cell (p := ⟨b, _, none⟩) hbl).trans c0
      replace c1 := (hM.out.below.cell (p := ⟨b, _, none⟩) hbl).trans c1
      replace c2 := (hM.out.below.cell (p := ⟨b, _, none⟩) hbl).trans c2
      obtain ⟨xi, xo, xn⟩ := x
      subst e
      dsimp only at c0 c1 c2
      have e1 : Hid (D.turn (l.take (k + 1)) = D.turn (l.take k) ++ [(xo, xi, xn)]) := by show _ = _; unfold D.turn; rw [List.take_add_one, hx]; simp
      have hlen : (D.turn (l.take k)).length ≤ 100000 := by unfold D.turn; rw [List.length_map, List.length_take]; omega
      obtain ⟨X, hX⟩ : ∃ X, Hid (D.turn (l.take k) = X) := ⟨_, rfl⟩
      rw [hX.out] at hM hlen e1 ⊢
      have hm' : Hid (m - (k + 1) < m - k) := by show _ < _; omega
      have hbz : b < wr.heap.size := by omega
      clear hx
      obtain ⟨ip, hp, hp0, hp1, hp2⟩ := info_parts Try.infoRun
      have Hp := Lib.hid (And.intro hp (And.intro hp0 (And.intro hp1 hp2)))
      clear hp hp0 hp1 hp2
      go_wp2
      go_region_law (refine step_append_lies _ rfl (.tmp 11) (.tmp 28) 61 rfl w.heap.size 72 ip (.agg #[.int .i64 0, .int .i64 0, .int .i64 0]) 3 24 Try.underlying61 Hp.out.1 Hp.out.2.1 Hp.out.2.2.1 Hp.out.2.2.2 rfl (by decide) (.slice va X.length vc) X.length (S.cellsR X) rfl ?own _ 1 1 [.int .i64 xo, .int .i64 xi, .int .i64 xn] rfl rfl ?news (fun u hu => by simp at hu; rcases hu with rfl | rfl | rfl <;> rfl) (by decide) (by unfold maxLen; omega) (by omega) ?base _ rfl ?_
                     case own => repeat (first | exact hM.out.own | refine World.ownsRow.drew ?_ | refine World.ownsRow.alloc ?_ _)
                     case news => exact D.news _ _ _
                     case base => first | omega | (simp; omega)
                     intro g cp w3 hO3 hg3 _ _
                     have hM3 : Hid (S.RMade (X ++ [(xo, xi, xn)]) w (.slice (some ⟨g, 0, none⟩) (X.length + 1) cp) w3) := by
                       refine ⟨by rw [List.length_append, S.cellsR_append]; exact hO3, ?_⟩
                       refine Below.grown ?_ hg3 ?_ (fun k e => (hM.out.own.lt k e).1)
                       · repeat (first | exact hM.out.below | refine Below.drew ?_ | refine Below.alloc ?_ (by first | omega | (simp; omega)) _)
                       · first | omega | (simp; omega)
                     clear hO3 hg3)
      all_goals
        go_wp2
        go_roundw
        case rel => exact ⟨k + 1, by omega, by go_num, by show S.RMade _ _ _ _; rw [e1.out]; exact hM3.out⟩
        case measure => simp [intOf]; exact hm'.out
    · have e1 : Hid (S.RMade (D.turn l) w (.slice va (D.turn (l.take k)).length vc) wr) := by
        have := hM.out
        rwa [List.take_of_length_le (by rw [hm.out]; omega)] at this ⊢
      clear hM
      go_wp2
      go_ret
      exact ⟨_, rfl, e1.out⟩
end Go.Proofs.Ytampekldlnlhdaa
/- ShiftRef2 -/
namespace Go.Proofs.Ytampekldlnlhdaa
open Go.RowKit

set_option maxRecDepth 100000 in
set_option maxHeartbeats 2000000 in
theorem refRuns_any (ao : Option Addr) (cap : Nat) (a : List D.Q) (w : World) (hr : D.Row w ao (a.map D.raw)) (hi : D.inL a ≤ 1048576) (ho : D.outL a ≤ 1048576) (hl : a.length ≤ 4096) :
    Calls Try.prog 42 #[.slice ao a.length cap] w fun e w' => ∃ v, e = .returned v ∧ S.RMade (D.runs 0 0 a) w v w' := by
  have Hr := Lib.hid hr
  obtain ⟨m, hm⟩ : ∃ m, Hid (a.length = m) := ⟨_, rfl⟩
  obtain ⟨L, hL⟩ : ∃ L, Hid (D.runs 0 0 a = L) := ⟨_, rfl⟩
  have HLl : L.length ≤ 4096 := by rw [← hL.out]; have := S.runs_len a 0 0; omega
  rw [hm.out] at hl ⊢
  rw [hL.out]
  clear hr
  go_enter Try.func42, Try.ntmps42
  go_wp2
  go_loopw [3, 4, 5, 6] (fun u x y v wr => ∃ (k i o : Nat) (pre : List S.Run) (r : List D.Q), k ≤ m ∧ v = .int .i64 k ∧ x = .int .i64 i ∧ y = .int .i64 o ∧ Hid (a.drop k = r) ∧ Hid (L = pre ++ D.runs i o r) ∧ i + D.inL r ≤ 1048576 ∧ o + D.outL r ≤ 1048576 ∧ Hid (S.RMade pre w u wr)) (fun _ _ _ v _ => m - (intOf v).toNat)
  case atStart => exact ⟨0, 0, 0, [], a, Nat.zero_le _, rfl, rfl, rfl, rfl, by show L = [] ++ _; rw [← hL.out]; rfl, by omega, by omega, S.RMade.nil w (Below.refl _ _)⟩
  case round =>
    obtain ⟨k, i, o, pre, r, hk, rfl, rfl, rfl, hdr, hpre, hbi, hbo, hM⟩ := hrel
    have hz := hM.out.below.size
    obtain ⟨va, vc, rfl⟩ := D.slice_of_own hM.out.own
    by_cases hlt : k < m
    · obtain ⟨q, hq, hd2⟩ : ∃ q, a[k]? = some q ∧ a.drop k = q :: a.drop (k + 1) := by
        have hkl : k < a.length := by rw [hm.out]; exact hlt
        exact ⟨a[k], List.getElem?_eq_getElem hkl, List.drop_eq_getElem_cons hkl⟩
      obtain rfl : r = q :: a.drop (k + 1) := by rw [← hd2]; exact hdr.out.symm
      obtain ⟨b, ob, e, hbl, c0, c1, c2⟩ := Hr.out k (D.raw q) (by rw [List.getElem?_map, hq]; rfl)
      replace c0 := (hM.out.below.cell (p := ⟨b, _, none⟩) hbl).trans c0
      replace c1 := (hM.out.below.cell (p := ⟨b, _, none⟩) hbl).trans c1
      replace c2 := (hM.out.below.cell (p := ⟨b, _, none⟩) hbl).trans c2
      subst e
      have hpl : pre.length ≤ 4096 := by have := congrArg List.length hpre.out; rw [List.length_append] at this; omega
      have hm' : Hid (m - (k + 1) < m - k) := by show _ < _; omega
      have hbz : b < wr.heap.size := by omega
      obtain ⟨r2, hr2⟩ : ∃ r2, Hid (a.drop (k + 1) = r2) := ⟨_, rfl⟩
      rw [hr2.out] at hpre hbi hbo
      clear hq hd2 hdr
      cases q with
      | R n =>
        simp only [D.raw] at c0 c1 c2
        simp only [D.inL, D.outL, D.in1, D.out1] at hbi hbo
        have hp2 : Hid (L = (pre ++ [(i, o, n)]) ++ D.runs (i + n) (o + n) r2) := by show _ = _; rw [hpre.out]; simp [D.runs]
        have b1 : i + n ≤ 1048576 := by omega
        have b2 : o + n ≤ 1048576 := by omega
        clear hpre
        go_wp2_with (at_builtin; refine S.append_run rfl _ _ rfl w.heap.size _ pre rfl hM.out.own (i, o, n) 1 rfl ?a1 ?a2 ?_)
        case a1 => omega
        case a2 => omega
        intro Y v' w3 hY hO hg
        have hM3 := Lib.hid (hM.out.on hO hg)
        replace c0 : w3.cell? ⟨b, ob + k * 3, none⟩ = _ := (hM3.out.below.cell (p := ⟨b, _, none⟩) hbl).trans ((hM.out.below.cell (p := ⟨b, _, none⟩) hbl).symm.trans c0)
        replace c1 : w3.cell? ⟨b, ob + k * 3 + 1, none⟩ = _ := (hM3.out.below.cell (p := ⟨b, _, none⟩) hbl).trans ((hM.out.below.cell (p := ⟨b, _, none⟩) hbl).symm.trans c1)
        replace c2 : w3.cell? ⟨b, ob + k * 3 + 2, none⟩ = _ := (hM3.out.below.cell (p := ⟨b, _, none⟩) hbl).trans ((hM.out.below.cell (p := ⟨b, _, none⟩) hbl).symm.trans c2)
        clear hO hg hM
        go_wp2
        go_roundw
        case rel => exact ⟨k + 1, i + n, o + n, Y, r2, by omega, by go_num, by go_num, by go_num, hr2, by show _ = _; rw [hY.out]; exact hp2.out, by omega, by omega, hM3⟩
        case measure => simp [intOf]; exact hm'.out
      | I t =>
        simp only [D.raw] at c0 c1 c2
        simp only [D.inL, D.outL, D.in1, D.out1] at hbi hbo
        obtain ⟨T, hT⟩ : ∃ T : ByteArray, Hid (⟨t.toArray⟩ = T) := ⟨_, rfl⟩
        obtain ⟨z, hz⟩ : ∃ z, Hid (t.length = z) := ⟨_, rfl⟩
        have hTz : (T.size : Int) = z := by rw [← hT.out, ← hz.out]; rfl
        rw [hT.out] at c2
        rw [hz.out] at hbo
        have hp2 : Hid (L = pre ++ D.runs i (o + z) r2) := by show _ = _; rw [hpre.out, ← hz.out]; rfl
        have b2 : o + z ≤ 1048576 := by omega
        clear hpre hT
        go_wp2
        go_roundw
        case rel => exact ⟨k + 1, i, o + z, pre, r2, by omega, by go_num, rfl, by go_num, hr2, hp2, by omega, by omega, hM⟩
        case measure => simp [intOf]; exact hm'.out
      | D n =>
        simp only [D.raw] at c0 c1 c2
        simp only [D.inL, D.outL, D.in1, D.out1] at hbi hbo
        have hp2 : Hid (L = pre ++ D.runs (i + n) o r2) := by show _ = _; rw [hpre.out]; rfl
        have b1 : i + n ≤ 1048576 := by omega
        clear hpre
        go_wp2
        go_roundw
        case rel => exact ⟨k + 1, i + n, o, pre, r2, by omega, by go_num, by go_num, rfl, hr2, hp2, by omega, by omega, hM⟩
        case measure => simp [intOf]; exact hm'.out
    · have hr0 : r = [] := by rw [← hdr.out]; exact List.drop_of_length_le (by rw [hm.out]; omega)
      have e1 : Hid (S.RMade L w (.slice va pre.length vc) wr) := by
        show S.RMade L w _ wr
        rw [hpre.out, hr0, show D.runs i o [] = [] from rfl, List.append_nil]; exact hM.out
      clear hM hpre hdr
      go_wp2
      go_ret
      exact ⟨_, rfl, e1.out⟩
def S.RMovEnd (a : List D.Q) (k : Nat) (g : Int) (w : World) (e : Ending) (w' : World) : Prop := e = .returned (.int .i64 (if g = 0 then (D.lft a k : Int) else (D.rgt a k : Int))) ∧ Below w.heap.size w w'
set_option maxRecDepth 100000 in
set_option maxHeartbeats 2000000 in
theorem refMove_any (ao : Option Addr) (c : Nat) (a : List D.Q) (k : Nat) (g : Int) (w : World) (hr : D.Row w ao (a.map D.raw)) (hv : D.chk (a.map D.raw) = 0) (pa : D.allPos a = true) (hi : D.inL a ≤ 1048576) (ho : D.outL a ≤ 1048576) (hl : a.length ≤ 4096) (hk : k ≤ 1048576) (hg : g = 0 ∨ g = 1) :
    Calls Try.prog 38 #[.slice ao a.length c, .int .i64 k, .int .u8 g] w (S.RMovEnd a k g w) := by
  have HU : Hid (∀ W, Below w.heap.size w W → Calls Try.prog 42 #[.slice ao a.length c] W fun e w' => ∃ v, e = .returned v ∧ S.RMade (D.runs 0 0 a) W v w') := fun W h => refRuns_any ao c a W (hr.below h) hi ho hl
  have tb := S.rbd_runs a 0 0 (by omega) (by omega)
  have tl : (D.runs 0 0 a).length ≤ 4096 := by have := S.runs_len a 0 0; omega
  have HL : Hid (∀ ao c W, S.RRow W ao (D.runs 0 0 a) → Calls Try.prog 40 #[.slice ao (D.runs 0 0 a).length c, .int .i64 k] W fun e w' => e = .returned (.int .i64 (D.lft a k : Nat)) ∧ Below W.heap.size W w') := fun ao c W h => by
    have := refLeft_any ao c _ k W h tb hk (by omega)
    rwa [D.left_runs _ pa] at this
  have HR : Hid (∀ ao c W, S.RRow W ao (D.runs 0 0 a) → Calls Try.prog 43 #[.slice ao (D.runs 0 0 a).length c, .int .i64 k, .int .i64 (D.outL a)] W fun e w' => e = .returned (.int .i64 (D.rgt a k : Nat)) ∧ Below W.heap.size W w') := fun ao c W h => by
    have := refRight_any ao c _ k (D.outL a) W h tb hk (by omega)
    rwa [D.right_runs _ pa] at this
  have HS : Hid (Calls Try.prog 68 #[.slice ao a.length c] w fun e w' => e = .returned (.tuple #[.int .i64 (D.inL a), .int .i64 (D.outL a)]) ∧ w = w') := by
    have := refSizes_any ao c (a.map D.raw) w hr hv
    rwa [D.inP_raw, D.outP_raw, List.length_map] at this
  generalize D.runs 0 0 a = X1 at HU HL HR
  clear hr hv pa tb tl
  have B0 : Hid (Below w.heap.size w w) := Below.refl _ _
  rcases hg with rfl | rfl
  · have R1 : Hid (∀ w', Below w.heap.size w w' → S.RMovEnd a k 0 w (.returned (.int .i64 (D.lft a k : Nat))) w') := fun w' h => ⟨by rw [if_pos rfl], h⟩
    clear HS HR
    generalize D.lft a k = z at HL R1
    go_enter Try.func38, Try.ntmps38
    go_wp2_with fail
    refine (HU.out _ B0.out).mono ?_
    rintro e w2 ⟨v, rfl, hm⟩
    have hb2 := Lib.hid (B0.out.trans (hm.below.mono B0.out.size))
    obtain ⟨o1, c1, hv, hrow⟩ := hm.form
    subst hv
    have hrow1 := Lib.hid hrow
    clear hm hrow
    go_wp2_with fail
    refine (HL.out _ _ _ hrow1.out).mono ?_
    rintro e w4 ⟨rfl, hb⟩
    have R2 := Lib.hid (R1.out w4 (hb2.out.trans (hb.mono hb2.out.size)))
    clear hb
    go_wp2
    go_ret
    exact R2.out
  · have R1 : Hid (∀ w', Below w.heap.size w w' → S.RMovEnd a k 1 w (.returned (.int .i64 (D.rgt a k : Nat))) w') := fun w' h => ⟨by rw [if_neg (by decide)], h⟩
    clear HL
    generalize D.rgt a k = z at HR R1
    generalize D.inL a = n at hi HS
    generalize D.outL a = m at ho HS HR
    go_enter Try.func38, Try.ntmps38
    go_wp2_with fail
    refine HS.out.mono ?_
    rintro e w1 ⟨rfl, rfl⟩
    go_wp2_with fail
    refine (HU.out _ B0.out).mono ?_
    rintro e w2 ⟨v, rfl, hm⟩
    have hb2 := Lib.hid (B0.out.trans (hm.below.mono B0.out.size))
    obtain ⟨o1, c1, hv, hrow⟩ := hm.form
    subst hv
    have hrow1 := Lib.hid hrow
    clear hm hrow
    go_wp2_with fail
    refine (HR.out _ _ _ hrow1.out).mono ?_
    rintro e w4 ⟨rfl, hb⟩
    have R2 := Lib.hid (R1.out w4 (hb2.out.trans (hb.mono hb2.out.size)))
    clear hb
    go_wp2
    go_ret
    exact R2.out
set_option maxRecDepth 100000 in
set_option maxHeartbeats 2000000 in
theorem refPosition_any (ao : Option Addr) (c : Nat) (x : List D.P) (p g : Int) (g0 : 0 ≤ g) (w : World) (hr : D.Row w ao x) (hx : D.Bd x) :
    Calls Try.prog 15 #[.slice ao x.length c, .int .i64 p, .int .u8 g] w (S.PosEnd x p g w) := by
  have H1 := Lib.hid (refLengths_any ao c x w hx.1 hr hx.2)
  by_cases h0 : D.chk x = 0
  · obtain ⟨hx2, pa, _, bl, bi, bo⟩ := D.valid_qs h0
    obtain ⟨m1, m2⟩ := D.mv_pos h0 p g
    obtain ⟨l1, l2⟩ := D.len_qs h0
    unfold D.lenI at l1
    unfold D.lenO at l2
    rw [l1, l2, h0] at H1
    obtain ⟨a, ha⟩ : ∃ a, D.qs x = a := ⟨_, rfl⟩
    rw [ha] at hx2 pa bi bo l1 l2 m1 m2 H1
    have hr' : D.Row w ao (a.map D.raw) := by rw [hx2]; exact hr
    have hlen : x.length = a.length := by rw [← hx2, List.length_map]
    rw [hlen] at H1 bl ⊢
    have hv : D.chk (a.map D.raw) = 0 := by rw [hx2]; exact h0
    have R1 : Hid (∀ v k w', D.mvE a p g = k → D.mvV a p g = v → Below w.heap.size w w' → S.PosEnd x p g w (.returned (.tuple #[.int .i64 v, .int .i64 k])) w') := fun v k w' e1 e2 h => ⟨by rw [m1, m2, e1, e2], h⟩
    have HM : Hid (∀ W (k : Nat) g, (k : Int) ≤ D.inL a → (g = 0 ∨ g = 1) → Below w.heap.size w W → Calls Try.prog 38 #[.slice ao a.length c, .int .i64 k, .int .u8 g] W (S.RMovEnd a k g W)) := fun W k g hk hg h => refMove_any ao c a k g W (hr'.below h) hv pa bi bo bl (by omega) hg
    clear hx2 pa bl l1 l2 m1 m2 hr hr' hx h0 ha hlen hv
    by_cases hg : 1 < g
    · have e3 : D.mvE a p g = 2 := if_pos hg
      have R1 := Lib.hid (fun w' h => R1.out 0 2 w' e3 (D.mvV_bad (by rw [e3]; decide)) h)
      clear HM e3
      generalize D.inL a = n at bi H1
      generalize D.outL a = m at bo H1
      go_enter Try.func15, Try.ntmps15
      go_wp2_with fail
      refine H1.out.mono ?_
      rintro e w1 ⟨rfl, hb⟩
      have R2 := Lib.hid (R1.out w1 hb)
      clear hb
      go_wp2
      go_ret2
      exact R2.out
    · by_cases hp : p < 0 ∨ (D.inL a : Int) < p
      · have e3 : D.mvE a p g = 3 := by unfold D.mvE; rw [if_neg hg, if_pos hp]
        have R1 := Lib.hid (fun w' h => R1.out 0 3 w' e3 (D.mvV_bad (by rw [e3]; decide)) h)
        clear HM e3
        generalize D.inL a = n at bi H1 hp
        generalize D.outL a = m at bo H1
        have hp3 : p < 0 ∨ (¬ p < 0 ∧ (n : Int) < p) := by omega
        clear hp
        rcases hp3 with hp | ⟨h1, h2⟩
        all_goals
          go_enter Try.func15, Try.ntmps15
          go_wp2_with fail
          refine H1.out.mono ?_
          rintro e w1 ⟨rfl, hb⟩
          have R2 := Lib.hid (R1.out w1 hb)
          clear hb
          go_wp2
          go_ret2
          exact R2.out
      · have e0 : D.mvE a p g = 0 := by unfold D.mvE; rw [if_neg hg, if_neg hp]
        obtain ⟨k, rfl⟩ := Int.eq_ofNat_of_zero_le (show 0 ≤ p by omega)
        have hkb : k ≤ 1048576 := by omega
        have p0 : ¬ (k : Int) < 0 := by omega
        have p1 : ¬ (D.inL a : Int) < (k : Int) := by omega
        have h01 : g = 0 ∨ g = 1 := by omega
        have HM := Lib.hid (fun W h => HM.out W k g (by omega) h01 h)
        have R1 := Lib.hid (fun w' h => R1.out (if g = 0 then (D.lft a k : Int) else (D.rgt a k : Int)) 0 w' e0 (by unfold D.mvV; rw [if_pos e0]; rfl) h)
        unfold S.RMovEnd at HM
        generalize (if g = 0 then (D.lft a k : Int) else (D.rgt a k : Int)) = z at HM R1
        clear e0 hp h01
        generalize D.inL a = n at bi H1 p1
        generalize D.outL a = m at bo H1
        have hg : ¬ 1 < g := hg
        go_enter Try.func15, Try.ntmps15
        go_wp2_with fail
        refine H1.out.mono ?_
        rintro e w1 ⟨rfl, hb⟩
        have hb1 := Lib.hid hb
        clear hb
        go_wp2_with fail
        refine (HM.out _ hb1.out).mono ?_
        rintro e w2 ⟨rfl, hb⟩
        have R2 := Lib.hid (R1.out w2 (hb1.out.trans (hb.mono hb1.out.size)))
        clear hb
        go_wp2
        go_ret2
        exact R2.out
  · have q : (D.chk x != 0) = true := by simpa using h0
    have e1 : D.posE x p g = D.chk x := if_neg h0
    have e2 : D.posV x p g = 0 := if_neg (by rw [e1]; exact h0)
    have R1 : Hid (∀ w', Below w.heap.size w w' → S.PosEnd x p g w (.returned (.tuple #[.int .i64 0, .int .i64 (D.chk x)])) w') := fun w' h => ⟨by rw [e1, e2], h⟩
    rw [if_neg h0, if_neg h0] at H1
    clear e1 e2 hr hx h0
    generalize D.chk x = k at q R1 H1
    go_enter Try.func15, Try.ntmps15
    go_wp2_with fail
    refine H1.out.mono ?_
    rintro e w1 ⟨rfl, hb⟩
    have R2 := Lib.hid (R1.out w1 hb)
    clear hb
    go_wp2
    go_ret2
    exact R2.out
set_option maxRecDepth 100000 in
set_option maxHeartbeats 2000000 in
theorem refBack_any (ao : Option Addr) (c : Nat) (x : List D.P) (p g : Int) (g0 : 0 ≤ g) (w : World) (hr : D.Row w ao x) (hx : D.Bd x) :
    Calls Try.prog 17 #[.slice ao x.length c, .int .i64 p, .int .u8 g] w (S.BckEnd x p g w) := by
  have H1 := Lib.hid (refLengths_any ao c x w hx.1 hr hx.2)
  by_cases h0 : D.chk x = 0
  · obtain ⟨hx2, pa, _, bl, bi, bo⟩ := D.valid_qs h0
    obtain ⟨m1, m2⟩ := D.mv_bck h0 p g
    obtain ⟨l1, l2⟩ := D.len_qs h0
    unfold D.lenI at l1
    unfold D.lenO at l2
    rw [l1, l2, h0] at H1
    obtain ⟨a, ha⟩ : ∃ a, D.qs x = a := ⟨_, rfl⟩
    rw [ha] at hx2 pa bi bo l1 l2 m1 m2 H1
    have hr' : D.Row w ao (a.map D.raw) := by rw [hx2]; exact hr
    have hlen : x.length = a.length := by rw [← hx2, List.length_map]
    rw [hlen] at H1 bl ⊢
    have hv : D.chk (a.map D.raw) = 0 := by rw [hx2]; exact h0
    have R1 : Hid (∀ v k w', D.mvE (D.swp a) p g = k → D.mvV (D.swp a) p g = v → Below w.heap.size w w' → S.BckEnd x p g w (.returned (.tuple #[.int .i64 v, .int .i64 k])) w') := fun v k w' e1 e2 h => ⟨by rw [m1, m2, e1, e2], h⟩
    have HU : Hid (∀ W, Below w.heap.size w W → Calls Try.prog 42 #[.slice ao a.length c] W fun e w' => ∃ v, e = .returned v ∧ S.RMade (D.runs 0 0 a) W v w') := fun W h => refRuns_any ao c a W (hr'.below h) bi bo bl
    have tb := S.rbd_runs a 0 0 (by omega) (by omega)
    have tl : (D.runs 0 0 a).length ≤ 4096 := by have := S.runs_len a 0 0; omega
    have tu : D.turn (D.runs 0 0 a) = D.runs 0 0 (D.swp a) := D.turn_runs a 0 0
    have HT : Hid (∀ ao c W, S.RRow W ao (D.runs 0 0 a) → Calls Try.prog 41 #[.slice ao (D.runs 0 0 a).length c] W fun e w' => ∃ v, e = .returned v ∧ S.RMade (D.runs 0 0 (D.swp a)) W v w') := fun ao c W h => by
      rw [← tu]; exact refTurned_any ao c _ W h (by omega)
    have tl2 : (D.runs 0 0 (D.swp a)).length ≤ 4096 := by rw [← tu]; unfold D.turn; rw [List.length_map]; exact tl
    have tb2 : S.RBd (D.runs 0 0 (D.swp a)) := by rw [← tu]; exact S.rbd_turn tb
    have HL : Hid (∀ ao c W (k : Nat), k ≤ 1048576 → S.RRow W ao (D.runs 0 0 (D.swp a)) → Calls Try.prog 40 #[.slice ao (D.runs 0 0 (D.swp a)).length c, .int .i64 k] W fun e w' => e = .returned (.int .i64 (D.lft (D.swp a) k : Nat)) ∧ Below W.heap.size W w') := fun ao c W k hk h => by
      have := refLeft_any ao c _ k W h tb2 hk (by omega)
      rwa [D.left_runs _ (D.swp_pos a pa)] at this
    have HR : Hid (∀ ao c W (k : Nat), k ≤ 1048576 → S.RRow W ao (D.runs 0 0 (D.swp a)) → Calls Try.prog 43 #[.slice ao (D.runs 0 0 (D.swp a)).length c, .int .i64 k, .int .i64 (D.inL a)] W fun e w' => e = .returned (.int .i64 (D.rgt (D.swp a) k : Nat)) ∧ Below W.heap.size W w') := fun ao c W k hk h => by
      have := refRight_any ao c _ k (D.inL a) W h tb2 hk (by omega)
      rw [← D.swp_out a, D.right_runs _ (D.swp_pos a pa), D.swp_out] at this
      exact this
    have so := D.swp_in a
    generalize D.runs 0 0 (D.swp a) = X2 at HT HL HR
    generalize D.runs 0 0 a = X1 at HU HT
    clear hx2 pa bl l1 l2 m1 m2 hr hr' hx h0 ha hlen hv tb tl tu tl2 tb2
    by_cases hg : 1 < g
    · have e3 : D.mvE (D.swp a) p g = 2 := if_pos hg
      have R1 := Lib.hid (fun w' h => R1.out 0 2 w' e3 (D.mvV_bad (by rw [e3]; decide)) h)
      clear HU HT HL HR e3 so
      generalize D.inL a = n at bi H1
      generalize D.outL a = m at bo H1
      go_enter Try.func17, Try.ntmps17
      go_wp2_with fail
      refine H1.out.mono ?_
      rintro e w1 ⟨rfl, hb⟩
      have R2 := Lib.hid (R1.out w1 hb)
      clear hb
      go_wp2
      go_ret2
      exact R2.out
    · by_cases hp : p < 0 ∨ (D.outL a : Int) < p
      · have e3 : D.mvE (D.swp a) p g = 3 := by unfold D.mvE; rw [if_neg hg, if_pos (by rw [so]; exact hp)]
        have R1 := Lib.hid (fun w' h => R1.out 0 3 w' e3 (D.mvV_bad (by rw [e3]; decide)) h)
        clear HU HT HL HR so e3
        generalize D.inL a = n at bi H1
        generalize D.outL a = m at bo H1 hp
        have hp3 : p < 0 ∨ (¬ p < 0 ∧ (m : Int) < p) := by omega
        clear hp
        rcases hp3 with hp | ⟨h1, h2⟩
        all_goals
          go_enter Try.func17, Try.ntmps17
          go_wp2_with fail
          refine H1.out.mono ?_
          rintro e w1 ⟨rfl, hb⟩
          have R2 := Lib.hid (R1.out w1 hb)
          clear hb
          go_wp2
          go_ret2
          exact R2.out
      · have e0 : D.mvE (D.swp a) p g = 0 := by unfold D.mvE; rw [if_neg hg, if_neg (by rw [so]; exact hp)]
        obtain ⟨k, rfl⟩ := Int.eq_ofNat_of_zero_le (show 0 ≤ p by omega)
        have hkb : k ≤ 1048576 := by omega
        have p0 : ¬ (k : Int) < 0 := by omega
        have p1 : ¬ (D.outL a : Int) < (k : Int) := by omega
        have h01 : g = 0 ∨ g = 1 := by omega
        rcases h01 with rfl | rfl
        · have R1 := Lib.hid (fun w' h => R1.out (D.lft (D.swp a) k : Nat) 0 w' e0 (by unfold D.mvV; rw [if_pos e0]; rfl) h)
          have HZ := Lib.hid (fun ao c W h => HL.out ao c W k hkb h)
          clear HL HR e0 hp so
          generalize D.lft (D.swp a) k = z at HZ R1
          generalize D.inL a = n at bi H1
          generalize D.outL a = m at bo H1 p1
          go_enter Try.func17, Try.ntmps17
          go_wp2_with fail
          refine H1.out.mono ?_
          rintro e w1 ⟨rfl, hb⟩
          have hb1 := Lib.hid hb
          clear hb
          go_wp2_with fail
          refine (HU.out _ hb1.out).mono ?_
          rintro e w2 ⟨v, rfl, hm⟩
          have hb2 := Lib.hid (hb1.out.trans (hm.below.mono hb1.out.size))
          obtain ⟨o1, c1, hv, hrow⟩ := hm.form
          subst hv
          have hrow1 := Lib.hid hrow
          clear hm hrow
          go_wp2_with fail
          refine (HT.out _ _ _ hrow1.out).mono ?_
          rintro e w3 ⟨v, rfl, hm⟩
          have hb3 := Lib.hid (hb2.out.trans (hm.below.mono hb2.out.size))
          obtain ⟨o2, c2, hv, hrow⟩ := hm.form
          subst hv
          have hrow2 := Lib.hid hrow
          clear hm hrow
          go_wp2_with fail
          refine (HZ.out _ _ _ hrow2.out).mono ?_
          rintro e w4 ⟨rfl, hb⟩
          have R2 := Lib.hid (R1.out w4 (hb3.out.trans (hb.mono hb3.out.size)))
          clear hb
          go_wp2
          go_ret2
          exact R2.out
        · have R1 := Lib.hid (fun w' h => R1.out (D.rgt (D.swp a) k : Nat) 0 w' e0 (by unfold D.mvV; rw [if_pos e0]; rfl) h)
          have HZ := Lib.hid (fun ao c W h => HR.out ao c W k hkb h)
          clear HL HR e0 hp so
          generalize D.rgt (D.swp a) k = z at HZ R1
          generalize D.inL a = n at bi H1 HZ
          generalize D.outL a = m at bo H1 p1
          go_enter Try.func17, Try.ntmps17
          go_wp2_with fail
          refine H1.out.mono ?_
          rintro e w1 ⟨rfl, hb⟩
          have hb1 := Lib.hid hb
          clear hb
          go_wp2_with fail
          refine (HU.out _ hb1.out).mono ?_
          rintro e w2 ⟨v, rfl, hm⟩
          have hb2 := Lib.hid (hb1.out.trans (hm.below.mono hb1.out.size))
          obtain ⟨o1, c1, hv, hrow⟩ := hm.form
          subst hv
          have hrow1 := Lib.hid hrow
          clear hm hrow
          go_wp2_with fail
          refine (HT.out _ _ _ hrow1.out).mono ?_
          rintro e w3 ⟨v, rfl, hm⟩
          have hb3 := Lib.hid (hb2.out.trans (hm.below.mono hb2.out.size))
          obtain ⟨o2, c2, hv, hrow⟩ := hm.form
          subst hv
          have hrow2 := Lib.hid hrow
          clear hm hrow
          go_wp2_with fail
          refine (HZ.out _ _ _ hrow2.out).mono ?_
          rintro e w4 ⟨rfl, hb⟩
          have R2 := Lib.hid (R1.out w4 (hb3.out.trans (hb.mono hb3.out.size)))
          clear hb
          go_wp2
          go_ret2
          exact R2.out
  · have q : (D.chk x != 0) = true := by simpa using h0
    have e1 : D.bckE x p g = D.chk x := if_neg h0
    have e2 : D.bckV x p g = 0 := if_neg (by rw [e1]; exact h0)
    have R1 : Hid (∀ w', Below w.heap.size w w' → S.BckEnd x p g w (.returned (.tuple #[.int .i64 0, .int .i64 (D.chk x)])) w') := fun w' h => ⟨by rw [e1, e2], h⟩
    rw [if_neg h0, if_neg h0] at H1
    clear e1 e2 hr hx h0
    generalize D.chk x = k at q R1 H1
    go_enter Try.func17, Try.ntmps17
    go_wp2_with fail
    refine H1.out.mono ?_
    rintro e w1 ⟨rfl, hb⟩
    have R2 := Lib.hid (R1.out w1 hb)
    clear hb
    go_wp2
    go_ret2
    exact R2.out
end Go.Proofs.Ytampekldlnlhdaa
/- ShiftRef3 -/
namespace Go.Proofs.Ytampekldlnlhdaa
open Go.RowKit

set_option maxRecDepth 100000 in
set_option maxHeartbeats 2000000 in
theorem refRange_any (ao : Option Addr) (c : Nat) (x : List D.P) (f t : Int) (w : World) (hr : D.Row w ao x) (hx : D.Bd x) :
    Calls Try.prog 23 #[.slice ao x.length c, .int .i64 f, .int .i64 t] w (S.RngEnd x f t w) := by
  have H1 := Lib.hid (refLengths_any ao c x w hx.1 hr hx.2)
  by_cases h0 : D.chk x = 0
  · obtain ⟨hx2, pa, _, bl, bi, bo⟩ := D.valid_qs h0
    obtain ⟨l1, l2⟩ := D.len_qs h0
    have hE : D.rngE x f t = if f < 0 ∨ t < f ∨ (D.inL (D.qs x) : Int) < t then 3 else 0 := if_pos h0
    unfold D.lenI at l1
    unfold D.lenO at l2
    rw [l1, l2, h0] at H1
    by_cases hpp : f < 0 ∨ t < f ∨ (D.inL (D.qs x) : Int) < t
    · rw [if_pos hpp] at hE
      have R1 : Hid (∀ w', Below w.heap.size w w' → S.RngEnd x f t w (.returned (.tuple #[.int .i64 0, .int .i64 0, .int .i64 3])) w') := fun w' h => ⟨by unfold D.rngA D.rngB; rw [hE]; rfl, h⟩
      clear hE l1 l2 bl hx2 pa hr hx h0
      generalize D.inL (D.qs x) = n at hpp H1 bi
      generalize D.outL (D.qs x) = m at H1 bo
      have hp3 : f < 0 ∨ (¬ f < 0 ∧ t < f) ∨ (¬ f < 0 ∧ ¬ t < f ∧ (n : Int) < t) := by omega
      clear hpp
      rcases hp3 with hpp | ⟨h1, h2⟩ | ⟨h1, h2, h3⟩
      all_goals
        go_enter Try.func23, Try.ntmps23
        go_wp2_with fail
        refine H1.out.mono ?_
        rintro e w1 ⟨rfl, hb⟩
        have R2 := Lib.hid (R1.out w1 hb)
        clear hb
        go_wp2
        go_ret3
        exact R2.out
    · rw [if_neg hpp] at hE
      obtain ⟨i, rfl⟩ := Int.eq_ofNat_of_zero_le (show 0 ≤ f by omega)
      obtain ⟨j, rfl⟩ := Int.eq_ofNat_of_zero_le (show 0 ≤ t by omega)
      have hv : D.chk ((D.qs x).map D.raw) = 0 := by rw [hx2]; exact h0
      have hr' : D.Row w ao ((D.qs x).map D.raw) := by rw [hx2]; exact hr
      have hlen : x.length = (D.qs x).length := by have := congrArg List.length hx2; rw [List.length_map] at this; exact this.symm
      have HT : Hid (∀ W, Below w.heap.size w W → Calls Try.prog 38 #[.slice ao x.length c, .int .i64 j, .int .u8 0] W fun e w' => e = .returned (.int .i64 (D.lft (D.qs x) j : Nat)) ∧ Below W.heap.size W w') := fun W h => by
        rw [hlen]
        have := refMove_any ao c (D.qs x) j 0 W (hr'.below h) hv pa bi bo (by omega) (by omega) (.inl rfl)
        unfold S.RMovEnd at this
        rwa [if_pos rfl] at this
      have HF : Hid (∀ W, Below w.heap.size w W → Calls Try.prog 38 #[.slice ao x.length c, .int .i64 i, .int .u8 1] W fun e w' => e = .returned (.int .i64 (D.rgt (D.qs x) i : Nat)) ∧ Below W.heap.size W w') := fun W h => by
        rw [hlen]
        have := refMove_any ao c (D.qs x) i 1 W (hr'.below h) hv pa bi bo (by omega) (by omega) (.inr rfl)
        unfold S.RMovEnd at this
        rwa [if_neg (by decide)] at this
      have R1 : Hid (∀ w', Below w.heap.size w w' → S.RngEnd x i j w (.returned (.tuple #[.int .i64 (min ((D.rgt (D.qs x) i : Nat) : Int) ((D.lft (D.qs x) j : Nat) : Int)), .int .i64 (D.lft (D.qs x) j : Nat), .int .i64 0])) w') := fun w' h => ⟨by unfold D.rngA D.rngB; rw [if_pos hE, if_pos hE, hE]; simp only [Int.toNat_natCast]; rw [show ((min (D.rgt (D.qs x) i) (D.lft (D.qs x) j) : Nat) : Int) = min ((D.rgt (D.qs x) i : Nat) : Int) ((D.lft (D.qs x) j : Nat) : Int) by omega], h⟩
      clear hx2 pa bl l1 l2 hr hx h0 hE hv hr' hlen
      generalize D.lft (D.qs x) j = z1 at HT R1
      generalize D.rgt (D.qs x) i = z2 at HF R1
      generalize D.inL (D.qs x) = n at H1 bi hpp
      generalize D.outL (D.qs x) = m at H1 bo
      have g0 : ¬ (i : Int) < 0 := by omega
      have g1 : ¬ (j : Int) < (i : Int) := by omega
      have g2 : ¬ (n : Int) < (j : Int) := by omega
      clear hpp
      go_enter Try.func23, Try.ntmps23
      go_wp2_with fail
      refine H1.out.mono ?_
      rintro e w1 ⟨rfl, hb⟩
      have hb1 := Lib.hid hb
      clear hb
      go_wp2_with fail
      refine (HT.out _ hb1.out).mono ?_
      rintro e w2 ⟨rfl, hb⟩
      have hb2 := Lib.hid (hb1.out.trans (hb.mono hb1.out.size))
      clear hb
      go_wp2_with fail
      refine (HF.out _ hb2.out).mono ?_
      rintro e w3 ⟨rfl, hb⟩
      have R2 := Lib.hid (R1.out _ (hb2.out.trans (hb.mono hb2.out.size)))
      clear hb
      go_wp2
      go_ret3
      exact R2.out
  · have q : (D.chk x != 0) = true := by simpa using h0
    have e1 : D.rngE x f t = D.chk x := if_neg h0
    have R1 : Hid (∀ w', Below w.heap.size w w' → S.RngEnd x f t w (.returned (.tuple #[.int .i64 0, .int .i64 0, .int .i64 (D.chk x)])) w') := fun w' h => ⟨by unfold D.rngA D.rngB; rw [e1, if_neg h0, if_neg h0], h⟩
    rw [if_neg h0, if_neg h0] at H1
    clear e1 hr hx h0
    generalize D.chk x = k at q R1 H1
    go_enter Try.func23, Try.ntmps23
    go_wp2_with fail
    refine H1.out.mono ?_
    rintro e w1 ⟨rfl, hb⟩
    have R2 := Lib.hid (R1.out w1 hb)
    clear hb
    go_wp2
    go_ret3
    exact R2.out
set_option maxRecDepth 100000 in
set_option maxHeartbeats 4000000 in
theorem refKept6_any (ao : Option Addr) (c : Nat) (x : List D.P) (p : Int) (w : World) (hr : D.Row w ao x) (hx : D.Bd x) :
    Calls Try.prog 21 #[.slice ao x.length c, .int .i64 p] w (S.KepEnd x p w) := by
  have H1 := Lib.hid (refLengths_any ao c x w hx.1 hr hx.2)
  by_cases h0 : D.chk x = 0
  · obtain ⟨hx2, pa, _, bl, bi, bo⟩ := D.valid_qs h0
    obtain ⟨l1, l2⟩ := D.len_qs h0
    have hE : D.kepE x p = if p < 0 ∨ (D.inL (D.qs x) : Int) ≤ p then 3 else 0 := if_pos h0
    unfold D.lenI at l1
    unfold D.lenO at l2
    rw [l1, l2, h0] at H1
    by_cases hpp : p < 0 ∨ (D.inL (D.qs x) : Int) ≤ p
    · rw [if_pos hpp] at hE
      have R1 : Hid (∀ w', Below w.heap.size w w' → S.KepEnd x p w (.returned (.tuple #[.int .i64 0, .bool false, .int .i64 3])) w') := fun w' h => ⟨by unfold D.kepV D.kepI; rw [hE]; rfl, h⟩
      clear hE l1 l2 bl hx2 pa hr hx h0
      generalize D.inL (D.qs x) = n at hpp H1 bi
      generalize D.outL (D.qs x) = m at H1 bo
      rcases hpp with hpp | hpp
      all_goals
        try (have hp2 : ¬ p < 0 := by omega)
        go_enter Try.func21, Try.ntmps21
        go_wp2_with fail
        refine H1.out.mono ?_
        rintro e w1 ⟨rfl, hb⟩
        have R2 := Lib.hid (R1.out w1 hb)
        clear hb
        go_wp2
        go_ret3
        exact R2.out
    · rw [if_neg hpp] at hE
      obtain ⟨k, rfl⟩ := Int.eq_ofNat_of_zero_le (show 0 ≤ p by omega)
      have R1 : Hid (∀ w', Below w.heap.size w w' → S.KepEnd x k w (.returned (.tuple #[.int .i64 (((D.kpt (D.qs x) k).getD 0 : Nat) : Int), .bool (D.kpt (D.qs x) k).isSome, .int .i64 0])) w') := fun w' h => ⟨by unfold D.kepV D.kepI; rw [if_pos hE, if_pos hE, hE]; rfl, h⟩
      obtain ⟨a, ha⟩ : ∃ a, D.qs x = a := ⟨_, rfl⟩
      rw [ha] at hx2 pa bi bo l1 l2 hpp H1 R1
      have hr' : D.Row w ao (a.map D.raw) := by rw [hx2]; exact hr
      have hlen : x.length = a.length := by rw [← hx2, List.length_map]
      rw [hlen] at H1 bl ⊢
      have p0 : ¬ (k : Int) < 0 := by omega
      have p1 : ¬ (D.inL a : Int) ≤ (k : Int) := by omega
      have kb : k ≤ 1048576 := by omega
      have HU : Hid (∀ W, Below w.heap.size w W → Calls Try.prog 42 #[.slice ao a.length c] W fun e w' => ∃ v, e = .returned v ∧ S.RMade (D.runs 0 0 a) W v w') := fun W h => refRuns_any ao c a W (hr'.below h) bi bo bl
      have Hb := Lib.hid (S.rbd_runs a 0 0 (by omega) (by omega))
      have tl : (D.runs 0 0 a).length ≤ 4096 := by have := S.runs_len a 0 0; omega
      have hkf : Hid (D.keptF k (D.runs 0 0 a) = D.kpt a k) := D.kept_runs a k
      clear hx2 pa bl l1 l2 hr hr' hx h0 ha hlen hE hpp
      generalize D.kpt a k = z at R1 hkf
      generalize D.runs 0 0 a = l at HU Hb tl hkf
      generalize D.inL a = n at H1 bi p1
      generalize D.outL a = m at H1 bo
      go_enter Try.func21, Try.ntmps21
      go_wp2_with fail
      refine H1.out.mono ?_
      rintro e w1 ⟨rfl, hb⟩
      have hb1 := Lib.hid hb
      clear hb
      go_wp2_with fail
      refine (HU.out _ hb1.out).mono ?_
      rintro e w2 ⟨v, rfl, hm⟩
      have hb2 := Lib.hid (hb1.out.trans (hm.below.mono hb1.out.size))
      obtain ⟨o1, c1, hv, hrow⟩ := hm.form
      subst hv
      have Hr := Lib.hid hrow
      clear hm hrow
      obtain ⟨m1, hm1⟩ : ∃ m1, Hid (l.length = m1) := ⟨_, rfl⟩
      rw [hm1.out] at tl ⊢
      go_wp2
      go_loopw [11] (fun v wr => ∃ j : Nat, j ≤ m1 ∧ v = .int .i64 j ∧ Hid (D.keptF k (l.drop j) = z) ∧ Hid (Below w2.heap.size w2 wr)) (fun v _ => m1 - (intOf v).toNat)
      case atStart => exact ⟨0, Nat.zero_le _, rfl, hkf, Below.refl _ _⟩
      case round =>
        obtain ⟨j, hj, rfl, hf, hB⟩ := hrel
        by_cases hlt : j < m1
        · obtain ⟨y, hy, hdr⟩ : ∃ y, l[j]? = some y ∧ l.drop j = y :: l.drop (j + 1) := by
            have hkl : j < l.length := by rw [hm1.out]; exact hlt
            exact ⟨l[j], List.getElem?_eq_getElem hkl, List.drop_eq_getElem_cons hkl⟩
          obtain ⟨b1, b2⟩ := Hb.out y (List.mem_of_getElem? hy)
          obtain ⟨b, o, e, hbl, c0, c1', c2⟩ := (Hr.out.below hB.out) j y hy
          obtain ⟨yi, yo, yn⟩ := y
          subst e
          dsimp only at b1 b2 c0 c1' c2
          have hf2 : Hid ((if yi ≤ k ∧ k < yi + yn then some (yo + (k - yi)) else D.keptF k (l.drop (j + 1))) = z) := by have := hf.out; rw [hdr] at this; exact this
          have hm' : Hid (m1 - (j + 1) < m1 - j) := by show _ < _; omega
          clear hy hdr hf
          by_cases hc1 : yi ≤ k
          · have d1 : decide ((yi : Int) ≤ (k : Int)) = true := by simp; omega
            by_cases hc2 : k < yi + yn
            · rw [if_pos ⟨hc1, hc2⟩] at hf2
              have d2 : decide ((k : Int) < (yi : Int) + (yn : Int)) = true := by simp; omega
              have e2 : Hid ((yo : Int) + (k : Int) - yi = (z.getD 0 : Nat)) := by have := hf2.out; show _ = _; rw [← this]; simp; omega
              have e3 : Hid (z.isSome = true) := by have := hf2.out; show _ = _; rw [← this]; rfl
              have R3 := Lib.hid (R1.out)
              go_wp2
              go_region
              all_goals
                go_wp2
                go_region
              all_goals
                go_wp2
                go_ret3
                have := R1.out _ (hb2.out.trans (hB.out.drew.drew.mono hb2.out.size))
                rw [← e2.out, e3.out] at this
                exact this
            · rw [if_neg (fun h => hc2 h.2)] at hf2
              have d2 : decide ((k : Int) < (yi : Int) + (yn : Int)) = false := by simp; omega
              go_wp2
              go_region
              all_goals
                go_wp2
                go_roundw
                case rel => exact ⟨j + 1, by omega, by go_num, hf2, hB.out.drew⟩
                case measure => simp [intOf]; exact hm'.out
          · rw [if_neg (fun h => hc1 h.1)] at hf2
            have d1 : decide ((yi : Int) ≤ (k : Int)) = false := by simp; omega
            go_wp2
            go_region
            all_goals
              go_wp2
              go_roundw
              case rel => exact ⟨j + 1, by omega, by go_num, hf2, hB.out.drew⟩
              case measure => simp [intOf]; exact hm'.out
        · have e1 : Hid (z = none) := by
            have := hf.out
            rw [List.drop_of_length_le (by rw [hm1.out]; omega)] at this
            exact this.symm
          go_wp2
          go_ret3
          have := R1.out _ (hb2.out.trans (hB.out.mono hb2.out.size))
          rw [e1.out] at this
          exact this
  · have q : (D.chk x != 0) = true := by simpa using h0
    have e1 : D.kepE x p = D.chk x := if_neg h0
    have R1 : Hid (∀ w', Below w.heap.size w w' → S.KepEnd x p w (.returned (.tuple #[.int .i64 0, .bool false, .int .i64 (D.chk x)])) w') := fun w' h => ⟨by unfold D.kepV D.kepI; rw [e1, if_neg h0, if_neg h0], h⟩
    rw [if_neg h0, if_neg h0] at H1
    clear e1 hr hx h0
    generalize D.chk x = k at q R1 H1
    go_enter Try.func21, Try.ntmps21
    go_wp2_with fail
    refine H1.out.mono ?_
    rintro e w1 ⟨rfl, hb⟩
    have R2 := Lib.hid (R1.out w1 hb)
    clear hb
    go_wp2
    go_ret3
    exact R2.out
def D.kN6 : D.Q → Nat
  | .R n => n
  | _ => 0
theorem D.kN6_raw (q : D.Q) : ((D.raw q).k = 1 ∧ (D.raw q).n = (D.kN6 q : Int)) ∨ (((D.raw q).k == 1) = false ∧ D.kN6 q = 0) := by
  cases q with
  | R n => exact .inl ⟨rfl, rfl⟩
  | I t => exact .inr ⟨rfl, rfl⟩
  | D n => exact .inr ⟨rfl, rfl⟩
/-- A normal form that is not whole: its first piece, its last one. -/
theorem D.ends {N : List D.Q} (h : D.whole N = false) : ∃ q z, N[0]? = some q ∧ N[N.length - 1]? = some z ∧ D.fstR N = D.kN6 q ∧ D.lstR N = D.kN6 z ∧ (N.length = 1 → ((D.raw q).k == 1) = false) := by
  cases N with
  | nil => cases h
  | cons q r =>
    refine ⟨q, (q :: r)[r.length], rfl, by simp, by cases q <;> rfl, ?_, fun e => ?_⟩
    · clear h
      induction r generalizing q with
      | nil => cases q <;> rfl
      | cons y r ih =>
        rw [D.lst_cons q _ (by simp), ih y]
        simp
    · have : r = [] := List.length_eq_zero_iff.1 (by simpa using e)
      subst this
      cases q with
      | R n => cases h
      | I t => rfl
      | D n => rfl
theorem D.whole_cases {N : List D.Q} (h : D.whole N = true) : N = [] ∨ ∃ n, N = [.R n] := by
  cases N with
  | nil => exact .inl rfl
  | cons q r => cases q with
    | R n => cases r with
      | nil => exact .inr ⟨n, rfl⟩
      | cons y r => cases h
    | I t => cases r <;> cases h
    | D n => cases r <;> cases h
theorem S.ext_end {x : List D.P} {w w' : World} {f t g e' k : Int} (h1 : D.xtF x = f) (h2 : D.xtT x = t) (h3 : D.xtF x = g) (h4 : D.xtE x = e') (h5 : D.chk x = k) (h : Below w.heap.size w w') : S.ExtEnd x w (.returned (.tuple #[.int .i64 f, .int .i64 t, .int .i64 g, .int .i64 e', .int .i64 k])) w' := ⟨by rw [← h1, ← h2, ← h4, ← h5, ← h3, h1], h⟩
set_option maxRecDepth 100000 in
set_option maxHeartbeats 4000000 in
theorem refExtent_any (ao : Option Addr) (c : Nat) (x : List D.P) (w : World) (hr : D.Row w ao x) (hx : D.Bd x) :
    Calls Try.prog 25 #[.slice ao x.length c] w (S.ExtEnd x w) := by
  have H1 := Lib.hid (refLengths_any ao c x w hx.1 hr hx.2)
  by_cases h0 : D.chk x = 0
  · obtain ⟨hx2, pa, _, bl, bi, bo⟩ := D.valid_qs h0
    obtain ⟨l1, l2⟩ := D.len_qs h0
    have f1 : D.xtF x = (D.extF (D.qs x) : Int) := if_pos h0
    have f2 : D.xtT x = (D.extT (D.qs x) : Int) := if_pos h0
    have f3 : D.xtE x = (D.extE (D.qs x) : Int) := if_pos h0
    unfold D.lenI at l1
    unfold D.lenO at l2
    rw [l1, l2, h0] at H1
    have HF : Hid (∀ W, Below w.heap.size w W → Calls Try.prog 47 #[.slice ao x.length c] W fun e w' => ∃ v, e = .returned v ∧ D.Made ((D.nf (D.qs x)).map D.raw) W v w') := fun W h => by
      have := refForm_valid ao c x W h0 (hr.below h)
      rwa [← hx2, D.normP_raw, hx2] at this
    have hnl : (D.nf (D.qs x)).length ≤ 4096 := by have := D.nf_length (D.qs x); omega
    have hle := D.lstR_le (D.nf (D.qs x))
    rw [D.inL_nf, D.outL_nf] at hle
    unfold D.extF at f1
    unfold D.extT at f2
    unfold D.extE at f3
    generalize D.nf (D.qs x) = N at HF hnl f1 f2 f3 hle
    generalize D.inL (D.qs x) = n at H1 bi f1 f2 f3 hle
    generalize D.outL (D.qs x) = m at H1 bo f3 hle
    cases hw : D.whole N with
    | true =>
      rw [hw] at f1 f2 f3
      have R1 : Hid (∀ w', Below w.heap.size w w' → S.ExtEnd x w (.returned (.tuple #[.int .i64 n, .int .i64 n, .int .i64 n, .int .i64 n, .int .i64 0])) w') := fun w' h => S.ext_end f1 f2 f1 f3 h0 h
      rcases D.whole_cases hw with rfl | ⟨k, rfl⟩
      · clear f1 f2 f3 hle hw hnl pa hx2 hr hx h0 l1 l2
        go_enter Try.func25, Try.ntmps25
        go_wp2_with fail
        refine H1.out.mono ?_
        rintro e w1 ⟨rfl, hb⟩
        have hb1 := Lib.hid hb
        clear hb
        go_wp2_with fail
        refine (HF.out _ hb1.out).mono ?_
        rintro e w2 ⟨v, rfl, hm⟩
        have R2 := Lib.hid (R1.out _ (hb1.out.trans (hm.below.mono hb1.out.size)))
        obtain ⟨o1, c1, hv, hrow⟩ := hm.form
        subst hv
        clear hm hrow
        go_wp2
        refine bodyPost_ret (v := .tuple #[.int .i64 n, .int .i64 n, .int .i64 n, .int .i64 n, .int .i64 0]) ?_ rfl R2.out
        simp [results, Try.results25, go_sem]
      · clear f1 f2 f3 hle hw hnl pa hx2 hr hx h0 l1 l2
        go_enter Try.func25, Try.ntmps25
        go_wp2_with fail
        refine H1.out.mono ?_
        rintro e w1 ⟨rfl, hb⟩
        have hb1 := Lib.hid hb
        clear hb
        go_wp2_with fail
        refine (HF.out _ hb1.out).mono ?_
        rintro e w2 ⟨v, rfl, hm⟩
        have R2 := Lib.hid (R1.out _ (hb1.out.trans (hm.below.mono hb1.out.size)))
        obtain ⟨o1, c1, hv, hrow⟩ := hm.form
        subst hv
        obtain ⟨b, o, e, hbl, c0, c1', c2⟩ := hrow 0 _ rfl
        subst e
        simp only [D.raw, Nat.zero_mul, Nat.add_zero] at c0 c1' c2
        clear hm hrow
        go_wp2
        refine bodyPost_ret (v := .tuple #[.int .i64 n, .int .i64 n, .int .i64 n, .int .i64 n, .int .i64 0]) ?_ rfl R2.out
        simp [results, Try.results25, go_sem]
    | false =>
      rw [hw] at f1 f2 f3
      obtain ⟨q, z, hq, hz, e1, e2, e3⟩ := D.ends hw
      have hle := hle hw
      rw [e1, e2] at hle
      rw [if_neg (by decide), e1] at f1
      rw [if_neg (by decide), e2] at f2 f3
      have hN : 0 < N.length := (List.getElem?_eq_some_iff.1 hq).1
      obtain ⟨M, hM⟩ : ∃ M, Hid (N.map D.raw = M) := ⟨_, rfl⟩
      obtain ⟨ml, hml⟩ : ∃ ml, Hid (N.length = ml) := ⟨_, rfl⟩
      have hMq : Hid (M[0]? = some (D.raw q)) := by show _ = _; rw [← hM.out, List.getElem?_map, hq]; rfl
      have hMz : Hid (M[ml - 1]? = some (D.raw z)) := by show _ = _; rw [← hM.out, ← hml.out, List.getElem?_map, hz]; rfl
      have hMl : M.length = ml := by rw [← hM.out, List.length_map, hml.out]
      rw [hM.out] at HF
      rw [hml.out] at hN hnl e3
      have R1 : Hid (∀ w', Below w.heap.size w w' → S.ExtEnd x w (.returned (.tuple #[.int .i64 (D.kN6 q : Nat), .int .i64 ((n : Int) - (D.kN6 z : Nat)), .int .i64 (D.kN6 q : Nat), .int .i64 ((m : Int) - (D.kN6 z : Nat)), .int .i64 0])) w') := fun w' h => S.ext_end f1 (by rw [f2]; omega) f1 (by rw [f3]; omega) h0 h
      have hq1 := D.kN6_raw q
      have hz1 := D.kN6_raw z
      generalize D.kN6 q = rq at R1 hle hq1
      generalize D.kN6 z = rz at R1 hle hz1
      generalize D.raw q = Q at hMq hq1 e3
      generalize D.raw z = Z at hMz hz1
      obtain ⟨qk, qn, qt⟩ := Q
      obtain ⟨zk, zn, zt⟩ := Z
      dsimp only at hq1 hz1 e3
      clear f1 f2 f3 hw hq hz e1 e2 pa hx2 hr hx h0 l1 l2
      by_cases h1 : ml = 1
      · subst h1
        have hqk := e3 rfl
        have hq0 : rq = 0 := by
          rcases hq1 with ⟨h, _⟩ | ⟨_, h⟩
          · rw [h] at hqk; cases hqk
          · exact h
        have hqz : (⟨qk, qn, qt⟩ : D.P) = ⟨zk, zn, zt⟩ := Option.some.inj (hMq.out.symm.trans hMz.out)
        cases hqz
        have hz0 : rz = 0 := by
          rcases hz1 with ⟨h, _⟩ | ⟨_, h⟩
          · rw [h] at hqk; cases hqk
          · exact h
        subst hq0
        subst hz0
        replace R1 : Hid (∀ w', Below w.heap.size w w' → S.ExtEnd x w (.returned (.tuple #[.int .i64 0, .int .i64 n, .int .i64 0, .int .i64 m, .int .i64 0])) w') := by
          intro w' h
          have := R1.out w' h
          rw [show ((0 : Nat) : Int) = 0 from rfl, Int.sub_zero, Int.sub_zero] at this
          exact this
        clear hq1 hz1 e3
        go_enter Try.func25, Try.ntmps25
        go_wp2_with fail
        refine H1.out.mono ?_
        rintro e w1 ⟨rfl, hb⟩
        have hb1 := Lib.hid hb
        clear hb
        go_wp2_with fail
        refine (HF.out _ hb1.out).mono ?_
        rintro e w2 ⟨v, rfl, hm⟩
        have R2 := Lib.hid (R1.out _ (hb1.out.trans (hm.below.mono hb1.out.size)))
        have R3 := Lib.hid (R1.out _ (hb1.out.trans (hm.below.mono hb1.out.size)).drew)
        obtain ⟨o1, c1, hv, hrow⟩ := hm.form
        rw [hMl] at hv
        subst hv
        obtain ⟨b, o, e, hbl, d0, d1, d2⟩ := hrow 0 _ hMq.out
        subst e
        simp only [Nat.zero_mul, Nat.add_zero] at d0 d1 d2
        clear hm hrow
        go_wp2
        all_goals try go_region
        all_goals try go_wp2
        all_goals try go_region
        all_goals try go_wp2
        all_goals
          refine bodyPost_ret (v := .tuple #[.int .i64 0, .int .i64 ((n : Int)), .int .i64 0, .int .i64 ((m : Int)), .int .i64 0]) ?_ rfl (by first | exact R2.out | exact R3.out)
          simp [results, Try.results25, go_sem]
      · obtain ⟨j, rfl⟩ : ∃ j, ml = j + 1 := ⟨ml - 1, by omega⟩
        simp only [Nat.add_sub_cancel] at hMz
        have j0 : 0 < j := by omega
        have j1 : j + 1 ≤ 4096 := hnl
        clear e3 hN h1
        rcases hq1 with ⟨rfl, rfl⟩ | ⟨hqk, rfl⟩
        all_goals
          rcases hz1 with ⟨rfl, rfl⟩ | ⟨hzk, rfl⟩
        · replace R1 : Hid (∀ w', Below w.heap.size w w' → S.ExtEnd x w (.returned (.tuple #[.int .i64 (rq : Int), .int .i64 ((n : Int) - (rz : Int)), .int .i64 (rq : Int), .int .i64 ((m : Int) - (rz : Int)), .int .i64 0])) w') := by
            intro w' h
            exact R1.out w' h
          go_enter Try.func25, Try.ntmps25
          go_wp2_with fail
          refine H1.out.mono ?_
          rintro e w1 ⟨rfl, hb⟩
          have hb1 := Lib.hid hb
          clear hb
          go_wp2_with fail
          refine (HF.out _ hb1.out).mono ?_
          rintro e w2 ⟨v, rfl, hm⟩
          have R2 := Lib.hid (R1.out _ (hb1.out.trans (hm.below.mono hb1.out.size)))
          have R3 := Lib.hid (R1.out _ (hb1.out.trans (hm.below.mono hb1.out.size)).drew)
          obtain ⟨o1, c1, hv, hrow⟩ := hm.form
          rw [hMl] at hv
          subst hv
          obtain ⟨b, o, e, hbl, d0, d1, d2⟩ := hrow 0 _ hMq.out
          subst e
          simp only [Nat.zero_mul, Nat.add_zero] at d0 d1 d2
          obtain ⟨b', o', e, hbl', g0, g1, g2⟩ := hrow j _ hMz.out
          cases e
          clear hm hrow
          go_wp2
          all_goals try go_region
          all_goals try go_wp2
          all_goals try go_region
          all_goals try go_wp2
          all_goals
            refine bodyPost_ret (v := .tuple #[.int .i64 (rq : Int), .int .i64 ((n : Int) - (rz : Int)), .int .i64 (rq : Int), .int .i64 ((m : Int) - (rz : Int)), .int .i64 0]) ?_ rfl (by first | exact R2.out | exact R3.out)
            simp [results, Try.results25, go_sem]
        · replace R1 : Hid (∀ w', Below w.heap.size w w' → S.ExtEnd x w (.returned (.tuple #[.int .i64 (rq : Int), .int .i64 ((n : Int)), .int .i64 (rq : Int), .int .i64 ((m : Int)), .int .i64 0])) w') := by
            intro w' h
            have := R1.out w' h
            rw [show ((0 : Nat) : Int) = 0 from rfl, Int.sub_zero, Int.sub_zero] at this
            exact this
          go_enter Try.func25, Try.ntmps25
          go_wp2_with fail
          refine H1.out.mono ?_
          rintro e w1 ⟨rfl, hb⟩
          have hb1 := Lib.hid hb
          clear hb
          go_wp2_with fail
          refine (HF.out _ hb1.out).mono ?_
          rintro e w2 ⟨v, rfl, hm⟩
          have R2 := Lib.hid (R1.out _ (hb1.out.trans (hm.below.mono hb1.out.size)))
          have R3 := Lib.hid (R1.out _ (hb1.out.trans (hm.below.mono hb1.out.size)).drew)
          obtain ⟨o1, c1, hv, hrow⟩ := hm.form
          rw [hMl] at hv
          subst hv
          obtain ⟨b, o, e, hbl, d0, d1, d2⟩ := hrow 0 _ hMq.out
          subst e
          simp only [Nat.zero_mul, Nat.add_zero] at d0 d1 d2
          obtain ⟨b', o', e, hbl', g0, g1, g2⟩ := hrow j _ hMz.out
          cases e
          clear hm hrow
          go_wp2
          all_goals try go_region
          all_goals try go_wp2
          all_goals try go_region
          all_goals try go_wp2
          all_goals
            refine bodyPost_ret (v := .tuple #[.int .i64 (rq : Int), .int .i64 ((n : Int)), .int .i64 (rq : Int), .int .i64 ((m : Int)), .int .i64 0]) ?_ rfl (by first | exact R2.out | exact R3.out)
            simp [results, Try.results25, go_sem]
        · replace R1 : Hid (∀ w', Below w.heap.size w w' → S.ExtEnd x w (.returned (.tuple #[.int .i64 0, .int .i64 ((n : Int) - (rz : Int)), .int .i64 0, .int .i64 ((m : Int) - (rz : Int)), .int .i64 0])) w') := by
            intro w' h
            exact R1.out w' h
          go_enter Try.func25, Try.ntmps25
          go_wp2_with fail
          refine H1.out.mono ?_
          rintro e w1 ⟨rfl, hb⟩
          have hb1 := Lib.hid hb
          clear hb
          go_wp2_with fail
          refine (HF.out _ hb1.out).mono ?_
          rintro e w2 ⟨v, rfl, hm⟩
          have R2 := Lib.hid (R1.out _ (hb1.out.trans (hm.below.mono hb1.out.size)))
          have R3 := Lib.hid (R1.out _ (hb1.out.trans (hm.below.mono hb1.out.size)).drew)
          obtain ⟨o1, c1, hv, hrow⟩ := hm.form
          rw [hMl] at hv
          subst hv
          obtain ⟨b, o, e, hbl, d0, d1, d2⟩ := hrow 0 _ hMq.out
          subst e
          simp only [Nat.zero_mul, Nat.add_zero] at d0 d1 d2
          obtain ⟨b', o', e, hbl', g0, g1, g2⟩ := hrow j _ hMz.out
          cases e
          clear hm hrow
          go_wp2
          all_goals try go_region
          all_goals try go_wp2
          all_goals try go_region
          all_goals try go_wp2
          all_goals
            refine bodyPost_ret (v := .tuple #[.int .i64 0, .int .i64 ((n : Int) - (rz : Int)), .int .i64 0, .int .i64 ((m : Int) - (rz : Int)), .int .i64 0]) ?_ rfl (by first | exact R2.out | exact R3.out)
            simp [results, Try.results25, go_sem]
        · replace R1 : Hid (∀ w', Below w.heap.size w w' → S.ExtEnd x w (.returned (.tuple #[.int .i64 0, .int .i64 ((n : Int)), .int .i64 0, .int .i64 ((m : Int)), .int .i64 0])) w') := by
            intro w' h
            have := R1.out w' h
            rw [show ((0 : Nat) : Int) = 0 from rfl, Int.sub_zero, Int.sub_zero] at this
            exact this
          go_enter Try.func25, Try.ntmps25
          go_wp2_with fail
          refine H1.out.mono ?_
          rintro e w1 ⟨rfl, hb⟩
          have hb1 := Lib.hid hb
          clear hb
          go_wp2_with fail
          refine (HF.out _ hb1.out).mono ?_
          rintro e w2 ⟨v, rfl, hm⟩
          have R2 := Lib.hid (R1.out _ (hb1.out.trans (hm.below.mono hb1.out.size)))
          have R3 := Lib.hid (R1.out _ (hb1.out.trans (hm.below.mono hb1.out.size)).drew)
          obtain ⟨o1, c1, hv, hrow⟩ := hm.form
          rw [hMl] at hv
          subst hv
          obtain ⟨b, o, e, hbl, d0, d1, d2⟩ := hrow 0 _ hMq.out
          subst e
          simp only [Nat.zero_mul, Nat.add_zero] at d0 d1 d2
          obtain ⟨b', o', e, hbl', g0, g1, g2⟩ := hrow j _ hMz.out
          cases e
          clear hm hrow
          go_wp2
          all_goals try go_region
          all_goals try go_wp2
          all_goals try go_region
          all_goals try go_wp2
          all_goals
            refine bodyPost_ret (v := .tuple #[.int .i64 0, .int .i64 ((n : Int)), .int .i64 0, .int .i64 ((m : Int)), .int .i64 0]) ?_ rfl (by first | exact R2.out | exact R3.out)
            simp [results, Try.results25, go_sem]
  · have q : (D.chk x != 0) = true := by simpa using h0
    have R1 : Hid (∀ w', Below w.heap.size w w' → S.ExtEnd x w (.returned (.tuple #[.int .i64 0, .int .i64 0, .int .i64 0, .int .i64 0, .int .i64 (D.chk x)])) w') := fun w' h => ⟨by unfold D.xtF D.xtT D.xtE; rw [if_neg h0, if_neg h0, if_neg h0], h⟩
    rw [if_neg h0, if_neg h0] at H1
    clear hr hx h0
    generalize D.chk x = k at q R1 H1
    go_enter Try.func25, Try.ntmps25
    go_wp2_with fail
    refine H1.out.mono ?_
    rintro e w1 ⟨rfl, hb⟩
    have R2 := Lib.hid (R1.out w1 hb)
    clear hb
    go_wp2
    refine bodyPost_ret (v := .tuple #[.int .i64 0, .int .i64 0, .int .i64 0, .int .i64 0, .int .i64 k]) ?_ rfl R2.out
    simp [results, Try.results25, go_sem]
end Go.Proofs.Ytampekldlnlhdaa
