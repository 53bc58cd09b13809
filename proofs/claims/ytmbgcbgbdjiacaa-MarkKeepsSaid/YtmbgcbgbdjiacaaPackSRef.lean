/- Texts joined: ShiftRef1 ShiftRef2 -/
import Derived.Test.YtmbgcbgbdjiacaaPackOwn
import Derived.Test.YtmbgcbgbdjiacaaPackEqv
import Derived.Test.YtmbgcbgbdjiacaaApplyRow
import Derived.Test.YtmbgcbgbdjiacaaPackMath
import Derived.BigRegion
import Derived.Deep.RegionLaw
import Derived.Deep.AppendLies
import Derived.Test.YtmbgcbgbdjiacaaPackShift
/- ShiftRef1 -/
namespace Go.Proofs.Ytmbgcbgbdjiacaa
open Go.RowKit

abbrev S.Run := Nat × Nat × Nat
def S.cellsR (l : List S.Run) : List Value := l.flatMap fun x => [.int .i64 x.1, .int .i64 x.2.1, .int .i64 x.2.2]
theorem S.cellsR_append (x y : List S.Run) : S.cellsR (x ++ y) = S.cellsR x ++ S.cellsR y := by simp [S.cellsR]
theorem S.cellsR_one (p : S.Run) : S.cellsR [p] = [.int .i64 p.1, .int .i64 p.2.1, .int .i64 p.2.2] := by simp [S.cellsR]
theorem S.cellsR_len (x : List S.Run) : (S.cellsR x).length = x.length * 3 := by
  induction x with
  | nil => rfl
  | cons p x ih =>
    have : S.cellsR (p :: x) = [.int .i64 p.1, .int .i64 p.2.1, .int .i64 p.2.2] ++ S.cellsR x := by simp [S.cellsR]
    rw [this, List.length_append, ih]; simp; omega
theorem S.cellsR_at (x : List S.Run) (i : Nat) (p : S.Run) (h : x[i]? = some p) :
    (S.cellsR x)[i * 3]? = some (.int .i64 p.1) ∧ (S.cellsR x)[i * 3 + 1]? = some (.int .i64 p.2.1) ∧ (S.cellsR x)[i * 3 + 2]? = some (.int .i64 p.2.2) := by
  induction x generalizing i with
  | nil => simp at h
  | cons q x ih =>
    have e : S.cellsR (q :: x) = .int .i64 q.1 :: .int .i64 q.2.1 :: .int .i64 q.2.2 :: S.cellsR x := by simp [S.cellsR]
    rw [e]
    cases i with
    | zero => simp at h; subst h; exact ⟨rfl, rfl, rfl⟩
    | succ i =>
      obtain ⟨h0, h1, h2⟩ := ih i (by simpa using h)
      refine ⟨?_, ?_, ?_⟩
      · rw [show (i + 1) * 3 = i * 3 + 3 by omega]; exact h0
      · rw [show (i + 1) * 3 + 1 = i * 3 + 1 + 3 by omega]; exact h1
      · rw [show (i + 1) * 3 + 2 = i * 3 + 2 + 3 by omega]; exact h2
/-- Runs lie in a row. -/
def S.RRow (W : World) (ao : Option Addr) (l : List S.Run) : Prop :=
  ∀ (i : Nat) (p : S.Run), l[i]? = some p → ∃ b o, ao = some ⟨b, o, none⟩ ∧ b < W.heap.size ∧
    W.cell? ⟨b, o + i * 3, none⟩ = some (.int .i64 p.1) ∧ W.cell? ⟨b, o + i * 3 + 1, none⟩ = some (.int .i64 p.2.1) ∧ W.cell? ⟨b, o + i * 3 + 2, none⟩ = some (.int .i64 p.2.2)
theorem S.RRow.below {W W' : World} {ao : Option Addr} {l : List S.Run} (h : S.RRow W ao l) (hb : Below W.heap.size W W') : S.RRow W' ao l := fun i p hp => by
  obtain ⟨b, o, e, hlt, h0, h1, h2⟩ := h i p hp
  have hc := (D.bcell hb).1
  exact ⟨b, o, e, Nat.lt_of_lt_of_le hlt hb.size, (hc _ _ hlt).trans h0, (hc _ _ hlt).trans h1, (hc _ _ hlt).trans h2⟩
structure S.RMade (l : List S.Run) (w : World) (v : Value) (wr : World) : Prop where
  own : wr.ownsRow w.heap.size 134 3 v l.length (S.cellsR l)
  below : Below w.heap.size w wr
theorem S.RMade.form {x : List S.Run} {w : World} {v : Value} {W : World} (h : S.RMade x w v W) : ∃ ao cap, v = .slice ao x.length cap ∧ S.RRow W ao x := by
  obtain ⟨hl, ⟨rfl, h0⟩ | ⟨g, cap, cur, rfl, hb, hg, hnc, hcm, hcs, ht⟩⟩ := h.own
  · exact ⟨none, 0, by rw [h0], fun i p hp => by have := (List.getElem?_eq_some_iff.1 hp).1; omega⟩
  · have hlt := (Array.getElem?_eq_some_iff.1 hg).1
    refine ⟨some ⟨g, 0, none⟩, cap, rfl, fun i p hp => ⟨g, 0, rfl, hlt, ?_⟩⟩
    have hi := (List.getElem?_eq_some_iff.1 hp).1
    obtain ⟨h0, h1, h2⟩ := S.cellsR_at x i p hp
    have key : ∀ (j : Nat) (u : Value), (S.cellsR x)[j]? = some u → W.cell? ⟨g, j, none⟩ = some u := fun j u hu => by
      rw [← ht, List.getElem?_take] at hu
      have hj : j < x.length * 3 := by
        by_cases hj : j < x.length * 3
        · exact hj
        · rw [if_neg hj] at hu; cases hu
      rw [if_pos hj] at hu
      rw [cell_of_row W g _ cur _ _ hg]
      simpa using hu
    rw [Nat.zero_add]
    exact ⟨key _ _ h0, key _ _ h1, key _ _ h2⟩
theorem Try.infoRun : (Try.prog.info? 134).map (fun i => (i.zero, i.size, i.bytes)) = some (some (.agg #[.int .i64 0, .int .i64 0, .int .i64 0]), 3, 24) := by kernel_rfl
/-- An append of a run that has just been laid. -/
theorem S.append_run {W : World} {ops : Array Oper} {rest : List Oper} {o : Oper} {a : Act} {Q : Exit → Act → World → Prop} (hgd : o.guard = none) (s x : Operand)
    (ho : o.op = .call { callee := .builtin .append, args := #[s, x], argTypes := #[100, 100] })
    (base : Nat) (v : Value) (X : List S.Run) (hs : a.eval s = v) (hown : W.ownsRow base 134 3 v X.length (S.cellsR X)) (p : S.Run) (cc : Nat) (hx : a.eval x = .slice (some ⟨W.heap.size, 0, none⟩) 1 cc) (hn : X.length ≤ 1000000) (hbase : base ≤ W.heap.size)
    (h : ∀ Z v' w', Hid (Z = X ++ [p]) → w'.ownsRow base 134 3 v' Z.length (S.cellsR Z) → W.grownBy w' v.ownBlock → wpList Try.prog ops Q rest (a.put o.dst v') w') :
    wpList Try.prog ops Q (o :: rest) a (W.alloc (.cells #[.int .i64 p.1, .int .i64 p.2.1, .int .i64 p.2.2] 134)) := by
  obtain ⟨ip, hp, hp0, hp1, hp2⟩ := info_parts Try.infoRun
  refine wpList_append_own_at _ hgd s x _ ho base 134 ip (.agg #[.int .i64 0, .int .i64 0, .int .i64 0]) 3 24 Try.underlying100 hp hp0 hp1 hp2 rfl (by decide) v X.length (S.cellsR X) hs (hown.alloc _) ⟨W.heap.size, 0, none⟩ 1 cc (S.cellsR [p]) hx rfl ?_ (fun u hu => by rw [S.cellsR_one] at hu; simp only [List.mem_cons, List.not_mem_nil, or_false] at hu; rcases hu with rfl | rfl | rfl <;> rfl) (by unfold maxLen; omega) (by omega) (by simp only [World.size_alloc]; omega) ?_
  · rw [S.cellsR_one]
    exact D.news W [.int .i64 p.1, .int .i64 p.2.1, .int .i64 p.2.2] 134
  · intro v' w' h1 h2 _ h4
    refine h _ v' w' rfl ?_ ⟨h2.os, h2.tape, h2.output, Nat.le_trans (by simp only [World.size_alloc]; omega) h2.size, fun k hk hne => (h2.block k (by simp only [World.size_alloc]; omega) hne).trans (Lib.alloc_old W _ k hk)⟩
    rw [List.length_append, S.cellsR_append]; exact h1
theorem S.RMade.on {X Z : List S.Run} {w : World} {v v' : Value} {wr w' : World} (h : S.RMade X w v wr) (h1 : w'.ownsRow w.heap.size 134 3 v' Z.length (S.cellsR Z)) (h2 : wr.grownBy w' v.ownBlock) : S.RMade Z w v' w' := ⟨h1, h.below.grown h2 h.below.size (fun k e => (h.own.lt k e).1)⟩
theorem S.RMade.nil (w : World) {wr : World} (h : Below w.heap.size w wr) : S.RMade [] w (.slice none 0 0) wr := ⟨World.ownsRow_nil _ _ _ _, h⟩
/-- All numbers of runs are small. -/
def S.RBd (l : List S.Run) : Prop := ∀ x ∈ l, x.1 + x.2.2 ≤ 1048576 ∧ x.2.1 + x.2.2 ≤ 1048576
theorem S.rbd_runs (a : List D.Q) : ∀ i o, i + D.inL a ≤ 1048576 → o + D.outL a ≤ 1048576 → S.RBd (D.runs i o a) := by
  induction a with
  | nil => intro i o _ _ x hx; cases hx
  | cons q r ih =>
    intro i o hi ho
    cases q with
    | R n =>
      simp only [D.inL, D.outL, D.in1, D.out1] at hi ho
      intro x hx
      rcases List.mem_cons.1 hx with rfl | hx
      · exact ⟨by show i + n ≤ _; omega, by show o + n ≤ _; omega⟩
      · exact ih (i + n) (o + n) (by omega) (by omega) x hx
    | I t => simp only [D.inL, D.outL, D.in1, D.out1] at hi ho; exact ih i (o + t.length) (by omega) (by omega)
    | D n => simp only [D.inL, D.outL, D.in1, D.out1] at hi ho; exact ih (i + n) o (by omega) (by omega)
theorem S.rbd_turn {l : List S.Run} (h : S.RBd l) : S.RBd (D.turn l) := fun x hx => by
  obtain ⟨y, hy, rfl⟩ := List.mem_map.1 hx
  exact ⟨(h y hy).2, (h y hy).1⟩
theorem S.runs_len (a : List D.Q) : ∀ i o, (D.runs i o a).length ≤ a.length := by
  induction a with
  | nil => intro i o; exact Nat.le_refl _
  | cons q r ih => intro i o; cases q with
    | R n => have := ih (i + n) (o + n); simp only [D.runs, List.length_cons]; omega
    | I t => have := ih i (o + t.length); simp only [D.runs, List.length_cons]; omega
    | D n => have := ih (i + n) o; simp only [D.runs, List.length_cons]; omega
set_option maxRecDepth 100000 in
set_option maxHeartbeats 2000000 in
theorem refLeft_any (ao : Option Addr) (cap : Nat) (l : List S.Run) (p : Nat) (w : World) (hr : S.RRow w ao l) (hb : S.RBd l) (hp : p ≤ 1048576) (hl : l.length ≤ 1000000) :
    Calls Try.prog 68 #[.slice ao l.length cap, .int .i64 p] w fun e w' => e = .returned (.int .i64 (D.leftF p 0 l : Nat)) ∧ Below w.heap.size w w' := by
  have Hr := Lib.hid hr
  have Hb := Lib.hid hb
  obtain ⟨m, hm⟩ : ∃ m, Hid (l.length = m) := ⟨_, rfl⟩
  obtain ⟨z, hz⟩ : ∃ z, Hid (D.leftF p 0 l = z) := ⟨_, rfl⟩
  rw [hm.out] at hl ⊢
  rw [hz.out]
  clear hr hb
  go_enter Try.func68, Try.ntmps68
  go_wp2
  go_loopw [5, 6] (fun u v wr => ∃ k t : Nat, k ≤ m ∧ v = .int .i64 k ∧ u = .int .i64 t ∧ Hid (D.leftF p t (l.drop k) = z) ∧ Hid (Below w.heap.size w wr)) (fun _ v _ => m - (intOf v).toNat)
  case atStart => exact ⟨0, 0, Nat.zero_le _, rfl, rfl, hz, Below.refl _ _⟩
  case round =>
    obtain ⟨k, t, hk, rfl, rfl, hf, hB⟩ := hrel
    by_cases hlt : k < m
    · obtain ⟨x, hx, hdr⟩ : ∃ x, l[k]? = some x ∧ l.drop k = x :: l.drop (k + 1) := by
        have hkl : k < l.length := by rw [hm.out]; exact hlt
        exact ⟨l[k], List.getElem?_eq_getElem hkl, List.drop_eq_getElem_cons hkl⟩
      obtain ⟨b1, b2⟩ := Hb.out x (List.mem_of_getElem? hx)
      obtain ⟨b, o, e, hbl, c0, c1, c2⟩ := (Hr.out.below hB.out) k x hx
      obtain ⟨xi, xo, xn⟩ := x
      subst e
      dsimp only at b1 b2 c0 c1 c2
      have hf2 : Hid (D.leftF p (if xi < p then xo + min (p - xi) xn else t) (l.drop (k + 1)) = z) := by have := hf.out; rw [hdr] at this; exact this
      have hm' : Hid (m - (k + 1) < m - k) := by show _ < _; omega
      clear hx hdr hf
      by_cases hc : xi < p
      · rw [if_pos hc] at hf2
        have hc' : (xi : Int) < (p : Int) := by omega
        go_wp2
        go_region
        all_goals
          go_wp2
          go_roundw
          case rel => exact ⟨k + 1, xo + min (p - xi) xn, by omega, by go_num, by congr 1; omega, hf2, hB.out.drew⟩
          case measure => simp [intOf]; exact hm'.out
      · rw [if_neg hc] at hf2
        have hc' : ¬ (xi : Int) < (p : Int) := by omega
        go_wp2
        go_roundw
        case rel => exact ⟨k + 1, t, by omega, by go_num, rfl, hf2, hB⟩
        case measure => simp [intOf]; exact hm'.out
    · have e1 : Hid (t = z) := by
        have := hf.out
        rw [List.drop_of_length_le (by rw [hm.out]; omega)] at this
        exact this
      go_wp2
      go_ret
      exact ⟨by rw [e1.out]; rfl, hB.out⟩
set_option maxRecDepth 100000 in
set_option maxHeartbeats 2000000 in
theorem refRight_any (ao : Option Addr) (cap : Nat) (l : List S.Run) (p f : Nat) (w : World) (hr : S.RRow w ao l) (hb : S.RBd l) (hp : p ≤ 1048576) (hl : l.length ≤ 1000000) :
    Calls Try.prog 70 #[.slice ao l.length cap, .int .i64 p, .int .i64 f] w fun e w' => e = .returned (.int .i64 (D.rightF p f l : Nat)) ∧ Below w.heap.size w w' := by
  have Hr := Lib.hid hr
  have Hb := Lib.hid hb
  obtain ⟨m, hm⟩ : ∃ m, Hid (l.length = m) := ⟨_, rfl⟩
  obtain ⟨z, hz⟩ : ∃ z, Hid (D.rightF p f l = z) := ⟨_, rfl⟩
  rw [hm.out] at hl ⊢
  rw [hz.out]
  clear hr hb
  go_enter Try.func70, Try.ntmps70
  go_wp2
  go_loopw [7] (fun v wr => ∃ k : Nat, k ≤ m ∧ v = .int .i64 k ∧ Hid (D.rightF p f (l.drop k) = z) ∧ Hid (Below w.heap.size w wr)) (fun v _ => m - (intOf v).toNat)
  case atStart => exact ⟨0, Nat.zero_le _, rfl, hz, Below.refl _ _⟩
  case round =>
    obtain ⟨k, hk, rfl, hf, hB⟩ := hrel
    by_cases hlt : k < m
    · obtain ⟨x, hx, hdr⟩ : ∃ x, l[k]? = some x ∧ l.drop k = x :: l.drop (k + 1) := by
        have hkl : k < l.length := by rw [hm.out]; exact hlt
        exact ⟨l[k], List.getElem?_eq_getElem hkl, List.drop_eq_getElem_cons hkl⟩
      obtain ⟨b1, b2⟩ := Hb.out x (List.mem_of_getElem? hx)
      obtain ⟨b, o, e, hbl, c0, c1, c2⟩ := (Hr.out.below hB.out) k x hx
      obtain ⟨xi, xo, xn⟩ := x
      subst e
      dsimp only at b1 b2 c0 c1 c2
      have hf2 : Hid ((if p < xi + xn then xo + (p - xi) else D.rightF p f (l.drop (k + 1))) = z) := by have := hf.out; rw [hdr] at this; exact this
      have hm' : Hid (m - (k + 1) < m - k) := by show _ < _; omega
      clear hx hdr hf
      by_cases hc : p < xi + xn
      · rw [if_pos hc] at hf2
        have hc' : (p : Int) < (xi : Int) + (xn : Int) := by omega
        go_wp2
        go_region
        all_goals
          go_wp2
          go_region
        all_goals
          go_wp2
          go_ret
          refine ⟨?_, hB.out.drew.drew⟩
          have e2 : (xo : Int) + max ((p : Int) - xi) 0 = (z : Int) := by have := hf2.out; omega
          first | (rw [← e2]; rfl) | rw [← e2]
      · rw [if_neg hc] at hf2
        have hc' : (xi : Int) + (xn : Int) ≤ (p : Int) := by omega
        go_wp2
        go_region
        all_goals
          go_wp2
          go_roundw
          case rel => exact ⟨k + 1, by omega, by go_num, hf2, hB.out.drew⟩
          case measure => simp [intOf]; exact hm'.out
    · have e1 : Hid (f = z) := by
        have := hf.out
        rw [List.drop_of_length_le (by rw [hm.out]; omega)] at this
        exact this
      go_wp2
      go_ret
      exact ⟨by rw [e1.out]; rfl, hB.out⟩
end Go.Proofs.Ytmbgcbgbdjiacaa
/- ShiftRef2 -/
namespace Go.Proofs.Ytmbgcbgbdjiacaa
open Go.RowKit

set_option maxRecDepth 100000 in
set_option maxHeartbeats 2000000 in
theorem refRuns_any (ao : Option Addr) (cap : Nat) (a : List D.Q) (w : World) (hr : D.Row w ao (a.map D.raw)) (hi : D.inL a ≤ 1048576) (ho : D.outL a ≤ 1048576) (hl : a.length ≤ 4096) :
    Calls Try.prog 69 #[.slice ao a.length cap] w fun e w' => ∃ v, e = .returned v ∧ S.RMade (D.runs 0 0 a) w v w' := by
  have Hr := Lib.hid hr
  obtain ⟨m, hm⟩ : ∃ m, Hid (a.length = m) := ⟨_, rfl⟩
  obtain ⟨L, hL⟩ : ∃ L, Hid (D.runs 0 0 a = L) := ⟨_, rfl⟩
  have HLl : L.length ≤ 4096 := by rw [← hL.out]; have := S.runs_len a 0 0; omega
  rw [hm.out] at hl ⊢
  rw [hL.out]
  clear hr
  go_enter Try.func69, Try.ntmps69
  go_wp2
  go_loopw [3, 4, 5, 6] (fun u x y v wr => ∃ (k i o : Nat) (pre : List S.Run) (r : List D.Q), k ≤ m ∧ v = .int .i64 k ∧ x = .int .i64 i ∧ y = .int .i64 o ∧ Hid (a.drop k = r) ∧ Hid (L = pre ++ D.runs i o r) ∧ i + D.inL r ≤ 1048576 ∧ o + D.outL r ≤ 1048576 ∧ Hid (S.RMade pre w u wr)) (fun _ _ _ v _ => m - (intOf v).toNat)
  case atStart => exact ⟨0, 0, 0, [], a, Nat.zero_le _, rfl, rfl, rfl, rfl, by show L = [] ++ _; rw [← hL.out]; rfl, by omega, by omega, S.RMade.nil w (Below.refl _ _)⟩
  case round =>
    obtain ⟨k, i, o, pre, r, hk, rfl, rfl, rfl, hdr, hpre, hbi, hbo, hM⟩ := hrel
    have hz := hM.out.below.size
    obtain ⟨va, vc, rfl⟩ := D.slice_of_own hM.out.own
    by_cases hlt : k < m
    · obtain ⟨q, hq, hd2⟩ : ∃ q, a[k]? = some q ∧ a.drop k = q :: a.drop (k + 1) := by
        have hkl : k < a.length := by rw [hm.out]; exact hlt
        exact ⟨a[k], List.getElem?_eq_getElem hkl, List.drop_eq_getElem_cons hkl⟩
      obtain rfl : r = q :: a.drop (k + 1) := by rw [← hd2]; exact hdr.out.symm
      obtain ⟨b, ob, e, hbl, c0, c1, c2⟩ := Hr.out k (D.raw q) (by rw [List.getElem?_map, hq]; rfl)
      replace c0 := (hM.out.below.cell (p := ⟨b, _, none⟩) hbl).trans c0
      replace c1 := (hM.out.below.cell (p := ⟨b, _, none⟩) hbl).trans c1
      replace c2 := (hM.out.below.cell (p := ⟨b, _, none⟩) hbl).trans c2
      subst e
      have hpl : pre.length ≤ 4096 := by have := congrArg List.length hpre.out; rw [List.length_append] at this; omega
      have hm' : Hid (m - (k + 1) < m - k) := by show _ < _; omega
      have hbz : b < wr.heap.size := by omega
      obtain ⟨r2, hr2⟩ : ∃ r2, Hid (a.drop (k + 1) = r2) := ⟨_, rfl⟩
      rw [hr2.out] at hpre hbi hbo
      clear hq hd2 hdr
      cases q with
      | R n =>
        simp only [D.raw] at c0 c1 c2
        simp only [D.inL, D.outL, D.in1, D.out1] at hbi hbo
        have hp2 : Hid (L = (pre ++ [(i, o, n)]) ++ D.runs (i + n) (o + n) r2) := by show _ = _; rw [hpre.out]; simp [D.runs]
        have b1 : i + n ≤ 1048576 := by omega
        have b2 : o + n ≤ 1048576 := by omega
        clear hpre
        go_wp2_with (at_builtin; refine S.append_run rfl _ _ rfl w.heap.size _ pre rfl hM.out.own (i, o, n) 1 rfl ?a1 ?a2 ?_)
        case a1 => omega
        case a2 => omega
        intro Y v' w3 hY hO hg
        have hM3 := Lib.hid (hM.out.on hO hg)
        replace c0 : w3.cell? ⟨b, ob + k * 3, none⟩ = _ := (hM3.out.below.cell (p := ⟨b, _, none⟩) hbl).trans ((hM.out.below.cell (p := ⟨b, _, none⟩) hbl).symm.trans c0)
        replace c1 : w3.cell? ⟨b, ob + k * 3 + 1, none⟩ = _ := (hM3.out.below.cell (p := ⟨b, _, none⟩) hbl).trans ((hM.out.below.cell (p := ⟨b, _, none⟩) hbl).symm.trans c1)
        replace c2 : w3.cell? ⟨b, ob + k * 3 + 2, none⟩ = _ := (hM3.out.below.cell (p := ⟨b, _, none⟩) hbl).trans ((hM.out.below.cell (p := ⟨b, _, none⟩) hbl).symm.trans c2)
        clear hO hg hM
        go_wp2
        go_roundw
        case rel => exact ⟨k + 1, i + n, o + n, Y, r2, by omega, by go_num, by go_num, by go_num, hr2, by show _ = _; rw [hY.out]; exact hp2.out, by omega, by omega, hM3⟩
        case measure => simp [intOf]; exact hm'.out
      | I t =>
        simp only [D.raw] at c0 c1 c2
        simp only [D.inL, D.outL, D.in1, D.out1] at hbi hbo
        obtain ⟨T, hT⟩ : ∃ T : ByteArray, Hid (⟨t.toArray⟩ = T) := ⟨_, rfl⟩
        obtain ⟨z, hz⟩ : ∃ z, Hid (t.length = z) := ⟨_, rfl⟩
        have hTz : (T.size : Int) = z := by rw [← hT.out, ← hz.out]; rfl
        rw [hT.out] at c2
        rw [hz.out] at hbo
        have hp2 : Hid (L = pre ++ D.runs i (o + z) r2) := by show _ = _; rw [hpre.out, ← hz.out]; rfl
        have b2 : o + z ≤ 1048576 := by omega
        clear hpre hT
        go_wp2
        go_roundw
        case rel => exact ⟨k + 1, i, o + z, pre, r2, by omega, by go_num, rfl, by go_num, hr2, hp2, by omega, by omega, hM⟩
        case measure => simp [intOf]; exact hm'.out
      | D n =>
        simp only [D.raw] at c0 c1 c2
        simp only [D.inL, D.outL, D.in1, D.out1] at hbi hbo
        have hp2 : Hid (L = pre ++ D.runs (i + n) o r2) := by show _ = _; rw [hpre.out]; rfl
        have b1 : i + n ≤ 1048576 := by omega
        clear hpre
        go_wp2
        go_roundw
        case rel => exact ⟨k + 1, i + n, o, pre, r2, by omega, by go_num, by go_num, rfl, hr2, hp2, by omega, by omega, hM⟩
        case measure => simp [intOf]; exact hm'.out
    · have hr0 : r = [] := by rw [← hdr.out]; exact List.drop_of_length_le (by rw [hm.out]; omega)
      have e1 : Hid (S.RMade L w (.slice va pre.length vc) wr) := by
        show S.RMade L w _ wr
        rw [hpre.out, hr0, show D.runs i o [] = [] from rfl, List.append_nil]; exact hM.out
      clear hM hpre hdr
      go_wp2
      go_ret
      exact ⟨_, rfl, e1.out⟩
def S.RMovEnd (a : List D.Q) (k : Nat) (g : Int) (w : World) (e : Ending) (w' : World) : Prop := e = .returned (.int .i64 (if g = 0 then (D.lft a k : Int) else (D.rgt a k : Int))) ∧ Below w.heap.size w w'
set_option maxRecDepth 100000 in
set_option maxHeartbeats 2000000 in
theorem refMove_any (ao : Option Addr) (c : Nat) (a : List D.Q) (k : Nat) (g : Int) (w : World) (hr : D.Row w ao (a.map D.raw)) (hv : D.chk (a.map D.raw) = 0) (pa : D.allPos a = true) (hi : D.inL a ≤ 1048576) (ho : D.outL a ≤ 1048576) (hl : a.length ≤ 4096) (hk : k ≤ 1048576) (hg : g = 0 ∨ g = 1) :
    Calls Try.prog 42 #[.slice ao a.length c, .int .i64 k, .int .u8 g] w (S.RMovEnd a k g w) := by
  have HU : Hid (∀ W, Below w.heap.size w W → Calls Try.prog 69 #[.slice ao a.length c] W fun e w' => ∃ v, e = .returned v ∧ S.RMade (D.runs 0 0 a) W v w') := fun W h => refRuns_any ao c a W (hr.below h) hi ho hl
  have tb := S.rbd_runs a 0 0 (by omega) (by omega)
  have tl : (D.runs 0 0 a).length ≤ 4096 := by have := S.runs_len a 0 0; omega
  have HL : Hid (∀ ao c W, S.RRow W ao (D.runs 0 0 a) → Calls Try.prog 68 #[.slice ao (D.runs 0 0 a).length c, .int .i64 k] W fun e w' => e = .returned (.int .i64 (D.lft a k : Nat)) ∧ Below W.heap.size W w') := fun ao c W h => by
    have := refLeft_any ao c _ k W h tb hk (by omega)
    rwa [D.left_runs _ pa] at this
  have HR : Hid (∀ ao c W, S.RRow W ao (D.runs 0 0 a) → Calls Try.prog 70 #[.slice ao (D.runs 0 0 a).length c, .int .i64 k, .int .i64 (D.outL a)] W fun e w' => e = .returned (.int .i64 (D.rgt a k : Nat)) ∧ Below W.heap.size W w') := fun ao c W h => by
    have := refRight_any ao c _ k (D.outL a) W h tb hk (by omega)
    rwa [D.right_runs _ pa] at this
  have HS : Hid (Calls Try.prog 67 #[.slice ao a.length c] w fun e w' => e = .returned (.tuple #[.int .i64 (D.inL a), .int .i64 (D.outL a)]) ∧ w = w') := by
    have := refSizes_any ao c (a.map D.raw) w hr hv
    rwa [D.inP_raw, D.outP_raw, List.length_map] at this
  generalize D.runs 0 0 a = X1 at HU HL HR
  clear hr hv pa tb tl
  have B0 : Hid (Below w.heap.size w w) := Below.refl _ _
  rcases hg with rfl | rfl
  · have R1 : Hid (∀ w', Below w.heap.size w w' → S.RMovEnd a k 0 w (.returned (.int .i64 (D.lft a k : Nat))) w') := fun w' h => ⟨by rw [if_pos rfl], h⟩
    clear HS HR
    generalize D.lft a k = z at HL R1
    go_enter Try.func42, Try.ntmps42
    go_wp2_with fail
    refine (HU.out _ B0.out).mono ?_
    rintro e w2 ⟨v, rfl, hm⟩
    have hb2 := Lib.hid (B0.out.trans (hm.below.mono B0.out.size))
    obtain ⟨o1, c1, hv, hrow⟩ := hm.form
    subst hv
    have hrow1 := Lib.hid hrow
    clear hm hrow
    go_wp2_with fail
    refine (HL.out _ _ _ hrow1.out).mono ?_
    rintro e w4 ⟨rfl, hb⟩
    have R2 := Lib.hid (R1.out w4 (hb2.out.trans (hb.mono hb2.out.size)))
    clear hb
    go_wp2
    go_ret
    exact R2.out
  · have R1 : Hid (∀ w', Below w.heap.size w w' → S.RMovEnd a k 1 w (.returned (.int .i64 (D.rgt a k : Nat))) w') := fun w' h => ⟨by rw [if_neg (by decide)], h⟩
    clear HL
    generalize D.rgt a k = z at HR R1
    generalize D.inL a = n at hi HS
    generalize D.outL a = m at ho HS HR
    go_enter Try.func42, Try.ntmps42
    go_wp2_with fail
    refine HS.out.mono ?_
    rintro e w1 ⟨rfl, rfl⟩
    go_wp2_with fail
    refine (HU.out _ B0.out).mono ?_
    rintro e w2 ⟨v, rfl, hm⟩
    have hb2 := Lib.hid (B0.out.trans (hm.below.mono B0.out.size))
    obtain ⟨o1, c1, hv, hrow⟩ := hm.form
    subst hv
    have hrow1 := Lib.hid hrow
    clear hm hrow
    go_wp2_with fail
    refine (HR.out _ _ _ hrow1.out).mono ?_
    rintro e w4 ⟨rfl, hb⟩
    have R2 := Lib.hid (R1.out w4 (hb2.out.trans (hb.mono hb2.out.size)))
    clear hb
    go_wp2
    go_ret
    exact R2.out
end Go.Proofs.Ytmbgcbgbdjiacaa
