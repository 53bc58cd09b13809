/- Rows of handles: comparing, copying (the laws' kit), the order of the reference of layer 10. -/
import Derived.Test.YtniccjbcchdkoaaPackHand
import Derived.Test.YtniccjbcchdkoaaPackDTab
import Derived.BigQuiet
namespace Go.Proofs.Ytniccjbcchdkoaa
open Go.RowKit

def H.hv (h : Nat) : Value := .int .u64 (h : Int)
def H.row (l : List Nat) : List Value := l.map H.hv
theorem H.row_len (l : List Nat) : (H.row l).length = l.length := List.length_map _
theorem H.row_at {l : List Nat} {W : World} {ao : Option Addr} (h : V.Row W ao (H.row l)) {i x : Nat} (hx : l[i]? = some x) : ∃ b o, ao = some ⟨b, o, none⟩ ∧ b < W.heap.size ∧ W.cell? ⟨b, o + i, none⟩ = some (.int .u64 (x : Int)) :=
  h i (H.hv x) (by unfold H.row; rw [List.getElem?_map, hx]; rfl)
theorem H.drop_cons {l : List Nat} {k : Nat} (h : k < l.length) : ∃ p, l[k]? = some p ∧ l.drop k = p :: l.drop (k + 1) :=
  ⟨l[k], List.getElem?_eq_getElem h, (List.drop_eq_getElem_cons h)⟩
theorem Try.infoHandle : (Try.prog.info? 24).map (fun i => (i.zero, i.size, i.bytes)) = some (some (.int .u64 0), 1, 8) := by kernel_rfl
theorem H.cell {W V : World} {b o : Nat} {v : Value} (hb : Below W.heap.size W V) (hlt : b < W.heap.size) (h : W.cell? ⟨b, o, none⟩ = some v) : V.cell? ⟨b, o, none⟩ = some v := ((D.bcell hb).1 _ _ hlt).trans h
theorem H.drewN {W w : World} {B : Nat} (h : Below B w W) (n : Nat) : Below B w (W.drewN n) := h.trans ⟨rfl, rfl, rfl, Nat.le_refl _, fun _ _ => rfl⟩
set_option maxHeartbeats 1000000 in
theorem equalHandles_any (ao bo : Option Addr) (ca cb : Nat) (a b : List Nat) (w : World) (ha : V.Row w ao (H.row a)) (hb : V.Row w bo (H.row b)) (la : a.length ≤ maxLen) :
    Calls Try.prog 62 #[.slice ao a.length ca, .slice bo b.length cb] w fun e w' => e = .returned (.bool (decide (a = b))) ∧ Below w.heap.size w w' := by
  unfold maxLen at la
  by_cases hl : a.length = b.length
  · have Ha := Lib.hid ha
    have Hb := Lib.hid hb
    have Hl := Lib.hid hl
    have hq : ((a.length : Int) != (b.length : Int)) = false := by simp [hl]
    clear ha hb hl
    go_enter Try.func62, Try.ntmps62
    go_wp2
    go_loopw [5] (fun j wr => ∃ k : Nat, k ≤ a.length ∧ j = .int .i64 k ∧ Hid (a.drop k = b.drop k ↔ a = b) ∧ Hid (Below w.heap.size w wr)) (fun j _ => a.length - (intOf j).toNat)
    case atStart => exact ⟨0, Nat.zero_le _, rfl, Iff.rfl, Below.refl _ _⟩
    case round =>
      obtain ⟨k, hk, rfl, hs, hw⟩ := hrel
      by_cases hlt : k < a.length
      · obtain ⟨p, hp, hpd⟩ := H.drop_cons hlt
        obtain ⟨r, hr, hrd⟩ := H.drop_cons (l := b) (k := k) (by have := Hl.out; omega)
        obtain ⟨b1, o1, e1, l1, hc⟩ := H.row_at Ha.out hp
        obtain ⟨b2, o2, e2, l2, hd⟩ := H.row_at Hb.out hr
        have c0 := H.cell hw.out l1 hc
        have d0 := H.cell hw.out l2 hd
        clear hc hd
        subst e1
        subst e2
        have hkb : k < b.length := by have := Hl.out; omega
        have hst : Hid ((p = r ∧ a.drop (k + 1) = b.drop (k + 1)) ↔ a = b) := by show _ ↔ _; rw [← hs.out, hpd, hrd, List.cons.injEq]
        obtain ⟨pi, hpi⟩ : ∃ pi : Int, (p : Int) = pi := ⟨_, rfl⟩
        obtain ⟨ri, hri⟩ : ∃ ri : Int, (r : Int) = ri := ⟨_, rfl⟩
        rw [hpi] at c0
        rw [hri] at d0
        by_cases hpe : p = r
        · have hn : Hid (a.drop (k + 1) = b.drop (k + 1) ↔ a = b) := by show _ ↔ _; rw [← hst.out]; simp [hpe]
          have q1 : (pi != ri) = false := by rw [← hpi, ← hri, hpe]; simp
          clear hpd hrd hp hr hpe hs hst hpi hri
          go_wp2_with fail
          go_quiet (fail)
          go_wp2
          go_roundw
          case rel => exact ⟨k + 1, by omega, by go_num, hn, H.drewN hw.out _⟩
          case measure => simp [intOf]; omega
        · have hn : Hid (decide (a = b) = false) := by show _ = _; rw [decide_eq_false_iff_not, ← hst.out]; exact fun h => hpe h.1
          have q1 : (pi != ri) = true := by rw [← hpi, ← hri]; simp; omega
          clear hpd hrd hp hr hpe hs hst hpi hri
          go_wp2_with fail
          go_quiet (fail)
          go_wp2
          go_ret
          exact ⟨by rw [hn.out]; rfl, H.drewN hw.out _⟩
      · obtain rfl : k = a.length := by omega
        have hn : Hid (decide (a = b) = true) := by show _ = _; rw [decide_eq_true_iff, ← hs.out, List.drop_length, Hl.out, List.drop_length]
        go_wp2
        go_ret
        exact ⟨by rw [hn.out]; rfl, hw.out⟩
  · have hn : Hid (decide (a = b) = false) := by show _ = _; rw [decide_eq_false_iff_not]; exact fun h => hl (by rw [h])
    have hq : ((a.length : Int) != (b.length : Int)) = true := by simp; omega
    clear ha hb hl
    go_enter Try.func62, Try.ntmps62
    go_wp2
    go_ret
    exact ⟨by rw [hn.out]; rfl, Below.refl _ _⟩
/-- A row of handles that a call makes. -/
def H.Made (l : List Nat) (w : World) (v : Value) (wr : World) : Prop := V.Made 24 (H.row l) w v wr
theorem H.Made.row {l : List Nat} {w : World} {v : Value} {wr : World} (h : H.Made l w v wr) : ∃ ao c, v = .slice ao l.length c ∧ V.Row wr ao (H.row l) := by
  obtain ⟨ao, c, e, r⟩ := V.Made.row h
  rw [H.row_len] at e
  exact ⟨ao, c, e, r⟩
theorem H.Made.nil (w : World) {wr : World} (h : Below w.heap.size w wr) : H.Made [] w (.slice none 0 0) wr := V.Made.nil _ w h
theorem H.row_snoc (l : List Nat) (p : Nat) : H.row (l ++ [p]) = H.row l ++ [H.hv p] := by simp [H.row]
theorem H.append_one {W : World} {ops : Array Oper} {rest : List Oper} {o : Oper} {a : Act} {Q : Exit → Act → World → Prop} (hgd : o.guard = none) (s x : Operand)
    (ho : o.op = .call { callee := .builtin .append, args := #[s, x], argTypes := #[39, 39] })
    (base : Nat) (v : Value) (X : List Nat) (hs : a.eval s = v) (hown : W.ownsRow base 24 1 v (H.row X).length (H.row X)) (z : Int) (p : Nat) (hz : (p : Int) = z) (cc : Nat) (hx : a.eval x = .slice (some ⟨W.heap.size, 0, none⟩) 1 cc) (hn : X.length ≤ 1000000000) (hbase : base ≤ W.heap.size)
    (h : ∀ Z v' w', Hid (Z = X ++ [p]) → w'.ownsRow base 24 1 v' (H.row Z).length (H.row Z) → W.grownBy w' v.ownBlock → wpList Try.prog ops Q rest (a.put o.dst v') w') :
    wpList Try.prog ops Q (o :: rest) a (W.alloc (.cells #[.int .u64 z] 24)) := by
  subst hz
  obtain ⟨ip, hp, hp0, hp1, hp2⟩ := info_parts Try.infoHandle
  refine V.append_one Try.underlying39 hp hp0 hp1 hp2 rfl (by decide) hgd s x ho base v (H.row X) hs hown (H.hv p) rfl cc hx (by rw [H.row_len]; exact hn) hbase ?_
  intro Z v' w' hZ h1 h2
  have e : Z = H.row (X ++ [p]) := by rw [H.row_snoc]; exact hZ.out
  rw [e] at h1
  exact h (X ++ [p]) v' w' rfl h1 h2
/-! ### The order -/
theorem H.bf_iff (a b : Nat) : H.bf a b ↔ H.slot a < H.slot b ∨ (H.slot a = H.slot b ∧ a < b) := Iff.rfl
end Go.Proofs.Ytniccjbcchdkoaa
