/- Texts joined: ValRow DiffTab -/
import Derived.Test.YtdilkoogjkabfaaDoorApplyRow
import Derived.Deep.OwnRows
import Derived.Deep.QuietTactic
import Derived.BigQuiet
import Derived.Test.YtdilkoogjkabfaaDoorPackDMath
/- ValRow -/
namespace Go.Proofs.YtdilkoogjkabfaaDoor
open Go.RowKit

def V.str (t : List UInt8) : Value := .string ⟨t.toArray⟩
theorem V.str_size (t : List UInt8) : (⟨t.toArray⟩ : ByteArray).size = t.length := D.size_l t
theorem V.str_part (s : ByteArray) (i n : Nat) : (.string (s.extract i (i + n)) : Value) = V.str ((s.data.toList.drop i).take n) := by
  unfold V.str; rw [← D.part_bytes, D.bytes_eq]
theorem V.str_of (s : ByteArray) : (.string s : Value) = V.str s.data.toList := by unfold V.str; rw [D.bytes_eq]
/-- A row of values of one cell. -/
def V.Row (W : World) (ao : Option Addr) (l : List Value) : Prop := ∀ (i : Nat) (x : Value), l[i]? = some x → ∃ b o, ao = some ⟨b, o, none⟩ ∧ b < W.heap.size ∧ W.cell? ⟨b, o + i, none⟩ = some x
theorem V.Row.below {W W' : World} {ao : Option Addr} {l : List Value} (h : V.Row W ao l) (hb : Below W.heap.size W W') : V.Row W' ao l := fun i x hx => by
  obtain ⟨b, o, e, hl, hc⟩ := h i x hx
  exact ⟨b, o, e, Nat.lt_of_lt_of_le hl hb.size, ((D.bcell hb).1 _ _ hl).trans hc⟩
theorem V.row_of {W : World} {base : Nat} {e : TypeId} {v : Value} {l : List Value} (h : W.ownsRow base e 1 v l.length l) : ∃ ao c, v = .slice ao l.length c ∧ V.Row W ao l := by
  obtain ⟨hl, ⟨rfl, h0⟩ | ⟨g, cap, cur, rfl, hb, hg, hnc, hcm, hcs, ht⟩⟩ := h
  · exact ⟨none, 0, by rw [h0], fun i x hx => by have := (List.getElem?_eq_some_iff.1 hx).1; omega⟩
  · have hlt := (Array.getElem?_eq_some_iff.1 hg).1
    refine ⟨some ⟨g, 0, none⟩, cap, rfl, fun i x hx => ⟨g, 0, rfl, hlt, ?_⟩⟩
    have hi := (List.getElem?_eq_some_iff.1 hx).1
    have hu := hx
    rw [← ht, List.getElem?_take, if_pos (by omega)] at hu
    rw [cell_of_row W g _ cur _ _ hg, Nat.zero_add]
    simpa using hu
theorem V.own_made (w : World) (base n : Nat) (z : Value) (e : TypeId) (hb : base ≤ w.heap.size) (hm : n ≤ maxLen) : (w.alloc (.cells (madeCells #[z] n) e)).ownsRow base e 1 (.slice (some ⟨w.heap.size, 0, none⟩) n n) n (List.replicate n z) :=
  ⟨by simp, .inr ⟨w.heap.size, n, _, rfl, hb, heap_alloc_new w _, Nat.le_refl _, hm, by rw [size_madeCells]; omega, by rw [toList_madeCells_one, List.take_of_length_le (by simp)]⟩⟩
theorem V.own_cell {W : World} {base g n c : Nat} {e : TypeId} {xs : List Value} (h : W.ownsRow base e 1 (.slice (some ⟨g, 0, none⟩) n c) n xs) {i : Nat} {u : Value} (hu : xs[i]? = some u) : W.cell? ⟨g, i, none⟩ = some u ∧ W.frozen? ⟨g, i, none⟩ = false ∧ base ≤ g := by
  obtain ⟨hl, ⟨e', _⟩ | ⟨g', cap, cur, e', hb, hg, hnc, hcm, hcs, ht⟩⟩ := h
  · cases e'
  · cases e'
    have hi := (List.getElem?_eq_some_iff.1 hu).1
    rw [← ht, List.getElem?_take, if_pos (by omega)] at hu
    exact ⟨by rw [cell_of_row W g _ cur _ _ hg]; simpa using hu, frozen_of_row _ _ _ _ _ hg, hb⟩
theorem V.own_set {W : World} {base g n c : Nat} {e : TypeId} {xs : List Value} (h : W.ownsRow base e 1 (.slice (some ⟨g, 0, none⟩) n c) n xs) (i : Nat) (u : Value) : (W.setCell ⟨g, i, none⟩ u).ownsRow base e 1 (.slice (some ⟨g, 0, none⟩) n c) n (xs.set i u) := by
  obtain ⟨hl, ⟨e', _⟩ | ⟨g', cap, cur, e', hb, hg, hnc, hcm, hcs, ht⟩⟩ := h
  · cases e'
  · cases e'
    refine ⟨by rw [List.length_set]; exact hl, .inr ⟨g, c, cur.setIfInBounds i u, rfl, hb, by rw [heap_setCell_same W g i _ _ _ hg], hnc, hcm, by rw [Array.size_setIfInBounds]; exact hcs, ?_⟩⟩
    rw [Array.toList_setIfInBounds, List.take_set, ht]
/-- A row that a call makes. -/
structure V.Made (e : TypeId) (l : List Value) (w : World) (v : Value) (wr : World) : Prop where
  own : wr.ownsRow w.heap.size e 1 v l.length l
  below : Below w.heap.size w wr
theorem V.Made.nil (e : TypeId) (w : World) {wr : World} (h : Below w.heap.size w wr) : V.Made e [] w (.slice none 0 0) wr := ⟨World.ownsRow_nil _ _ _ _, h⟩
theorem V.Made.row {e : TypeId} {l : List Value} {w : World} {v : Value} {wr : World} (h : V.Made e l w v wr) : ∃ ao c, v = .slice ao l.length c ∧ V.Row wr ao l := V.row_of h.own
theorem V.Made.slice {e : TypeId} {l : List Value} {w : World} {v : Value} {wr : World} (h : V.Made e l w v wr) : ∃ ao c, v = .slice ao l.length c := by obtain ⟨ao, c, h, _⟩ := h.row; exact ⟨ao, c, h⟩
/-- An append of one value that has just been laid. -/
theorem V.append_one {P : Program} {e se : TypeId} {i : TypeInfo} {z : Value} {by_ : Nat} (hse : P.underlying se = some (.slice e)) (hi : P.info? e = some i) (hz : i.zero = some z) (hs1 : i.size = 1) (hby : i.bytes = by_) (hzc : z.cells.size = 1) (hz1 : by_ ≤ 1000)
    {W : World} {ops : Array Oper} {rest : List Oper} {o : Oper} {a : Act} {Q : Exit → Act → World → Prop} (hgd : o.guard = none) (s x : Operand)
    (ho : o.op = .call { callee := .builtin .append, args := #[s, x], argTypes := #[se, se] })
    (base : Nat) (v : Value) (X : List Value) (hs : a.eval s = v) (hown : W.ownsRow base e 1 v X.length X) (u : Value) (h1 : u.oneCell' = true) (cc : Nat) (hx : a.eval x = .slice (some ⟨W.heap.size, 0, none⟩) 1 cc) (hn : X.length ≤ 1000000000) (hbase : base ≤ W.heap.size)
    (h : ∀ Z v' w', Hid (Z = X ++ [u]) → w'.ownsRow base e 1 v' Z.length Z → W.grownBy w' v.ownBlock → wpList P ops Q rest (a.put o.dst v') w') :
    wpList P ops Q (o :: rest) a (W.alloc (.cells #[u] e)) := by
  refine wpList_append_own _ hgd s x se ho base e i z 1 by_ hse hi hz hs1 hby hzc (by decide) v X.length X hs (hown.alloc _) ⟨W.heap.size, 0, none⟩ 1 cc [u] hx rfl ?_ (fun y hy => by rw [List.mem_singleton.1 hy]; exact h1) (by unfold maxLen; omega) ?_ (by simp only [World.size_alloc]; omega) ?_
  · exact D.news W [u] e
  · have : (X.length + 1) * by_ ≤ (X.length + 1) * 1000 := Nat.mul_le_mul_left _ hz1
    omega
  · intro v' w' h1 h2 _
    refine h _ v' w' rfl ?_ ⟨h2.os, h2.tape, h2.output, Nat.le_trans (by simp only [World.size_alloc]; omega) h2.size, fun k hk hne => (h2.block k (by simp only [World.size_alloc]; omega) hne).trans (Lib.alloc_old W _ k hk)⟩
    rw [List.length_append]; exact h1
theorem V.Made.on {e : TypeId} {X Z : List Value} {w : World} {v v' : Value} {wr w' : World} (h : V.Made e X w v wr) (h1 : w'.ownsRow w.heap.size e 1 v' Z.length Z) (h2 : wr.grownBy w' v.ownBlock) : V.Made e Z w v' w' := ⟨h1, h.below.grown h2 h.below.size (fun k e => (h.own.lt k e).1)⟩
theorem V.Made.drew {e : TypeId} {X : List Value} {w : World} {v : Value} {wr : World} (h : V.Made e X w v wr) : V.Made e X w v wr.drew := ⟨h.own.drew, h.below.drew⟩
end Go.Proofs.YtdilkoogjkabfaaDoor
/- DiffTab -/
namespace Go.Proofs.YtdilkoogjkabfaaDoor
open Go.RowKit

theorem Tryd.infoI : (Tryd.prog.info? 74).map (fun i => (i.zero, i.size, i.bytes)) = some (some (.slice none 0 0), 1, 24) := by kernel_rfl
theorem Tryd.infoL : (Tryd.prog.info? 75).map (fun i => (i.zero, i.size, i.bytes)) = some (some (.slice none 0 0), 1, 24) := by kernel_rfl
/-- A part of a row. -/
def F.part (b o len k : Nat) : Value := .slice (some ⟨b, o + k * len, none⟩) len len
def F.parts (b o len k : Nat) : List Value := (List.range k).map (F.part b o len)
theorem F.parts_succ (b o len k : Nat) : F.parts b o len (k + 1) = F.parts b o len k ++ [F.part b o len k] := by
  unfold F.parts; rw [List.range_succ, List.map_append]; rfl
theorem F.parts_len (b o len k : Nat) : (F.parts b o len k).length = k := by simp [F.parts]
theorem F.parts_at {b o len k j : Nat} (h : j < k) : (F.parts b o len k)[j]? = some (F.part b o len j) := by simp [F.parts, h]
/-- What cut answers. -/
def F.CutEnd (e : TypeId) (b o len cnt : Nat) (w : World) (x : Ending) (w' : World) : Prop := ∃ v, x = .returned v ∧ V.Made e (F.parts b o len cnt) w v w'
set_option maxRecDepth 100000 in
set_option maxHeartbeats 2000000 in
theorem cutI_any (b o len cnt cap : Nat) (w : World) (hl : 1 ≤ len) (hlen : len ≤ 1000000000) (hcn : cnt ≤ 1000000000) (hn : cnt * len ≤ cap) (hc : cnt * len ≤ 1000000000) :
    Calls Tryd.prog 48 #[.slice (some ⟨b, o, none⟩) (cnt * len) cap, .int .i64 (len : Int)] w (F.CutEnd 74 b o len cnt w) := by
  obtain ⟨i0, hi, hz0, hz1, hz2⟩ := info_parts Tryd.infoI
  have HI := Lib.hid (And.intro hi (And.intro hz0 (And.intro hz1 hz2)))
  clear hi hz0 hz1 hz2
  obtain ⟨n, hN⟩ : ∃ n, n = cnt * len := ⟨_, rfl⟩
  rw [← hN] at hn hc ⊢
  have HN := Lib.hid hN
  clear hN
  go_enter Tryd.func48, Tryd.ntmps48
  go_wp2
  go_loopw [5, 6] (fun v i wr => ∃ k p : Nat, k ≤ cnt ∧ p ≤ n ∧ Hid (p = k * len) ∧ i = .int .i64 (p : Int) ∧ Hid (V.Made 74 (F.parts b o len k) w v wr)) (fun _ i _ => n - (intOf i).toNat)
  case atStart => exact ⟨0, 0, Nat.zero_le _, Nat.zero_le _, by show 0 = 0 * len; rw [Nat.zero_mul], rfl, V.Made.nil _ _ (Below.refl _ _)⟩
  case round =>
    obtain ⟨k, p, hk, hp, hpk, rfl, hx⟩ := hrel
    by_cases hlt : p < n
    · have hk1 : k < cnt := by
        rcases Nat.lt_or_ge k cnt with c | c
        · exact c
        · have : k = cnt := by omega
          subst this; have := hpk.out; have := HN.out; omega
      obtain ⟨q, hq⟩ : ∃ q, q = p + len := ⟨_, rfl⟩
      have hq1 : (p : Int) + (len : Int) = (q : Int) := by omega
      have hq2 : Hid (q = (k + 1) * len) := by show _ = _; rw [hq, hpk.out, Nat.succ_mul]
      have hqn : q ≤ n := by
        have := hq2.out; have h2 := HN.out
        rw [this, h2]; exact Nat.mul_le_mul_right _ hk1
      obtain ⟨z, hz⟩ : ∃ z, Hid (o + k * len = z) := ⟨_, rfl⟩
      have HP : Hid (F.part b o len k = .slice (some ⟨b, z, none⟩) len len) := by show _ = _; unfold F.part; rw [hz.out]
      have hsl : ∀ W, (Instr.slice 74 (.slice (some ⟨b, o, none⟩) n cap) (some (.int .i64 (p : Int))) (some (.int .i64 (q : Int))) (some (.int .i64 (q : Int)))).run Tryd.prog W = .ok (.slice (some ⟨b, z, none⟩) len len) W := fun W => by
        have := run_slice_lhm (P := Tryd.prog) W 74 (some ⟨b, o, none⟩) n cap Tryd.underlying74 .i64 .i64 .i64 (p : Int) (q : Int) (q : Int) (by omega) (by omega) (by omega) (by omega)
        rw [this]
        have hs : (sizeOf (Tryd.prog.elem 74)).run Tryd.prog W = .ok 1 W := by kernel_rfl
        rw [hs]
        simp only [Result.andThen, sliced, Int.toNat_natCast]
        by_cases c : q = p
        · omega
        · rw [if_neg c, hq, ← hz.out, ← hpk.out]
          simp [Addr.add]
      obtain ⟨X, hX⟩ : ∃ X, Hid (F.parts b o len k = X) := ⟨_, rfl⟩
      have hXl : X.length = k := by rw [← hX.out, F.parts_len]
      rw [hX.out] at hx
      obtain ⟨ao, c, rfl⟩ := hx.out.slice
      have HX := Lib.hid (hx.out.below)
      have hXb : X.length ≤ 1000000000 := by omega
      have R : Hid (∀ Z v' w', Hid (Z = X ++ [.slice (some ⟨b, z, none⟩) len len]) → w'.ownsRow w.heap.size 74 1 v' Z.length Z → wr.grownBy w' (Value.slice ao X.length c).ownBlock → V.Made 74 (F.parts b o len (k + 1)) w v' w') := fun Z v' w' hZ h1 h2 => by
        have e : F.parts b o len (k + 1) = Z := by rw [F.parts_succ, hX.out, hZ.out, HP.out]
        rw [e]
        exact hx.out.on h1 h2
      clear hXl hq hpk
      go_wp2_with (at_builtin; refine V.append_one Tryd.underlying75 HI.out.1 HI.out.2.1 HI.out.2.2.1 HI.out.2.2.2 rfl (by decide) rfl _ _ rfl w.heap.size _ X rfl hx.out.own (.slice (some ⟨b, z, none⟩) len len) rfl 1 rfl ?a1 ?a2 ?_)
      case a1 => exact hXb
      case a2 => exact HX.out.size
      intro Z v' w' hZ h1 h2
      have R := Lib.hid (R.out Z v' w' hZ h1 h2)
      clear h1 h2 hZ hx
      go_wp2
      go_roundw
      case rel => exact ⟨k + 1, q, hk1, hqn, hq2, rfl, R⟩
      case measure => simp [intOf]; omega
    · have e : k = cnt := by
        have h1 : k * len = cnt * len := by have := hpk.out; have h2 := HN.out; omega
        exact Nat.eq_of_mul_eq_mul_right (by omega) h1
      have R : Hid (F.CutEnd 74 b o len cnt w (.returned u5) wr) := ⟨_, rfl, e ▸ hx.out⟩
      clear hx e
      go_wp2
      go_ret
      exact R.out
set_option maxRecDepth 100000 in
set_option maxHeartbeats 2000000 in
theorem cutL_any (b o len cnt cap : Nat) (w : World) (hl : 1 ≤ len) (hlen : len ≤ 1000000000) (hcn : cnt ≤ 1000000000) (hn : cnt * len ≤ cap) (hc : cnt * len ≤ 1000000000) :
    Calls Tryd.prog 47 #[.slice (some ⟨b, o, none⟩) (cnt * len) cap, .int .i64 (len : Int)] w (F.CutEnd 75 b o len cnt w) := by
  obtain ⟨i0, hi, hz0, hz1, hz2⟩ := info_parts Tryd.infoL
  have HI := Lib.hid (And.intro hi (And.intro hz0 (And.intro hz1 hz2)))
  clear hi hz0 hz1 hz2
  obtain ⟨n, hN⟩ : ∃ n, n = cnt * len := ⟨_, rfl⟩
  rw [← hN] at hn hc ⊢
  have HN := Lib.hid hN
  clear hN
  go_enter Tryd.func47, Tryd.ntmps47
  go_wp2
  go_loopw [5, 6] (fun v i wr => ∃ k p : Nat, k ≤ cnt ∧ p ≤ n ∧ Hid (p = k * len) ∧ i = .int .i64 (p : Int) ∧ Hid (V.Made 75 (F.parts b o len k) w v wr)) (fun _ i _ => n - (intOf i).toNat)
  case atStart => exact ⟨0, 0, Nat.zero_le _, Nat.zero_le _, by show 0 = 0 * len; rw [Nat.zero_mul], rfl, V.Made.nil _ _ (Below.refl _ _)⟩
  case round =>
    obtain ⟨k, p, hk, hp, hpk, rfl, hx⟩ := hrel
    by_cases hlt : p < n
    · have hk1 : k < cnt := by
        rcases Nat.lt_or_ge k cnt with c | c
        · exact c
        · have : k = cnt := by omega
          subst this; have := hpk.out; have := HN.out; omega
      obtain ⟨q, hq⟩ : ∃ q, q = p + len := ⟨_, rfl⟩
      have hq1 : (p : Int) + (len : Int) = (q : Int) := by omega
      have hq2 : Hid (q = (k + 1) * len) := by show _ = _; rw [hq, hpk.out, Nat.succ_mul]
      have hqn : q ≤ n := by
        have := hq2.out; have h2 := HN.out
        rw [this, h2]; exact Nat.mul_le_mul_right _ hk1
      obtain ⟨z, hz⟩ : ∃ z, Hid (o + k * len = z) := ⟨_, rfl⟩
      have HP : Hid (F.part b o len k = .slice (some ⟨b, z, none⟩) len len) := by show _ = _; unfold F.part; rw [hz.out]
      have hsl : ∀ W, (Instr.slice 75 (.slice (some ⟨b, o, none⟩) n cap) (some (.int .i64 (p : Int))) (some (.int .i64 (q : Int))) (some (.int .i64 (q : Int)))).run Tryd.prog W = .ok (.slice (some ⟨b, z, none⟩) len len) W := fun W => by
        have := run_slice_lhm (P := Tryd.prog) W 75 (some ⟨b, o, none⟩) n cap Tryd.underlying75 .i64 .i64 .i64 (p : Int) (q : Int) (q : Int) (by omega) (by omega) (by omega) (by omega)
        rw [this]
        have hs : (sizeOf (Tryd.prog.elem 75)).run Tryd.prog W = .ok 1 W := by kernel_rfl
        rw [hs]
        simp only [Result.andThen, sliced, Int.toNat_natCast]
        by_cases c : q = p
        · omega
        · rw [if_neg c, hq, ← hz.out, ← hpk.out]
          simp [Addr.add]
      obtain ⟨X, hX⟩ : ∃ X, Hid (F.parts b o len k = X) := ⟨_, rfl⟩
      have hXl : X.length = k := by rw [← hX.out, F.parts_len]
      rw [hX.out] at hx
      obtain ⟨ao, c, rfl⟩ := hx.out.slice
      have HX := Lib.hid (hx.out.below)
      have hXb : X.length ≤ 1000000000 := by omega
      have R : Hid (∀ Z v' w', Hid (Z = X ++ [.slice (some ⟨b, z, none⟩) len len]) → w'.ownsRow w.heap.size 75 1 v' Z.length Z → wr.grownBy w' (Value.slice ao X.length c).ownBlock → V.Made 75 (F.parts b o len (k + 1)) w v' w') := fun Z v' w' hZ h1 h2 => by
        have e : F.parts b o len (k + 1) = Z := by rw [F.parts_succ, hX.out, hZ.out, HP.out]
        rw [e]
        exact hx.out.on h1 h2
      clear hXl hq hpk
      go_wp2_with (at_builtin; refine V.append_one Tryd.underlying67 HI.out.1 HI.out.2.1 HI.out.2.2.1 HI.out.2.2.2 rfl (by decide) rfl _ _ rfl w.heap.size _ X rfl hx.out.own (.slice (some ⟨b, z, none⟩) len len) rfl 1 rfl ?a1 ?a2 ?_)
      case a1 => exact hXb
      case a2 => exact HX.out.size
      intro Z v' w' hZ h1 h2
      have R := Lib.hid (R.out Z v' w' hZ h1 h2)
      clear h1 h2 hZ hx
      go_wp2
      go_roundw
      case rel => exact ⟨k + 1, q, hk1, hqn, hq2, rfl, R⟩
      case measure => simp [intOf]; omega
    · have e : k = cnt := by
        have h1 : k * len = cnt * len := by have := hpk.out; have h2 := HN.out; omega
        exact Nat.eq_of_mul_eq_mul_right (by omega) h1
      have R : Hid (F.CutEnd 75 b o len cnt w (.returned u5) wr) := ⟨_, rfl, e ▸ hx.out⟩
      clear hx e
      go_wp2
      go_ret
      exact R.out

/-! ### The table -/
theorem V.own_some {W : World} {base : Nat} {e : TypeId} {v : Value} {l : List Value} (h : W.ownsRow base e 1 v l.length l) (h0 : l ≠ []) : ∃ g cap, v = .slice (some ⟨g, 0, none⟩) l.length cap ∧ base ≤ g ∧ g < W.heap.size ∧ l.length ≤ cap ∧ ∀ i x, l[i]? = some x → W.cell? ⟨g, i, none⟩ = some x := by
  obtain ⟨hl, ⟨rfl, h0'⟩ | ⟨g, cap, cur, rfl, hb, hg, hnc, hcm, hcs, ht⟩⟩ := h
  · exact absurd (List.length_eq_zero_iff.1 (by rw [h0'])) h0
  · refine ⟨g, cap, rfl, hb, (Array.getElem?_eq_some_iff.1 hg).1, hnc, fun i x hx => ?_⟩
    have hi := (List.getElem?_eq_some_iff.1 hx).1
    have hu := hx
    rw [← ht, List.getElem?_take, if_pos (by omega)] at hu
    rw [cell_of_row W g _ cur _ _ hg]
    simpa using hu
/-- The place of a cost. -/
def F.ix (r c k i j : Nat) : Nat := (k * r + i) * c + j
theorem F.ix_lt {r c k i j : Nat} (hk : k < 4) (hi : i < r) (hj : j < c) : F.ix r c k i j < 4 * r * c := by
  unfold F.ix
  have h1 : k * r + i + 1 ≤ 4 * r := by
    have : (k + 1) * r ≤ 4 * r := Nat.mul_le_mul_right _ hk
    rw [Nat.succ_mul] at this; omega
  have h2 : (k * r + i + 1) * c ≤ 4 * r * c := Nat.mul_le_mul_right _ h1
  rw [Nat.succ_mul] at h2; omega
theorem F.ix_inj {r c k i j k' i' j' : Nat} (hi : i < r) (hj : j < c) (hi' : i' < r) (hj' : j' < c) (h : F.ix r c k i j = F.ix r c k' i' j') : k = k' ∧ i = i' ∧ j = j' := by
  unfold F.ix at h
  have e1 : ∀ a x, x < c → (a * c + x) / c = a := fun a x hx => by rw [Nat.mul_comm, Nat.mul_add_div (by omega), Nat.div_eq_of_lt hx, Nat.add_zero]
  have e2 : ∀ a x, x < r → (a * r + x) / r = a := fun a x hx => by rw [Nat.mul_comm, Nat.mul_add_div (by omega), Nat.div_eq_of_lt hx, Nat.add_zero]
  have h1 : k * r + i = k' * r + i' := (e1 (k * r + i) j hj).symm.trans ((congrArg (· / c) h).trans (e1 (k' * r + i') j' hj'))
  have h2 : k = k' := (e2 k i hi).symm.trans ((congrArg (· / r) h1).trans (e2 k' i' hi'))
  subst h2
  refine ⟨rfl, by omega, ?_⟩
  rw [h1] at h; omega
/-- The table lies in memory: G is what its cells hold. -/
structure F.Tbl (r c : Nat) (G : Nat → Int) (g2 g1 b : Nat) (W : World) : Prop where
  top : ∀ k, k < 4 → W.cell? ⟨g2, k, none⟩ = some (.slice (some ⟨g1, k * r, none⟩) r r)
  mid : ∀ i, i < 4 * r → W.cell? ⟨g1, i, none⟩ = some (.slice (some ⟨b, i * c, none⟩) c c)
  cells : ∀ j, j < 4 * r * c → W.cell? ⟨b, j, none⟩ = some (.int .i64 (G j))
  free : ∀ j, W.frozen? ⟨b, j, none⟩ = false
  ne1 : b ≠ g1
  ne2 : b ≠ g2
  l0 : b < W.heap.size
  l1 : g1 < W.heap.size
  l2 : g2 < W.heap.size
theorem F.Tbl.below {r c : Nat} {G : Nat → Int} {g2 g1 b : Nat} {W W' : World} (h : F.Tbl r c G g2 g1 b W) (hb : Below W.heap.size W W') : F.Tbl r c G g2 g1 b W' :=
  ⟨fun k hk => (hb.cell (p := ⟨g2, k, none⟩) h.l2).trans (h.top k hk), fun i hi => (hb.cell (p := ⟨g1, i, none⟩) h.l1).trans (h.mid i hi), fun j hj => (hb.cell (p := ⟨b, j, none⟩) h.l0).trans (h.cells j hj),
    fun j => (hb.frozen (p := ⟨b, j, none⟩) h.l0).trans (h.free j), h.ne1, h.ne2, Nat.lt_of_lt_of_le h.l0 hb.size, Nat.lt_of_lt_of_le h.l1 hb.size, Nat.lt_of_lt_of_le h.l2 hb.size⟩
theorem F.Tbl.at {r c : Nat} {G : Nat → Int} {g2 g1 b : Nat} {W : World} (h : F.Tbl r c G g2 g1 b W) {k i j : Nat} (hk : k < 4) (hi : i < r) (hj : j < c) :
    ∃ p q, W.cell? ⟨g2, k, none⟩ = some (.slice (some ⟨g1, p, none⟩) r r) ∧ W.cell? ⟨g1, p + i, none⟩ = some (.slice (some ⟨b, q, none⟩) c c) ∧ W.cell? ⟨b, q + j, none⟩ = some (.int .i64 (G (F.ix r c k i j))) ∧ q + j = F.ix r c k i j := by
  refine ⟨k * r, (k * r + i) * c, h.top k hk, h.mid _ ?_, h.cells _ (F.ix_lt hk hi hj), rfl⟩
  have : (k + 1) * r ≤ 4 * r := Nat.mul_le_mul_right _ hk
  rw [Nat.succ_mul] at this; omega
/-- What newTable answers. -/
def F.NewEnd (r c : Nat) (w : World) (e : Ending) (w' : World) : Prop :=
  ∃ g2 g1 b cap, e = .returned (.slice (some ⟨g2, 0, none⟩) 4 cap) ∧ F.Tbl r c (fun _ => 0) g2 g1 b w' ∧ Below w.heap.size w w' ∧ w.heap.size ≤ b
set_option maxRecDepth 100000 in
set_option maxHeartbeats 2000000 in
theorem newTable_any (r c : Nat) (w : World) (r1 : 1 ≤ r) (r2 : r ≤ 1025) (c1 : 1 ≤ c) (c2 : c ≤ 1025) :
    Calls Tryd.prog 45 #[.int .i64 (r : Int), .int .i64 (c : Int)] w (F.NewEnd r c w) := by
  obtain ⟨q, hq⟩ : ∃ q, q = 4 * r := ⟨_, rfl⟩
  obtain ⟨n, hn⟩ : ∃ n, n = q * c := ⟨_, rfl⟩
  have hq1 : (4 : Int) * (r : Int) = (q : Int) := by omega
  have hn1 : (q : Int) * (c : Int) = (n : Int) := by rw [hn]; exact (Int.natCast_mul q c).symm
  have q2 : q ≤ 4100 := by omega
  have n2 : n ≤ 4202500 := by rw [hn]; exact Nat.mul_le_mul q2 c2
  have hmk := run_make_row' (P := Tryd.prog) 74 3 (.int .i64 0) 8 Tryd.underlying74 (by kernel_rfl) rfl .i64 .i64 n (by omega) (by omega)
  have H1 : Hid (∀ b W, Calls Tryd.prog 48 #[.slice (some ⟨b, 0, none⟩) n n, .int .i64 (c : Int)] W (F.CutEnd 74 b 0 c q W)) := fun b W => by
    have := cutI_any b 0 c q n W c1 (by omega) (by omega) (by omega) (by omega)
    rwa [← hn] at this
  have H2 : Hid (∀ b cap W, q ≤ cap → Calls Tryd.prog 47 #[.slice (some ⟨b, 0, none⟩) q cap, .int .i64 (r : Int)] W (F.CutEnd 75 b 0 r 4 W)) := fun b cap W hc => by
    have := cutL_any b 0 r 4 cap W r1 (by omega) (by omega) (by omega) (by omega)
    rwa [← hq] at this
  have HN := Lib.hid hn
  have HQ := Lib.hid hq
  have hq0 : 0 < q := by omega
  clear hq hn
  go_enter Tryd.func45, Tryd.ntmps45
  go_wp2_with fail
  refine (H1.out _ _).mono ?_
  rintro e w1 ⟨v, rfl, hm⟩
  obtain ⟨g1, k1, hv, hg1, hl1, hk1, hc1⟩ := V.own_some hm.own (by intro h; have := congrArg List.length h; rw [F.parts_len, List.length_nil] at this; omega)
  rw [F.parts_len] at hv hk1
  have B1 := Lib.hid hm.below
  have C1 := Lib.hid hc1
  subst hv
  clear hm hc1 H1
  have hg1 := Lib.hid hg1
  have hl1 := Lib.hid hl1
  go_wp2_with fail
  refine (H2.out _ _ _ hk1).mono ?_
  rintro e w2 ⟨v, rfl, hm⟩
  obtain ⟨g2, k2, hv, hg2, hl2, hk2, hc2⟩ := V.own_some hm.own (by intro h; have := congrArg List.length h; rw [F.parts_len, List.length_nil] at this; omega)
  rw [F.parts_len] at hv
  have B2 := hm.below
  subst hv
  have hbk : w2.heap[w.heap.size]? = some (.cells (madeCells #[.int .i64 0] n) 3 (0, 0)) := by
    have z1 := B1.out.size
    have e1 := B1.out.block w.heap.size (by simp)
    have z2 : w.heap.size < w1.heap.size := by simp at z1; omega
    rw [B2.block w.heap.size z2, e1]
    exact heap_alloc_new w _
  have hsz : w.heap.size < w1.heap.size := by have z1 := B1.out.size; simp at z1; omega
  have R : F.NewEnd r c w (.returned (.slice (some ⟨g2, 0, none⟩) 4 k2)) w2 := by
    refine ⟨g2, g1, w.heap.size, k2, rfl, ⟨fun k hk => ?_, fun i hi => ?_, fun j hj => ?_, fun j => frozen_of_row _ _ _ _ _ hbk, ?_, ?_, ?_, ?_, hl2⟩, ?_, Nat.le_refl _⟩
    · have := hc2 k _ (F.parts_at hk)
      unfold F.part at this
      rwa [Nat.zero_add] at this
    · have := C1.out i _ (F.parts_at (by rw [HQ.out]; exact hi))
      unfold F.part at this
      rw [Nat.zero_add] at this
      exact (B2.cell (p := ⟨g1, i, none⟩) hl1.out).trans this
    · rw [Lib.cell_of_heap hbk, ← Array.getElem?_toList, toList_madeCells_one, List.getElem?_replicate, if_pos (by rw [HN.out, HQ.out]; exact hj)]
    · have := hg1.out; simp at this; omega
    · omega
    · have := B2.size; omega
    · have := B2.size; have := hl1.out; omega
    · exact ((Below.refl _ w).alloc (Nat.le_refl _) _).trans ((B1.out.mono (by simp)).trans (B2.mono (by omega)))
  have R := Lib.hid R
  clear hm hc2 B2 hbk hsz hg2 hl2 hk2
  go_wp2
  go_ret
  exact R.out
/-! ### first -/
/-- The first of three kinds whose cost is the least. -/
def F.fs3 (v0 v1 v2 : Int) : Nat := if v1 = v0 then 1 else if v2 = v0 then 2 else 3
set_option maxRecDepth 100000 in
set_option maxHeartbeats 4000000 in
theorem first_any (r c i j cap : Nat) (G : Nat → Int) (g2 g1 b : Nat) (w : World) (hi : i < r) (hj : j < c) (_r2 : r ≤ 1025) (_c2 : c ≤ 1025) (T : F.Tbl r c G g2 g1 b w) :
    Calls Tryd.prog 41 #[.slice (some ⟨g2, 0, none⟩) 4 cap, .int .i64 (i : Int), .int .i64 (j : Int)] w fun e w' =>
      e = .returned (.int .u8 (F.fs3 (G (F.ix r c 0 i j)) (G (F.ix r c 1 i j)) (G (F.ix r c 2 i j)) : Nat)) ∧ Below w.heap.size w w' := by
  obtain ⟨p0, q0, t00, t01, t02, e0⟩ := T.at (show 0 < 4 by omega) hi hj
  obtain ⟨p1, q1, t10, t11, t12, e1⟩ := T.at (show 1 < 4 by omega) hi hj
  obtain ⟨p2, q2, t20, t21, t22, e2⟩ := T.at (show 2 < 4 by omega) hi hj
  clear e0 e1 e2
  generalize G (F.ix r c 0 i j) = v0 at *
  generalize G (F.ix r c 1 i j) = v1 at *
  generalize G (F.ix r c 2 i j) = v2 at *
  have l0 := T.l0
  have l1 := T.l1
  have l2 := T.l2
  obtain ⟨W0, hW0⟩ : ∃ W0, Hid (W0 = w.alloc (.cells #[.int .u8 1, .int .u8 2] 5)) := ⟨_, rfl⟩
  have CC : Hid (∀ W, Below W0.heap.size W0 W → W.cell? ⟨w.heap.size, 0, none⟩ = some (.int .u8 1) ∧ W.cell? ⟨w.heap.size, 1, none⟩ = some (.int .u8 2) ∧
      (W.cell? ⟨g2, 0, none⟩ = some (.slice (some ⟨g1, p0, none⟩) r r) ∧ W.cell? ⟨g1, p0 + i, none⟩ = some (.slice (some ⟨b, q0, none⟩) c c) ∧ W.cell? ⟨b, q0 + j, none⟩ = some (.int .i64 v0)) ∧
      (W.cell? ⟨g2, 1, none⟩ = some (.slice (some ⟨g1, p1, none⟩) r r) ∧ W.cell? ⟨g1, p1 + i, none⟩ = some (.slice (some ⟨b, q1, none⟩) c c) ∧ W.cell? ⟨b, q1 + j, none⟩ = some (.int .i64 v1)) ∧
      (W.cell? ⟨g2, 2, none⟩ = some (.slice (some ⟨g1, p2, none⟩) r r) ∧ W.cell? ⟨g1, p2 + i, none⟩ = some (.slice (some ⟨b, q2, none⟩) c c) ∧ W.cell? ⟨b, q2 + j, none⟩ = some (.int .i64 v2))) := fun W hb => by
    have hb0 : Below w.heap.size w W := by
      rw [hW0.out] at hb
      exact ((Below.refl _ w).alloc (Nat.le_refl _) _).trans (hb.mono (by simp))
    have hnew : ∀ o u, (#[.int .u8 1, .int .u8 2] : Array Value)[o]? = some u → W.cell? ⟨w.heap.size, o, none⟩ = some u := fun o u hu => by
      rw [hW0.out] at hb
      rw [hb.cell (p := ⟨w.heap.size, o, none⟩) (by simp), Lib.cell_of_heap (heap_alloc_new w _)]
      exact hu
    have old : ∀ x o u, x < w.heap.size → w.cell? ⟨x, o, none⟩ = some u → W.cell? ⟨x, o, none⟩ = some u := fun x o u hx hc => (hb0.cell (p := ⟨x, o, none⟩) hx).trans hc
    exact ⟨hnew 0 _ rfl, hnew 1 _ rfl, ⟨old _ _ _ l2 t00, old _ _ _ l1 t01, old _ _ _ l0 t02⟩, ⟨old _ _ _ l2 t10, old _ _ _ l1 t11, old _ _ _ l0 t12⟩, ⟨old _ _ _ l2 t20, old _ _ _ l1 t21, old _ _ _ l0 t22⟩⟩
  have R : Hid (∀ W x, Below W0.heap.size W0 W → x = F.fs3 v0 v1 v2 → Ending.returned (.int .u8 (x : Int)) = Ending.returned (.int .u8 (F.fs3 v0 v1 v2 : Nat)) ∧ Below w.heap.size w W) := fun W x hb e => ⟨by rw [e], by
    rw [hW0.out] at hb
    exact ((Below.refl _ w).alloc (Nat.le_refl _) _).trans (hb.mono (by simp))⟩
  have hB0 : Hid (Below W0.heap.size W0 (w.alloc (.cells #[.int .u8 1, .int .u8 2] 5))) := by
    show Below _ _ _
    rw [← hW0.out]; exact Below.refl _ _
  have HG : Hid (w.heap.size = w.heap.size) := rfl
  clear t00 t01 t02 t10 t11 t12 t20 t21 t22 T l0 l1 l2
  go_enter Tryd.func41, Tryd.ntmps41
  go_wp2
  go_loopw [11] (fun x wr => ∃ k : Nat, k ≤ 2 ∧ x = .int .i64 (k : Int) ∧ Hid (1 ≤ k → v1 ≠ v0) ∧ Hid (2 ≤ k → v2 ≠ v0) ∧ Hid (Below W0.heap.size W0 wr)) (fun x _ => 2 - (intOf x).toNat)
  case atStart => exact ⟨0, by omega, rfl, fun h => absurd h (by omega), fun h => absurd h (by omega), hB0⟩
  case round =>
    obtain ⟨k, hk, rfl, hx1, hx2, hb⟩ := hrel
    obtain ⟨c0, c1, ⟨a0, a1, a2⟩, ⟨b0, b1, b2⟩, ⟨d0, d1, d2⟩⟩ := CC.out wr hb.out
    rcases (by omega : k = 0 ∨ k = 1 ∨ k = 2) with rfl | rfl | rfl
    · clear d0 d1 d2 hx1 hx2
      go_wp2
      go_quiet (fail)
      go_wp2
      · have e : v1 = v0 := by simpa using ‹(v1 == v0) = true›
        go_ret
        exact R.out _ 1 (below_drewN hb.out _) (by unfold F.fs3; rw [if_pos e])
      · have e : ¬ v1 = v0 := by simpa using ‹(v1 == v0) = false›
        go_roundw
        case rel => exact ⟨1, by omega, rfl, fun _ => e, fun h => absurd h (by omega), below_drewN hb.out _⟩
        case measure => simp [intOf]
    · have e1 := hx1.out (by omega)
      have e1 := Lib.hid e1
      clear b0 b1 b2 hx1 hx2
      go_wp2
      go_quiet (fail)
      go_wp2
      · have e : v2 = v0 := by simpa using ‹(v2 == v0) = true›
        go_ret
        exact R.out _ 2 (below_drewN hb.out _) (by unfold F.fs3; rw [if_neg e1.out, if_pos e])
      · have e : ¬ v2 = v0 := by simpa using ‹(v2 == v0) = false›
        go_roundw
        case rel => exact ⟨2, by omega, rfl, fun _ => e1.out, fun _ => e, below_drewN hb.out _⟩
        case measure => simp [intOf]
    · have e := Lib.hid (R.out wr 3 hb.out (by unfold F.fs3; rw [if_neg (hx1.out (by omega)), if_neg (hx2.out (by omega))]))
      go_wp2
      go_ret
      exact e.out
end Go.Proofs.YtdilkoogjkabfaaDoor
