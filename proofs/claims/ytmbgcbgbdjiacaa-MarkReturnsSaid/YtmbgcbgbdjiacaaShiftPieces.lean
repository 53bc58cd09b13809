/- The contracts of package shift's iterators: pieces, swapped. -/
import Derived.Test.YtmbgcbgbdjiacaaPackDIter
import Derived.Test.YtmbgcbgbdjiacaaPackMath
import Derived.Test.YtmbgcbgbdjiacaaPackRef
import Derived.Test.YtmbgcbgbdjiacaaPackEqv
import Derived.Shelf.Abstract
import Derived.Shelf.RegionOpen
import Derived.WalkKit
import Derived.OwnWalkIn
import Derived.TacticsInMore
import Derived.LoopNIn
import Derived.LoopIn
namespace Go.Proofs.Ytmbgcbgbdjiacaa
open Go.RowKit Go.Shelf
attribute [local go_sem] Oper.semAt_some

def S.span (u v : Nat) : Value := .agg #[.int .i64 u, .int .i64 v]
def S.encs (x : D.S4) : Array Value := #[.agg #[.int .i64 x.a, .int .i64 x.b], .agg #[.int .i64 x.c, .int .i64 x.d]]
/-- A range that lies in a box. -/
def S.Box (W : World) (b : Nat) (u v : Int) : Prop := W.heap[b]? = some (.cells #[.int .i64 u, .int .i64 v] 132 (0, 0))
theorem S.Box.cells {W : World} {b : Nat} {u v : Int} (h : S.Box W b u v) : W.cell? ⟨b, 0, none⟩ = some (.int .i64 u) ∧ W.cell? ⟨b, 1, none⟩ = some (.int .i64 v) ∧ ∀ i, W.frozen? ⟨b, i, none⟩ = false :=
  ⟨Lib.cell_of_heap h 0, Lib.cell_of_heap h 1, fun _ => frozen_of_row _ _ _ _ _ h⟩
theorem S.Box.set0 {W : World} {b : Nat} {u v : Int} (u' : Int) (h : S.Box W b u v) : S.Box (W.setCell ⟨b, 0, none⟩ (.int .i64 u')) b u' v := by
  obtain ⟨hlt, hk⟩ := Array.getElem?_eq_some_iff.1 h
  show (W.heap.modify b _)[b]? = _
  rw [Array.getElem?_eq_getElem (by rw [Array.size_modify]; exact hlt), Array.getElem_modify_self, hk]
  rfl
theorem S.Box.set1 {W : World} {b : Nat} {u v : Int} (v' : Int) (h : S.Box W b u v) : S.Box (W.setCell ⟨b, 1, none⟩ (.int .i64 v')) b u v' := by
  obtain ⟨hlt, hk⟩ := Array.getElem?_eq_some_iff.1 h
  show (W.heap.modify b _)[b]? = _
  rw [Array.getElem?_eq_getElem (by rw [Array.size_modify]; exact hlt), Array.getElem_modify_self, hk]
  rfl
theorem S.Box.far {W : World} {b b' o : Nat} {u v : Int} (h : S.Box W b u v) (hne : b ≠ b') (x : Value) : S.Box (W.setCell ⟨b', o, none⟩ x) b u v :=
  (Below.heap_setCell W ⟨b', o, none⟩ x b hne).trans h
theorem S.Box.lt {W : World} {b : Nat} {u v : Int} (h : S.Box W b u v) : b < W.heap.size := (Array.getElem?_eq_some_iff.1 h).1
theorem S.Box.alloc {W : World} {b : Nat} {u v : Int} (h : S.Box W b u v) (o : Obj) : S.Box (W.alloc o) b u v := (Below.heap_alloc W o b h.lt).trans h
theorem S.Box.but {R : Nat → Prop} {W W' : World} {b : Nat} {u v : Int} (h : S.Box W b u v) (hb : It.But R W W') (hr : ¬ R b) : S.Box W' b u v := hb.same b _ hr h
theorem S.row_but {R : Nat → Prop} {W W' : World} {ao : Option Addr} {l : List D.P} (h : D.Row W ao l) (hb : It.But R W W') (hr' : ∀ b o, ao = some ⟨b, o, none⟩ → l ≠ [] → ¬ R b) : D.Row W' ao l := fun i p hp => by
  obtain ⟨b, o, e, hlt, h0, h1, h2⟩ := h i p hp
  have hr : ∀ b o, ao = some ⟨b, o, none⟩ → ¬ R b := fun b o e => hr' b o e (fun e => by rw [e] at hp; cases hp)
  exact ⟨b, o, e, Nat.lt_of_lt_of_le hlt hb.size, (hb.cell (hr _ _ e) hlt).trans h0, (hb.cell (hr _ _ e) hlt).trans h1, (hb.cell (hr _ _ e) hlt).trans h2⟩
theorem S.lt_of_cell {w : World} {b o : Nat} {v : Value} (h : w.cell? ⟨b, o, none⟩ = some v) : b < w.heap.size := by
  unfold World.cell? at h
  cases ho : w.heap[b]? with
  | none => simp [ho] at h
  | some x => exact (Array.getElem?_eq_some_iff.1 ho).1
/-- Both ranges, set anew. -/
def S.W4 (w : World) (x y : Nat) (a b c d : Int) : World := (((w.setCell ⟨x, 0, none⟩ (.int .i64 a)).setCell ⟨x, 1, none⟩ (.int .i64 b)).setCell ⟨y, 0, none⟩ (.int .i64 c)).setCell ⟨y, 1, none⟩ (.int .i64 d)
theorem S.w4 {w : World} {x y : Nat} {u u' v v' : Int} (hx : S.Box w x u u') (hy : S.Box w y v v') (hne : x ≠ y) (a b c d : Int) : S.Box (S.W4 w x y a b c d) x a b ∧ S.Box (S.W4 w x y a b c d) y c d :=
  ⟨((((hx.set0 a).set1 b).far hne _).far hne _), ((((hy.far (Ne.symm hne) _).far (Ne.symm hne) _).set0 c).set1 d)⟩
theorem S.w4_but {R : Nat → Prop} {W w : World} {x y : Nat} (h : It.But R W w) (hx : W.heap.size ≤ x) (hy : W.heap.size ≤ y) (a b c d : Int) : It.But R W (S.W4 w x y a b c d) := (((h.set _ hx).set _ hx).set _ hy).set _ hy
theorem S.w4_stable {β : Type} {B : Nat} {J : β → World → Prop} (h : It.Stable B J) {s : β} {w : World} {x y : Nat} (hs : J s w) (hx : B ≤ x) (hy : B ≤ y) (a b c d : Int) : J s (S.W4 w x y a b c d) := h.set _ (h.set _ (h.set _ (h.set _ hs hx) hx) hy) hy
set_option maxHeartbeats 400000 in
theorem pieces_any (ao : Option Addr) (m cap : Nat) (w : World) :
    Calls Try.prog 65 #[.slice ao m cap] w fun e w' => e = .returned (.func (.func 95) #[] #[.pointer (some ⟨w.heap.size, 0, none⟩)]) ∧ w.alloc (.cells #[.slice ao m cap] 39) = w' := by
  go_enter Try.func65, Try.ntmps65
  go_wp2
  go_ret
  exact ⟨rfl, rfl⟩
set_option maxRecDepth 100000 in
set_option maxHeartbeats 2000000 in
theorem pieces1 (l Bd : Nat) (ao : Option Addr) (cap : Nat) (a : List D.Q) (R : Nat → Prop) (J Jx : List D.S4 → World → Prop) (Rx : Nat → Prop) (W : World) (hJ : It.Stable W.heap.size J)
    (hc : W.cell? ⟨Bd, 0, none⟩ = some (.slice ao a.length cap)) (hr : D.Row W ao (a.map D.raw)) (hRr : ∀ b o, ao = some ⟨b, o, none⟩ → a.map D.raw ≠ [] → ¬ R b) (hR : ∀ k, R k → k < W.heap.size) (hp : D.allPos a = true) (hi : D.inL a ≤ 1048576) (ho : D.outL a ≤ 1048576) (hl : a.length ≤ 4096)
    (hY : ∀ pre x t W1, D.spans 0 0 a = pre ++ x :: t → J pre W1 → YieldAt Fence.wide 1 Try.prog l (S.encs x) W1 fun e W' => (e = .returned (.bool true) ∧ J (pre ++ [x]) W' ∧ It.But R W1 W') ∨ (e = .returned (.bool false) ∧ Jx (pre ++ [x]) W' ∧ It.But Rx W1 W')) (h0 : J [] W) :
    Calls Try.prog 95 #[.func (.yield l) #[] #[], .pointer (some ⟨Bd, 0, none⟩)] W fun e W' => (∃ v, e = .returned v) ∧ (J (D.spans 0 0 a) W' ∨ ∃ pre, pre <+: D.spans 0 0 a ∧ Jx pre W') := by
  refine (callsIn_wide (n := 2)).1 (callsIn_of_wp Try.func95 rfl trivial ?_ rfl)
  simp only [Try.ntmps95, List.size_toArray, List.length_cons, List.length_nil, Nat.reduceAdd, Nat.reduceSub, Array.replicate_succ, Array.replicate_zero, List.push_toArray, List.append_toArray, List.nil_append, List.cons_append]
  have hBd : Bd < W.heap.size := S.lt_of_cell hc
  obtain ⟨L, hL⟩ : ∃ L, Hid (D.spans 0 0 a = L) := ⟨_, rfl⟩
  obtain ⟨M, hM⟩ : ∃ M, Hid (a.map D.raw = M) := ⟨_, rfl⟩
  obtain ⟨m, hm⟩ : ∃ m, Hid (a.length = m) := ⟨_, rfl⟩
  rw [hL.out] at hY ⊢
  rw [hM.out] at hr hRr
  rw [hm.out] at hc hl
  have HY := Lib.hid hY
  have HR := Lib.hid hR
  have Hr := Lib.hid hr
  have HRr := Lib.hid hRr
  have HJ := Lib.hid hJ
  have Hp := Lib.hid hp
  clear hY hR hr hRr hJ hp
  gi_wp2
  gi_loopw [9] (fun p wr => ∃ (pre : List D.S4) (r : List D.Q) (k i o : Nat) (u v : Int), p = .int .i64 k ∧ Hid (k + r.length = m) ∧ Hid (L = pre ++ D.spans i o r) ∧ Hid (a.drop k = r) ∧ k ≤ m ∧ i + D.inL r ≤ 1048576 ∧ o + D.outL r ≤ 1048576 ∧ Hid (J pre wr) ∧ Hid (It.But R W wr) ∧ S.Box wr W.heap.size u i ∧ S.Box wr (W.heap.size + 1) v o ∧ W.heap.size + 2 ≤ wr.heap.size) (fun p wr => m - (intOf p).toNat)
  case atStart =>
    refine ⟨[], a, 0, 0, 0, 0, 0, rfl, ?_, ?_, rfl, Nat.zero_le _, by omega, by omega, HJ.out.alloc _ (HJ.out.alloc _ h0), (It.But.refl R W).alloc _ |>.alloc _, ?_, ?_, by simp⟩
    · show 0 + a.length = m; rw [hm.out]; omega
    · show L = [] ++ _; rw [hL.out]; rfl
    · exact (Below.heap_alloc _ _ _ (by simp)).trans (World.alloc_heap_new W _)
    · have := World.alloc_heap_new (W.alloc (.cells #[.int .i64 0, .int .i64 0] 132)) (.cells #[.int .i64 0, .int .i64 0] 132)
      rwa [World.size_alloc] at this
  case round =>
    obtain ⟨pre, r, k, i, o, u, v, rfl, hk, hpre, hdr, hkm, hbi, hbo, hj, hbut, b0, b1, hsz⟩ := hrel
    by_cases hlt : k < m
    · cases r with
      | nil => have := hk.out; simp at this; omega
      | cons q r =>
        have hq : a[k]? = some q := by
          have := hdr.out
          rw [← List.head?_drop, this]; rfl
        have hMq : M[k]? = some (D.raw q) := by rw [← hM.out, List.getElem?_map, hq]; rfl
        obtain ⟨b, o', rfl, hbl, e0, e1, e2⟩ := S.row_but Hr.out hbut.out HRr.out k _ hMq
        obtain ⟨i0, i1, fi⟩ := b0.cells
        obtain ⟨o0, o1, fo⟩ := b1.cells
        have z0 : W.heap.size < wr.heap.size := by omega
        have z1 : W.heap.size + 1 < wr.heap.size := by omega
        have z2 : W.heap.size ≠ wr.heap.size := by omega
        have z3 : W.heap.size + 1 ≠ wr.heap.size := by omega
        have hdr' : Hid (a.drop (k + 1) = r) := by show _ = _; rw [← List.tail_drop, hdr.out]; rfl
        have hk' : Hid (k + 1 + r.length = m) := by have := hk.out; show _ = _; simp at this; omega
        have hm' : Hid (m - (k + 1) < m - k) := by show _ < _; omega
        clear hMq hq hdr hk
        cases q with
        | R n =>
          have hbi' : i + n + D.inL r ≤ 1048576 := by simp only [D.inL, D.in1] at hbi; omega
          have hbo' : o + n + D.outL r ≤ 1048576 := by simp only [D.outL, D.out1] at hbo; omega
          have hb1 : i + n ≤ 1048576 := by omega
          have hb2 : o + n ≤ 1048576 := by omega
          have hob : o ≤ 1048576 := by omega
          simp only [D.raw] at e0 e1 e2
          have hB1 := S.w4 b0 b1 (by omega) (i) ((i : Int) + n) (o) (o)
          have hB2 := S.w4_but hbut.out (Nat.le_refl _) (show W.heap.size ≤ W.heap.size + 1 by omega) (i) ((i : Int) + n) (o) (o)
          have hB3 := S.w4_stable HJ.out hj.out (Nat.le_refl _) (show W.heap.size ≤ W.heap.size + 1 by omega) (i) ((i : Int) + n) (o) (o)
          obtain ⟨WY, hWY⟩ : ∃ WY, Hid (((S.W4 wr W.heap.size (W.heap.size + 1) (i) ((i : Int) + n) (o) (o)).setCell ⟨W.heap.size + 1, 1, none⟩ (.int .i64 ((o : Int) + n))).alloc (.cells #[.int .u8 1, .int .i64 n, .string ⟨#[]⟩] 53) = WY) := ⟨_, rfl⟩
          have X0 : S.Box WY W.heap.size (i) ((i : Int) + n) := by rw [← hWY.out]; exact (hB1.1.far (by omega) _).alloc _
          have X1 : S.Box WY (W.heap.size + 1) (o) ((o : Int) + n) := by rw [← hWY.out]; exact (hB1.2.set1 _).alloc _
          have X2 : It.But R W WY := by rw [← hWY.out]; exact (hB2.set _ (by omega)).alloc _
          have X3 : J pre WY := by rw [← hWY.out]; exact HJ.out.alloc _ (HJ.out.set _ hB3 (by omega))
          have HN : Hid (L = (pre ++ [D.sp1 i o (.R n)]) ++ D.spans (i + n) (o + n) r) := by show _ = _; rw [hpre.out]; simp [D.spans, D.in1, D.out1]
          obtain ⟨fn, tmps, assign, body, hy, hR'⟩ := HY.out pre (D.sp1 i o (.R n)) (D.spans (i + n) (o + n) r) WY (by rw [HN.out]; simp) X3
          have HR2 := Lib.hid hR'
          have Hb := Lib.hid (And.intro X0 (And.intro X1 X2))
          have hW := hWY.out
          simp only [S.W4] at hW
          have HW := Lib.hid hW
          simp only [S.encs, D.sp1, Int.natCast_add] at hy
          obtain ⟨x0, x1, xf⟩ := X0.cells
          obtain ⟨y0, y1, yf⟩ := X1.cells
          clear hB1 hB2 hB3 hpre hj hbut b0 b1 hbi hbo X0 X1 X2 X3 hR' hW hWY
          iterate 140 (first | go_values | gi_guarded | gi_step | gi_upon | gi_back)
          rw [HW.out]
          clear HW i0 i1 fi o0 o1 fo e0 e1 e2 z0 z1 z2 z3 hsz
          gi_wp2
          refine HR2.out.mono ?_
          rintro e W3 (⟨rfl, hJ3, hk3⟩ | ⟨rfl, hJx3, _⟩)
          · obtain ⟨X0, X1, X2⟩ := Hb.out
            have Y0 := X0.but hk3 (fun h => by have := HR.out _ h; omega)
            have Y1 := X1.but hk3 (fun h => by have := HR.out _ h; omega)
            have Y2 := X2.trans hk3
            have YS := Lib.hid (And.intro (show W.heap.size + 2 ≤ W3.heap.size from Y1.lt) (And.intro Y0 (And.intro Y1 (And.intro Y2 hJ3))))
            clear hk3 hJ3 X0 X1 X2 Y0 Y1 Y2 x0 x1 xf y0 y1 yf
            gi_wp2
            go_roundw
            case rel => exact ⟨pre ++ [D.sp1 i o (.R n)], r, k + 1, i + n, o + n, i, o, by go_num, hk', HN, hdr', by omega, hbi', hbo', YS.out.2.2.2.2, YS.out.2.2.2.1, YS.out.2.1, YS.out.2.2.1, YS.out.1⟩
            case measure => simp [intOf]; exact hm'.out
          · have R := Lib.hid hJx3
            clear hJx3
            gi_wp2
            refine bodyPost_ret (results_none rfl _ _ _) rfl ?_
            exact ⟨⟨_, rfl⟩, .inr ⟨_, ⟨_, HN.out.symm⟩, R.out⟩⟩
        | I t =>
          have hbi' : i + D.inL r ≤ 1048576 := by simp only [D.inL, D.in1] at hbi; omega
          have hbo0 : o + t.length + D.outL r ≤ 1048576 := by simp only [D.outL, D.out1] at hbo; omega
          obtain ⟨z, hz⟩ : ∃ z, Hid (t.length = z) := ⟨_, rfl⟩
          have hbo' : o + z + D.outL r ≤ 1048576 := by rw [← hz.out]; exact hbo0
          have hb1 : i ≤ 1048576 := by omega
          have hb2 : o + z ≤ 1048576 := by omega
          simp only [D.raw] at e0 e1 e2
          obtain ⟨T, hT⟩ : ∃ T : ByteArray, Hid (⟨t.toArray⟩ = T) := ⟨_, rfl⟩
          have hTz : (T.size : Int) = z := by rw [← hT.out, ← hz.out]; rfl
          rw [hT.out] at e2
          clear hbo0 hT
          have hB1 := S.w4 b0 b1 (by omega) (i) (i) (o) ((o : Int) + z)
          have hB2 := S.w4_but hbut.out (Nat.le_refl _) (show W.heap.size ≤ W.heap.size + 1 by omega) (i) (i) (o) ((o : Int) + z)
          have hB3 := S.w4_stable HJ.out hj.out (Nat.le_refl _) (show W.heap.size ≤ W.heap.size + 1 by omega) (i) (i) (o) ((o : Int) + z)
          obtain ⟨WY, hWY⟩ : ∃ WY, Hid ((S.W4 wr W.heap.size (W.heap.size + 1) (i) (i) (o) ((o : Int) + z)).alloc (.cells #[.int .u8 2, .int .i64 0, .string T] 53) = WY) := ⟨_, rfl⟩
          have X0 : S.Box WY W.heap.size (i) (i) := by rw [← hWY.out]; exact hB1.1.alloc _
          have X1 : S.Box WY (W.heap.size + 1) (o) ((o : Int) + z) := by rw [← hWY.out]; exact hB1.2.alloc _
          have X2 : It.But R W WY := by rw [← hWY.out]; exact hB2.alloc _
          have X3 : J pre WY := by rw [← hWY.out]; exact HJ.out.alloc _ hB3
          have HN : Hid (L = (pre ++ [D.sp1 i o (.I t)]) ++ D.spans (i) (o + z) r) := by show _ = _; rw [hpre.out]; simp [D.spans, D.in1, D.out1, hz.out]
          obtain ⟨fn, tmps, assign, body, hy, hR'⟩ := HY.out pre (D.sp1 i o (.I t)) (D.spans (i) (o + z) r) WY (by rw [HN.out]; simp) X3
          have HR2 := Lib.hid hR'
          have Hb := Lib.hid (And.intro X0 (And.intro X1 X2))
          have hW := hWY.out
          simp only [S.W4] at hW
          have HW := Lib.hid hW
          simp only [S.encs, D.sp1, hz.out, Int.natCast_add] at hy
          obtain ⟨x0, x1, xf⟩ := X0.cells
          obtain ⟨y0, y1, yf⟩ := X1.cells
          clear hB1 hB2 hB3 hpre hj hbut b0 b1 hbi hbo X0 X1 X2 X3 hR' hW hWY
          iterate 114 (first | go_values | gi_guarded | gi_step | gi_upon | gi_back)
          rw [HW.out]
          clear HW i0 i1 fi o0 o1 fo e0 e1 e2 z0 z1 z2 z3 hsz
          gi_wp2
          refine HR2.out.mono ?_
          rintro e W3 (⟨rfl, hJ3, hk3⟩ | ⟨rfl, hJx3, _⟩)
          · obtain ⟨X0, X1, X2⟩ := Hb.out
            have Y0 := X0.but hk3 (fun h => by have := HR.out _ h; omega)
            have Y1 := X1.but hk3 (fun h => by have := HR.out _ h; omega)
            have Y2 := X2.trans hk3
            have YS := Lib.hid (And.intro (show W.heap.size + 2 ≤ W3.heap.size from Y1.lt) (And.intro Y0 (And.intro Y1 (And.intro Y2 hJ3))))
            clear hk3 hJ3 X0 X1 X2 Y0 Y1 Y2 x0 x1 xf y0 y1 yf
            gi_wp2
            go_roundw
            case rel => exact ⟨pre ++ [D.sp1 i o (.I t)], r, k + 1, i, o + z, i, o, by go_num, hk', HN, hdr', by omega, hbi', hbo', YS.out.2.2.2.2, YS.out.2.2.2.1, YS.out.2.1, YS.out.2.2.1, YS.out.1⟩
            case measure => simp [intOf]; exact hm'.out
          · have R := Lib.hid hJx3
            clear hJx3
            gi_wp2
            refine bodyPost_ret (results_none rfl _ _ _) rfl ?_
            exact ⟨⟨_, rfl⟩, .inr ⟨_, ⟨_, HN.out.symm⟩, R.out⟩⟩
        | D n =>
          have hbi' : i + n + D.inL r ≤ 1048576 := by simp only [D.inL, D.in1] at hbi; omega
          have hbo' : o + D.outL r ≤ 1048576 := by simp only [D.outL, D.out1] at hbo; omega
          have hb1 : i + n ≤ 1048576 := by omega
          have hob : o ≤ 1048576 := by omega
          simp only [D.raw] at e0 e1 e2
          have hB1 := S.w4 b0 b1 (by omega) (i) ((i : Int) + n) (o) (o)
          have hB2 := S.w4_but hbut.out (Nat.le_refl _) (show W.heap.size ≤ W.heap.size + 1 by omega) (i) ((i : Int) + n) (o) (o)
          have hB3 := S.w4_stable HJ.out hj.out (Nat.le_refl _) (show W.heap.size ≤ W.heap.size + 1 by omega) (i) ((i : Int) + n) (o) (o)
          obtain ⟨WY, hWY⟩ : ∃ WY, Hid ((S.W4 wr W.heap.size (W.heap.size + 1) (i) ((i : Int) + n) (o) (o)).alloc (.cells #[.int .u8 3, .int .i64 n, .string ⟨#[]⟩] 53) = WY) := ⟨_, rfl⟩
          have X0 : S.Box WY W.heap.size (i) ((i : Int) + n) := by rw [← hWY.out]; exact hB1.1.alloc _
          have X1 : S.Box WY (W.heap.size + 1) (o) (o) := by rw [← hWY.out]; exact hB1.2.alloc _
          have X2 : It.But R W WY := by rw [← hWY.out]; exact hB2.alloc _
          have X3 : J pre WY := by rw [← hWY.out]; exact HJ.out.alloc _ hB3
          have HN : Hid (L = (pre ++ [D.sp1 i o (.D n)]) ++ D.spans (i + n) (o) r) := by show _ = _; rw [hpre.out]; simp [D.spans, D.in1, D.out1]
          obtain ⟨fn, tmps, assign, body, hy, hR'⟩ := HY.out pre (D.sp1 i o (.D n)) (D.spans (i + n) (o) r) WY (by rw [HN.out]; simp) X3
          have HR2 := Lib.hid hR'
          have Hb := Lib.hid (And.intro X0 (And.intro X1 X2))
          have hW := hWY.out
          simp only [S.W4] at hW
          have HW := Lib.hid hW
          simp only [S.encs, D.sp1, Int.natCast_add] at hy
          obtain ⟨x0, x1, xf⟩ := X0.cells
          obtain ⟨y0, y1, yf⟩ := X1.cells
          clear hB1 hB2 hB3 hpre hj hbut b0 b1 hbi hbo X0 X1 X2 X3 hR' hW hWY
          iterate 114 (first | go_values | gi_guarded | gi_step | gi_upon | gi_back)
          rw [HW.out]
          clear HW i0 i1 fi o0 o1 fo e0 e1 e2 z0 z1 z2 z3 hsz
          gi_wp2
          refine HR2.out.mono ?_
          rintro e W3 (⟨rfl, hJ3, hk3⟩ | ⟨rfl, hJx3, _⟩)
          · obtain ⟨X0, X1, X2⟩ := Hb.out
            have Y0 := X0.but hk3 (fun h => by have := HR.out _ h; omega)
            have Y1 := X1.but hk3 (fun h => by have := HR.out _ h; omega)
            have Y2 := X2.trans hk3
            have YS := Lib.hid (And.intro (show W.heap.size + 2 ≤ W3.heap.size from Y1.lt) (And.intro Y0 (And.intro Y1 (And.intro Y2 hJ3))))
            clear hk3 hJ3 X0 X1 X2 Y0 Y1 Y2 x0 x1 xf y0 y1 yf
            gi_wp2
            go_roundw
            case rel => exact ⟨pre ++ [D.sp1 i o (.D n)], r, k + 1, i + n, o, i, o, by go_num, hk', HN, hdr', by omega, hbi', hbo', YS.out.2.2.2.2, YS.out.2.2.2.1, YS.out.2.1, YS.out.2.2.1, YS.out.1⟩
            case measure => simp [intOf]; exact hm'.out
          · have R := Lib.hid hJx3
            clear hJx3
            gi_wp2
            refine bodyPost_ret (results_none rfl _ _ _) rfl ?_
            exact ⟨⟨_, rfl⟩, .inr ⟨_, ⟨_, HN.out.symm⟩, R.out⟩⟩
    · obtain rfl : k = m := by omega
      have hr0 : r = [] := by have := hk.out; cases r with
        | nil => rfl
        | cons q r => simp at this
      have RJ : Hid (J L wr) := by show J L wr; rw [hpre.out, hr0, show D.spans i o [] = [] from rfl, List.append_nil]; exact hj.out
      clear hpre hj hr0 hk hdr b0 b1 hbut
      gi_wp2
      go_end0
      exact ⟨⟨_, rfl⟩, .inl RJ.out⟩
end Go.Proofs.Ytmbgcbgbdjiacaa
