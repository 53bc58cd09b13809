/- The contract of package delta's normalizer: add. -/
import Derived.Test.YtdilkoogjkabfaaDoorDeltaGap
import Derived.Laws.BytesArg
namespace Go.Proofs.YtdilkoogjkabfaaDoor
open Go.RowKit

theorem D.step_append_string {P : Program} {w : World} {ops : Array Oper} {o : Oper} {a : Act} {K : Act → World → Prop} {Q : Exit → Act → World → Prop} {E : Prop} (hgd : o.guard = none) (sl x : Operand) (t u : TypeId)
    (ho : o.op = .call { callee := .builtin .append, args := #[sl, x], argTypes := #[t, u] })
    (base : Nat) (e : TypeId) (i : TypeInfo) (ht : P.underlying t = some (.slice e)) (hu : P.underlying u = some .string) (hi : P.info? e = some i) (hz : i.zero = some (.int .u8 0))
    (hsize : i.size = 1) (hby : i.bytes = 1)
    (v : Value) (n : Nat) (xs : List Value) (hs : a.eval sl = v) (hown : w.ownsRow base e 1 v n xs) (s : ByteArray) (hx : a.eval x = .string s)
    (h63 : n + s.size ≤ maxLen) (hbytes : n + s.size ≤ 140737488355328) (hbase : base ≤ w.heap.size)
    (h : ∀ v' w', w'.ownsRow base e 1 v' (n + s.size) (xs ++ Lib.strCells s) → w.grownBy w' v.ownBlock → K (a.put o.dst v') w') : if Region.wanted o (yielded ops a.tmps) = true then Oper.wp P o a w K Q else E := by
  have hw : Region.wanted o (yielded ops a.tmps) = true := by simp [Region.wanted, hgd]
  rw [if_pos hw]
  obtain ⟨v', w', hr, h2, h3, h4⟩ := Lib.run_append_own_string (P := P) w base t u o.type e i ht hu hi hz hsize hby v n xs hown s h63 hbytes hbase
  unfold Oper.wp execOp
  simp only [ho, resolve, invoke, builtin, Sem.run_bind, Sem.run_pure, Result.andThen_ok, List.map_toArray, List.map_cons, List.map_nil, hs, hx, hr]
  exact h v' w' h2 h3
theorem D.own_ne {w : World} {base : Nat} {e : TypeId} {size : Nat} {v : Value} {n : Nat} {xs : List Value} (h : w.ownsRow base e size v n xs) : some w.heap.size ≠ v.ownBlock := fun e' => by
  have := (h.lt _ e'.symm).2
  omega
/-- The piece in its box, behind a call that kept it. -/
theorem D.box_kept {w w2 : World} {b : Nat} {sv : Value} {cs : Array Value} {t : TypeId} (hb : b < w.heap.size) (hs : some w.heap.size ≠ sv.ownBlock) (hk : D.Keep b sv (w.alloc (.cells cs t)) w2) : w2.heap[w.heap.size]? = some (.cells cs t) :=
  (hk w.heap.size (by simp) (by omega) hs).trans (heap_alloc_new w _)
def D.AddEnd (B b : Nat) (s : D.S) (w : World) (e : Ending) (w' : World) : Prop := e = .returned (.tuple #[]) ∧ ∃ sv iv, D.Nz B b s.set s.kept s.ins s.rem sv iv w' ∧ Below B w w'
set_option maxRecDepth 100000 in
set_option maxHeartbeats 2000000 in
theorem add_R (B b n : Nat) (s : D.S) (sv iv : Value) (w : World) (h : D.Nz B b s.set s.kept s.ins s.rem sv iv w) (hB : B ≤ w.heap.size) (hX : s.set.length ≤ 1000000) (hT : s.ins.length ≤ 1000000000) (hN : s.rem ≤ 1000000000) (hK : s.kept + n ≤ 2000000000) :
    Calls Tryd.prog 34 #[.pointer (some ⟨b, 0, none⟩), .agg #[.int .u8 1, .int .i64 n, .string ⟨#[]⟩]] w (D.AddEnd B b (s.add (.R n)) w) := by
  obtain ⟨X, K, T, N⟩ := s
  simp only at h hX hT hN hK
  have hbl := h.lt
  have hne := Lib.hid (D.own_ne h.os)
  have Hc := Lib.hid (settleGap_any B b X K T N sv iv (w.alloc (.cells #[.int .u8 1, .int .i64 n, .string ⟨#[]⟩] 29)) (h.alloc _) (by simp; omega) hX hT hN)
  have hge := h.ge
  have hB1 : Hid (Below B w (w.alloc (.cells #[.int .u8 1, .int .i64 n, .string ⟨#[]⟩] 29))) := (Below.refl _ _).alloc hB _
  clear h
  go_enter Tryd.func34, Tryd.ntmps34
  go_wp2_with fail
  refine Hc.out.mono ?_
  rintro e w2 ⟨rfl, sv2, iv2, hz, hb2, hk⟩
  have hbx := D.box_kept hbl hne.out hk
  have p1 : w2.cell? ⟨w.heap.size, 1, none⟩ = some (.int .i64 n) := by rw [cell_of_row w2 _ _ _ _ _ hbx]; rfl
  obtain ⟨c0, c1, c2, c3⟩ := hz.cells
  have fz := hz.free
  have R : Hid (D.AddEnd B b (D.S.add ⟨X, K, T, N⟩ (.R n)) w (.returned (.tuple #[])) ((w2.drew).setCell ⟨b, 1, none⟩ (.int .i64 ((K : Int) + n)))) := ⟨rfl, sv2, iv2, hz.drew.putK (K + n), ((hB1.out.trans hb2).drew).setCell (p := ⟨b, 1, none⟩) hge _⟩
  clear hz hb2 hk hbx Hc
  go_wp2_with fail
  go_region
  all_goals
    go_wp2
    go_end0
    exact R.out
set_option maxRecDepth 100000 in
set_option maxHeartbeats 2000000 in
theorem add_D (B b n : Nat) (s : D.S) (sv iv : Value) (w : World) (h : D.Nz B b s.set s.kept s.ins s.rem sv iv w) (hB : B ≤ w.heap.size) (hX : s.set.length ≤ 1000000) (hK : s.kept ≤ 1000000000) (hN : s.rem + n ≤ 2000000000) :
    Calls Tryd.prog 34 #[.pointer (some ⟨b, 0, none⟩), .agg #[.int .u8 3, .int .i64 n, .string ⟨#[]⟩]] w (D.AddEnd B b (s.add (.D n)) w) := by
  obtain ⟨X, K, T, N⟩ := s
  simp only at h hX hN hK
  have hbl := h.lt
  have hne := Lib.hid (D.own_ne h.os)
  have Hc := Lib.hid (settleKept_any B b X K T N sv iv (w.alloc (.cells #[.int .u8 3, .int .i64 n, .string ⟨#[]⟩] 29)) (h.alloc _) (by simp; omega) hX hK)
  have hge := h.ge
  have hB1 : Hid (Below B w (w.alloc (.cells #[.int .u8 3, .int .i64 n, .string ⟨#[]⟩] 29))) := (Below.refl _ _).alloc hB _
  clear h
  go_enter Tryd.func34, Tryd.ntmps34
  go_wp2_with fail
  refine Hc.out.mono ?_
  rintro e w2 ⟨rfl, sv2, iv2, hz, hb2, hk⟩
  have hbx := D.box_kept hbl hne.out hk
  have p1 : w2.cell? ⟨w.heap.size, 1, none⟩ = some (.int .i64 n) := by rw [cell_of_row w2 _ _ _ _ _ hbx]; rfl
  obtain ⟨c0, c1, c2, c3⟩ := hz.cells
  have fz := hz.free
  have R : Hid (D.AddEnd B b (D.S.add ⟨X, K, T, N⟩ (.D n)) w (.returned (.tuple #[])) ((w2.drew).setCell ⟨b, 3, none⟩ (.int .i64 ((N : Int) + n)))) := ⟨rfl, sv2, iv2, hz.drew.putN (N + n), ((hB1.out.trans hb2).drew).setCell (p := ⟨b, 3, none⟩) hge _⟩
  clear hz hb2 hk hbx Hc
  go_wp2_with fail
  go_region
  all_goals
    go_wp2
    go_end0
    exact R.out
set_option maxRecDepth 100000 in
set_option maxHeartbeats 2000000 in
theorem add_I (B b : Nat) (t : List UInt8) (s : D.S) (sv iv : Value) (w : World) (h : D.Nz B b s.set s.kept s.ins s.rem sv iv w) (hB : B ≤ w.heap.size) (hX : s.set.length ≤ 1000000) (hK : s.kept ≤ 1000000000) (hT : s.ins.length + t.length ≤ 2000000000) :
    Calls Tryd.prog 34 #[.pointer (some ⟨b, 0, none⟩), .agg #[.int .u8 2, .int .i64 0, .string ⟨t.toArray⟩]] w (D.AddEnd B b (s.add (.I t)) w) := by
  obtain ⟨X, K, T, N⟩ := s
  simp only at h hX hT hK
  obtain ⟨ib, hb, hb0, hb1, hb2⟩ := info_parts Tryd.infoByte
  have Hb := Lib.hid (And.intro hb (And.intro hb0 (And.intro hb1 hb2)))
  clear hb hb0 hb1 hb2
  have hbl := h.lt
  have hne := Lib.hid (D.own_ne h.os)
  have Hc := Lib.hid (settleKept_any B b X K T N sv iv (w.alloc (.cells #[.int .u8 2, .int .i64 0, .string ⟨t.toArray⟩] 29)) (h.alloc _) (by simp; omega) hX hK)
  have hge := h.ge
  have hB1 : Hid (Below B w (w.alloc (.cells #[.int .u8 2, .int .i64 0, .string ⟨t.toArray⟩] 29))) := (Below.refl _ _).alloc hB _
  clear h
  have hB2 : B ≤ w.heap.size + 1 := by omega
  go_enter Tryd.func34, Tryd.ntmps34
  go_wp2_with fail
  refine Hc.out.mono ?_
  rintro e w2 ⟨rfl, sv2, iv2, hz, hb2, hk⟩
  have hbx := D.box_kept hbl hne.out hk
  have p1 : w2.cell? ⟨w.heap.size, 2, none⟩ = some (.string ⟨t.toArray⟩) := by rw [cell_of_row w2 _ _ _ _ _ hbx]; rfl
  have hw2 : B ≤ w2.heap.size := by have := hb2.size; simp only [World.size_alloc] at this; omega
  obtain ⟨c0, c1, c2, c3⟩ := hz.cells
  have fz := hz.free
  have hbl2 := hz.lt
  have hbb := Lib.hid (hB1.out.trans hb2)
  obtain ⟨jb, jc, hv⟩ := D.slice_of_own hz.oi
  subst hv
  have HZ := Lib.hid hz
  have hz' : (⟨t.toArray⟩ : ByteArray).size = t.length := D.size_l t
  have hZ := Lib.hid hz'
  clear hz hb2 hk hbx Hc hz'
  go_wp2_with fail
  go_region_law (first
    | (refine D.step_append_string rfl (.tmp 27) (.tmp 29) 56 9 rfl B 5 ib Tryd.underlying56 Tryd.underlying9 Hb.out.1 Hb.out.2.1 Hb.out.2.2.1 Hb.out.2.2.2 (.slice jb T.length jc) T.length (D.bytesL T) rfl ?own ⟨t.toArray⟩ rfl ?m1 ?m2 ?base ?_
       case own => repeat (first | exact HZ.out.oi | refine World.ownsRow.drew ?_ | refine World.ownsRow.alloc ?_ _)
       case m1 => unfold maxLen; have := hZ.out; omega
       case m2 => have := hZ.out; omega
       case base => first | omega | (simp; omega)
       intro v3 w3 hO3 hg3
       obtain ⟨kb, kc, hv3⟩ := D.slice_of_own hO3
       subst hv3
       have R : D.Nz B b (X ++ D.oR K) 0 (T ++ t) N sv2 (.slice kb (T.length + (⟨t.toArray⟩ : ByteArray).size) kc) (w3.setCell ⟨b, 2, none⟩ (.slice kb (T.length + (⟨t.toArray⟩ : ByteArray).size) kc)) := by
         refine D.Nz.putI (T := T) ?h hg3 ?o
         case h => repeat (first | exact HZ.out | refine D.Nz.drew ?_ | refine D.Nz.alloc ?_ _)
         case o =>
           rw [List.length_append, D.bytesL_append, ← hZ.out]
           exact hO3
       have hB3 : Below B w w3 := by
         refine Below.grown ?_ hg3 ?_ (fun k e => (HZ.out.oi.lt k e).1)
         · repeat (first | exact hbb.out | refine Below.drew ?_)
         · first | omega | (simp; omega)
       have hbne := (D.block_ne HZ.out.oi HZ.out.box (by decide)).symm
       have hbx : w3.heap[b]? = some (.cells #[sv2, .int .i64 0, .slice jb T.length jc, .int .i64 N] 63) := by
         refine (hg3.block b ?_ hbne).trans (D.Nz.box (B := B) (X := X ++ D.oR K) (T := T) (K := 0) ?_)
         · first | exact hbl2 | (simp; omega)
         · repeat (first | exact HZ.out | refine D.Nz.drew ?_ | refine D.Nz.alloc ?_ _)
       have c2 : w3.cell? ⟨b, 2, none⟩ = some (.slice jb T.length jc) := by rw [cell_of_row w3 b _ _ _ _ hbx]; rfl
       have fz : w3.frozen? ⟨b, 2, none⟩ = false := frozen_of_row _ _ _ _ _ hbx
       have R := Lib.hid R
       have hB3 := Lib.hid hB3
       clear hO3 hg3 hbne hbx))
  all_goals
    have RR : Hid (D.AddEnd B b (D.S.add ⟨X, K, T, N⟩ (.I t)) w (.returned (.tuple #[])) (w3.setCell ⟨b, 2, none⟩ (.slice kb (T.length + (⟨t.toArray⟩ : ByteArray).size) kc))) := ⟨rfl, sv2, _, R.out, hB3.out.setCell (p := ⟨b, 2, none⟩) hge _⟩
    go_wp2
    go_end0
    exact RR.out
theorem add_any (B b : Nat) (q : D.Q) (s : D.S) (sv iv : Value) (w : World) (h : D.Nz B b s.set s.kept s.ins s.rem sv iv w) (hB : B ≤ w.heap.size) (hX : s.set.length ≤ 1000000) (hK : s.kept ≤ 1000000000) (hT : s.ins.length ≤ 1000000000) (hN : s.rem ≤ 1000000000) (hi : D.in1 q ≤ 1000000000) (ho : D.out1 q ≤ 1000000000) :
    Calls Tryd.prog 34 #[.pointer (some ⟨b, 0, none⟩), .agg #[.int .u8 (D.raw q).k, .int .i64 (D.raw q).n, .string (D.raw q).t]] w (D.AddEnd B b (s.add q) w) := by
  cases q with
  | R n => simp only [D.in1] at hi; exact add_R B b n s sv iv w h hB hX hT hN (by omega)
  | I t => simp only [D.out1] at ho; exact add_I B b t s sv iv w h hB hX hK (by omega)
  | D n => simp only [D.in1] at hi; exact add_D B b n s sv iv w h hB hX hK (by omega)
end Go.Proofs.YtdilkoogjkabfaaDoor
