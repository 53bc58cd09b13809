/- What package shift asks of the pieces, second part: the method values find and cover. -/
import Derived.Test.YtampekldlnlhdaaShiftQs
namespace Go.Proofs.Ytampekldlnlhdaa
open Go.RowKit

def S.Sgl (q p : Nat) (s : Int × Bool) (W : World) : Prop := W.heap[q]? = some (.cells #[.int .i64 p, .int .i64 s.1, .bool s.2] 68 (0, 0))
theorem S.Sgl.cells {q p : Nat} {s : Int × Bool} {W : World} (h : S.Sgl q p s W) : W.cell? ⟨q, 0, none⟩ = some (.int .i64 p) ∧ W.cell? ⟨q, 1, none⟩ = some (.int .i64 s.1) ∧ W.cell? ⟨q, 2, none⟩ = some (.bool s.2) ∧ ∀ i, W.frozen? ⟨q, i, none⟩ = false :=
  ⟨Lib.cell_of_heap h 0, Lib.cell_of_heap h 1, Lib.cell_of_heap h 2, fun _ => frozen_of_row _ _ _ _ _ h⟩
theorem S.Sgl.lt {q p : Nat} {s : Int × Bool} {W : World} (h : S.Sgl q p s W) : q < W.heap.size := (Array.getElem?_eq_some_iff.1 h).1
theorem S.Sgl.set1 {q p : Nat} {s : Int × Bool} {W : World} (h : S.Sgl q p s W) (n : Int) : S.Sgl q p (n, s.2) (W.setCell ⟨q, 1, none⟩ (.int .i64 n)) := by
  obtain ⟨hlt, hk⟩ := Array.getElem?_eq_some_iff.1 h
  show (W.heap.modify q _)[q]? = _
  rw [Array.getElem?_eq_getElem (by rw [Array.size_modify]; exact hlt), Array.getElem_modify_self, hk]
  rfl
theorem S.Sgl.set2 {q p : Nat} {s : Int × Bool} {W : World} (h : S.Sgl q p s W) (b : Bool) : S.Sgl q p (s.1, b) (W.setCell ⟨q, 2, none⟩ (.bool b)) := by
  obtain ⟨hlt, hk⟩ := Array.getElem?_eq_some_iff.1 h
  show (W.heap.modify q _)[q]? = _
  rw [Array.getElem?_eq_getElem (by rw [Array.size_modify]; exact hlt), Array.getElem_modify_self, hk]
  rfl
set_option maxRecDepth 100000 in
set_option maxHeartbeats 2000000 in
theorem find_any (q p : Nat) (s : Int × Bool) (x : D.S4) (V : World) (h : S.Sgl q p s V) (hp : p ≤ 1048576) (hab : x.a ≤ x.b) (h2 : x.b ≤ 1048576) (h3 : x.c ≤ 1048576) :
    Calls Try.prog 45 #[.pointer (some ⟨q, 0, none⟩), .agg #[.int .i64 x.a, .int .i64 x.b], .agg #[.int .i64 x.c, .int .i64 x.d]] V fun e V' => e = .returned (.bool (D.stF p s x).2) ∧ S.Sgl q p (D.stF p s x).1 V' ∧ V.grownBy V' (some q) := by
  have HK : Hid (∀ W, Calls Try.prog 70 #[.agg #[.int .i64 x.a, .int .i64 x.b], .agg #[.int .i64 x.c, .int .i64 x.d]] W fun e w' => e = .returned (.bool x.kept) ∧ Below W.heap.size W w') := fun W => kept_any x W
  have hst := Lib.hid (show D.stF p s x = if x.b ≤ p then (s, false) else if x.kept then (((x.c : Int) + p - x.a, true), true) else (s, true) from rfl)
  have hq := h.lt
  have HN := Lib.hid (fun w' (g : Below (S.W2 V x).heap.size (S.W2 V x) w') => S.w2_on hq g)
  have H := Lib.hid h
  have HB := Lib.hid (S.w2 V x q hq)
  obtain ⟨a, b, c, d⟩ := x
  dsimp only at *
  simp only [S.W2] at HN HB
  generalize D.S4.kept ⟨a, b, c, d⟩ = k at HK hst
  generalize D.stF p s ⟨a, b, c, d⟩ = r at hst
  obtain ⟨c0, c1, c2, cf⟩ := h.cells
  clear h
  by_cases hpa : b ≤ p
  · have R1 : Hid (r = (s, false)) := by show _ = _; rw [hst.out, if_pos hpa]
    have hpa' : (b : Int) ≤ (p : Int) := by omega
    clear hst
    go_enter Try.func45, Try.ntmps45
    go_wp2
    go_region
    all_goals
      go_wp2
      go_ret
      rw [R1.out]
      exact ⟨rfl, HB.out.2.2.1.trans H.out, S.grown_below q HB.out.2.2.2.drew⟩
  · have hpa' : (p : Int) < (b : Int) := by omega
    go_enter Try.func45, Try.ntmps45
    go_wp2
    go_region
    all_goals
      go_wp2_with fail
      refine (HK.out _).mono ?_
      rintro e w1 ⟨rfl, hb⟩
      have N3 := Lib.hid (HN.out w1 ⟨hb.os, hb.tape, hb.output, hb.size, hb.block⟩)
      clear hb c0 c1 c2 cf
      cases k with
      | false =>
        have R1 : Hid (r = (s, true)) := by show _ = _; rw [hst.out, if_neg hpa, if_neg (by decide)]
        go_wp2
        go_ret
        rw [R1.out]
        exact ⟨rfl, N3.out.2.2.1.trans H.out, S.grown_below q N3.out.2.2.2⟩
      | true =>
        have R1 : Hid (r = (((c : Int) + p - a, true), true)) := by show _ = _; rw [hst.out, if_neg hpa, if_pos rfl]
        obtain ⟨x0, x1, xf⟩ := S.Box.cells (show S.Box w1 V.heap.size a b from N3.out.1)
        obtain ⟨y0, y1, yf⟩ := S.Box.cells (show S.Box w1 (V.heap.size + 1) c d from N3.out.2.1)
        have hP : S.Sgl q p s w1 := N3.out.2.2.1.trans H.out
        obtain ⟨c0, c1, c2, cf⟩ := hP.cells
        have HP := Lib.hid hP
        clear hP
        go_wp2
        go_region
        all_goals
          go_wp2
          go_ret
          rw [R1.out]
          exact ⟨rfl, by first | exact (HP.out.set1 _).set2 _ | exact (HP.out.set2 _).set1 _, S.grown_drew (S.grown_trans (S.grown_trans (S.grown_below q N3.out.2.2.2) (S.grown_set _ _ _ _)) (S.grown_set _ _ _ _))⟩
def S.Ext (q : Nat) (s : D.S4) (W : World) : Prop := W.heap[q]? = some (.cells #[.int .i64 s.a, .int .i64 s.b, .int .i64 s.c, .int .i64 s.d] 76 (0, 0))
theorem S.Ext.cells {q : Nat} {s : D.S4} {W : World} (h : S.Ext q s W) : W.cell? ⟨q, 0, none⟩ = some (.int .i64 s.a) ∧ W.cell? ⟨q, 1, none⟩ = some (.int .i64 s.b) ∧ W.cell? ⟨q, 2, none⟩ = some (.int .i64 s.c) ∧ W.cell? ⟨q, 3, none⟩ = some (.int .i64 s.d) ∧ ∀ i, W.frozen? ⟨q, i, none⟩ = false :=
  ⟨Lib.cell_of_heap h 0, Lib.cell_of_heap h 1, Lib.cell_of_heap h 2, Lib.cell_of_heap h 3, fun _ => frozen_of_row _ _ _ _ _ h⟩
theorem S.Ext.lt {q : Nat} {s : D.S4} {W : World} (h : S.Ext q s W) : q < W.heap.size := (Array.getElem?_eq_some_iff.1 h).1
theorem S.Ext.set0 {q : Nat} {s : D.S4} {W : World} (h : S.Ext q s W) (n : Nat) : S.Ext q ⟨n, s.b, s.c, s.d⟩ (W.setCell ⟨q, 0, none⟩ (.int .i64 n)) := by
  obtain ⟨hlt, hk⟩ := Array.getElem?_eq_some_iff.1 h
  show (W.heap.modify q _)[q]? = _
  rw [Array.getElem?_eq_getElem (by rw [Array.size_modify]; exact hlt), Array.getElem_modify_self, hk]
  rfl
theorem S.Ext.set1 {q : Nat} {s : D.S4} {W : World} (h : S.Ext q s W) (n : Nat) : S.Ext q ⟨s.a, n, s.c, s.d⟩ (W.setCell ⟨q, 1, none⟩ (.int .i64 n)) := by
  obtain ⟨hlt, hk⟩ := Array.getElem?_eq_some_iff.1 h
  show (W.heap.modify q _)[q]? = _
  rw [Array.getElem?_eq_getElem (by rw [Array.size_modify]; exact hlt), Array.getElem_modify_self, hk]
  rfl
theorem S.Ext.set2 {q : Nat} {s : D.S4} {W : World} (h : S.Ext q s W) (n : Nat) : S.Ext q ⟨s.a, s.b, n, s.d⟩ (W.setCell ⟨q, 2, none⟩ (.int .i64 n)) := by
  obtain ⟨hlt, hk⟩ := Array.getElem?_eq_some_iff.1 h
  show (W.heap.modify q _)[q]? = _
  rw [Array.getElem?_eq_getElem (by rw [Array.size_modify]; exact hlt), Array.getElem_modify_self, hk]
  rfl
theorem S.Ext.set3 {q : Nat} {s : D.S4} {W : World} (h : S.Ext q s W) (n : Nat) : S.Ext q ⟨s.a, s.b, s.c, n⟩ (W.setCell ⟨q, 3, none⟩ (.int .i64 n)) := by
  obtain ⟨hlt, hk⟩ := Array.getElem?_eq_some_iff.1 h
  show (W.heap.modify q _)[q]? = _
  rw [Array.getElem?_eq_getElem (by rw [Array.size_modify]; exact hlt), Array.getElem_modify_self, hk]
  rfl
set_option maxRecDepth 100000 in
set_option maxHeartbeats 2000000 in
theorem cover_any (q : Nat) (s : D.S4) (x : D.S4) (V : World) (h : S.Ext q s V) :
    Calls Try.prog 46 #[.pointer (some ⟨q, 0, none⟩), .agg #[.int .i64 x.a, .int .i64 x.b], .agg #[.int .i64 x.c, .int .i64 x.d]] V fun e V' => e = .returned (.bool (D.stC s x).2) ∧ S.Ext q (D.stC s x).1 V' ∧ V.grownBy V' (some q) := by
  have HK : Hid (∀ W, Calls Try.prog 70 #[.agg #[.int .i64 x.a, .int .i64 x.b], .agg #[.int .i64 x.c, .int .i64 x.d]] W fun e w' => e = .returned (.bool x.kept) ∧ Below W.heap.size W w') := fun W => kept_any x W
  have hst := Lib.hid (show D.stC s x = if x.kept then (s, false) else (⟨min s.a x.a, x.b, min s.c x.c, x.d⟩, false) from rfl)
  have hq := h.lt
  have HN := Lib.hid (fun w' (g : Below (S.W2 V x).heap.size (S.W2 V x) w') => S.w2_on hq g)
  have H := Lib.hid h
  obtain ⟨a, b, c, d⟩ := x
  obtain ⟨sa, sb, sc, sd⟩ := s
  dsimp only at *
  simp only [S.W2] at HN
  generalize D.S4.kept ⟨a, b, c, d⟩ = k at HK hst
  generalize D.stC ⟨sa, sb, sc, sd⟩ ⟨a, b, c, d⟩ = r at hst
  clear h
  go_enter Try.func46, Try.ntmps46
  go_wp2_with fail
  refine (HK.out _).mono ?_
  rintro e w1 ⟨rfl, hb⟩
  have N3 := Lib.hid (HN.out w1 ⟨hb.os, hb.tape, hb.output, hb.size, hb.block⟩)
  clear hb
  have hP : S.Ext q ⟨sa, sb, sc, sd⟩ w1 := N3.out.2.2.1.trans H.out
  cases k with
  | true =>
    have R1 : Hid (r = (⟨sa, sb, sc, sd⟩, false)) := by show _ = _; rw [hst.out, if_pos rfl]
    go_wp2
    go_ret
    rw [R1.out]
    exact ⟨rfl, hP, S.grown_below q N3.out.2.2.2⟩
  | false =>
    have R1 : Hid (r = (⟨min sa a, b, min sc c, d⟩, false)) := by show _ = _; rw [hst.out, if_neg (by decide)]
    obtain ⟨x0, x1, xf⟩ := S.Box.cells (show S.Box w1 V.heap.size a b from N3.out.1)
    obtain ⟨y0, y1, yf⟩ := S.Box.cells (show S.Box w1 (V.heap.size + 1) c d from N3.out.2.1)
    obtain ⟨c0, c1, c2, c3, cf⟩ := hP.cells
    have HP := Lib.hid hP
    clear hP
    go_wp2
    go_region
    all_goals
      have e1 : min (sa : Int) (a : Int) = ((min sa a : Nat) : Int) := by omega
      have e2 : Hid (min (sc : Int) (c : Int) = ((min sc c : Nat) : Int)) := by show _ = _; omega
      rw [e1]
      obtain ⟨m1, hm1⟩ : ∃ m1 : Nat, Hid (min sa a = m1) := ⟨_, rfl⟩
      rw [hm1.out]
      have P2 : S.Ext q ⟨m1, b, sc, sd⟩ ((w1.setCell ⟨q, 0, none⟩ (.int .i64 m1)).setCell ⟨q, 1, none⟩ (.int .i64 b)).drew := (HP.out.set0 m1).set1 b
      have G2 := Lib.hid (S.grown_drew (S.grown_trans (S.grown_trans (S.grown_below q N3.out.2.2.2) (S.grown_set w1 q 0 (.int .i64 (m1 : Int)))) (S.grown_set (w1.setCell ⟨q, 0, none⟩ (.int .i64 m1)) q 1 (.int .i64 (b : Int)))))
      have hq1 : V.heap.size + 1 ≠ q := by omega
      have B2 := S.Box.far (S.Box.far (show S.Box w1 (V.heap.size + 1) c d from N3.out.2.1) hq1 (.int .i64 m1) (o := 0)) hq1 (.int .i64 b) (o := 1)
      have B3 : S.Box ((w1.setCell ⟨q, 0, none⟩ (.int .i64 m1)).setCell ⟨q, 1, none⟩ (.int .i64 b)).drew (V.heap.size + 1) c d := B2
      generalize ((w1.setCell ⟨q, 0, none⟩ (.int .i64 m1)).setCell ⟨q, 1, none⟩ (.int .i64 b)).drew = w2 at P2 G2 B3 ⊢
      clear e1 x0 x1 xf y0 y1 yf c0 c1 c2 c3 cf B2
      obtain ⟨y0, y1, yf⟩ := B3.cells
      obtain ⟨c0, c1, c2, c3, cf⟩ := P2.cells
      have P3 := Lib.hid P2
      clear P2 B3
      go_wp2
      go_region
      all_goals
        go_wp2
        go_ret
        rw [R1.out, e2.out, hm1.out]
        exact ⟨rfl, (P3.out.set2 _).set3 _, S.grown_drew (S.grown_trans (S.grown_trans G2.out (S.grown_set _ _ _ _)) (S.grown_set _ _ _ _))⟩
end Go.Proofs.Ytampekldlnlhdaa
