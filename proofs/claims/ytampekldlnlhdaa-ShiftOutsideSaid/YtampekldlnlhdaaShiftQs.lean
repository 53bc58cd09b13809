/- What package shift asks of the pieces: kept, and the method values left, right, find, cover. -/
import Derived.Test.YtampekldlnlhdaaShiftAsk
import Derived.Deep.QuietTactic
import Derived.BigQuiet
import Derived.BigRegion
import Derived.Deep.RegionLaw
namespace Go.Proofs.Ytampekldlnlhdaa
open Go.RowKit

theorem S.ret_bool {a b : Bool} (h : a = b) : Ending.returned (.bool a) = .returned (.bool b) := by rw [h]
set_option maxHeartbeats 1000000 in
theorem kept_any (x : D.S4) (V : World) : Calls Try.prog 70 #[.agg #[.int .i64 x.a, .int .i64 x.b], .agg #[.int .i64 x.c, .int .i64 x.d]] V fun e w' => e = .returned (.bool x.kept) ∧ Below V.heap.size V w' := by
  obtain ⟨a, b, c, d⟩ := x
  have hk : Hid (D.S4.kept ⟨a, b, c, d⟩ = (decide (a < b) && decide (c < d))) := rfl
  dsimp only
  rw [hk.out]
  by_cases h : a < b
  · rw [decide_eq_true h]
    go_enter Try.func70, Try.ntmps70
    go_wp2
    go_ret
    exact ⟨S.ret_bool (by simp), ((Below.refl _ _).alloc (Nat.le_refl _) _).alloc (by simp) _⟩
  · rw [decide_eq_false h]
    go_enter Try.func70, Try.ntmps70
    go_wp2
    go_ret
    exact ⟨rfl, ((Below.refl _ _).alloc (Nat.le_refl _) _).alloc (by simp) _⟩
def S.Pos (q p m : Nat) (W : World) : Prop := W.heap[q]? = some (.cells #[.int .i64 p, .int .i64 m] 103 (0, 0))
theorem S.Pos.cells {q p m : Nat} {W : World} (h : S.Pos q p m W) : W.cell? ⟨q, 0, none⟩ = some (.int .i64 p) ∧ W.cell? ⟨q, 1, none⟩ = some (.int .i64 m) ∧ ∀ i, W.frozen? ⟨q, i, none⟩ = false :=
  ⟨Lib.cell_of_heap h 0, Lib.cell_of_heap h 1, fun _ => frozen_of_row _ _ _ _ _ h⟩
theorem S.Pos.lt {q p m : Nat} {W : World} (h : S.Pos q p m W) : q < W.heap.size := (Array.getElem?_eq_some_iff.1 h).1
theorem S.Pos.alloc {q p m : Nat} {W : World} (h : S.Pos q p m W) (o : Obj) : S.Pos q p m (W.alloc o) := (Below.heap_alloc W o q h.lt).trans h
theorem S.Pos.below {q p m : Nat} {W W' : World} (h : S.Pos q p m W) (hb : Below W.heap.size W W') : S.Pos q p m W' := (hb.block q h.lt).trans h
theorem S.Pos.set1 {q p m : Nat} {W : World} (h : S.Pos q p m W) (m' : Nat) : S.Pos q p m' (W.setCell ⟨q, 1, none⟩ (.int .i64 m')) := by
  obtain ⟨hlt, hk⟩ := Array.getElem?_eq_some_iff.1 h
  show (W.heap.modify q _)[q]? = _
  rw [Array.getElem?_eq_getElem (by rw [Array.size_modify]; exact hlt), Array.getElem_modify_self, hk]
  rfl
theorem S.grown_below {W V : World} (q : Nat) (h : Below W.heap.size W V) : W.grownBy V (some q) := ⟨h.os, h.tape, h.output, h.size, fun k hk _ => h.block k hk⟩
theorem S.grown_trans {U V W : World} {q : Nat} (h : U.grownBy V (some q)) (k : V.grownBy W (some q)) : U.grownBy W (some q) :=
  ⟨k.os.trans h.os, k.tape.trans h.tape, k.output.trans h.output, Nat.le_trans h.size k.size, fun j hj hne => (k.block j (Nat.lt_of_lt_of_le hj h.size) hne).trans (h.block j hj hne)⟩
theorem S.grown_drew {U V : World} {row : Option Nat} (h : U.grownBy V row) : U.grownBy V.drew row := ⟨h.os, h.tape, h.output, h.size, h.block⟩
theorem S.grown_set (W : World) (q o : Nat) (v : Value) : W.grownBy (W.setCell ⟨q, o, none⟩ v) (some q) :=
  ⟨rfl, rfl, rfl, (KeepsWalks.setCell W _ v).size, fun k _ hk => Below.heap_setCell _ _ _ k (fun e => hk (by rw [e]))⟩
/-- A question's two arguments, each in a box of its own: what every question begins with. -/
def S.W2 (V : World) (x : D.S4) : World := (V.alloc (.cells #[.int .i64 x.a, .int .i64 x.b] 74)).alloc (.cells #[.int .i64 x.c, .int .i64 x.d] 74)
theorem S.w2 (V : World) (x : D.S4) (q : Nat) (hq : q < V.heap.size) : S.Box (S.W2 V x) V.heap.size x.a x.b ∧ S.Box (S.W2 V x) (V.heap.size + 1) x.c x.d ∧ (S.W2 V x).heap[q]? = V.heap[q]? ∧ Below V.heap.size V (S.W2 V x) := by
  have n2 : S.Box (S.W2 V x) (V.heap.size + 1) x.c x.d := by
    have := World.alloc_heap_new (V.alloc (.cells #[.int .i64 x.a, .int .i64 x.b] 74)) (.cells #[.int .i64 x.c, .int .i64 x.d] 74)
    rwa [World.size_alloc] at this
  have hb : Below V.heap.size V (S.W2 V x) := ((Below.refl _ V).alloc (Nat.le_refl _) _).alloc (by simp) _
  exact ⟨S.Box.alloc (World.alloc_heap_new V _) _, n2, hb.block q hq, hb⟩
/-- .. and behind a call that makes memory. -/
theorem S.w2_on {V w1 : World} {x : D.S4} {q : Nat} (hq : q < V.heap.size) (h : Below (S.W2 V x).heap.size (S.W2 V x) w1) : S.Box w1 V.heap.size x.a x.b ∧ S.Box w1 (V.heap.size + 1) x.c x.d ∧ w1.heap[q]? = V.heap[q]? ∧ Below V.heap.size V w1 := by
  obtain ⟨n1, n2, n3, n4⟩ := S.w2 V x q hq
  exact ⟨(h.block _ n1.lt).trans n1, (h.block _ n2.lt).trans n2, (h.block q (Nat.lt_of_lt_of_le hq n4.size)).trans n3, n4.trans (h.mono n4.size)⟩
set_option maxRecDepth 100000 in
set_option maxHeartbeats 2000000 in
theorem left_any (q p m : Nat) (x : D.S4) (V : World) (h : S.Pos q p m V) (hp : p ≤ 1048576) (hab : x.a ≤ x.b) (h2 : x.b ≤ 1048576) (h3 : x.c ≤ 1048576) :
    Calls Try.prog 64 #[.pointer (some ⟨q, 0, none⟩), .agg #[.int .i64 x.a, .int .i64 x.b], .agg #[.int .i64 x.c, .int .i64 x.d]] V fun e V' => e = .returned (.bool (D.stL p m x).2) ∧ S.Pos q p (D.stL p m x).1 V' ∧ V.grownBy V' (some q) := by
  have HK : Hid (∀ W, Calls Try.prog 70 #[.agg #[.int .i64 x.a, .int .i64 x.b], .agg #[.int .i64 x.c, .int .i64 x.d]] W fun e w' => e = .returned (.bool x.kept) ∧ Below W.heap.size W w') := fun W => kept_any x W
  have hst := Lib.hid (show D.stL p m x = if p ≤ x.a then (m, true) else if x.kept then (x.c + min p x.b - x.a, false) else (m, false) from rfl)
  obtain ⟨a, b, c, d⟩ := x
  dsimp only at *
  generalize D.S4.kept ⟨a, b, c, d⟩ = k at HK hst
  generalize D.stL p m ⟨a, b, c, d⟩ = r at hst
  have hq := h.lt
  have H := Lib.hid h
  obtain ⟨c0, c1, cf⟩ := h.cells
  clear h
  by_cases hpa : p ≤ a
  · have R1 : Hid (r = (m, true)) := by show _ = _; rw [hst.out, if_pos hpa]
    rw [R1.out]
    have hpa' : (p : Int) ≤ (a : Int) := by omega
    clear hst
    go_enter Try.func64, Try.ntmps64
    go_wp2
    go_region
    all_goals
      go_wp2
      go_ret
      exact ⟨rfl, (H.out.alloc _).alloc _, S.grown_below q (((Below.refl _ V).alloc (Nat.le_refl _) _).alloc (by simp) _).drew⟩
  · have hpa' : (a : Int) < (p : Int) := by omega
    have n1 : S.Box ((V.alloc (.cells #[.int .i64 a, .int .i64 b] 74)).alloc (.cells #[.int .i64 c, .int .i64 d] 74)) V.heap.size a b := (S.Box.alloc (World.alloc_heap_new V _) _)
    have n2 : S.Box ((V.alloc (.cells #[.int .i64 a, .int .i64 b] 74)).alloc (.cells #[.int .i64 c, .int .i64 d] 74)) (V.heap.size + 1) c d := by
      have := World.alloc_heap_new (V.alloc (.cells #[.int .i64 a, .int .i64 b] 74)) (.cells #[.int .i64 c, .int .i64 d] 74)
      rwa [World.size_alloc] at this
    have NB := Lib.hid (And.intro n1 (And.intro n2 ((H.out.alloc (.cells #[.int .i64 a, .int .i64 b] 74)).alloc (.cells #[.int .i64 c, .int .i64 d] 74))))
    have NG := Lib.hid (S.grown_below q (((Below.refl _ V).alloc (Nat.le_refl _) (.cells #[.int .i64 a, .int .i64 b] 74)).alloc (by simp) (.cells #[.int .i64 c, .int .i64 d] 74)).drew)
    have HN1 := Lib.hid (fun w' (h : Below (((V.alloc (.cells #[.int .i64 a, .int .i64 b] 74)).alloc (.cells #[.int .i64 c, .int .i64 d] 74)).drew).heap.size (((V.alloc (.cells #[.int .i64 a, .int .i64 b] 74)).alloc (.cells #[.int .i64 c, .int .i64 d] 74)).drew) w') => And.intro ((h.block V.heap.size NB.out.1.lt).trans NB.out.1) (And.intro ((h.block (V.heap.size + 1) NB.out.2.1.lt).trans NB.out.2.1) (And.intro ((h.block q NB.out.2.2.lt).trans NB.out.2.2) (S.grown_trans NG.out (S.grown_below q h)))))
    clear n1 n2
    go_enter Try.func64, Try.ntmps64
    go_wp2
    go_region
    all_goals
      go_wp2_with fail
      refine (HK.out _).mono ?_
      rintro e w1 ⟨rfl, hb⟩
      have N3 := Lib.hid (HN1.out w1 hb)
      clear hb c0 c1 cf
      cases k with
      | false =>
        have R1 : Hid (r = (m, false)) := by show _ = _; rw [hst.out, if_neg hpa, if_neg (by decide)]
        go_wp2
        go_ret
        rw [R1.out]
        exact ⟨rfl, N3.out.2.2.1, N3.out.2.2.2⟩
      | true =>
        have R1 : Hid (r = (c + min p b - a, false)) := by show _ = _; rw [hst.out, if_neg hpa, if_pos rfl]
        obtain ⟨x0, x1, xf⟩ := S.Box.cells (show S.Box w1 V.heap.size a b from N3.out.1)
        obtain ⟨y0, y1, yf⟩ := S.Box.cells (show S.Box w1 (V.heap.size + 1) c d from N3.out.2.1)
        obtain ⟨c0, c1, cf⟩ := S.Pos.cells (show S.Pos q p m w1 from N3.out.2.2.1)
        go_wp2
        go_region
        all_goals
          go_wp2
          go_ret
          rw [R1.out]
          have e1 : (c : Int) + min (p : Int) b - a = ((c + min p b - a : Nat) : Int) := by omega
          rw [e1]
          exact ⟨rfl, S.Pos.set1 (show S.Pos q p m w1 from N3.out.2.2.1) _, S.grown_drew (S.grown_trans N3.out.2.2.2 (S.grown_set _ _ _ _))⟩
set_option maxRecDepth 100000 in
set_option maxHeartbeats 2000000 in
theorem right_any (q p m : Nat) (x : D.S4) (V : World) (h : S.Pos q p m V) (hp : p ≤ 1048576) (hab : x.a ≤ x.b) (h2 : x.b ≤ 1048576) (h3 : x.c ≤ 1048576) :
    Calls Try.prog 65 #[.pointer (some ⟨q, 0, none⟩), .agg #[.int .i64 x.a, .int .i64 x.b], .agg #[.int .i64 x.c, .int .i64 x.d]] V fun e V' => e = .returned (.bool (D.stR p m x).2) ∧ S.Pos q p (D.stR p m x).1 V' ∧ V.grownBy V' (some q) := by
  have HK : Hid (∀ W, Calls Try.prog 70 #[.agg #[.int .i64 x.a, .int .i64 x.b], .agg #[.int .i64 x.c, .int .i64 x.d]] W fun e w' => e = .returned (.bool x.kept) ∧ Below W.heap.size W w') := fun W => kept_any x W
  have hst := Lib.hid (show D.stR p m x = if x.b ≤ p then (m, false) else if x.kept then (x.c + max p x.a - x.a, true) else (m, false) from rfl)
  have hq := h.lt
  have HN := Lib.hid (fun w' (g : Below (S.W2 V x).heap.size (S.W2 V x) w') => S.w2_on hq g)
  have H := Lib.hid h
  have H0 := Lib.hid ((h.alloc (.cells #[.int .i64 x.a, .int .i64 x.b] 74)).alloc (.cells #[.int .i64 x.c, .int .i64 x.d] 74))
  obtain ⟨a, b, c, d⟩ := x
  dsimp only at *
  simp only [S.W2] at HN
  generalize D.S4.kept ⟨a, b, c, d⟩ = k at HK hst
  generalize D.stR p m ⟨a, b, c, d⟩ = r at hst
  obtain ⟨c0, c1, cf⟩ := h.cells
  clear h
  by_cases hpa : b ≤ p
  · have R1 : Hid (r = (m, false)) := by show _ = _; rw [hst.out, if_pos hpa]
    have hpa' : decide ((b : Int) ≤ (p : Int)) = true := by simpa using hpa
    clear hst
    go_enter Try.func65, Try.ntmps65
    go_wp2
    go_region
    all_goals
      go_wp2
      go_ret
      rw [R1.out]
      exact ⟨rfl, H0.out, S.grown_below q (((Below.refl _ V).alloc (Nat.le_refl _) _).alloc (by simp) _).drew⟩
  · have hpa' : decide ((b : Int) ≤ (p : Int)) = false := by simp; omega
    go_enter Try.func65, Try.ntmps65
    go_wp2
    go_region_with (refine (HK.out _).mono ?_; rintro e w1 ⟨rfl, hb⟩; have N3 := Lib.hid (HN.out w1 ⟨hb.os, hb.tape, hb.output, hb.size, hb.block⟩); clear hb c0 c1 cf)
    all_goals
      cases k with
      | false =>
        have R1 : Hid (r = (m, false)) := by show _ = _; rw [hst.out, if_neg hpa, if_neg (by decide)]
        go_wp2
        go_ret
        rw [R1.out]
        exact ⟨rfl, N3.out.2.2.1.trans H.out, S.grown_below q N3.out.2.2.2⟩
      | true =>
        have R1 : Hid (r = (c + max p a - a, true)) := by show _ = _; rw [hst.out, if_neg hpa, if_pos rfl]
        obtain ⟨x0, x1, xf⟩ := S.Box.cells (show S.Box w1 V.heap.size a b from N3.out.1)
        obtain ⟨y0, y1, yf⟩ := S.Box.cells (show S.Box w1 (V.heap.size + 1) c d from N3.out.2.1)
        have hP : S.Pos q p m w1 := N3.out.2.2.1.trans H.out
        obtain ⟨c0, c1, cf⟩ := hP.cells
        have HP := Lib.hid hP
        clear hP
        go_wp2
        go_region
        all_goals
          go_wp2
          go_ret
          rw [R1.out]
          have e1 : (c : Int) + max (p : Int) a - a = ((c + max p a - a : Nat) : Int) := by omega
          rw [e1]
          exact ⟨rfl, S.Pos.set1 HP.out _, S.grown_drew (S.grown_trans (S.grown_below q N3.out.2.2.2) (S.grown_set _ _ _ _))⟩
end Go.Proofs.Ytampekldlnlhdaa
