/- Texts joined: MarkSwap MarkCmp MarkSwp MarkIns -/
import Derived.Test.YtmbgcbgbdjiacaaPackMMath
import Derived.Test.YtmbgcbgbdjiacaaPackMRow
import Derived.StillTailTactics
import Derived.Test.YtmbgcbgbdjiacaaApplyBuild
import Derived.BigRegion
import Derived.Deep.DeepCutAuto
/- MarkSwap -/
namespace Go.Proofs.Ytmbgcbgbdjiacaa
open Go.RowKit

/-- What three stores of a mark leave. -/
@[reducible] def K.putAt (W : World) (g i : Nat) (m : K.M) : World := ((W.setCell ⟨g, i * 3, none⟩ (.int .u32 m.id)).setCell ⟨g, i * 3 + 1, none⟩ (.int .i64 m.at_)).setCell ⟨g, i * 3 + 2, none⟩ (.int .u8 m.g)
/-- A mark of a row of a call's own: it may be read and written. -/
structure K.At (W : World) (g i : Nat) (m : K.M) : Prop where
  lt : g < W.heap.size
  c0 : W.cell? ⟨g, i * 3, none⟩ = some (.int .u32 m.id)
  c1 : W.cell? ⟨g, i * 3 + 1, none⟩ = some (.int .i64 m.at_)
  c2 : W.cell? ⟨g, i * 3 + 2, none⟩ = some (.int .u8 m.g)
  f0 : W.frozen? ⟨g, i * 3, none⟩ = false
  f1 : W.frozen? ⟨g, i * 3 + 1, none⟩ = false
  f2 : W.frozen? ⟨g, i * 3 + 2, none⟩ = false
theorem K.Made.block {l : List K.M} {w W : World} {g n c : Nat} (h : K.Made l w (.slice (some ⟨g, 0, none⟩) n c) W) : n = l.length ∧ w.heap.size ≤ g ∧ g < W.heap.size ∧ ∃ cur, W.heap[g]? = some (.cells cur 32 (0, 0)) ∧ n ≤ c ∧ c ≤ maxLen ∧ cur.size = c * 3 ∧ cur.toList.take (n * 3) = K.cellsM l := by
  obtain ⟨hl, ⟨e, _⟩ | ⟨g', c', cur, e, hb, hg, hnc, hcm, hcs, ht⟩⟩ := h.own
  · cases e
  · cases e
    exact ⟨rfl, hb, (Array.getElem?_eq_some_iff.1 hg).1, cur, hg, hnc, hcm, hcs, ht⟩
theorem K.Made.at {l : List K.M} {w W : World} {g n c : Nat} (h : K.Made l w (.slice (some ⟨g, 0, none⟩) n c) W) {i : Nat} {m : K.M} (hi : l[i]? = some m) : K.At W g i m := by
  obtain ⟨rfl, hb, hlt, cur, hg, hnc, hcm, hcs, ht⟩ := h.block
  obtain ⟨_, _, e, _, h0, h1, h2⟩ := h.row i m hi
  cases e
  rw [Nat.zero_add] at h0 h1 h2
  have hf : ∀ j, W.frozen? ⟨g, j, none⟩ = false := fun j => by simp [World.frozen?, hg]
  exact ⟨hlt, h0, h1, h2, hf _, hf _, hf _⟩
theorem K.cells_set : ∀ (l : List K.M) (i : Nat) (m : K.M), i < l.length → K.cellsM (l.set i m) = (((K.cellsM l).set (i * 3) (.int .u32 m.id)).set (i * 3 + 1) (.int .i64 m.at_)).set (i * 3 + 2) (.int .u8 m.g)
  | [], i, _, h => by simp at h
  | x :: l, 0, m, _ => by simp [K.cellsM]
  | x :: l, i + 1, m, h => by
    have e : ∀ (y : K.M) (r : List K.M), K.cellsM (y :: r) = .int .u32 y.id :: .int .i64 y.at_ :: .int .u8 y.g :: K.cellsM r := fun y r => by simp [K.cellsM]
    rw [List.set_cons_succ, e, e, K.cells_set l i m (by simpa using h), show (i + 1) * 3 = i * 3 + 1 + 1 + 1 by omega]
    simp only [List.set_cons_succ]
theorem K.Made.put {l : List K.M} {w W : World} {g n c : Nat} (h : K.Made l w (.slice (some ⟨g, 0, none⟩) n c) W) {i : Nat} (hi : i < n) (m : K.M) : K.Made (l.set i m) w (.slice (some ⟨g, 0, none⟩) n c) (K.putAt W g i m) := by
  obtain ⟨rfl, hb, hlt, cur, hg, hnc, hcm, hcs, ht⟩ := h.block
  have hll : (l.set i m).length = l.length := List.length_set
  refine ⟨⟨by rw [K.cellsM_len], Or.inr ⟨g, c, ((cur.setIfInBounds (i * 3) (.int .u32 m.id)).setIfInBounds (i * 3 + 1) (.int .i64 m.at_)).setIfInBounds (i * 3 + 2) (.int .u8 m.g), by rw [hll], hb, ?_, by rw [hll]; exact hnc, hcm, by simpa using hcs, ?_⟩⟩, ?_⟩
  · have h1 := heap_setCell_same W g (i * 3) cur 32 (.int .u32 m.id) hg
    have h2 := heap_setCell_same _ g (i * 3 + 1) _ 32 (.int .i64 m.at_) h1
    have h3 := heap_setCell_same _ g (i * 3 + 2) _ 32 (.int .u8 m.g) h2
    exact h3
  · rw [hll, K.cells_set l i m hi, ← ht]
    simp only [Array.toList_setIfInBounds, List.take_set]
  · exact ((h.below.setCell (p := ⟨g, i * 3, none⟩) hb _).setCell (p := ⟨g, i * 3 + 1, none⟩) hb _).setCell (p := ⟨g, i * 3 + 2, none⟩) hb _
theorem K.At.drewN {W : World} {g i : Nat} {m : K.M} (h : K.At W g i m) (n : Nat) : K.At (W.drewN n) g i m := ⟨h.lt, h.c0, h.c1, h.c2, h.f0, h.f1, h.f2⟩
end Go.Proofs.Ytmbgcbgbdjiacaa
/- MarkCmp -/
namespace Go.Proofs.Ytmbgcbgbdjiacaa
open Go.RowKit

def K.cmpZ (a b : Int) : Int := if a < b then -1 else if b < a then 1 else 0
def K.or2 (a b : Int) : Int := if a = 0 then b else a
theorem K.cf_eq (x y : K.M) : K.cf x y = K.or2 (K.cmpZ x.at_ y.at_) (K.cmpZ x.id y.id) := by
  unfold K.cf K.or2 K.cmpZ
  (repeat' split) <;> omega
theorem compareInt_any (a b : Int) (w : World) : Calls Try.prog 46 #[.int .i64 a, .int .i64 b] w fun e w' => e = .returned (.int .i64 (K.cmpZ a b)) ∧ w' = w := by
  by_cases h1 : a < b
  · have hd : Hid (K.cmpZ a b = -1) := by show _ = _; unfold K.cmpZ; rw [if_pos h1]
    have q1 : decide (a < b) = true := by simpa using h1
    go_enter Try.func46, Try.ntmps46
    go_wp2
    go_ret
    exact ⟨by rw [hd.out]; rfl, rfl⟩
  · have q1 : decide (a < b) = false := by simpa using h1
    by_cases h2 : b < a
    · have hd : Hid (K.cmpZ a b = 1) := by show _ = _; unfold K.cmpZ; rw [if_neg h1, if_pos h2]
      have q2 : decide (b < a) = true := by simpa using h2
      go_enter Try.func46, Try.ntmps46
      go_wp2
      go_ret
      exact ⟨by rw [hd.out]; rfl, rfl⟩
    · have hd : Hid (K.cmpZ a b = 0) := by show _ = _; unfold K.cmpZ; rw [if_neg h1, if_neg h2]
      have q2 : decide (b < a) = false := by simpa using h2
      go_enter Try.func46, Try.ntmps46
      go_wp2
      go_ret
      exact ⟨by rw [hd.out]; rfl, rfl⟩
theorem compareU32_any (a b : Int) (w : World) : Calls Try.prog 47 #[.int .u32 a, .int .u32 b] w fun e w' => e = .returned (.int .i64 (K.cmpZ a b)) ∧ w' = w := by
  by_cases h1 : a < b
  · have hd : Hid (K.cmpZ a b = -1) := by show _ = _; unfold K.cmpZ; rw [if_pos h1]
    have q1 : decide (a < b) = true := by simpa using h1
    go_enter Try.func47, Try.ntmps47
    go_wp2
    go_ret
    exact ⟨by rw [hd.out]; rfl, rfl⟩
  · have q1 : decide (a < b) = false := by simpa using h1
    by_cases h2 : b < a
    · have hd : Hid (K.cmpZ a b = 1) := by show _ = _; unfold K.cmpZ; rw [if_neg h1, if_pos h2]
      have q2 : decide (b < a) = true := by simpa using h2
      go_enter Try.func47, Try.ntmps47
      go_wp2
      go_ret
      exact ⟨by rw [hd.out]; rfl, rfl⟩
    · have hd : Hid (K.cmpZ a b = 0) := by show _ = _; unfold K.cmpZ; rw [if_neg h1, if_neg h2]
      have q2 : decide (b < a) = false := by simpa using h2
      go_enter Try.func47, Try.ntmps47
      go_wp2
      go_ret
      exact ⟨by rw [hd.out]; rfl, rfl⟩
/-- Two numbers lie in a row. -/
structure K.Pr (W : World) (g : Nat) (a b : Int) : Prop where
  c0 : W.cell? ⟨g, 0, none⟩ = some (.int .i64 a)
  c1 : W.cell? ⟨g, 1, none⟩ = some (.int .i64 b)
theorem orInt_any (g : Nat) (a b : Int) (w : World) (h : K.Pr w g a b) : Calls Try.prog 45 #[.slice (some ⟨g, 0, none⟩) 2 2] w fun e w' => e = .returned (.int .i64 (K.or2 a b)) ∧ w' = w := by
  obtain ⟨c0, c1⟩ := h
  by_cases h1 : a = 0
  · have hd : Hid (K.or2 a b = b) := by show _ = _; unfold K.or2; rw [if_pos h1]
    have q1 : (a != 0) = false := by simpa using h1
    by_cases h2 : b = 0
    · have q2 : (b != 0) = false := by simpa using h2
      have q3 : Hid (b = 0) := h2
      clear h1 h2
      go_enter Try.func45, Try.ntmps45
      go_wp2
      go_loopw [8] (fun i wr => (∃ k : Nat, k ≤ 2 ∧ i = .int .i64 k) ∧ wr = w) (fun i _ => 2 - (intOf i).toNat)
      case atStart => exact ⟨⟨0, by omega, rfl⟩, rfl⟩
      case round =>
        obtain ⟨⟨k, hk, rfl⟩, rfl⟩ := hrel
        have hk' : k = 0 ∨ k = 1 ∨ k = 2 := by omega
        rcases hk' with rfl | rfl | rfl
        · go_wp2
          go_roundw
          case rel => exact ⟨⟨1, by omega, by go_num⟩, trivial⟩
          case measure => simp [intOf]
        · go_wp2
          go_roundw
          case rel => exact ⟨⟨2, by omega, by go_num⟩, trivial⟩
          case measure => simp [intOf]
        · go_wp2
          go_ret
          exact ⟨by rw [hd.out, q3.out]; rfl, rfl⟩
    · have q2 : (b != 0) = true := by simpa using h2
      clear h1 h2
      go_enter Try.func45, Try.ntmps45
      go_wp2
      go_loopw [8] (fun i wr => (∃ k : Nat, k ≤ 1 ∧ i = .int .i64 k) ∧ wr = w) (fun i _ => 2 - (intOf i).toNat)
      case atStart => exact ⟨⟨0, by omega, rfl⟩, rfl⟩
      case round =>
        obtain ⟨⟨k, hk, rfl⟩, rfl⟩ := hrel
        have hk' : k = 0 ∨ k = 1 := by omega
        rcases hk' with rfl | rfl
        · go_wp2
          go_roundw
          case rel => exact ⟨⟨1, by omega, by go_num⟩, trivial⟩
          case measure => simp [intOf]
        · go_wp2
          go_ret
          exact ⟨by rw [hd.out]; rfl, rfl⟩
  · have hd : Hid (K.or2 a b = a) := by show _ = _; unfold K.or2; rw [if_neg h1]
    have q1 : (a != 0) = true := by simpa using h1
    clear h1
    go_enter Try.func45, Try.ntmps45
    go_wp2
    go_loopw [8] (fun i wr => i = .int .i64 (0 : Nat) ∧ wr = w) (fun i _ => 2 - (intOf i).toNat)
    case atStart => exact ⟨rfl, rfl⟩
    case round =>
      obtain ⟨rfl, rfl⟩ := hrel
      go_wp2
      go_ret
      exact ⟨by rw [hd.out]; rfl, rfl⟩
theorem K.Pr.lit (W : World) (a b : Int) : K.Pr (W.alloc (.cells #[.int .i64 a, .int .i64 b] 3)) W.heap.size a b := by
  exact ⟨by simp [go_sem], by simp [go_sem]⟩
set_option maxHeartbeats 4000000 in
set_option maxRecDepth 100000 in
theorem cmpMarks_any (x y : K.M) (w : World) : Calls Try.prog 44 #[.agg #[.int .u32 x.id, .int .i64 x.at_, .int .u8 x.g], .agg #[.int .u32 y.id, .int .i64 y.at_, .int .u8 y.g]] w fun e w' => e = .returned (.int .i64 (K.cf x y)) ∧ Below w.heap.size w w' := by
  have hd : Hid (K.cf x y = K.or2 (K.cmpZ x.at_ y.at_) (K.cmpZ x.id y.id)) := K.cf_eq x y
  have hI := fun W => Lib.hid (compareInt_any x.at_ y.at_ W)
  have hU := fun W => Lib.hid (compareU32_any x.id y.id W)
  have hO := fun g W h => Lib.hid (orInt_any g (K.cmpZ x.at_ y.at_) (K.cmpZ x.id y.id) W h)
  have bx := K.Box.new w x 32
  have hb1 := (Below.refl w.heap.size w).alloc (Nat.le_refl _) (.cells #[.int .u32 x.id, .int .i64 x.at_, .int .u8 x.g] 32)
  have b2 := Below.alloc (Below.refl _ _) (Nat.le_refl _) (a := w.alloc (.cells #[.int .u32 x.id, .int .i64 x.at_, .int .u8 x.g] 32)) (.cells #[.int .u32 y.id, .int .i64 y.at_, .int .u8 y.g] 32)
  have bx2 := bx.below b2
  have by2 := K.Box.new (w.alloc (.cells #[.int .u32 x.id, .int .i64 x.at_, .int .u8 x.g] 32)) y 32
  have hb2 := hb1.trans (b2.mono hb1.size)
  go_enter Try.func44, Try.ntmps44
  go_wp2
  have hB := Lib.hid hb2
  obtain ⟨_, x0, x1, _, _, _, _⟩ := bx2
  obtain ⟨_, y0, y1, _, _, _, _⟩ := by2
  have hz : (w.alloc (.cells #[.int .u32 x.id, .int .i64 x.at_, .int .u8 x.g] 32)).heap.size = w.heap.size + 1 := by simp
  rw [hz] at y0 y1
  generalize ((w.alloc (.cells #[.int .u32 x.id, .int .i64 x.at_, .int .u8 x.g] 32)).alloc (.cells #[.int .u32 y.id, .int .i64 y.at_, .int .u8 y.g] 32)) = W at *
  clear bx b2 hb1 hb2 hz
  obtain ⟨W2, hW2⟩ : ∃ W2, Hid (W2 = W.drew) := ⟨_, rfl⟩
  have x0 : W2.cell? ⟨w.heap.size, 0, none⟩ = some (.int .u32 x.id) := by rw [hW2.out]; exact x0
  have x1 : W2.cell? ⟨w.heap.size, 1, none⟩ = some (.int .i64 x.at_) := by rw [hW2.out]; exact x1
  have y0 : W2.cell? ⟨w.heap.size + 1, 0, none⟩ = some (.int .u32 y.id) := by rw [hW2.out]; exact y0
  have y1 : W2.cell? ⟨w.heap.size + 1, 1, none⟩ = some (.int .i64 y.at_) := by rw [hW2.out]; exact y1
  have hB2 : Hid (Below w.heap.size w W2) := by show Below _ _ _; rw [hW2.out]; exact hB.out.drew
  have hP := hO _ _ (K.Pr.lit W2 (K.cmpZ x.at_ y.at_) (K.cmpZ x.id y.id))
  have hR : Hid (Below w.heap.size w (W2.alloc (.cells #[.int .i64 (K.cmpZ x.at_ y.at_), .int .i64 (K.cmpZ x.id y.id)] 3))) := hB2.out.alloc hB2.out.size _
  have hI := hI W2
  have hU := hU W2
  clear hO hB hB2
  refine A.still_tail 10 (by kernel_rfl) (by kernel_rfl) W2 hW2.out ?_
  simp only [List.take_succ_cons, List.take_zero, List.drop_succ_cons, List.drop_zero]
  clear hW2
  repeat still_step
  still_call hI.out
  repeat still_step
  still_call hU.out
  repeat still_step
  refine wpStill_nil ?_
  go_wp2_with fail
  refine hP.out.mono ?_
  rintro e w1 ⟨rfl, rfl⟩
  go_wp2
  go_ret
  exact ⟨by rw [hd.out]; rfl, hR.out⟩
end Go.Proofs.Ytmbgcbgbdjiacaa
/- MarkSwp -/
namespace Go.Proofs.Ytmbgcbgbdjiacaa
open Go.RowKit

set_option maxHeartbeats 4000000 in
theorem swapRange_any (g c a b n N : Nat) (L : List K.M) (f : Value) (w W : World) (hN : N = L.length) (h : K.Made L w (.slice (some ⟨g, 0, none⟩) N c) W) (h0 : K.Xch a b n 0 L L) (hl : N ≤ 1000000) :
    Calls Try.prog 107 #[.slice (some ⟨g, 0, none⟩) N c, .int .i64 a, .int .i64 b, .int .i64 n, f] W
      fun e w' => e = .returned (.tuple #[]) ∧ ∃ L', K.Xch.Done a b n L L' ∧ L'.length = N ∧ K.Made L' w (.slice (some ⟨g, 0, none⟩) N c) w' := by
  subst hN
  have HM := Lib.hid h
  have HX := Lib.hid h0
  obtain ⟨_, hab, hbl⟩ := h0.lt
  clear h h0
  go_enter Try.func107, Try.ntmps107
  go_wp2
  go_loopw [10] (fun i wr => ∃ (k : Nat) (L' : List K.M), k ≤ n ∧ i = .int .i64 k ∧ Hid (K.Xch a b n k L L') ∧ Hid (K.Made L' w (.slice (some ⟨g, 0, none⟩) L.length c) wr)) (fun i _ => n - (intOf i).toNat)
  case atStart => exact ⟨0, L, Nat.zero_le _, rfl, HX, HM⟩
  case round =>
    obtain ⟨k, L', hk, rfl, hX, hM⟩ := hrel
    clear HM HX
    have hll := hX.out.lt.1
    by_cases hlt : k < n
    · obtain ⟨p, hp⟩ : ∃ p, L'[a + k]? = some p := ⟨L'[a + k]'(by omega), List.getElem?_eq_getElem _⟩
      obtain ⟨q, hq⟩ : ∃ q, L'[b + k]? = some q := ⟨L'[b + k]'(by omega), List.getElem?_eq_getElem _⟩
      obtain ⟨lt, p0, p1, p2, pf0, pf1, pf2⟩ := hM.out.at hp
      obtain ⟨_, q0, q1, q2, qf0, qf1, qf2⟩ := hM.out.at hq
      have hnx := Lib.hid (hX.out.step hlt hp hq)
      have hst := Lib.hid ((hM.out.put (i := a + k) (by omega) q).put (i := b + k) (by omega) p)
      clear hp hq
      have w1 : IntKind.i64.wrap ((a : Int) + (k : Int)) = ((a + k : Nat) : Int) := by rw [IntWalk.i64_in _ (by omega)]; omega
      have w2 : IntKind.i64.wrap ((b : Int) + (k : Int)) = ((b + k : Nat) : Int) := by rw [IntWalk.i64_in _ (by omega)]; omega
      go_wp2
      go_region
      go_wp2
      go_roundw
      case rel => exact ⟨k + 1, _, by omega, by go_num, hnx, hst.out.kept (Below.refl _ _).drew⟩
      case measure => simp [intOf]; omega
    · obtain rfl : n = k := by omega
      have R := hX.out.stop
      go_wp2
      go_end0
      exact ⟨rfl, L', R, hll, hM.out⟩
theorem K.Rot.lt {m i j : Nat} {G L : List K.M} (h : K.Rot m i j G L) : i ≤ m ∧ m + j ≤ L.length ∧ G.length = L.length := by
  obtain ⟨P, U, V, R, rfl, rfl, e1, e2, e3⟩ := h.ex
  simp only [List.length_append]
  omega
set_option maxHeartbeats 4000000 in
theorem rotate_any (g c s m e N : Nat) (L G : List K.M) (f : Value) (w W : World) (hN : N = L.length) (h : K.Made L w (.slice (some ⟨g, 0, none⟩) N c) W) (h0 : K.Rot m (m - s) (e - m) G L) (hsm : s < m) (hme : m < e) (hl : N ≤ 1000000) :
    Calls Try.prog 106 #[.slice (some ⟨g, 0, none⟩) N c, .int .i64 s, .int .i64 m, .int .i64 e, f] W
      fun e w' => e = .returned (.tuple #[]) ∧ K.Made G w (.slice (some ⟨g, 0, none⟩) N c) w' := by
  have HM := Lib.hid h
  have HX := Lib.hid h0
  obtain ⟨b1, b2, b3⟩ := h0.lt
  have HS := Lib.hid (fun (a b n : Nat) (L' : List K.M) V (h1 : N = L'.length) (h2 : K.Made L' w (.slice (some ⟨g, 0, none⟩) N c) V) (h3 : K.Xch a b n 0 L' L') => swapRange_any g c a b n N L' f w V h1 h2 h3 hl)
  have HN := Lib.hid hN
  rw [← hN] at b2
  clear h h0 hN
  have w1 : IntKind.i64.wrap ((m : Int) - (s : Int)) = ((m - s : Nat) : Int) := by rw [IntWalk.i64_in _ (by omega)]; omega
  have w2 : IntKind.i64.wrap ((e : Int) - (m : Int)) = ((e - m : Nat) : Int) := by rw [IntWalk.i64_in _ (by omega)]; omega
  go_enter Try.func106, Try.ntmps106
  go_wp2
  go_loopw [10, 11] (fun vi vj wr => ∃ (i j : Nat) (L' : List K.M), 0 < i ∧ 0 < j ∧ vi = .int .i64 i ∧ vj = .int .i64 j ∧ Hid (N = L'.length) ∧ Hid (K.Rot m i j G L') ∧ Hid (K.Made L' w (.slice (some ⟨g, 0, none⟩) N c) wr)) (fun vi vj _ => (intOf vi).toNat + (intOf vj).toNat)
  case atStart => exact ⟨m - s, e - m, L, by omega, by omega, by go_num, by go_num, HN, HX, HM⟩
  case round =>
    obtain ⟨i, j, L', hi, hj, rfl, rfl, hN', hX, hM⟩ := hrel
    clear HM HX w1 w2
    obtain ⟨b4, b5, b6⟩ := hX.out.lt
    rw [← hN'.out] at b5
    have w3 : IntKind.i64.wrap ((m : Int) - (i : Int)) = ((m - i : Nat) : Int) := by rw [IntWalk.i64_in _ (by omega)]; omega
    by_cases hij : i = j
    · subst hij
      have R := Lib.hid (fun L2 h => hX.out.last (L' := L2) h)
      have HC := Lib.hid (HS.out (m - i) m i L' wr hN'.out hM.out (hX.out.xch1 (Nat.le_refl _)))
      clear HS hX
      go_wp2_with (go_at_call 107; refine HC.out.mono ?_; rintro e w1 ⟨rfl, L2, hd, hl2, hm2⟩; have hl2 := Lib.hid hl2.symm; have R2 := Lib.hid (R.out L2 hd); have R3 := Lib.hid hm2; clear hd hm2)
      go_end0
      exact ⟨rfl, by rw [← R2.out]; exact R3.out⟩
    · have q0 : ((i : Int) != (j : Int)) = true := by simp; omega
      by_cases hlt : j < i
      · have R := Lib.hid (fun L2 h => hX.out.big (L' := L2) hlt h)
        have HC := Lib.hid (HS.out (m - i) m j L' wr hN'.out hM.out (hX.out.xch1 (by omega)))
        have q1 : decide ((j : Int) < (i : Int)) = true := by simp; omega
        have w4 : IntKind.i64.wrap ((i : Int) - (j : Int)) = ((i - j : Nat) : Int) := by rw [IntWalk.i64_in _ (by omega)]; omega
        clear HS hX
        go_wp2_with (go_at_call 107; refine HC.out.mono ?_; rintro e w1 ⟨rfl, L2, hd, hl2, hm2⟩; have hl2 := Lib.hid hl2.symm; have R2 := Lib.hid (R.out L2 hd); have R3 := Lib.hid hm2; clear hd hm2)
        go_roundw
        case rel => exact ⟨i - j, j, L2, by omega, hj, by go_num, rfl, hl2, R2, R3⟩
        case measure => simp [intOf]; omega
      · have R := Lib.hid (fun L2 h => hX.out.small (L' := L2) (by omega) h)
        have HC := Lib.hid (HS.out (m - i) (m + j - i) i L' wr hN'.out hM.out (hX.out.xch2 (by omega)))
        have q1 : decide ((j : Int) < (i : Int)) = false := by simp; omega
        have w4 : IntKind.i64.wrap ((j : Int) - (i : Int)) = ((j - i : Nat) : Int) := by rw [IntWalk.i64_in _ (by omega)]; omega
        have w5 : IntKind.i64.wrap ((m : Int) + (j : Int)) = ((m + j : Nat) : Int) := by rw [IntWalk.i64_in _ (by omega)]; omega
        rw [show ((m + j - i : Nat) : Int) = (m : Int) + (j : Int) - (i : Int) by omega] at HC
        clear HS hX
        go_wp2_with (go_at_call 107; refine HC.out.mono ?_; rintro e w1 ⟨rfl, L2, hd, hl2, hm2⟩; have hl2 := Lib.hid hl2.symm; have R2 := Lib.hid (R.out L2 hd); have R3 := Lib.hid hm2; clear hd hm2)
        go_roundw
        case rel => exact ⟨i, j - i, L2, hi, by omega, rfl, by go_num, hl2, R2, R3⟩
        case measure => simp [intOf]; omega
end Go.Proofs.Ytmbgcbgbdjiacaa
/- MarkIns -/
namespace Go.Proofs.Ytmbgcbgbdjiacaa
open Go.RowKit

/-- The comparison of marks, as a function value. -/
@[reducible] def K.cmpV : Value := .func (.func 44) #[] #[]
set_option maxRecDepth 100000 in
set_option maxHeartbeats 8000000 in
theorem insertionSort_any (g c a b N : Nat) (L : List K.M) (w W : World) (hN : N = L.length) (h : K.Made L w (.slice (some ⟨g, 0, none⟩) N c) W) (hab : a ≤ b) (hbN : b ≤ N) (hl : N ≤ 1000000) :
    Calls Try.prog 97 #[.slice (some ⟨g, 0, none⟩) N c, .int .i64 a, .int .i64 b, .func (.func 44) #[] #[]] W
      fun e w' => e = .returned (.tuple #[]) ∧ ∃ L', K.Mrg a b L L' ∧ N = L'.length ∧ K.Made L' w (.slice (some ⟨g, 0, none⟩) N c) w' := by
  have HM := Lib.hid h
  have h0 : Hid (K.Mrg a (min (a + 1) b) L L) := K.Mrg.refl (by omega) (by omega) ((K.Seg.one L a).mono (Nat.le_refl _) (by omega))
  have HN := Lib.hid hN
  clear h hN
  have w1 : IntKind.i64.wrap ((a : Int) + 1) = (a : Int) + 1 := IntWalk.i64_in _ (by omega)
  go_enter Try.func97, Try.ntmps97
  go_wp2
  go_loopw [8] (fun vi wr => ∃ (i : Nat) (L' : List K.M), vi = .int .i64 i ∧ a < i ∧ i ≤ N + 1 ∧ Hid (K.Mrg a (min i b) L L') ∧ Hid (K.Made L' w (.slice (some ⟨g, 0, none⟩) N c) wr)) (fun vi _ => b - (intOf vi).toNat)
  case atStart => exact ⟨a + 1, L, by go_num, by omega, by omega, h0, HM⟩
  case round =>
    obtain ⟨i, L1, rfl, hai, hiN, hX, hM⟩ := hrel
    clear HM h0 w1
    by_cases hlt : i < b
    · have q0 : decide ((i : Int) < (b : Int)) = true := by simp; omega
      have hs : Hid (K.Ins a i i L L1) := by
        have h1 := hX.out
        rw [Nat.min_eq_left (by omega)] at h1
        exact K.Ins.start h1 (by have := HN.out; omega)
      have w1 : IntKind.i64.wrap ((i : Int) + 1) = (i : Int) + 1 := IntWalk.i64_in _ (by omega)
      clear hX
      go_wp2
      go_loopw [9] (fun vj wr => ∃ (j : Nat) (L' : List K.M), vj = .int .i64 j ∧ a ≤ j ∧ j ≤ i ∧ Hid (K.Ins a i j L L') ∧ Hid (K.Made L' w (.slice (some ⟨g, 0, none⟩) N c) wr)) (fun vj _ => (intOf vj).toNat)
      case atStart => exact ⟨i, L1, rfl, by omega, Nat.le_refl _, hs, hM⟩
      case round =>
        obtain ⟨j, L2, rfl, haj, hji, hI, hM2⟩ := hrel
        clear hs hM
        by_cases hja : a < j
        · obtain ⟨k, hk⟩ : ∃ k, k + 1 = j := ⟨j - 1, by omega⟩
          have hNL : Hid (N = L2.length) := hM2.out.block.1
          have hjN : j < N := by omega
          have hkN : k < N := by omega
          obtain ⟨p, hp⟩ : ∃ p, L2[j]? = some p := ⟨L2[j]'(by have := hNL.out; omega), List.getElem?_eq_getElem _⟩
          obtain ⟨q, hq⟩ : ∃ q, L2[k]? = some q := ⟨L2[k]'(by have := hNL.out; omega), List.getElem?_eq_getElem _⟩
          have HL := Lib.hid (And.intro hp hq)
          have q1 : decide ((a : Int) < (j : Int)) = true := by simp; omega
          have w2 : IntKind.i64.wrap ((j : Int) - 1) = (k : Int) := by rw [IntWalk.i64_in _ (by omega)]; omega
          have hnx : Hid (¬ K.le q p = true → K.Ins a i k L ((L2.set j q).set k p)) := fun hlt => by
            subst hk
            exact hI.out.step (by omega) hp hq hlt
          have hsp : Hid (K.le q p = true → K.Mrg a (i + 1) L L2) := fun hle => hI.out.stop fun j' x y e _ hx hy => by
            obtain rfl : j' = k := by omega
            rw [hp] at hx; rw [hq] at hy; cases hx; cases hy; exact hle
          have hcf : Hid (K.cf p q < 0 ↔ ¬ K.le q p = true) := K.cf_neg p q
          obtain ⟨W2, hW2⟩ : ∃ W2, Hid (W2 = wr.drew) := ⟨_, rfl⟩
          have hM3 : Hid (K.Made L2 w (.slice (some ⟨g, 0, none⟩) N c) W2) := by show K.Made _ _ _ _; rw [hW2.out]; exact hM2.out.kept (Below.refl _ _).drew
          obtain ⟨lt, p0, p1, p2, _, _, _⟩ := hM3.out.at hp
          obtain ⟨_, x0, x1, x2, _, _, _⟩ := hM3.out.at hq
          have HC := Lib.hid (cmpMarks_any p q W2)
          clear hp hq hI hM2
          go_wp2_with fail
          refine A.still_tail 14 (by kernel_rfl) (by kernel_rfl) W2 hW2.out ?_
          simp only [List.take_succ_cons, List.take_zero, List.drop_succ_cons, List.drop_zero]
          repeat still_step
          refine wpStill_nil ?_
          go_wp2_with fail
          refine HC.out.mono ?_
          rintro e w3 ⟨rfl, hb⟩
          have hM4 := Lib.hid (hM3.out.kept hb)
          clear hb p0 p1 p2 x0 x1 x2 hM3 HC hW2
          obtain ⟨⟨lt, p0, p1, p2, pf0, pf1, pf2⟩, ⟨_, x0, x1, x2, xf0, xf1, xf2⟩⟩ := And.intro (hM4.out.at HL.out.1) (hM4.out.at HL.out.2)
          have hst := Lib.hid ((hM4.out.put (i := j) hjN q).put (i := k) hkN p)
          by_cases hlt : K.cf p q < 0
          · have q3 : decide (K.cf p q < 0) = true := by simpa using hlt
            have R := Lib.hid (hnx.out (hcf.out.1 hlt))
            clear hnx hsp hcf hlt
            go_wp2
            go_region
            go_wp2
            go_roundw
            case rel => exact ⟨k, _, rfl, by omega, by omega, R, hst.out.kept (Below.refl _ _).drew⟩
            case measure => simp [intOf]; omega
          · have q3 : decide (K.cf p q < 0) = false := by simpa using hlt
            have R := Lib.hid (hsp.out (by
              by_cases c : K.le q p = true
              · exact c
              · exact absurd (hcf.out.2 c) hlt))
            clear hnx hsp hcf hlt hst p0 p1 p2 x0 x1 x2 pf0 pf1 pf2 xf0 xf1 xf2
            go_wp2
            refine ⟨⟨i + 1, L2, by go_num, by omega, by omega, ?_, ?_⟩, by simp [intOf]; omega⟩
            · rw [Nat.min_eq_left (by omega)]; exact R
            · exact hM4.out
        · obtain rfl : j = a := by omega
          have q1 : decide ((j : Int) < (j : Int)) = false := by simp
          have R : Hid (K.Mrg j (i + 1) L L2) := hI.out.stop fun j' x y e h => by omega
          go_wp2_with fail
          go_quiet (fail)
          go_wp2
          refine ⟨⟨i + 1, L2, by go_num, by omega, by omega, ?_, ?_⟩, by simp [intOf]; omega⟩
          · rw [Nat.min_eq_left (by omega)]; exact R
          · exact hM2.out.drewN _
    · have q0 : decide ((i : Int) < (b : Int)) = false := by simp; omega
      have R : Hid (K.Mrg a b L L1) := by
        have h1 := hX.out
        rw [Nat.min_eq_right (by omega)] at h1
        exact h1
      go_wp2
      go_end0
      exact ⟨rfl, L1, R.out, by have := R.out.len; rw [this]; exact HN.out, hM.out⟩
end Go.Proofs.Ytmbgcbgbdjiacaa
