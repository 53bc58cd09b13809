/- The iterators of package runes, and the functions that range over them: their contracts. -/
import Derived.RangeFuncNested
import Derived.RangeFuncBound
import Derived.RangeFuncCalls
import Derived.RangeFuncLeaves
import Derived.Shelf.Abstract
import Derived.Shelf.RegionOpen
import Derived.WalkKit
import Derived.OwnWalkIn
import Derived.TacticsInMore
import Derived.LoopNIn
import Derived.LoopIn
import Derived.Test.YtnbijhmkhdjkiaaDoorRunesLeaf
import Derived.Lib.Hide
namespace Go.Proofs.YtnbijhmkhdjkiaaDoor
open Go.RowKit Go.Shelf
attribute [local go_sem] Oper.semAt_some

def U.ints (l : List Nat) : List Int := l.map fun k : Nat => (k : Int)
theorem U.ints_snoc (l : List Nat) (k : Nat) : U.ints (l ++ [k]) = U.ints l ++ [(k : Int)] := by simp [U.ints]
theorem U.ints_prefix {a b : List Nat} (h : a <+: b) : U.ints a <+: U.ints b := by
  obtain ⟨t, rfl⟩ := h; exact ⟨U.ints t, by simp [U.ints]⟩
/-- What a round that goes on keeps: the block of the string. -/
def U.Kept (B : Nat) (W W' : World) : Prop := W'.heap[B]? = W.heap[B]?
theorem U.Kept.trans {B : Nat} {X Y Z : World} (h : U.Kept B X Y) (k : U.Kept B Y Z) : U.Kept B X Z := Eq.trans k h
theorem U.Kept.cell {B : Nat} {W W' : World} (h : U.Kept B W W') (o : Nat) : W'.cell? ⟨B, o, none⟩ = W.cell? ⟨B, o, none⟩ := World.cell?_of_block (w := W) (a := ⟨B, o, none⟩) h

set_option maxHeartbeats 1000000 in
theorem asc1 (n : Nat) (hn : 1 ≤ n) (l Bf Bs : Nat) (s : ByteArray) (a : Nat) (hs : s.size < 4611686018427387904) (ha : a ≤ s.size + 1) (J Jx : List Int → World → Prop)
    (hY : ∀ pre x W, J pre W → pre.length < s.size + 1 → YieldAt Fence.wide (n - 1) Tryd.prog l #[.int .i64 x] W fun e W' =>
      (e = .returned (.bool true) ∧ J (pre ++ [x]) W' ∧ U.Kept Bs W W') ∨ (e = .returned (.bool false) ∧ Jx (pre ++ [x]) W'))
    (W : World) (hBf : W.cell? ⟨Bf, 0, none⟩ = some (.int .i64 a)) (hBs : W.cell? ⟨Bs, 0, none⟩ = some (.string s)) (h0 : J [] W) :
    CallsIn Fence.wide n Tryd.prog 38 #[.func (.yield l) #[] #[], .pointer (some ⟨Bf, 0, none⟩), .pointer (some ⟨Bs, 0, none⟩)] W fun e W' => (∃ v, e = .returned v) ∧
      ((∃ ys, ys = U.ints (U.ups s.data.toList a (s.size + 1)) ∧ J ys W') ∨ (∃ pre, pre <+: U.ints (U.ups s.data.toList a (s.size + 1)) ∧ Jx pre W')) := by
  refine callsIn_of_wp Tryd.func38 rfl trivial ?_ rfl
  simp only [Tryd.ntmps38, List.size_toArray, List.length_cons, List.length_nil, Nat.reduceAdd, Nat.reduceSub, Array.replicate_succ, Array.replicate_zero, List.push_toArray, List.append_toArray, List.nil_append, List.cons_append]
  gi_wp2
  clear hBf
  gi_loopw [4] (fun p wr => ∃ k : Nat, a ≤ k ∧ k ≤ s.size + 1 ∧ p = .int .i64 k ∧ J (U.ints (U.ups s.data.toList a k)) wr ∧ wr.cell? ⟨Bs, 0, none⟩ = some (.string s))
    (fun p wr => s.size + 1 - (intOf p).toNat)
  case atStart => exact ⟨a, Nat.le_refl _, ha, rfl, by rw [U.ups_start]; exact h0, hBs⟩
  case round =>
    clear hBs h0
    obtain ⟨k, hk1, hk2, rfl, hJ, hc⟩ := hrel
    by_cases hlt : k ≤ s.size
    · have hlen : (U.ints (U.ups s.data.toList a k)).length < s.size + 1 := by
        have : (U.ups s.data.toList a k).length ≤ k := by
          unfold U.ups
          have := List.length_filter_le (fun i => decide (a ≤ i) && U.bndN s.data.toList i) (List.range k)
          simpa using this
        simp [U.ints]; omega
      have hups := Lib.hid (U.ups_succ s.data.toList a k hk1)
      obtain ⟨fn, tmps, assign, body, hy, hR⟩ := hY _ (k : Int) wr hJ hlen
      cases hb : U.bndN s.data.toList k with
      | true =>
        have hb' : U.bnd s.data.toList (k : Int) = true := by rw [U.bnd_natCast]; exact hb
        have HB := Lib.hid hb
        clear hb
        gi_wp2_with (refine ⟨trivial, ?_⟩; gi_at_call 17; refine (callsIn_wide.2 (boundary_any _ _ _)).mono ?_; rintro e w' ⟨rfl, rfl⟩)
        refine hR.mono ?_
        rintro e W3 (⟨rfl, hJ3, hk3⟩ | ⟨rfl, hJx3⟩)
        · have hc3 := (hk3.cell 0).trans hc
          clear hk3
          gi_wp2
          go_roundw
          case rel => exact ⟨k + 1, by omega, by omega, by go_num, by rw [hups.out, HB.out, if_pos rfl, U.ints_snoc]; exact hJ3, hc3⟩
          case measure => simp [intOf]; omega
        · gi_wp2
          refine bodyPost_ret (results_none rfl _ _ _) rfl ?_
          refine ⟨⟨_, rfl⟩, .inr ⟨_, U.ints_prefix (U.ups_prefix s.data.toList a (k + 1) (s.size + 1) (by omega)), ?_⟩⟩
          rw [hups.out, HB.out, if_pos rfl, U.ints_snoc]; exact hJx3
      | false =>
        have hb' : U.bnd s.data.toList (k : Int) = false := by rw [U.bnd_natCast]; exact hb
        have HB := Lib.hid hb
        clear hb
        gi_wp2_with (refine ⟨trivial, ?_⟩; gi_at_call 17; refine (callsIn_wide.2 (boundary_any _ _ _)).mono ?_; rintro e w' ⟨rfl, rfl⟩)
        refine ⟨fun _ h => (by cases h), ?_⟩
        gi_wp2
        go_roundw
        case rel => exact ⟨k + 1, by omega, by omega, by go_num, by rw [hups.out, HB.out, if_neg (by simp), List.append_nil]; exact hJ, hc⟩
        case measure => simp [intOf]; omega
    · obtain rfl : k = s.size + 1 := by omega
      gi_wp2
      go_end0
      exact ⟨⟨_, rfl⟩, .inl ⟨_, rfl, hJ⟩⟩

set_option maxHeartbeats 1000000 in
theorem dsc1 (n : Nat) (hn : 1 ≤ n) (l Bf Bs : Nat) (s : ByteArray) (a : Int) (hs : s.size < 4611686018427387904) (ha : a ≤ s.size) (J Jx : List Int → World → Prop)
    (hY : ∀ pre x W, J pre W → pre.length < s.size + 1 → YieldAt Fence.wide (n - 1) Tryd.prog l #[.int .i64 x] W fun e W' =>
      (e = .returned (.bool true) ∧ J (pre ++ [x]) W' ∧ U.Kept Bs W W') ∨ (e = .returned (.bool false) ∧ Jx (pre ++ [x]) W'))
    (W : World) (hBf : W.cell? ⟨Bf, 0, none⟩ = some (.int .i64 a)) (hBs : W.cell? ⟨Bs, 0, none⟩ = some (.string s)) (h0 : J [] W) :
    CallsIn Fence.wide n Tryd.prog 39 #[.func (.yield l) #[] #[], .pointer (some ⟨Bf, 0, none⟩), .pointer (some ⟨Bs, 0, none⟩)] W fun e W' => (∃ v, e = .returned v) ∧
      ((∃ ys, ys = U.ints (U.dns s.data.toList (a + 1).toNat) ∧ J ys W') ∨ (∃ pre, pre <+: U.ints (U.dns s.data.toList (a + 1).toNat) ∧ Jx pre W')) := by
  refine callsIn_of_wp Tryd.func39 rfl trivial ?_ rfl
  simp only [Tryd.ntmps39, List.size_toArray, List.length_cons, List.length_nil, Nat.reduceAdd, Nat.reduceSub, Array.replicate_succ, Array.replicate_zero, List.push_toArray, List.append_toArray, List.nil_append, List.cons_append]
  gi_wp2
  clear hBf
  gi_loopw [4] (fun p wr => ∃ (k : Int) (pre : List Nat), k ≤ s.size ∧ (k = a ∨ -1 ≤ k) ∧ p = .int .i64 k ∧ Hid (pre ++ U.dns s.data.toList (k + 1).toNat = U.dns s.data.toList (a + 1).toNat) ∧ pre.length + (k + 1).toNat ≤ s.size + 1 ∧ J (U.ints pre) wr ∧ wr.cell? ⟨Bs, 0, none⟩ = some (.string s))
    (fun p wr => (intOf p + 1).toNat)
  case atStart => exact ⟨a, [], ha, .inl rfl, rfl, rfl, by simp; omega, h0, hBs⟩
  case round =>
    clear hBs h0
    obtain ⟨k, pre, hk1, _, rfl, hpre, hlen, hJ, hc⟩ := hrel
    by_cases hlt : 0 ≤ k
    · obtain ⟨j, rfl⟩ := Int.eq_ofNat_of_zero_le hlt
      have hd : Hid (U.dns s.data.toList ((j : Int) + 1).toNat = (if U.bndN s.data.toList j then [j] else []) ++ U.dns s.data.toList j) := by
        rw [show ((j : Int) + 1).toNat = j + 1 by omega]; exact U.dns_succ _ _
      have e1 : Hid (((j : Int) - 1 + 1).toNat = j) := by show _ = _; omega
      have hl2 : (U.ints pre).length < s.size + 1 := by simp [U.ints]; omega
      obtain ⟨fn, tmps, assign, body, hy, hR⟩ := hY _ (j : Int) wr hJ hl2
      cases hb : U.bndN s.data.toList j with
      | true =>
        have hb' : U.bnd s.data.toList (j : Int) = true := by rw [U.bnd_natCast]; exact hb
        have HB := Lib.hid hb
        clear hb
        gi_wp2_with (refine ⟨trivial, ?_⟩; gi_at_call 17; refine (callsIn_wide.2 (boundary_any _ _ _)).mono ?_; rintro e w' ⟨rfl, rfl⟩)
        refine hR.mono ?_
        rintro e W3 (⟨rfl, hJ3, hk3⟩ | ⟨rfl, hJx3⟩)
        · have hc3 := (hk3.cell 0).trans hc
          clear hk3
          gi_wp2
          go_roundw
          case rel =>
            refine ⟨(j : Int) - 1, pre ++ [j], by omega, .inr (by omega), rfl, ?_, by simp; omega, by rw [U.ints_snoc]; exact hJ3, hc3⟩
            show _ = _
            rw [← hpre.out, hd.out, HB.out, if_pos rfl, e1.out, List.append_assoc]
          case measure => simp [intOf]
        · gi_wp2
          refine bodyPost_ret (results_none rfl _ _ _) rfl ?_
          refine ⟨⟨_, rfl⟩, .inr ⟨U.ints (pre ++ [j]), U.ints_prefix ?_, by rw [U.ints_snoc]; exact hJx3⟩⟩
          rw [← hpre.out, hd.out, HB.out, if_pos rfl]
          exact ⟨U.dns s.data.toList j, by simp⟩
      | false =>
        have hb' : U.bnd s.data.toList (j : Int) = false := by rw [U.bnd_natCast]; exact hb
        have HB := Lib.hid hb
        clear hb
        gi_wp2_with (refine ⟨trivial, ?_⟩; gi_at_call 17; refine (callsIn_wide.2 (boundary_any _ _ _)).mono ?_; rintro e w' ⟨rfl, rfl⟩)
        refine ⟨fun _ h => (by cases h), ?_⟩
        gi_wp2
        go_roundw
        case rel =>
          refine ⟨(j : Int) - 1, pre, by omega, .inr (by omega), rfl, ?_, by omega, hJ, hc⟩
          show _ = _
          rw [← hpre.out, hd.out, HB.out, if_neg (by simp), e1.out, List.nil_append]
        case measure => simp [intOf]
    · have hz : Hid ((k + 1).toNat = 0) := by show _ = _; omega
      gi_wp2
      go_end0
      refine ⟨⟨_, rfl⟩, .inl ?_⟩
      rw [← hpre.out, hz.out, U.dns_zero, List.append_nil]
      exact hJ

theorem asc_stops (n : Nat) (hn : 1 ≤ n) (Bf Bs : Nat) (s : ByteArray) (a : Nat) (hs : s.size < 4611686018427387904) (ha : a ≤ s.size + 1) (w : World) (hBf : Bf < w.heap.size) (hBs : Bs < w.heap.size)
    (hcf : w.cell? ⟨Bf, 0, none⟩ = some (.int .i64 a)) (hcs : w.cell? ⟨Bs, 0, none⟩ = some (.string s)) :
    SeqStopsK Fence.wide n Tryd.prog 38 #[.pointer (some ⟨Bf, 0, none⟩), .pointer (some ⟨Bs, 0, none⟩)] (fun x : Int => #[Value.int .i64 x]) (U.Kept Bs)
      (fun ys => ys = U.ints (U.ups s.data.toList a (s.size + 1))) (fun pre => pre <+: U.ints (U.ups s.data.toList a (s.size + 1))) (s.size + 1) w := fun l J Jx W hW _ _ hY h0 =>
  asc1 n hn l Bf Bs s a hs ha J Jx hY W ((hW.cell (p := ⟨Bf, 0, none⟩) hBf).trans hcf) ((hW.cell (p := ⟨Bs, 0, none⟩) hBs).trans hcs) h0
theorem dsc_stops (n : Nat) (hn : 1 ≤ n) (Bf Bs : Nat) (s : ByteArray) (a : Int) (hs : s.size < 4611686018427387904) (ha : a ≤ s.size) (w : World) (hBf : Bf < w.heap.size) (hBs : Bs < w.heap.size)
    (hcf : w.cell? ⟨Bf, 0, none⟩ = some (.int .i64 a)) (hcs : w.cell? ⟨Bs, 0, none⟩ = some (.string s)) :
    SeqStopsK Fence.wide n Tryd.prog 39 #[.pointer (some ⟨Bf, 0, none⟩), .pointer (some ⟨Bs, 0, none⟩)] (fun x : Int => #[Value.int .i64 x]) (U.Kept Bs)
      (fun ys => ys = U.ints (U.dns s.data.toList (a + 1).toNat)) (fun pre => pre <+: U.ints (U.dns s.data.toList (a + 1).toNat)) (s.size + 1) w := fun l J Jx W hW _ _ hY h0 =>
  dsc1 n hn l Bf Bs s a hs ha J Jx hY W ((hW.cell (p := ⟨Bf, 0, none⟩) hBf).trans hcf) ((hW.cell (p := ⟨Bs, 0, none⟩) hBs).trans hcs) h0

set_option maxHeartbeats 400000 in
theorem ascending_any (s : ByteArray) (a : Int) (w : World) :
    Calls Tryd.prog 29 #[.string s, .int .i64 a] w fun e w' => e = .returned (.func (.func 38) #[] #[.pointer (some ⟨w.heap.size + 1, 0, none⟩), .pointer (some ⟨w.heap.size, 0, none⟩)]) ∧
      (w.alloc (.cells #[.string s] 9)).alloc (.cells #[.int .i64 a] 3) = w' := by
  go_enter Tryd.func29, Tryd.ntmps29
  go_wp2
  go_ret
  exact ⟨rfl, rfl⟩
set_option maxHeartbeats 400000 in
theorem descending_any (s : ByteArray) (a : Int) (w : World) :
    Calls Tryd.prog 37 #[.string s, .int .i64 a] w fun e w' => e = .returned (.func (.func 39) #[] #[.pointer (some ⟨w.heap.size + 1, 0, none⟩), .pointer (some ⟨w.heap.size, 0, none⟩)]) ∧
      (w.alloc (.cells #[.string s] 9)).alloc (.cells #[.int .i64 a] 3) = w' := by
  go_enter Tryd.func37, Tryd.ntmps37
  go_wp2
  go_ret
  exact ⟨rfl, rfl⟩
end Go.Proofs.YtnbijhmkhdjkiaaDoor
