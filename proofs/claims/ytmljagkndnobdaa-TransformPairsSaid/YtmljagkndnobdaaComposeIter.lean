/- The library's iterator over the parts of a slice of pieces, and the row that collects them. -/
import Derived.RangeFuncNested
import Derived.RangeFuncBound
import Derived.RangeFuncCalls
import Derived.RangeFuncLeaves
import Derived.RangeFuncBox
import Derived.RangeFuncFrom
import Derived.Shelf.Abstract
import Derived.Shelf.RegionOpen
import Derived.WalkKit
import Derived.OwnWalkIn
import Derived.TacticsInMore
import Derived.LoopNIn
import Derived.LoopIn
import Derived.Maps.AppendAt
import Derived.Test.YtmljagkndnobdaaDeltaJoinKit
import Derived.Lib.Hide
namespace Go.Proofs.Ytmljagkndnobdaa
open Go.RowKit Go.Shelf
attribute [local go_sem] Oper.semAt_some

/-- A part of a row of pieces. -/
def C.part (b o : Nat) (L : List D.P) (k : Nat) : D.Src := ⟨some ⟨b, o + 4096 * k * 3, none⟩, min 4096 (L.length - 4096 * k), (L.drop (4096 * k)).take 4096⟩
def C.parts (b o : Nat) (L : List D.P) (k : Nat) : List D.Src := (List.range k).map (C.part b o L)
def C.num (L : List D.P) : Nat := (L.length + 4095) / 4096
theorem C.parts_succ (b o : Nat) (L : List D.P) (k : Nat) : C.parts b o L (k + 1) = C.parts b o L k ++ [C.part b o L k] := by
  unfold C.parts; rw [List.range_succ, List.map_append]; rfl
theorem C.part_len (b o : Nat) (L : List D.P) (k : Nat) : (C.part b o L k).x.length = min 4096 (L.length - 4096 * k) := by
  unfold C.part; simp
theorem C.srcV_part (b o : Nat) (L : List D.P) (k : Nat) : D.srcV (C.part b o L k) = .slice (some ⟨b, o + 4096 * k * 3, none⟩) (min 4096 (L.length - 4096 * k)) (min 4096 (L.length - 4096 * k)) := by
  unfold D.srcV; rw [C.part_len]; rfl
set_option maxRecDepth 100000 in
set_option maxHeartbeats 2000000 in
theorem chunk1 (n : Nat) (hn : 1 ≤ n) (l Bs Bn n₀ b o cap : Nat) (L : List D.P) (hL : L.length ≤ cap) (hl : L.length ≤ 1000000) (h1 : Bs < n₀) (h2 : Bn < n₀) (J Jx : List D.Src → World → Prop)
    (hY : ∀ pre x W, J pre W → pre.length < C.num L → YieldAt Fence.wide (n - 1) Try.prog l #[D.srcV x] W fun e W' =>
      (e = .returned (.bool true) ∧ J (pre ++ [x]) W' ∧ Below n₀ W W') ∨ (e = .returned (.bool false) ∧ Jx (pre ++ [x]) W'))
    (W : World) (hJa : AbidesFrom W.heap.size J) (hBs : W.cell? ⟨Bs, 0, none⟩ = some (.slice (some ⟨b, o, none⟩) L.length cap)) (hBn : W.cell? ⟨Bn, 0, none⟩ = some (.int .i64 4096)) (h0 : J [] W) :
    CallsIn Fence.wide n Try.prog 69 #[.func (.yield l) #[] #[], .pointer (some ⟨Bs, 0, none⟩), .pointer (some ⟨Bn, 0, none⟩)] W fun e W' => (∃ v, e = .returned v) ∧
      ((∃ ys, ys = C.parts b o L (C.num L) ∧ J ys W') ∨ (∃ pre, pre <+: C.parts b o L (C.num L) ∧ Jx pre W')) := by
  refine callsIn_of_wp Try.func69 rfl trivial ?_ rfl
  simp only [Try.ntmps69, List.size_toArray, List.length_cons, List.length_nil, Nat.reduceAdd, Nat.reduceSub, Array.replicate_succ, Array.replicate_zero, List.push_toArray, List.append_toArray, List.nil_append, List.cons_append]
  gi_wp2
  gi_loopw [4] (fun p wr => ∃ k : Nat, k ≤ C.num L ∧ p = .int .i64 ((4096 * k : Nat) : Int) ∧ J (C.parts b o L k) wr ∧ wr.cell? ⟨Bs, 0, none⟩ = some (.slice (some ⟨b, o, none⟩) L.length cap) ∧ wr.cell? ⟨Bn, 0, none⟩ = some (.int .i64 4096))
    (fun p wr => 4096 * C.num L - (intOf p).toNat)
  case atStart => exact ⟨0, Nat.zero_le _, rfl, h0, hBs, hBn⟩
  case round =>
    clear hBs hBn h0
    obtain ⟨k, hk, rfl, hJ, c0, c1⟩ := hrel
    by_cases hlt : 4096 * k < L.length
    · have hkn : k < C.num L := by unfold C.num; omega
      have hlen : (C.parts b o L k).length < C.num L := by unfold C.parts; simpa using hkn
      obtain ⟨Q, hQ⟩ : ∃ Q, Hid (C.parts b o L k = Q) := ⟨_, rfl⟩
      have hsuc := Lib.hid (C.parts_succ b o L k)
      have hsrc := Lib.hid (C.srcV_part b o L k)
      have hpre : Hid (C.parts b o L (k + 1) <+: C.parts b o L (C.num L)) := by
        show _ <+: _
        unfold C.parts
        refine ⟨((List.range (C.num L)).drop (k + 1)).map (C.part b o L), ?_⟩
        rw [← List.map_append]
        congr 1
        rw [show List.range (k + 1) = (List.range (C.num L)).take (k + 1) by rw [List.take_range]; congr 1; omega, List.take_append_drop]
      obtain ⟨s, hs⟩ : ∃ s, Hid (C.part b o L k = s) := ⟨_, rfl⟩
      have hj2 := hJa _ wr wr.drew none hJ ⟨rfl, rfl, rfl, Nat.le_refl _, fun _ _ _ => rfl⟩ (fun r e => by cases e)
      obtain ⟨fn, tmps, assign, body, hy, hR⟩ := hY _ (C.part b o L k) wr.drew hj2 hlen
      have hm' : Hid (4096 * C.num L - 4096 * (k + 1) < 4096 * C.num L - 4096 * k) := by show _ < _; omega
      have hkn := Lib.hid hkn
      rw [hsrc.out] at hy
      obtain ⟨i, hi⟩ : ∃ i, Hid (4096 * k = i) := ⟨_, rfl⟩
      obtain ⟨m, hm⟩ : ∃ m, Hid (L.length = m) := ⟨_, rfl⟩
      obtain ⟨N, hN⟩ : ∃ N, Hid (C.num L = N) := ⟨_, rfl⟩
      have hi2 : Hid (((4096 * (k + 1) : Nat) : Int) = (i : Int) + 4096) := by show _ = _; rw [← hi.out]; omega
      rw [hi.out, hm.out] at hy
      rw [hm.out] at c0 hL hl hlt
      rw [hi.out] at hlt ⊢
      rw [hN.out] at hk ⊢
      obtain ⟨z, hz, hz0, hz1, hz2⟩ : ∃ z : Nat, Hid (min 4096 (m - i) = z) ∧ Hid (min 4096 ((m - i : Nat) : Int) = (z : Int)) ∧ 0 < z ∧ z ≤ m - i := ⟨_, rfl, by show _ = _; omega, by omega, by omega⟩
      rw [hz.out] at hy
      clear hJ hlen hj2
      gi_wp2
      gi_region
      rw [hz0.out]
      gi_wp2
      refine hR.mono ?_
      rintro e W3 (⟨rfl, hJ3, hk3⟩ | ⟨rfl, hJx3⟩)
      · have e0 : W3.cell? ⟨Bs, 0, none⟩ = some (.slice (some ⟨b, o, none⟩) m cap) := (hk3.cell (p := ⟨Bs, 0, none⟩) h1).trans c0
        have e1 : W3.cell? ⟨Bn, 0, none⟩ = some (.int .i64 4096) := (hk3.cell (p := ⟨Bn, 0, none⟩) h2).trans c1
        have R : Hid (J (C.parts b o L (k + 1)) W3) := by show J _ _; rw [hsuc.out]; exact hJ3
        clear hk3 hJ3 c0 c1
        gi_wp2
        go_roundw
        case rel => exact ⟨k + 1, by have := hkn.out; have := hN.out; omega, by rw [hi2.out], R.out, by rw [hm.out]; exact e0, e1⟩
        case measure => have h := hm'.out; rw [hN.out, hi.out] at h; simp [intOf]; omega
      · have R : Hid (Jx (C.parts b o L (k + 1)) W3) := by show Jx _ _; rw [hsuc.out]; exact hJx3
        clear hJx3
        gi_wp2
        refine bodyPost_ret (results_none rfl _ _ _) rfl ?_
        exact ⟨⟨_, rfl⟩, .inr ⟨_, hpre.out, R.out⟩⟩
    · obtain rfl : k = C.num L := by unfold C.num at hk ⊢; omega
      have R : Hid (J (C.parts b o L (C.num L)) wr) := hJ
      obtain ⟨i, hi⟩ : ∃ i, Hid (4096 * C.num L = i) := ⟨_, rfl⟩
      rw [hi.out] at hlt ⊢
      clear hJ
      gi_wp2
      go_end0
      exact ⟨⟨_, rfl⟩, .inl ⟨_, rfl, R.out⟩⟩
set_option maxRecDepth 100000 in
set_option maxHeartbeats 1000000 in
theorem chunk0 (n : Nat) (_ : 1 ≤ n) (l Bs Bn : Nat) (ao : Option Addr) (cap : Nat) (J Jx : List D.Src → World → Prop)
    (W : World) (hBs : W.cell? ⟨Bs, 0, none⟩ = some (.slice ao 0 cap)) (h0 : J [] W) :
    CallsIn Fence.wide n Try.prog 69 #[.func (.yield l) #[] #[], .pointer (some ⟨Bs, 0, none⟩), .pointer (some ⟨Bn, 0, none⟩)] W fun e W' => (∃ v, e = .returned v) ∧
      ((∃ ys, ys = [] ∧ J ys W') ∨ (∃ pre, pre <+: [] ∧ Jx pre W')) := by
  refine callsIn_of_wp Try.func69 rfl trivial ?_ rfl
  simp only [Try.ntmps69, List.size_toArray, List.length_cons, List.length_nil, Nat.reduceAdd, Nat.reduceSub, Array.replicate_succ, Array.replicate_zero, List.push_toArray, List.append_toArray, List.nil_append, List.cons_append]
  gi_wp2
  gi_loopw [4] (fun p wr => p = .int .i64 0 ∧ wr = W) (fun _ _ => 0)
  case atStart => exact ⟨rfl, rfl⟩
  case round =>
    obtain ⟨rfl, rfl⟩ := hrel
    gi_wp2
    go_end0
    exact ⟨⟨_, rfl⟩, .inl ⟨_, rfl, h0⟩⟩
/-- The parts of a row that a call owns. -/
def C.ps (ao : Option Addr) (L : List D.P) : List D.Src := match ao with
  | some a => C.parts a.block a.off L (C.num L)
  | none => []
theorem chunk_stops (n : Nat) (hn : 1 ≤ n) (Bs Bn n₀ : Nat) (ao : Option Addr) (cap : Nat) (L : List D.P) (hao : (∃ b o, ao = some ⟨b, o, none⟩) ∨ (ao = none ∧ L = [])) (hL : L.length ≤ cap) (hl : L.length ≤ 1000000) (h1 : Bs < n₀) (h2 : Bn < n₀) (w : World) (hn₀ : n₀ ≤ w.heap.size)
    (hBs : w.cell? ⟨Bs, 0, none⟩ = some (.slice ao L.length cap)) (hBn : w.cell? ⟨Bn, 0, none⟩ = some (.int .i64 4096)) :
    SeqStopsK Fence.wide n Try.prog 69 #[.pointer (some ⟨Bs, 0, none⟩), .pointer (some ⟨Bn, 0, none⟩)] (fun s : D.Src => #[Value.slice s.a s.x.length s.c]) (Below n₀) (fun ys => ys = C.ps ao L) (fun pre => pre <+: C.ps ao L) (C.num L) w := fun l J Jx W hW hJ _ hY h0 => by
  have c0 := (hW.cell (p := ⟨Bs, 0, none⟩) (Nat.lt_of_lt_of_le h1 hn₀)).trans hBs
  have c1 := (hW.cell (p := ⟨Bn, 0, none⟩) (Nat.lt_of_lt_of_le h2 hn₀)).trans hBn
  rcases hao with ⟨b, o, rfl⟩ | ⟨rfl, rfl⟩
  · exact chunk1 n hn l Bs Bn n₀ b o cap L hL hl h1 h2 J Jx hY W hJ c0 c1 h0
  · exact chunk0 n hn l Bs Bn none cap J Jx W c0 h0
set_option maxHeartbeats 400000 in
theorem chunk_any (ao : Option Addr) (m cap : Nat) (w : World) :
    Calls Try.prog 42 #[.slice ao m cap, .int .i64 4096] w fun e w' => e = .returned (.func (.func 69) #[] #[.pointer (some ⟨w.heap.size, 0, none⟩), .pointer (some ⟨w.heap.size + 1, 0, none⟩)]) ∧
      (w.alloc (.cells #[.slice ao m cap] 22)).alloc (.cells #[.int .i64 4096] 3) = w' := by
  go_enter Try.func42, Try.ntmps42
  go_wp2
  go_ret
  exact ⟨rfl, rfl⟩
theorem Try.infoRow : (Try.prog.info? 22).map (fun i => (i.zero, i.size, i.bytes)) = some (some (.slice none 0 0), 1, 24) := by kernel_rfl
set_option maxRecDepth 100000 in
set_option maxHeartbeats 2000000 in
theorem appendSeq_in (n : Nat) (hn : 3 ≤ n) (gf : Nat) (lb : Array Value) (heg : ∀ args w, (callFunc gf args).run Try.prog w = .ok (.enter gf args) w) (L : List D.Src) (N : Nat) (hN : N ≤ 1000000) (w : World)
    (hseq : ∀ W, Below w.heap.size w W → SeqStopsK Fence.wide (n - 1) Try.prog gf lb (fun s : D.Src => #[Value.slice s.a s.x.length s.c]) (Below w.heap.size) (fun ys => ys = L) (fun pre => pre <+: L) N W) :
    CallsIn Fence.wide n Try.prog 68 #[.slice none 0 0, .func (.func gf) #[] lb] w fun e W' => ∃ v, e = .returned v ∧ W'.ownsRow w.heap.size 22 1 v L.length (L.map D.srcV) ∧ Below w.heap.size w W' := by
  have h1 : 1 ≤ n := by omega
  obtain ⟨i0, hi, hz0, hz1, hz2⟩ := info_parts Try.infoRow
  refine callsIn_of_wp_marks Try.func68 rfl trivial ?_ rfl
  simp only [Try.ntmps68, List.size_toArray, List.length_cons, List.length_nil, Nat.reduceAdd, Nat.reduceSub, Array.replicate_succ, Array.replicate_zero, List.push_toArray, List.append_toArray, List.nil_append, List.cons_append]
  gi_wp2
  have bO := Boxed.new w 36 (.slice none 0 0)
  have hB0 : Below w.heap.size w (w.alloc (.cells #[.slice none 0 0] 36)) := (Below.refl _ w).alloc (Nat.le_refl _) _
  have hK0 := hseq _ hB0
  refine wpIn_rangeFunc_ownG rfl h1 (gf := gf) (lb := lb) rfl trivial heg
    hK0 belowK_t (belowK_b (by simp)) (Below.refl _ _) (fun _ => rfl)
    (fun pre W => (∃ v, Boxed W w.heap.size 36 v ∧ W.ownsRow w.heap.size 22 1 v pre.length (pre.map D.srcV) ∧ True) ∧ Below w.heap.size w W)
    (fun _ _ _ => False)
    (OwnFrom.and (Own.from (holdsRow_own w.heap.size w.heap.size 36 22 1 (fun pre : List D.Src => pre.length) (fun pre => pre.map D.srcV) (fun _ _ => True)) _) (ownFrom_below (Nat.le_refl _) (by simp)))
    (fun _ _ _ _ _ hs _ _ => hs)
    ⟨⟨_, bO, World.ownsRow_nil _ _ _ _, trivial⟩, hB0⟩
    (fun s => { tmps := #[.slice none 0 0, .func (.func gf) #[] lb, .pointer (some ⟨w.heap.size, 0, none⟩), undef, .slice none 0 0, .slice s.a s.x.length s.c, .func (.func gf) #[] lb, .slice s.a s.x.length s.c, undef, undef, undef, undef, undef], defers := [] }) ?assign ?body ?done ?stop
  case assign =>
    intro l x W K hK
    gi_wp2
    exact hK
  case body =>
    rintro l pre x W ⟨⟨v, hv, hrow, _⟩, hB⟩ hlt
    have hc := hv.cell
    obtain ⟨va, vc, rfl⟩ := D.slice_of_own hrow
    gi_wp2_with (gi_at_builtin; refine wpListIn_append_own _ rfl _ _ 36 rfl w.heap.size 22 i0 (.slice none 0 0) 1 24 Try.underlying36 hi hz0 hz1 hz2 rfl (by decide) _ _ _ rfl (hrow.alloc _) ⟨W.heap.size, 0, none⟩ 1 1 [D.srcV x] rfl rfl (cell_one_new _ _ _) (by simp [Value.oneCell', D.srcV]) (by unfold maxLen; omega) (by omega) (by have := hB.size; simp; omega) ?_; intro v' w1 hown' hgrow _; obtain ⟨g', cap', rfl⟩ := ownsRow_succ hown'; obtain ⟨hv1, hv2, hr2, hk2, hb2⟩ := hv.appended (by decide) hrow hB.size (Nat.le_refl _) hown' hgrow; have hc1 := hv1.cell; have hf1 := hv1.frozen)
    exact ⟨hk2.from _, hb2, ⟨_, hv2, by simpa using hr2, trivial⟩, hB.trans hb2⟩
  case done =>
    rintro D ys W hD rfl ⟨⟨v, hv, hrow, _⟩, hB⟩ hK
    have hc := hv.cell
    gi_wp2
    refine ⟨by simp, .inl ⟨_, _, rfl, run_takeDeferred hK, ?_⟩⟩
    exact ⟨_, results_tmp rfl _ _ _, v, rfl, ownsRow_putObj hrow _ hK rfl, hB.trans (belowK_b (w := w) (Nat.le_refl _) W D _ _ (by simp at hD; omega) hK rfl rfl)⟩
  case stop =>
    rintro D c pre W _ _ h _
    exact h.elim
end Go.Proofs.Ytmljagkndnobdaa
