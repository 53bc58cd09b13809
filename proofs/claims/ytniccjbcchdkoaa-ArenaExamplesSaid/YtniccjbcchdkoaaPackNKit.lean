/- Texts joined: NodeRow NodeEq NodeKit -/
import Derived.Test.YtniccjbcchdkoaaHandRow
import Derived.Test.YtniccjbcchdkoaaNodeMath
import Derived.Deep.AppendLies
import Derived.BigQuiet
import Derived.Test.YtniccjbcchdkoaaProg
import Derived.WalkKit
import Derived.Laws.StructEq
/- NodeRow -/
namespace Go.Proofs.Ytniccjbcchdkoaa
open Go.RowKit

def N.one (x : N.K) : List Value := [.int .u64 (x.at_ : Int), .int .i64 x.b, .int .i64 x.r, .int .i64 x.l]
def N.cells (l : List N.K) : List Value := l.flatMap N.one
theorem N.cells_append (x y : List N.K) : N.cells (x ++ y) = N.cells x ++ N.cells y := by simp [N.cells]
theorem N.cells_one (p : N.K) : N.cells [p] = [.int .u64 (p.at_ : Int), .int .i64 p.b, .int .i64 p.r, .int .i64 p.l] := by simp [N.cells, N.one]
theorem N.cells_cons (q : N.K) (x : List N.K) : N.cells (q :: x) = .int .u64 (q.at_ : Int) :: .int .i64 q.b :: .int .i64 q.r :: .int .i64 q.l :: N.cells x := by simp [N.cells, N.one]
theorem N.cells_len (x : List N.K) : (N.cells x).length = x.length * 4 := by
  induction x with
  | nil => rfl
  | cons p x ih => rw [N.cells_cons]; simp only [List.length_cons, ih]; omega
theorem N.cells_at (x : List N.K) (i : Nat) (p : N.K) (h : x[i]? = some p) :
    (N.cells x)[i * 4]? = some (.int .u64 (p.at_ : Int)) ∧ (N.cells x)[i * 4 + 1]? = some (.int .i64 p.b) ∧ (N.cells x)[i * 4 + 2]? = some (.int .i64 p.r) ∧ (N.cells x)[i * 4 + 3]? = some (.int .i64 p.l) := by
  induction x generalizing i with
  | nil => simp at h
  | cons q x ih =>
    rw [N.cells_cons]
    cases i with
    | zero => simp at h; subst h; exact ⟨rfl, rfl, rfl, rfl⟩
    | succ i =>
      obtain ⟨h0, h1, h2, h3⟩ := ih i (by simpa using h)
      refine ⟨?_, ?_, ?_, ?_⟩
      · rw [show (i + 1) * 4 = i * 4 + 4 by omega]; exact h0
      · rw [show (i + 1) * 4 + 1 = i * 4 + 1 + 4 by omega]; exact h1
      · rw [show (i + 1) * 4 + 2 = i * 4 + 2 + 4 by omega]; exact h2
      · rw [show (i + 1) * 4 + 3 = i * 4 + 3 + 4 by omega]; exact h3
/-- What the fields of a child can hold. -/
structure N.Fit (k : N.K) : Prop where
  at_ : k.at_ < 18446744073709551616
  b0 : -9223372036854775808 ≤ k.b
  b1 : k.b ≤ 9223372036854775807
  r0 : -9223372036854775808 ≤ k.r
  r1 : k.r ≤ 9223372036854775807
  l0 : -9223372036854775808 ≤ k.l
  l1 : k.l ≤ 9223372036854775807
/-- Children lie in a row. -/
def N.Row (W : World) (ao : Option Addr) (l : List N.K) : Prop :=
  ∀ (i : Nat) (p : N.K), l[i]? = some p → ∃ b o, ao = some ⟨b, o, none⟩ ∧ b < W.heap.size ∧
    W.cell? ⟨b, o + i * 4, none⟩ = some (.int .u64 (p.at_ : Int)) ∧ W.cell? ⟨b, o + i * 4 + 1, none⟩ = some (.int .i64 p.b) ∧ W.cell? ⟨b, o + i * 4 + 2, none⟩ = some (.int .i64 p.r) ∧ W.cell? ⟨b, o + i * 4 + 3, none⟩ = some (.int .i64 p.l)
theorem N.Row.below {W W' : World} {ao : Option Addr} {l : List N.K} (h : N.Row W ao l) (hb : Below W.heap.size W W') : N.Row W' ao l := fun i p hp => by
  obtain ⟨b, o, e, hlt, h0, h1, h2, h3⟩ := h i p hp
  have hc := (D.bcell hb).1
  exact ⟨b, o, e, Nat.lt_of_lt_of_le hlt hb.size, (hc _ _ hlt).trans h0, (hc _ _ hlt).trans h1, (hc _ _ hlt).trans h2, (hc _ _ hlt).trans h3⟩
theorem N.row_nil (W : World) (ao : Option Addr) : N.Row W ao [] := fun i p hp => by simp at hp
structure N.Made (l : List N.K) (w : World) (v : Value) (wr : World) : Prop where
  own : wr.ownsRow w.heap.size 50 4 v l.length (N.cells l)
  below : Below w.heap.size w wr
theorem N.Made.form {x : List N.K} {w : World} {v : Value} {W : World} (h : N.Made x w v W) : ∃ ao cap, v = .slice ao x.length cap ∧ N.Row W ao x := by
  obtain ⟨hl, ⟨rfl, h0⟩ | ⟨g, cap, cur, rfl, hb, hg, hnc, hcm, hcs, ht⟩⟩ := h.own
  · exact ⟨none, 0, by rw [h0], fun i p hp => by have := (List.getElem?_eq_some_iff.1 hp).1; omega⟩
  · have hlt := (Array.getElem?_eq_some_iff.1 hg).1
    refine ⟨some ⟨g, 0, none⟩, cap, rfl, fun i p hp => ⟨g, 0, rfl, hlt, ?_⟩⟩
    have hi := (List.getElem?_eq_some_iff.1 hp).1
    obtain ⟨h0, h1, h2, h3⟩ := N.cells_at x i p hp
    have key : ∀ (j : Nat) (u : Value), (N.cells x)[j]? = some u → W.cell? ⟨g, j, none⟩ = some u := fun j u hu => by
      rw [← ht, List.getElem?_take] at hu
      have hj : j < x.length * 4 := by
        by_cases hj : j < x.length * 4
        · exact hj
        · rw [if_neg hj] at hu; cases hu
      rw [if_pos hj] at hu
      rw [cell_of_row W g _ cur _ _ hg]
      simpa using hu
    rw [Nat.zero_add]
    exact ⟨key _ _ h0, key _ _ h1, key _ _ h2, key _ _ h3⟩
theorem Try.infoKid : (Try.prog.info? 50).map (fun i => (i.zero, i.size, i.bytes)) = some (some (.agg #[.int .u64 0, .int .i64 0, .int .i64 0, .int .i64 0]), 4, 32) := by kernel_rfl
/-- An append of a child that has just been laid. -/
theorem N.append_one {W : World} {ops : Array Oper} {rest : List Oper} {o : Oper} {a : Act} {Q : Exit → Act → World → Prop} (hgd : o.guard = none) (s x : Operand)
    (ho : o.op = .call { callee := .builtin .append, args := #[s, x], argTypes := #[28, 28] })
    (base : Nat) (v : Value) (X : List N.K) (hs : a.eval s = v) (hown : W.ownsRow base 50 4 v X.length (N.cells X)) (p : N.K) (cc : Nat) (hx : a.eval x = .slice (some ⟨W.heap.size, 0, none⟩) 1 cc) (hn : (X.length + 1) * 32 ≤ 140737488355328) (hbase : base ≤ W.heap.size)
    (h : ∀ Z v' w', Hid (Z = X ++ [p]) → w'.ownsRow base 50 4 v' Z.length (N.cells Z) → W.grownBy w' v.ownBlock → wpList Try.prog ops Q rest (a.put o.dst v') w') :
    wpList Try.prog ops Q (o :: rest) a (W.alloc (.cells #[.int .u64 (p.at_ : Int), .int .i64 p.b, .int .i64 p.r, .int .i64 p.l] 50)) := by
  obtain ⟨ip, hp, hp0, hp1, hp2⟩ := info_parts Try.infoKid
  refine wpList_append_own_at _ hgd s x _ ho base 50 ip (.agg #[.int .u64 0, .int .i64 0, .int .i64 0, .int .i64 0]) 4 32 Try.underlying28 hp hp0 hp1 hp2 rfl (by decide) v X.length (N.cells X) hs (hown.alloc _) ⟨W.heap.size, 0, none⟩ 1 cc (N.cells [p]) hx rfl ?_ (fun u hu => by rw [N.cells_one] at hu; simp only [List.mem_cons, List.not_mem_nil, or_false] at hu; rcases hu with rfl | rfl | rfl | rfl <;> rfl) (by unfold maxLen; omega) (by omega) (by simp only [World.size_alloc]; omega) ?_
  · rw [N.cells_one]
    exact D.news W [.int .u64 (p.at_ : Int), .int .i64 p.b, .int .i64 p.r, .int .i64 p.l] 50
  · intro v' w' h1 h2 _ h4
    refine h _ v' w' rfl ?_ ⟨h2.os, h2.tape, h2.output, Nat.le_trans (by simp only [World.size_alloc]; omega) h2.size, fun k hk hne => (h2.block k (by simp only [World.size_alloc]; omega) hne).trans (Lib.alloc_old W _ k hk)⟩
    rw [List.length_append, N.cells_append]; exact h1
theorem N.Made.nil (w : World) {wr : World} (h : Below w.heap.size w wr) : N.Made [] w (.slice none 0 0) wr := ⟨World.ownsRow_nil _ _ _ _, h⟩
theorem N.Made.on {X Z : List N.K} {w : World} {v v' : Value} {wr w' : World} (h : N.Made X w v wr) (h1 : w'.ownsRow w.heap.size 50 4 v' Z.length (N.cells Z)) (h2 : wr.grownBy w' v.ownBlock) : N.Made Z w v' w' := ⟨h1, h.below.grown h2 h.below.size (fun k e => (h.own.lt k e).1)⟩
theorem N.Made.weak {l : List N.K} {w W W' : World} {v : Value} (h : N.Made l W v W') (hb : Below w.heap.size w W) : N.Made l w v W' := ⟨D.own_mono h.own hb.size, hb.trans (h.below.mono hb.size)⟩
theorem N.Made.kept {l : List N.K} {w W W' : World} {v : Value} (h : N.Made l w v W) (hb : Below W.heap.size W W') : N.Made l w v W' := ⟨D.own_below h.own hb, h.below.trans (hb.mono h.below.size)⟩
theorem N.Made.drew {X : List N.K} {w : World} {v : Value} {wr : World} (h : N.Made X w v wr) : N.Made X w v wr.drew := ⟨h.own.drew, h.below.drew⟩
theorem N.Made.src {l : List N.K} {w : World} {v : Value} {w' : World} (h : N.Made l w v w') : ∃ ao c, v = .slice ao l.length c ∧ N.Row w' ao l ∧ (ao = none → c = 0) := by
  obtain ⟨ao, c, hv, hr⟩ := h.form
  refine ⟨ao, c, hv, hr, fun e => ?_⟩
  obtain ⟨_, ⟨e', _⟩ | ⟨g, cap, cur, e', _⟩⟩ := h.own
  · rw [hv] at e'; simp at e'; exact e'.2.2
  · rw [hv, e] at e'; simp at e'
theorem N.row_lit (w : World) (l : List N.K) : N.Row (w.alloc (.cells (N.cells l).toArray 50)) (some ⟨w.heap.size, 0, none⟩) l := fun i p hp => by
  obtain ⟨h0, h1, h2, h3⟩ := N.cells_at l i p hp
  have key : ∀ (j : Nat) (u : Value), (N.cells l)[j]? = some u → (w.alloc (.cells (N.cells l).toArray 50)).cell? ⟨w.heap.size, j, none⟩ = some u := fun j u hu => by
    rw [Lib.cell_of_heap (heap_alloc_new w _)]; simpa using hu
  refine ⟨w.heap.size, 0, rfl, by simp, ?_⟩
  rw [Nat.zero_add]
  exact ⟨key _ _ h0, key _ _ h1, key _ _ h2, key _ _ h3⟩
theorem N.drop_cons {l : List N.K} {k : Nat} (h : k < l.length) : ∃ p, l[k]? = some p ∧ l.drop k = p :: l.drop (k + 1) :=
  ⟨l[k], List.getElem?_eq_getElem h, (List.drop_eq_getElem_cons h)⟩
/-- A node as the program holds it. -/
def N.nv (h : Int) (t : ByteArray) (v : Value) : Value := .agg #[.int .i64 h, .string t, v]
end Go.Proofs.Ytniccjbcchdkoaa
/- NodeEq -/
namespace Go.Proofs.Ytniccjbcchdkoaa
open Go.RowKit
theorem N.eqM (a b c x y z : Int) (w : World) : (Op.equalIn 9999 48 (.agg #[.int .i64 a, .int .i64 b, .int .i64 c]) (.agg #[.int .i64 x, .int .i64 y, .int .i64 z])).run Try.prog w = .ok (decide (a = x) && decide (b = y) && decide (c = z)) w := by
  have u3 := Try.underlying3
  have a3 := Try.isAgg3
  have z3 := Try.sizeOf3
  have hS : Try.prog.underlying 48 = some (.struct (Try.prog.fieldsOf 48)) := by kernel_rfl
  rw [show (9999 : Nat) = 9998 + 1 from rfl, run_equalIn_agg w 9998 48 _ _ hS (by kernel_rfl)]
  simp only [Program.fieldsOf, Try.underlying48]
  go_simp
  by_cases h1 : a = x <;> by_cases h2 : b = y <;> by_cases h3 : c = z <;> simp [h1, h2, h3]
def N.same4 (h a b c k x y z : Int) : Bool := decide (h = k ∧ a = x ∧ b = y ∧ c = z)
theorem N.same4_t (h a b c : Int) : N.same4 h a b c h a b c = true := by simp [N.same4]
@[go_sem] theorem N.eqK (h a b c k x y z : Int) (w : World) : (Op.equalIn 10000 50 (.agg #[.int .u64 h, .int .i64 a, .int .i64 b, .int .i64 c]) (.agg #[.int .u64 k, .int .i64 x, .int .i64 y, .int .i64 z])).run Try.prog w = .ok (N.same4 h a b c k x y z) w := by
  have u3 := Try.underlying24
  have a3 := Try.isAgg24
  have z3 := Try.sizeOf24
  have u4 := Try.underlying48
  have a4 := Try.isAgg48
  have z4 := Try.sizeOf48
  have hS : Try.prog.underlying 50 = some (.struct (Try.prog.fieldsOf 50)) := by kernel_rfl
  rw [show (10000 : Nat) = 9999 + 1 from rfl, run_equalIn_agg w 9999 50 _ _ hS (by kernel_rfl)]
  simp only [Program.fieldsOf, Try.underlying50]
  go_simp
  by_cases h0 : h = k <;> by_cases h1 : a = x <;> by_cases h2 : b = y <;> by_cases h3 : c = z <;> simp [N.same4, h0, h1, h2, h3]
end Go.Proofs.Ytniccjbcchdkoaa
/- NodeKit -/
namespace Go.Proofs.Ytniccjbcchdkoaa
open Go.RowKit

theorem N.cell4 {W V : World} {b o : Nat} {x y z u : Value} (hb : Below W.heap.size W V) (hl : b < W.heap.size) (h : W.cell? ⟨b, o, none⟩ = some x ∧ W.cell? ⟨b, o + 1, none⟩ = some y ∧ W.cell? ⟨b, o + 2, none⟩ = some z ∧ W.cell? ⟨b, o + 3, none⟩ = some u) :
    V.cell? ⟨b, o, none⟩ = some x ∧ V.cell? ⟨b, o + 1, none⟩ = some y ∧ V.cell? ⟨b, o + 2, none⟩ = some z ∧ V.cell? ⟨b, o + 3, none⟩ = some u := by
  have hc := (D.bcell hb).1
  exact ⟨(hc _ _ hl).trans h.1, (hc _ _ hl).trans h.2.1, (hc _ _ hl).trans h.2.2.1, (hc _ _ hl).trans h.2.2.2⟩
/-- A child as the program holds it. -/
def N.kv (k : N.K) : Value := .agg #[.int .u64 (k.at_ : Int), .int .i64 k.b, .int .i64 k.r, .int .i64 k.l]
set_option maxHeartbeats 1000000 in
theorem copyKids_any (ao : Option Addr) (ca : Nat) (l : List N.K) (w : World) (hr : N.Row w ao l) (la : l.length * 32 ≤ 140737488351232) :
    Calls Try.prog 79 #[.slice ao l.length ca] w fun e w' => ∃ v, e = .returned v ∧ N.Made l w v w' := by
  have Hr := Lib.hid hr
  clear hr
  go_enter Try.func79, Try.ntmps79
  go_wp2
  go_loopw [3, 4] (fun v j wr => ∃ k : Nat, k ≤ l.length ∧ j = .int .i64 k ∧ Hid (N.Made (l.take k) w v wr)) (fun _ j _ => l.length - (intOf j).toNat)
  case atStart => exact ⟨0, Nat.zero_le _, rfl, N.Made.nil w (Below.refl _ _)⟩
  case round =>
    obtain ⟨k, hk, rfl, hL⟩ := hrel
    by_cases hlt : k < l.length
    · obtain ⟨p, hp, _⟩ := N.drop_cons hlt
      obtain ⟨b1, o1, e1, l1, hc⟩ := Hr.out k p hp
      have hb := Lib.hid hL.out.below
      have hbs := hb.out.size
      obtain ⟨c0, c1, c2, c3⟩ := N.cell4 hb.out l1 hc
      subst e1
      have hst : Hid (l.take (k + 1) = l.take k ++ [p]) := by show _ = _; rw [List.take_add_one, hp]; rfl
      obtain ⟨X, hX⟩ : ∃ X, Hid (l.take k = X) := ⟨_, rfl⟩
      have hle : (X.length + 1) * 32 ≤ 140737488355328 := by rw [← hX.out, List.length_take]; omega
      rw [hX.out] at hst hL
      clear hc hp
      obtain ⟨vo, vc, hv, _⟩ := hL.out.form
      subst hv
      obtain ⟨W0, rfl⟩ : ∃ W0 : World, W0 = wr := ⟨_, rfl⟩
      go_wp2_with (at_builtin; refine N.append_one rfl _ _ rfl w.heap.size (.slice vo X.length vc) X rfl hL.out.own p 1 rfl ?a1 ?a2 ?_)
      case a1 => exact hle
      case a2 => exact hbs
      intro Z v' w3 hZ hO hg
      have R : Hid (N.Made (l.take (k + 1)) w v' w3) := by
        show N.Made _ _ _ _
        rw [hst.out, ← hZ.out]
        exact N.Made.on hL.out hO hg
      clear hO hg hL
      go_wp2
      go_roundw
      case rel => exact ⟨k + 1, by omega, by go_num, R⟩
      case measure => simp [intOf]; omega
    · obtain rfl : k = l.length := by omega
      rw [List.take_length] at hL
      go_wp2
      go_ret
      exact ⟨_, rfl, hL.out⟩
theorem N.kv_eq {p r : N.K} : p = r ↔ p.at_ = r.at_ ∧ p.b = r.b ∧ p.r = r.r ∧ p.l = r.l := by
  constructor
  · rintro rfl; exact ⟨rfl, rfl, rfl, rfl⟩
  · obtain ⟨a, b, c, d⟩ := p
    obtain ⟨a', b', c', d'⟩ := r
    rintro ⟨rfl, rfl, rfl, rfl⟩; rfl
set_option maxHeartbeats 1000000 in
theorem equalKids_any (ao bo : Option Addr) (ca cb : Nat) (a b : List N.K) (w : World) (ha : N.Row w ao a) (hb : N.Row w bo b) (la : a.length ≤ maxLen) :
    Calls Try.prog 46 #[.slice ao a.length ca, .slice bo b.length cb] w fun e w' => e = .returned (.bool (decide (a = b))) ∧ Below w.heap.size w w' := by
  unfold maxLen at la
  by_cases hl : a.length = b.length
  · have Ha := Lib.hid ha
    have Hb := Lib.hid hb
    have Hl := Lib.hid hl
    have hq : ((a.length : Int) != (b.length : Int)) = false := by simp [hl]
    clear ha hb hl
    go_enter Try.func46, Try.ntmps46
    go_wp2
    go_loopw [5] (fun j wr => ∃ k : Nat, k ≤ a.length ∧ j = .int .i64 k ∧ Hid (a.drop k = b.drop k ↔ a = b) ∧ Hid (Below w.heap.size w wr)) (fun j _ => a.length - (intOf j).toNat)
    case atStart => exact ⟨0, Nat.zero_le _, rfl, Iff.rfl, Below.refl _ _⟩
    case round =>
      obtain ⟨k, hk, rfl, hs, hw⟩ := hrel
      by_cases hlt : k < a.length
      · obtain ⟨p, hp, hpd⟩ := N.drop_cons hlt
        obtain ⟨r, hr, hrd⟩ := N.drop_cons (l := b) (k := k) (by have := Hl.out; omega)
        obtain ⟨b1, o1, e1, l1, hc⟩ := Ha.out k p hp
        obtain ⟨b2, o2, e2, l2, hd⟩ := Hb.out k r hr
        obtain ⟨c0, c1, c2, c3⟩ := N.cell4 hw.out l1 hc
        obtain ⟨d0, d1, d2, d3⟩ := N.cell4 hw.out l2 hd
        clear hc hd
        subst e1
        subst e2
        have hkb : k < b.length := by have := Hl.out; omega
        have hst : Hid ((p = r ∧ a.drop (k + 1) = b.drop (k + 1)) ↔ a = b) := by show _ ↔ _; rw [← hs.out, hpd, hrd, List.cons.injEq]
        by_cases hpe : p = r
        · have hn : Hid (a.drop (k + 1) = b.drop (k + 1) ↔ a = b) := by show _ ↔ _; rw [← hst.out]; simp [hpe]
          subst hpe
          have hpe2 := N.same4_t (p.at_ : Int) p.b p.r p.l
          clear hpd hrd hp hr hs hst
          go_wp2_with fail
          go_quiet (fail)
          go_wp2
          go_roundw
          case rel => exact ⟨k + 1, by omega, by go_num, hn, H.drewN hw.out _⟩
          case measure => simp [intOf]; omega
        · have hn : Hid (decide (a = b) = false) := by show _ = _; rw [decide_eq_false_iff_not, ← hst.out]; exact fun h => hpe h.1
          have hpe2 : N.same4 (p.at_ : Int) p.b p.r p.l (r.at_ : Int) r.b r.r r.l = false := by unfold N.same4; rw [decide_eq_false_iff_not]; exact fun h => hpe (N.kv_eq.2 ⟨by have := h.1; omega, h.2⟩)
          clear hpd hrd hp hr hs hst hpe
          obtain ⟨pa, hpa⟩ : ∃ x : Int, x = (p.at_ : Int) := ⟨_, rfl⟩
          obtain ⟨ra, hra⟩ : ∃ x : Int, x = (r.at_ : Int) := ⟨_, rfl⟩
          rw [← hpa] at c0 hpe2
          rw [← hra] at d0 hpe2
          clear hpa hra
          generalize p.b = x1 at *
          generalize p.r = x2 at *
          generalize p.l = x3 at *
          generalize r.b = y1 at *
          generalize r.r = y2 at *
          generalize r.l = y3 at *
          have hc4 : pa ≠ ra ∨ (pa = ra ∧ x1 ≠ y1) ∨ (pa = ra ∧ x1 = y1 ∧ x2 ≠ y2) ∨ (pa = ra ∧ x1 = y1 ∧ x2 = y2 ∧ x3 ≠ y3) := by
            unfold N.same4 at hpe2
            rw [decide_eq_false_iff_not] at hpe2
            omega
          clear hpe2
          rcases hc4 with h1 | ⟨rfl, h1⟩ | ⟨rfl, rfl, h1⟩ | ⟨rfl, rfl, rfl, h1⟩
          · go_wp2_with fail
            go_quiet (fail)
            go_wp2
            go_ret
            exact ⟨by rw [hn.out]; rfl, H.drewN hw.out _⟩
          · go_wp2_with fail
            go_quiet (fail)
            go_wp2
            go_ret
            exact ⟨by rw [hn.out]; rfl, H.drewN hw.out _⟩
          · go_wp2_with fail
            go_quiet (fail)
            go_wp2
            go_ret
            exact ⟨by rw [hn.out]; rfl, H.drewN hw.out _⟩
          · go_wp2_with fail
            go_quiet (fail)
            go_wp2
            go_ret
            exact ⟨by rw [hn.out]; rfl, H.drewN hw.out _⟩
      · obtain rfl : k = a.length := by omega
        have hn : Hid (decide (a = b) = true) := by show _ = _; rw [decide_eq_true_iff, ← hs.out, List.drop_length, Hl.out, List.drop_length]
        go_wp2
        go_ret
        exact ⟨by rw [hn.out]; rfl, hw.out⟩
  · have hn : Hid (decide (a = b) = false) := by show _ = _; rw [decide_eq_false_iff_not]; exact fun h => hl (by rw [h])
    have hq : ((a.length : Int) != (b.length : Int)) = true := by simp; omega
    clear ha hb hl
    go_enter Try.func46, Try.ntmps46
    go_wp2
    go_ret
    exact ⟨by rw [hn.out]; rfl, Below.refl _ _⟩
end Go.Proofs.Ytniccjbcchdkoaa
