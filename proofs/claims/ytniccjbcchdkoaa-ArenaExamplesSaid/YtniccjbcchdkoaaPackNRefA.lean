/- Texts joined: NodeRef1 NodeRef2 NodeRef3 -/
import Derived.Test.YtniccjbcchdkoaaPackNKit
import Derived.Test.YtniccjbcchdkoaaPackHand
import Derived.BigQuiet
import Derived.Test.YtniccjbcchdkoaaPackMeas
import Derived.BigRegion
/- NodeRef1 -/
namespace Go.Proofs.Ytniccjbcchdkoaa
open Go.RowKit

theorem N.lo_bd {h : Nat} (h1 : h ≤ 16) : N.lo h ≤ 262144 := by
  unfold N.lo
  have : 2 ^ (h - 1) ≤ 2 ^ 15 := Nat.pow_le_pow_right (by omega) (by omega)
  omega
theorem N.hi_bd (h : Nat) : N.hi h ≤ 65536 := Nat.min_le_right _ _
theorem N.one_lo : N.lo 1 = 8 := rfl
theorem N.one_hi : N.hi 1 = 16 := rfl
set_option maxHeartbeats 1000000 in
theorem refKid12_any (h : Nat) (h1 : 1 ≤ h) (h2 : h ≤ 16) (k : N.K) (f : N.Fit k) (w : World) :
    Calls Try.prog 123 #[.int .i64 (h : Int), N.kv k] w fun e w' => e = .returned (.bool (decide (N.KOk h k))) ∧ Below w.heap.size w w' := by
  have HC : Hid (∀ W, Calls Try.prog 125 #[.int .u64 (k.at_ : Int)] W fun e w' => e = .returned (.int .i64 (H.ckE k.at_)) ∧ W = w') := fun W => refCheck10_any k.at_ (by have := f.at_; omega) W
  have HK : Hid (N.KOk h k ↔ H.ckE k.at_ = 0 ∧ (N.lo h : Int) ≤ k.b ∧ k.b ≤ (N.hi h : Int) ∧ 0 ≤ k.r ∧ k.r ≤ k.b ∧ 0 ≤ k.l ∧ k.l ≤ k.r) := by
    have e : H.ckE k.at_ = 0 ↔ H.Ok k.at_ := by unfold H.ckE; split <;> simp_all
    show _ ↔ _
    rw [e]
    exact ⟨fun x => ⟨x.1, x.2, x.3, x.4, x.5, x.6, x.7⟩, fun x => ⟨x.1, x.2.1, x.2.2.1, x.2.2.2.1, x.2.2.2.2.1, x.2.2.2.2.2.1, x.2.2.2.2.2.2⟩⟩
  unfold N.kv
  generalize H.ckE k.at_ = ce at *
  generalize (k.at_ : Int) = ka at *
  generalize k.b = kb at *
  generalize k.r = kr at *
  generalize k.l = kl at *
  clear f
  go_enter Try.func123, Try.ntmps123
  go_wp2
  go_loopw [5, 6, 7] (fun x y j wr => ∃ i : Nat, 1 ≤ i ∧ i ≤ h ∧ j = .int .i64 i ∧ x = .int .i64 (N.lo i : Int) ∧ y = .int .i64 (N.hi i : Int) ∧ wr = w.alloc (.cells #[.int .u64 ka, .int .i64 kb, .int .i64 kr, .int .i64 kl] 50)) (fun _ _ j _ => h - (intOf j).toNat)
  case atStart => exact ⟨1, Nat.le_refl _, h1, rfl, rfl, rfl, rfl⟩
  case round =>
    obtain ⟨i, i1, i2, rfl, rfl, rfl, rfl⟩ := hrel
    have l1 := N.lo_bd (h := i) (by omega)
    have l2 := N.hi_bd i
    by_cases hlt : i < h
    · have e1 := N.lo_step i i1
      have e2 := N.hi_step i i1
      have n1 : (((N.lo (i + 1) : Nat) : Int)) = (N.lo i : Int) * 2 := by omega
      have n2 : (((N.hi (i + 1) : Nat) : Int)) = min ((N.hi i : Int) * 4) 65536 := by omega
      go_wp2
      go_roundw
      case rel => exact ⟨i + 1, by omega, by omega, by go_num, by rw [n1], by rw [n2], trivial⟩
      case measure => simp [intOf]; omega
    · obtain rfl : i = h := by omega
      have hS : ∀ x y z : Value, Below w.heap.size w (((((w.alloc (.cells #[.int .u64 ka, .int .i64 kb, .int .i64 kr, .int .i64 kl] 50)).alloc (.cells #[.int .i64 0, .int .i64 0, .int .i64 0] 48)).setCell ⟨w.heap.size + 1, 0, none⟩ x).setCell ⟨w.heap.size + 1, 1, none⟩ y).setCell ⟨w.heap.size + 1, 2, none⟩ z) := fun x y z =>
        ((((((Below.refl _ _).alloc (Nat.le_refl _) _).alloc (by simp) _).setCell (p := ⟨w.heap.size + 1, 0, none⟩) (by simp) _).setCell (p := ⟨w.heap.size + 1, 1, none⟩) (by simp) _).setCell (p := ⟨w.heap.size + 1, 2, none⟩) (by simp) _)
      generalize ((N.lo i : Nat) : Int) = lo at *
      generalize ((N.hi i : Nat) : Int) = hi at *
      have hc : (ce = 0 ∧ lo ≤ kb ∧ kb ≤ hi ∧ 0 ≤ kr ∧ kr ≤ kb ∧ 0 ≤ kl ∧ kl ≤ kr) ∨ (¬ ce = 0) ∨ (ce = 0 ∧ ¬ lo ≤ kb) ∨ (ce = 0 ∧ lo ≤ kb ∧ ¬ kb ≤ hi) ∨ (ce = 0 ∧ lo ≤ kb ∧ kb ≤ hi ∧ ¬ 0 ≤ kr) ∨ (ce = 0 ∧ lo ≤ kb ∧ kb ≤ hi ∧ 0 ≤ kr ∧ ¬ kr ≤ kb) ∨ (ce = 0 ∧ lo ≤ kb ∧ kb ≤ hi ∧ 0 ≤ kr ∧ kr ≤ kb ∧ ¬ 0 ≤ kl) ∨ (ce = 0 ∧ lo ≤ kb ∧ kb ≤ hi ∧ 0 ≤ kr ∧ kr ≤ kb ∧ 0 ≤ kl ∧ ¬ kl ≤ kr) := by omega
      rcases hc with ⟨rfl, c1, c2, c3, c4, c5, c6⟩ | q | ⟨rfl, q⟩ | ⟨rfl, c1, q⟩ | ⟨rfl, c1, c2, q⟩ | ⟨rfl, c1, c2, c3, q⟩ | ⟨rfl, c1, c2, c3, c4, q⟩ | ⟨rfl, c1, c2, c3, c4, c5, q⟩
      · have hd : Hid (decide (N.KOk i k) = true) := by show _ = _; rw [decide_eq_true_iff, HK.out]; exact ⟨rfl, c1, c2, c3, c4, c5, c6⟩
        clear HK
        go_wp2_with (go_at_call 125; refine (HC.out _).mono ?_; rintro e w1 ⟨rfl, rfl⟩)
        go_ret
        refine ⟨by rw [hd.out]; rfl, ?_⟩
        first
          | exact (((Below.refl _ _).alloc (Nat.le_refl _) _).alloc (by simp) _)
          | exact hS _ _ _
      · have hd : Hid (decide (N.KOk i k) = false) := by show _ = _; rw [decide_eq_false_iff_not, HK.out]; exact fun h => q h.1
        have q2 : (ce == 0) = false := by simpa using q
        clear HK
        go_wp2_with (go_at_call 125; refine (HC.out _).mono ?_; rintro e w1 ⟨rfl, rfl⟩)
        go_ret
        refine ⟨by rw [hd.out]; rfl, ?_⟩
        first
          | exact (((Below.refl _ _).alloc (Nat.le_refl _) _).alloc (by simp) _)
          | exact hS _ _ _
      · have hd : Hid (decide (N.KOk i k) = false) := by show _ = _; rw [decide_eq_false_iff_not, HK.out]; exact fun h => q h.2.1
        clear HK
        go_wp2_with (go_at_call 125; refine (HC.out _).mono ?_; rintro e w1 ⟨rfl, rfl⟩)
        go_ret
        refine ⟨by rw [hd.out]; rfl, ?_⟩
        first
          | exact (((Below.refl _ _).alloc (Nat.le_refl _) _).alloc (by simp) _)
          | exact hS _ _ _
      · have hd : Hid (decide (N.KOk i k) = false) := by show _ = _; rw [decide_eq_false_iff_not, HK.out]; exact fun h => q h.2.2.1
        clear HK
        go_wp2_with (go_at_call 125; refine (HC.out _).mono ?_; rintro e w1 ⟨rfl, rfl⟩)
        go_ret
        refine ⟨by rw [hd.out]; rfl, ?_⟩
        first
          | exact (((Below.refl _ _).alloc (Nat.le_refl _) _).alloc (by simp) _)
          | exact hS _ _ _
      · have hd : Hid (decide (N.KOk i k) = false) := by show _ = _; rw [decide_eq_false_iff_not, HK.out]; exact fun h => q h.2.2.2.1
        clear HK
        go_wp2_with (go_at_call 125; refine (HC.out _).mono ?_; rintro e w1 ⟨rfl, rfl⟩)
        go_ret
        refine ⟨by rw [hd.out]; rfl, ?_⟩
        first
          | exact (((Below.refl _ _).alloc (Nat.le_refl _) _).alloc (by simp) _)
          | exact hS _ _ _
      · have hd : Hid (decide (N.KOk i k) = false) := by show _ = _; rw [decide_eq_false_iff_not, HK.out]; exact fun h => q h.2.2.2.2.1
        clear HK
        go_wp2_with (go_at_call 125; refine (HC.out _).mono ?_; rintro e w1 ⟨rfl, rfl⟩)
        go_ret
        refine ⟨by rw [hd.out]; rfl, ?_⟩
        first
          | exact (((Below.refl _ _).alloc (Nat.le_refl _) _).alloc (by simp) _)
          | exact hS _ _ _
      · have hd : Hid (decide (N.KOk i k) = false) := by show _ = _; rw [decide_eq_false_iff_not, HK.out]; exact fun h => q h.2.2.2.2.2.1
        clear HK
        go_wp2_with (go_at_call 125; refine (HC.out _).mono ?_; rintro e w1 ⟨rfl, rfl⟩)
        go_ret
        refine ⟨by rw [hd.out]; rfl, ?_⟩
        first
          | exact (((Below.refl _ _).alloc (Nat.le_refl _) _).alloc (by simp) _)
          | exact hS _ _ _
      · have hd : Hid (decide (N.KOk i k) = false) := by show _ = _; rw [decide_eq_false_iff_not, HK.out]; exact fun h => q h.2.2.2.2.2.2
        have q2 : decide (kl ≤ kr) = false := decide_eq_false q
        clear HK
        go_wp2_with (go_at_call 125; refine (HC.out _).mono ?_; rintro e w1 ⟨rfl, rfl⟩)
        go_ret
        refine ⟨by rw [hd.out]; first | rfl | simp [q2], ?_⟩
        first
          | exact (((Below.refl _ _).alloc (Nat.le_refl _) _).alloc (by simp) _)
          | exact hS _ _ _
end Go.Proofs.Ytniccjbcchdkoaa
/- NodeRef2 -/
namespace Go.Proofs.Ytniccjbcchdkoaa
open Go.RowKit

/-- No part is negative or greater than the document's largest text. -/
structure N.Sml (l : List N.K) : Prop where
  len : l.length ≤ 4
  b : ∀ k ∈ l, 0 ≤ k.b ∧ k.b ≤ 65536
  r : ∀ k ∈ l, 0 ≤ k.r ∧ k.r ≤ 65536
  l : ∀ k ∈ l, 0 ≤ k.l ∧ k.l ≤ 65536
theorem N.sum_bd {f : N.K → Int} : ∀ {l : List N.K} (_ : ∀ k ∈ l, 0 ≤ f k ∧ f k ≤ 65536), 0 ≤ N.sum f l ∧ N.sum f l ≤ l.length * 65536
  | [], _ => by simp [N.sum]
  | k :: l, h => by
    have := N.sum_bd (f := f) (l := l) fun y hy => h y (List.mem_cons_of_mem _ hy)
    have := h k List.mem_cons_self
    rw [N.sum_cons, List.length_cons]; omega
theorem N.sum_take {f : N.K → Int} {l : List N.K} {k : Nat} {p : N.K} (h : l[k]? = some p) : N.sum f (l.take (k + 1)) = N.sum f (l.take k) + f p := by
  rw [List.take_add_one, h, N.sum_append]; simp [N.sum]
/-- What holds at the head of a round of sum. -/
structure N.Sm (w : World) (l : List N.K) (v : Value) (k : Nat) (wr : World) : Prop where
  kids : wr.cell? ⟨w.heap.size, 2, none⟩ = some v
  res : M.Own wr (w.heap.size + 1) 0 0 0
  acc : M.Own wr (w.heap.size + 1 + 1) (N.sum N.K.b (l.take k)) (N.sum N.K.r (l.take k)) (N.sum N.K.l (l.take k))
  below : Below w.heap.size w wr
theorem N.Sm.step {w wr : World} {l : List N.K} {v : Value} {k : Nat} (h : N.Sm w l v k wr) {p : N.K} (hp : l[k]? = some p) (o : Obj) (x y z : Int) (hx : x = N.sum N.K.b (l.take k) + p.b) (hy : y = N.sum N.K.r (l.take k) + p.r) (hz : z = N.sum N.K.l (l.take k) + p.l) :
    N.Sm w l v (k + 1) ((M.put3 wr (w.heap.size + 1 + 1) x y z).alloc o) := by
  have w2 : w.heap.size + 1 + 1 < wr.heap.size := h.acc.lt
  have hsz : (M.put3 wr (w.heap.size + 1 + 1) x y z).heap.size = wr.heap.size := by simp [M.put3]
  have ha : Below (M.put3 wr (w.heap.size + 1 + 1) x y z).heap.size (M.put3 wr (w.heap.size + 1 + 1) x y z) ((M.put3 wr (w.heap.size + 1 + 1) x y z).alloc o) := (Below.refl _ _).alloc (Nat.le_refl _) o
  refine ⟨?_, ((h.res.keep _ (by omega) _ _ _)).below ha, ?_, (M.put3_below h.below (by omega) _ _ _).alloc (by omega) o⟩
  · rw [(D.bcell ha).1 _ _ (by omega)]
    unfold M.put3
    rw [World.cell?_setCell_other _ _ _ _ (by simp), World.cell?_setCell_other _ _ _ _ (by simp), World.cell?_setCell_other _ _ _ _ (by simp)]
    exact h.kids
  · rw [N.sum_take hp, N.sum_take hp, N.sum_take hp, ← hx, ← hy, ← hz]
    exact (h.acc.put _ _ _).below ha
set_option maxHeartbeats 1000000 in
theorem refSum12_any (h : Int) (t : ByteArray) (ao : Option Addr) (ca : Nat) (l : List N.K) (s : N.Sml l) (n : Nat) (hn : n ≤ l.length) (w : World) (hr : N.Row w ao l) :
    Calls Try.prog 99 #[N.nv h t (.slice ao l.length ca), .int .i64 (n : Int)] w fun e w' => e = .returned (.agg #[.int .i64 (N.sum N.K.b (l.take n)), .int .i64 (N.sum N.K.r (l.take n)), .int .i64 (N.sum N.K.l (l.take n))]) ∧ Below w.heap.size w w' := by
  have Hr := Lib.hid hr
  have hl4 := s.len
  clear hr
  unfold N.nv
  go_enter Try.func99, Try.ntmps99
  go_wp2
  go_loopw [6] (fun j wr => ∃ k : Nat, k ≤ n ∧ j = .int .i64 k ∧ Hid (N.Sm w l (.slice ao l.length ca) k wr)) (fun j _ => n - (intOf j).toNat)
  case atStart =>
    refine ⟨0, Nat.zero_le _, rfl, ?_⟩
    have e0 : ∀ f : N.K → Int, N.sum f (l.take 0) = 0 := fun f => by simp [N.sum]
    show N.Sm _ _ _ _ _
    refine ⟨by simp [go_sem], ?_, ?_, ((((Below.refl _ _).alloc (Nat.le_refl _) _).alloc (by simp) _).alloc (by simp only [World.size_alloc]; omega) _)⟩
    · have := (M.Own.new (w.alloc (.cells #[.int .i64 h, .string t, .slice ao l.length ca] 30)) 0 0 0 48).alloc (.cells #[.int .i64 0, .int .i64 0, .int .i64 0] 48)
      simpa using this
    · rw [e0, e0, e0]
      have := M.Own.new ((w.alloc (.cells #[.int .i64 h, .string t, .slice ao l.length ca] 30)).alloc (.cells #[.int .i64 0, .int .i64 0, .int .i64 0] 48)) 0 0 0 48
      simpa using this
  case round =>
    obtain ⟨k, hk, rfl, hS⟩ := hrel
    by_cases hlt : k < n
    · obtain ⟨p, hp, _⟩ := N.drop_cons (l := l) (k := k) (by omega)
      obtain ⟨b1, o1, e1, l1, hc⟩ := Hr.out k p hp
      obtain ⟨c0, c1, c2, c3⟩ := N.cell4 hS.out.below l1 hc
      subst e1
      clear hc
      have hkl : k < l.length := by omega
      have kd := hS.out.kids
      have w2 : w.heap.size + 1 + 1 < wr.heap.size := hS.out.acc.lt
      have hA := hS.out.acc.alloc (.cells #[.int .i64 p.b, .int .i64 p.r, .int .i64 p.l] 48)
      have a0 := hA.c0
      have a1 := hA.c1
      have a2 := hA.c2
      have f0 := hA.f0
      have f1 := hA.f1
      have f2 := hA.f2
      have e0 := hS.out.acc.c0
      have e1 := hS.out.acc.c1
      have e2 := hS.out.acc.c2
      have g0 := hS.out.acc.f0
      have g1 := hS.out.acc.f1
      have g2 := hS.out.acc.f2
      have hne : w.heap.size + 1 + 1 ≠ wr.heap.size := by omega
      have hst := Lib.hid (N.Sm.step hS.out hp (.cells #[.int .i64 p.b, .int .i64 p.r, .int .i64 p.l] 48) _ _ _ rfl rfl rfl)
      have hpm := List.mem_of_getElem? hp
      have hlt4 : (l.take k).length ≤ 4 := by rw [List.length_take]; omega
      have b0 := N.sum_bd (f := N.K.b) (l := l.take k) fun y hy => s.b y (List.mem_of_mem_take hy)
      have b2 := N.sum_bd (f := N.K.r) (l := l.take k) fun y hy => s.r y (List.mem_of_mem_take hy)
      have b3 := N.sum_bd (f := N.K.l) (l := l.take k) fun y hy => s.l y (List.mem_of_mem_take hy)
      have p0 := s.b p hpm
      have p1 := s.r p hpm
      have p2 := s.l p hpm
      generalize (l.take k).length = lt at *
      generalize N.sum N.K.b (l.take k) = sb at *
      generalize N.sum N.K.r (l.take k) = sr at *
      generalize N.sum N.K.l (l.take k) = sl at *
      clear hA hp hpm
      obtain ⟨x1, x2⟩ := b0
      obtain ⟨x3, x4⟩ := b2
      obtain ⟨x5, x6⟩ := b3
      obtain ⟨y1, y2⟩ := p0
      obtain ⟨y3, y4⟩ := p1
      obtain ⟨y5, y6⟩ := p2
      go_wp2
      go_roundw
      case rel => exact ⟨k + 1, by omega, by go_num, hst⟩
      case measure => simp [intOf]; omega
    · obtain rfl : k = n := by omega
      have a0 := hS.out.acc.c0
      have a1 := hS.out.acc.c1
      have a2 := hS.out.acc.c2
      have r0 := hS.out.res.c0
      have r1 := hS.out.res.c1
      have r2 := hS.out.res.c2
      have s0 := hS.out.res.f0
      have s1 := hS.out.res.f1
      have s2 := hS.out.res.f2
      have hP := hS.out.res.put (N.sum N.K.b (l.take k)) (N.sum N.K.r (l.take k)) (N.sum N.K.l (l.take k))
      have hBw := Lib.hid (M.put3_below hS.out.below (b := w.heap.size + 1) (by omega) (N.sum N.K.b (l.take k)) (N.sum N.K.r (l.take k)) (N.sum N.K.l (l.take k)))
      go_wp2
      have p0 := hP.c0
      have p1 := hP.c1
      have p2 := hP.c2
      refine bodyPost_ret (v := .agg #[.int .i64 (N.sum N.K.b (l.take k)), .int .i64 (N.sum N.K.r (l.take k)), .int .i64 (N.sum N.K.l (l.take k))]) ?_ rfl ⟨rfl, hBw.out⟩
      unfold M.put3 at p0 p1 p2
      simp [results, Try.results99, go_sem, p0, p1, p2]
end Go.Proofs.Ytniccjbcchdkoaa
/- NodeRef3 -/
namespace Go.Proofs.Ytniccjbcchdkoaa
open Go.RowKit

set_option maxHeartbeats 1000000 in
theorem refFormed12_leaf (t : ByteArray) (ao : Option Addr) (ca : Nat) (l : List N.K) (w : World) (ht : t.size ≤ maxLen) :
    Calls Try.prog 100 #[N.nv 0 t (.slice ao l.length ca)] w fun e w' => e = .returned (.bool (decide (1 ≤ t.size ∧ t.size ≤ 16 ∧ l.length = 0))) ∧ Below w.heap.size w w' := by
  unfold maxLen at ht
  unfold N.nv
  by_cases h1 : 1 ≤ t.size
  · by_cases h2 : t.size ≤ 16
    · have hd : decide (1 ≤ t.size ∧ t.size ≤ 16 ∧ l.length = 0) = decide ((l.length : Int) = 0) := by congr 1; apply propext; omega
      rw [hd]
      clear hd
      go_enter Try.func100, Try.ntmps100
      go_wp2
      go_ret
      exact ⟨rfl, (Below.refl _ _).alloc (Nat.le_refl _) _⟩
    · have hd : decide (1 ≤ t.size ∧ t.size ≤ 16 ∧ l.length = 0) = false := by rw [decide_eq_false_iff_not]; omega
      rw [hd]
      clear hd
      go_enter Try.func100, Try.ntmps100
      go_wp2
      go_ret
      exact ⟨rfl, (Below.refl _ _).alloc (Nat.le_refl _) _⟩
  · have hd : decide (1 ≤ t.size ∧ t.size ≤ 16 ∧ l.length = 0) = false := by rw [decide_eq_false_iff_not]; omega
    rw [hd]
    clear hd
    go_enter Try.func100, Try.ntmps100
    go_wp2
    go_ret
    exact ⟨rfl, (Below.refl _ _).alloc (Nat.le_refl _) _⟩
end Go.Proofs.Ytniccjbcchdkoaa
