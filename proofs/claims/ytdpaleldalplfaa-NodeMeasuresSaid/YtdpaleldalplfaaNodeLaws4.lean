/- The walk of NodeMeasures at a valid node, and whole. -/
import Derived.Test.YtdpaleldalplfaaNodeLaws3
namespace Go.Proofs.Ytdpaleldalplfaa
open Go.RowKit

set_option maxRecDepth 100000 in
set_option maxHeartbeats 8000000 in
theorem nodeMeasures_leaf (t : ByteArray) (ao : Option Addr) (ca : Nat) (w : World) (t1 : 1 ≤ t.size) (t2 : t.size ≤ 16) :
    Calls Try.prog 9 #[.agg #[.int .i64 0, .string t, .slice ao 0 ca]] w fun e w' => e = .returned (.bool true) ∧ Below w.heap.size w w' := by
  have hlf : N.leafP 0 t [] := ⟨rfl, t1, t2, rfl⟩
  have hc := N.leaf_chk hlf
  have HMs : Hid (∀ W, Calls Try.prog 13 #[.agg #[.int .i64 0, .string t, .slice ao 0 ca]] W fun e w' => e = .returned (.tuple #[.agg #[.int .i64 (t.size : Int), .int .i64 (U.cnt t.data.toList : Int), .int .i64 (M.lf t.data.toList : Int)], .int .i64 0]) ∧ Below W.heap.size W w') := fun W => by
    have := measure12_any 0 t ao ca [] W (by unfold maxLen; omega) (Nat.zero_le _) (N.row_nil _ _) (fun p hp => by cases hp)
    unfold N.MsEnd at this
    have e0 : (N.nd 0 t []).h = 0 := rfl
    rw [N.mB, N.mR, N.mL, if_pos hc, if_pos e0, if_pos hc, if_pos e0, if_pos hc, if_pos e0, hc] at this
    rw [show ((N.nd 0 t []).t.length : Int) = (t.size : Int) by show ((t.data.toList.length : Nat) : Int) = _; rw [N.len_data]] at this
    exact this
  have HO : Hid (∀ W, Calls Try.prog 39 #[.string t] W fun e w' => e = .returned (.agg #[.int .i64 (t.size : Int), .int .i64 (U.cnt t.data.toList : Int), .int .i64 (M.lf t.data.toList : Int)]) ∧ Below W.heap.size W w') := fun W => of_any t W (by omega)
  have HK := N.hAw
  obtain ⟨a, ha⟩ : ∃ a : Int, (t.size : Int) = a := ⟨_, rfl⟩
  rw [ha] at HMs HO
  generalize (U.cnt t.data.toList : Int) = b at HMs HO
  generalize (M.lf t.data.toList : Int) = c at HMs HO
  have a1 : 1 ≤ a := by omega
  have a2 : a ≤ 65536 := by omega
  have q0 : (a == a) = true := by simp
  have q1 : (b == b) = true := by simp
  have q2 : (c == c) = true := by simp
  have X1 := Lib.hid (N.Nb.new w 0 t (.slice ao 0 ca) 24)
  have B1 : Hid (Below w.heap.size w (w.alloc (.cells #[.int .i64 0, .string t, .slice ao 0 ca] 24))) := (Below.refl _ _).alloc (Nat.le_refl _) _
  clear hlf hc ha t1 t2
  go_enter Try.func9, Try.ntmps9
  go_wp2_with fail
  refine (HMs.out _).mono ?_
  rintro e w2 ⟨rfl, hb⟩
  have B2 := Lib.hid ((B1.out.trans (hb.mono B1.out.size)).alloc (B1.out.trans (hb.mono B1.out.size)).size (.cells #[.int .i64 a, .int .i64 b, .int .i64 c] 27))
  have X2 := Lib.hid ((X1.out.below hb).alloc (.cells #[.int .i64 a, .int .i64 b, .int .i64 c] 27))
  have M2 := Lib.hid (M.Own.new w2 a b c 27)
  clear hb X1 B1
  have x1 := X2.out.c1
  go_wp2_with fail
  refine (HO.out _).mono ?_
  rintro e w3 ⟨rfl, hb⟩
  have S3 : Hid (N.M2 w w.heap.size w2.heap.size w3.heap.size 0 t (.slice ao 0 ca) a b c a b c (w3.alloc (.cells #[.int .i64 a, .int .i64 b, .int .i64 c] 27))) := ⟨(B2.out.trans (hb.mono B2.out.size)).alloc (B2.out.trans (hb.mono B2.out.size)).size _, (X2.out.below hb).alloc _, (M2.out.below hb).alloc _, M.Own.new w3 a b c 27⟩
  clear hb x1 X2 M2 B2
  go_wp2
  go_loopw [6] (fun j wr => j = .int .i64 0 ∧ Hid (N.M2 w w.heap.size w2.heap.size w3.heap.size 0 t (.slice ao 0 ca) a b c a b c wr)) (fun _ _ => 0)
  case atStart => exact ⟨rfl, S3⟩
  case round =>
    clear S3
    obtain ⟨rfl, hS⟩ := hrel
    have x0 := hS.out.x.c0
    have x1 := hS.out.x.c1
    have x2 := hS.out.x.c2
    have m0 := hS.out.m.c0
    have m1 := hS.out.m.c1
    have m2 := hS.out.m.c2
    have p0 := hS.out.q.c0
    have p1 := hS.out.q.c1
    have p2 := hS.out.q.c2
    go_wp2_with fail
    refine (HK.out _).mono ?_
    rintro e wk ⟨rfl, hb⟩
    have KC := Lib.hid (hS.out.below.trans (hb.mono hS.out.below.size))
    clear hb
    go_wp2
    go_ret
    exact ⟨rfl, KC.out⟩
set_option maxRecDepth 100000 in
set_option maxHeartbeats 8000000 in
theorem nodeMeasures_inner (h : Int) (ao : Option Addr) (ca : Nat) (l : List N.K) (w : World) (hi : N.Inner (N.nd h ⟨#[]⟩ l)) (hrow : N.Row w ao l) (hf : ∀ p ∈ l, N.Fit p) :
    Calls Try.prog 9 #[.agg #[.int .i64 h, .string ⟨#[]⟩, .slice ao l.length ca]] w fun e w' => e = .returned (.bool true) ∧ Below w.heap.size w w' := by
  have hc := N.chk_inner hi
  have h0 : 0 < h := hi.h1
  have h13 : h ≤ 13 := hi.height
  have l2 : 2 ≤ l.length := hi.k2
  have l4 : l.length ≤ 4 := hi.k4
  have hsum1 : 16 ≤ N.sum N.K.b l := hi.bytes
  have hsum2 : N.sum N.K.b l ≤ 65536 := hi.sm
  have hin : N.inP h ⟨#[]⟩ l := (N.inP_of (h := h) (t := ⟨#[]⟩) (l := l) hc (by omega)).1
  have hsm := N.sml_of hin
  have HMs : Hid (∀ W, N.Row W ao l → Calls Try.prog 13 #[.agg #[.int .i64 h, .string ⟨#[]⟩, .slice ao l.length ca]] W fun e w' => e = .returned (.tuple #[.agg #[.int .i64 (N.sum N.K.b l), .int .i64 (N.sum N.K.r l), .int .i64 (N.sum N.K.l l)], .int .i64 0]) ∧ Below W.heap.size W w') := fun W hr => by
    have := measure12_any h ⟨#[]⟩ ao ca l W (Nat.zero_le _) (by unfold maxLen; omega) hr hf
    unfold N.MsEnd at this
    have e0 : ¬ (N.nd h ⟨#[]⟩ l).h = 0 := by show ¬ h = 0; omega
    rw [N.mB, N.mR, N.mL, if_pos hc, if_neg e0, if_pos hc, if_neg e0, if_pos hc, if_neg e0, hc] at this
    exact this
  have HO : Hid (∀ W, Calls Try.prog 39 #[.string ⟨#[]⟩] W fun e w' => e = .returned (.agg #[.int .i64 0, .int .i64 0, .int .i64 0]) ∧ Below W.heap.size W w') := fun W => of_any ⟨#[]⟩ W (by decide)
  have HA : Hid (∀ (i : Nat) (p : N.K) (g cc : Nat) (W : World), l[i]? = some p → W.heap[g]? = some (.cells (N.six (N.sum N.K.b (l.take i)) (N.sum N.K.r (l.take i)) (N.sum N.K.l (l.take i)) p.b p.r p.l) 27 (0, 0)) → Calls Try.prog 40 #[.slice (some ⟨g, 0, none⟩) 2 cc] W fun e w' => e = .returned (.agg #[.int .i64 (N.sum N.K.b (l.take (i + 1))), .int .i64 (N.sum N.K.r (l.take (i + 1))), .int .i64 (N.sum N.K.l (l.take (i + 1)))]) ∧ Below W.heap.size W w') := fun i p g cc W hp hg => by
    have hpm := List.mem_of_getElem? hp
    have hlt4 : (l.take i).length ≤ 4 := by rw [List.length_take]; omega
    have b0 := N.sum_bd (f := N.K.b) (l := l.take i) fun y hy => hsm.b y (List.mem_of_mem_take hy)
    have b1 := N.sum_bd (f := N.K.r) (l := l.take i) fun y hy => hsm.r y (List.mem_of_mem_take hy)
    have b2 := N.sum_bd (f := N.K.l) (l := l.take i) fun y hy => hsm.l y (List.mem_of_mem_take hy)
    have p0 := hsm.b p hpm
    have p1 := hsm.r p hpm
    have p2 := hsm.l p hpm
    rw [N.sum_take hp, N.sum_take hp, N.sum_take hp]
    exact N.add2_any _ _ _ _ _ _ (by omega) (by omega) (by omega) g cc W hg
  have HH : Hid (∀ p ∈ l, ∀ W, Calls Try.prog 41 #[.int .u64 (p.at_ : Int)] W fun e w' => e = .returned (.int .i64 0) ∧ W = w') := fun p hp W => by
    have := check10_any p.at_ (by have := (hf p hp).at_; omega) W
    rwa [show H.ckE p.at_ = 0 by unfold H.ckE; rw [if_pos (hin.2.2.2.2.2 p hp).at_]] at this
  have HK := N.hAw
  have X1 := Lib.hid (N.Nb.new w h ⟨#[]⟩ (.slice ao l.length ca) 24)
  have B1 : Hid (Below w.heap.size w (w.alloc (.cells #[.int .i64 h, .string ⟨#[]⟩, .slice ao l.length ca] 24))) := (Below.refl _ _).alloc (Nat.le_refl _) _
  have Hr := Lib.hid hrow
  have Hl := Lib.hid (And.intro l2 (And.intro l4 (And.intro hsum1 hsum2)))
  have e0 : N.sum N.K.b (l.take 0) = 0 := by simp [N.sum]
  have e1 : N.sum N.K.r (l.take 0) = 0 := by simp [N.sum]
  have e2 : N.sum N.K.l (l.take 0) = 0 := by simp [N.sum]
  have E := Lib.hid (And.intro e0 (And.intro e1 e2))
  obtain ⟨ma, hma⟩ : ∃ a, Hid (N.sum N.K.b l = a) := ⟨_, rfl⟩
  obtain ⟨mb, hmb⟩ : ∃ a, Hid (N.sum N.K.r l = a) := ⟨_, rfl⟩
  obtain ⟨mc, hmc⟩ : ∃ a, Hid (N.sum N.K.l l = a) := ⟨_, rfl⟩
  rw [hma.out] at HMs hsum1 hsum2
  rw [hmb.out, hmc.out] at HMs
  clear hc hi hin hsm hf hrow e0 e1 e2
  go_enter Try.func9, Try.ntmps9
  go_wp2_with fail
  refine (HMs.out _ (Hr.out.below B1.out)).mono ?_
  rintro e w2 ⟨rfl, hb⟩
  have B2 := Lib.hid ((B1.out.trans (hb.mono B1.out.size)).alloc (B1.out.trans (hb.mono B1.out.size)).size (.cells #[.int .i64 ma, .int .i64 mb, .int .i64 mc] 27))
  have X2 := Lib.hid ((X1.out.below hb).alloc (.cells #[.int .i64 ma, .int .i64 mb, .int .i64 mc] 27))
  have M2 := Lib.hid (M.Own.new w2 ma mb mc 27)
  have z2 : Hid (w.heap.size < w2.heap.size) := by have := hb.size; simp at this; show _ < _; omega
  clear hb X1 B1
  have x1 := X2.out.c1
  go_wp2_with fail
  refine (HO.out _).mono ?_
  rintro e w3 ⟨rfl, hb⟩
  have z3 : Hid (w2.heap.size < w3.heap.size) := by have := hb.size; simp at this; show _ < _; omega
  have S3 : Hid (N.M2 w w.heap.size w2.heap.size w3.heap.size h ⟨#[]⟩ (.slice ao l.length ca) ma mb mc (N.sum N.K.b (l.take 0)) (N.sum N.K.r (l.take 0)) (N.sum N.K.l (l.take 0)) (w3.alloc (.cells #[.int .i64 0, .int .i64 0, .int .i64 0] 27))) := by
    show N.M2 _ _ _ _ _ _ _ _ _ _ _ _ _ _
    rw [E.out.1, E.out.2.1, E.out.2.2]
    exact ⟨(B2.out.trans (hb.mono B2.out.size)).alloc (B2.out.trans (hb.mono B2.out.size)).size _, (X2.out.below hb).alloc _, (M2.out.below hb).alloc _, M.Own.new w3 0 0 0 27⟩
  clear hb x1 X2 M2 B2
  go_wp2
  go_loopw [6] (fun j wr => ∃ i : Nat, i ≤ l.length ∧ j = .int .i64 i ∧ Hid (N.M2 w w.heap.size w2.heap.size w3.heap.size h ⟨#[]⟩ (.slice ao l.length ca) ma mb mc (N.sum N.K.b (l.take i)) (N.sum N.K.r (l.take i)) (N.sum N.K.l (l.take i)) wr)) (fun j _ => l.length - (intOf j).toNat)
  case atStart => exact ⟨0, Nat.zero_le _, rfl, S3⟩
  case round =>
    clear S3
    obtain ⟨i, hi, rfl, hS⟩ := hrel
    by_cases hlt : i < l.length
    · obtain ⟨p, hp, _⟩ := N.drop_cons hlt
      obtain ⟨b1, o, e, hbl, hcs⟩ := Hr.out i p hp
      subst e
      obtain ⟨c0, c1, c2, c3⟩ := N.cell4 hS.out.below hbl hcs
      have HAi : Hid (∀ (g cc : Nat) (W : World), W.heap[g]? = some (.cells (N.six (N.sum N.K.b (l.take i)) (N.sum N.K.r (l.take i)) (N.sum N.K.l (l.take i)) p.b p.r p.l) 27 (0, 0)) → Calls Try.prog 40 #[.slice (some ⟨g, 0, none⟩) 2 cc] W fun e w' => e = .returned (.agg #[.int .i64 (N.sum N.K.b (l.take (i + 1))), .int .i64 (N.sum N.K.r (l.take (i + 1))), .int .i64 (N.sum N.K.l (l.take (i + 1)))]) ∧ Below W.heap.size W w') := fun g cc W hg => HA.out i p g cc W hp hg
      have HHi := Lib.hid (HH.out p (List.mem_of_getElem? hp))
      have Hcs := Lib.hid hcs
      have x0 := hS.out.x.c0
      have x2 := hS.out.x.c2
      have p0 := hS.out.q.c0
      have p1 := hS.out.q.c1
      have p2 := hS.out.q.c2
      obtain ⟨A', hA'⟩ : ∃ a, Hid (N.sum N.K.b (l.take (i + 1)) = a) := ⟨_, rfl⟩
      obtain ⟨B', hB'⟩ : ∃ a, Hid (N.sum N.K.r (l.take (i + 1)) = a) := ⟨_, rfl⟩
      obtain ⟨C', hC'⟩ : ∃ a, Hid (N.sum N.K.l (l.take (i + 1)) = a) := ⟨_, rfl⟩
      rw [hA'.out, hB'.out, hC'.out] at HAi
      generalize N.sum N.K.b (l.take i) = A0 at hS HAi p0
      generalize N.sum N.K.r (l.take i) = B0 at hS HAi p1
      generalize N.sum N.K.l (l.take i) = C0 at hS HAi p2
      clear hp hcs HA HH
      go_wp2_with fail
      go_region_with (first
        | (go_at_call 40; refine (HAi.out _ _ _ ?hg).mono ?_
           case hg => first | exact heap_alloc_new _ _ | (simp [N.six]; done) | exact (heap_alloc_new _ _)
           rintro e w5 ⟨rfl, hb⟩
           have S5 := (hS.out.on ((Below.refl _ _).drew)).on (((Below.refl _ _).alloc (Nat.le_refl _) (.cells (N.six A0 B0 C0 p.b p.r p.l) 27)).trans (hb.mono (by simp)))
           have r0 := S5.q.c0
           have r1 := S5.q.c1
           have r2 := S5.q.c2
           have s0 := S5.q.f0
           have s1 := S5.q.f1
           have s2 := S5.q.f2
           have S6 := Lib.hid (S5.put (by have := z2.out; have := z3.out; omega) (by have := z3.out; omega) (by have := z2.out; have := z3.out; omega) A' B' C')
           clear S5 hb))
      all_goals
        have x0 := S6.out.x.c0
        have x2 := S6.out.x.c2
        obtain ⟨c0, c1, c2, c3⟩ := N.cell4 S6.out.below hbl Hcs.out
        go_wp2_with (go_at_call 41; refine (HHi.out _).mono ?_; rintro e w6 ⟨rfl, rfl⟩)
        go_roundw
        case rel => exact ⟨i + 1, by omega, by go_num, (by show N.M2 _ _ _ _ _ _ _ _ _ _ _ _ _ _; rw [hA'.out, hB'.out, hC'.out]; exact S6.out)⟩
        case measure => simp [intOf]; omega
    · obtain rfl : i = l.length := by omega
      rw [List.take_length, hma.out, hmb.out, hmc.out] at hS
      have x0 := hS.out.x.c0
      have x1 := hS.out.x.c1
      have x2 := hS.out.x.c2
      have m0 := hS.out.m.c0
      have m1 := hS.out.m.c1
      have m2 := hS.out.m.c2
      have p0 := hS.out.q.c0
      have p1 := hS.out.q.c1
      have p2 := hS.out.q.c2
      have q0 : (ma == ma) = true := by simp
      have q1 : (mb == mb) = true := by simp
      have q2 : (mc == mc) = true := by simp
      go_wp2_with fail
      refine (HK.out _).mono ?_
      rintro e wk ⟨rfl, hb⟩
      have KC := Lib.hid (hS.out.below.trans (hb.mono hS.out.below.size))
      clear hb
      go_wp2
      go_ret
      exact ⟨rfl, KC.out⟩
theorem nodeMeasures_walk (x : N.NArg) (w : World) (hx : N.NOk w x) :
    Calls Try.prog 9 #[x.v] w fun e w' => e = .returned (.bool true) ∧ Below w.heap.size w w' := by
  by_cases hc : N.chk x.nd = 0
  · rcases N.chk_cases hc with k | k
    · obtain ⟨h, t, ao, ca, l⟩ := x
      have h0 : h = 0 := k.h
      have hl : l = [] := k.ks
      have t1 : 1 ≤ t.data.toList.length := k.t1
      have t2 : t.data.toList.length ≤ 16 := k.t2
      rw [N.len_data] at t1 t2
      subst h0
      subst hl
      exact nodeMeasures_leaf t ao ca w t1 t2
    · have hf := hx.s.fits
      have hr := hx.s.row
      obtain ⟨h, t, ao, ca, l⟩ := x
      have ht : t.data.toList = [] := k.t
      have : t.size = 0 := by rw [← N.len_data, ht]; rfl
      obtain rfl := N.size0 this
      exact nodeMeasures_inner h ao ca l w k hr hf
  · exact nodeMeasures_bad x w hx hc
end Go.Proofs.Ytdpaleldalplfaa
