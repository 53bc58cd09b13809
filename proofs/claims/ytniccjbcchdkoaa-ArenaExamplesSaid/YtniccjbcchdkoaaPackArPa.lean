/- Texts joined: ArPa ArSpoil ArPlay ArSt ArBelow -/
import Derived.Test.YtniccjbcchdkoaaPackArDeed
import Derived.Test.YtniccjbcchdkoaaPackFKit
import Derived.Laws.StructEq
import Derived.Test.YtniccjbcchdkoaaFreePl
/- ArPa -/
namespace Go.Proofs.Ytniccjbcchdkoaa
open Go.RowKit

structure Ar.Pa (O : World → Nat → A13.A → (Nat → Prop) → Prop) : Prop where
  but : ∀ {W W' : World} {p : Nat} {a : A13.A} {R Q : Nat → Prop}, O W p a R → FL.But Q W W' → (∀ k, R k → ¬ Q k) → O W' p a R
  inv : ∀ {W : World} {p : Nat} {a : A13.A} {R : Nat → Prop}, O W p a R → A13.Inv a
  cnt : ∀ {W : World} {p : Nat} {a : A13.A} {R : Nat → Prop}, O W p a R → A13.Cnt a
  lt : ∀ {W : World} {p : Nat} {a : A13.A} {R : Nat → Prop}, O W p a R → ∀ k, R k → k < W.heap.size
  bad : ∀ (n g : Int) (w : World), (n < 1 ∨ 16384 < n ∨ g < 1 ∨ 4294967295 < g) → -9223372036854775808 ≤ n → n ≤ 9223372036854775807 → 0 ≤ g → g ≤ 18446744073709551615 →
    Calls Try.prog 49 #[.int .i64 n, .int .u64 g] w fun e w' => e = .returned (.tuple #[.pointer none, .int .i64 3]) ∧ Below w.heap.size w w'
  new : ∀ (n g : Nat) (w : World), 1 ≤ n → n ≤ 16384 → 1 ≤ g → g ≤ 4294967295 →
    Calls Try.prog 49 #[.int .i64 (n : Int), .int .u64 (g : Int)] w fun e w' => ∃ p, e = .returned (.tuple #[FL.ptr p, .int .i64 0]) ∧ O w' p (A13.new n g) (Ar.ext (fun _ => False) w.heap.size w'.heap.size) ∧ Below w.heap.size w w'
  alloc : ∀ (p : Nat) (a : A13.A) (R : Nat → Prop) (x : N.NArg) (w : World), O w p a R → N.NOk w x → (∀ g o, x.s.a = some ⟨g, o, none⟩ → x.s.x ≠ [] → ¬ R g) →
    Calls Try.prog 12 #[FL.ptr p, .agg #[.int .i64 x.h, .string x.t, .slice x.s.a x.s.x.length x.s.c]] w fun e w' => e = .returned (.tuple #[.int .u64 (A13.alH Ar.ms a x.nd : Nat), .int .i64 (A13.alE Ar.ms a x.nd)]) ∧ O w' p (A13.al Ar.ms a x.nd) (Ar.ext R w.heap.size w'.heap.size) ∧ FL.But R w w'
  get : ∀ (p : Nat) (a : A13.A) (R : Nat → Prop) (h : Nat) (w : World), O w p a R → h ≤ 18446744073709551615 → a.st < 1000000000 →
    Calls Try.prog 13 #[FL.ptr p, .int .u64 (h : Int)] w fun e w' => ∃ t xo xc R', t.data.toList = (Ar.got a h).t ∧ e = .returned (.tuple #[.agg #[.int .i64 (Ar.got a h).h, .string t, .slice xo (Ar.got a h).ks.length xc], .int .i64 (a.gtE h)]) ∧
      O w' p (a.gt h) R' ∧ (∀ k, R' k → Ar.ext R w.heap.size w'.heap.size k) ∧ FL.But R w w' ∧ w'.ownsRow w.heap.size 50 4 (.slice xo (Ar.got a h).ks.length xc) (Ar.got a h).ks.length (N.cells (Ar.got a h).ks) ∧
      N.NOk w' ⟨(Ar.got a h).h, t, ⟨xo, xc, (Ar.got a h).ks⟩⟩ ∧ ∀ g o, xo = some ⟨g, o, none⟩ → w.heap.size ≤ g ∧ g < w'.heap.size ∧ ¬ R' g
  free : ∀ (p : Nat) (a : A13.A) (R : Nat → Prop) (h : Nat) (w : World), O w p a R → h ≤ 18446744073709551615 → a.st < 1000000000 →
    Calls Try.prog 16 #[FL.ptr p, .int .u64 (h : Int)] w fun e w' => e = .returned (.int .i64 (a.gtE h)) ∧ O w' p (a.free h) (Ar.ext R w.heap.size w'.heap.size) ∧ FL.But R w w'
  live : ∀ (p : Nat) (a : A13.A) (R : Nat → Prop) (h : Nat) (w : World), O w p a R → h ≤ 18446744073709551615 →
    Calls Try.prog 17 #[FL.ptr p, .int .u64 (h : Int)] w fun e w' => e = .returned (.bool (a.has h)) ∧ Below w.heap.size w w'
  handles : ∀ (p : Nat) (a : A13.A) (R : Nat → Prop) (w : World), O w p a R →
    Calls Try.prog 18 #[FL.ptr p] w fun e w' => ∃ v, e = .returned v ∧ H.Made a.l.hands w v w'
  slots : ∀ (p : Nat) (a : A13.A) (R : Nat → Prop) (w : World), O w p a R →
    Calls Try.prog 14 #[FL.ptr p] w fun e w' => ∃ v1 v2, e = .returned (.tuple #[v1, v2]) ∧ V.Made 3 (FL.ints a.l.stk) w v1 w' ∧ V.Made 3 (FL.ints (a.l.those 2)) w v2 w' ∧ ∀ k, v1.ownBlock = some k → v2.ownBlock ≠ some k
  stats : ∀ (p : Nat) (a : A13.A) (R : Nat → Prop) (w : World), O w p a R →
    Calls Try.prog 19 #[FL.ptr p] w fun e w' => e = .returned (Ar.st7 a) ∧ Below w.heap.size w w'
@[go_sem] theorem Ar.eqStats (a0 a1 a2 a3 a4 a5 a6 x0 x1 x2 x3 x4 x5 x6 : Int) (w : World) : (Op.equalIn 10000 42 (.agg #[.int .i64 a0, .int .i64 a1, .int .i64 a2, .int .i64 a3, .int .i64 a4, .int .i64 a5, .int .i64 a6]) (.agg #[.int .i64 x0, .int .i64 x1, .int .i64 x2, .int .i64 x3, .int .i64 x4, .int .i64 x5, .int .i64 x6])).run Try.prog w = .ok (a0 == x0 && a1 == x1 && a2 == x2 && a3 == x3 && a4 == x4 && a5 == x5 && a6 == x6) w := by
  have u3 := Try.underlying3
  have y3 := Try.isAgg3
  have z3 := Try.sizeOf3
  have hS : Try.prog.underlying 42 = some (.struct (Try.prog.fieldsOf 42)) := by kernel_rfl
  rw [show (10000 : Nat) = 9999 + 1 from rfl, run_equalIn_agg w 9999 42 _ _ hS (by kernel_rfl)]
  simp only [Program.fieldsOf, Try.underlying42]
  go_simp
  by_cases h0 : a0 = x0
  case neg => simp [h0]
  by_cases h1 : a1 = x1
  case neg => simp [h0, h1]
  by_cases h2 : a2 = x2
  case neg => simp [h0, h1, h2]
  by_cases h3 : a3 = x3
  case neg => simp [h0, h1, h2, h3]
  by_cases h4 : a4 = x4
  case neg => simp [h0, h1, h2, h3, h4]
  by_cases h5 : a5 = x5
  case neg => simp [h0, h1, h2, h3, h4, h5]
  by_cases h6 : a6 = x6
  case neg => simp [h0, h1, h2, h3, h4, h5, h6]
  simp [h0, h1, h2, h3, h4, h5, h6]
section
variable {O : World → Nat → A13.A → (Nat → Prop) → Prop}
theorem Ar.Pa.on (X : Ar.Pa O) {W W' : World} {p : Nat} {a : A13.A} {R : Nat → Prop} (h : O W p a R) (hb : Below W.heap.size W W') : O W' p a R := X.but (Q := fun _ => False) h (FL.But.below hb) (fun _ _ => id)
/-! ### same -/
theorem Ar.lens {a : A13.A} (h : A13.Inv a) : a.l.stk.length ≤ 16384 ∧ a.l.hands.length ≤ 16384 ∧ (a.l.those 2).length ≤ 16384 :=
  ⟨Nat.le_trans (FL.stk_len h.l) h.l.n2, by rw [← FL.hk_all]; exact Nat.le_trans (FL.hk_len _ _) h.l.n2, by rw [← FL.wk_all]; exact Nat.le_trans (FL.wk_len _ _) h.l.n2⟩
set_option maxRecDepth 100000 in
set_option maxHeartbeats 4000000 in
theorem same13_any (X : Ar.Pa O) (p q : Nat) (a : A13.A) (R Q : Nat → Prop) (w : World) (hX : O w p a R) (hY : RA.Own w q a Q) :
    Calls Try.prog 59 #[FL.ptr p, FL.ptr q] w fun e w' => e = .returned (.bool true) ∧ Below w.heap.size w w' := by
  have HX : Hid (∀ V, Below w.heap.size w V → O V p a R) := fun V hb => X.on hX hb
  have HY : Hid (∀ V, Below w.heap.size w V → RA.Own V q a Q) := fun V hb => hY.below hb
  obtain ⟨n1, n2, n3⟩ := Ar.lens (X.inv hX)
  have B0 : Hid (Below w.heap.size w w) := Below.refl _ _
  have EI : Hid (∀ (l : List Nat), l.length ≤ 16384 → ∀ ao bo ca cb W, V.Row W ao (FL.ints l) → V.Row W bo (FL.ints l) → Calls Try.prog 61 #[.slice ao l.length ca, .slice bo l.length cb] W fun e w' => e = .returned (.bool true) ∧ Below W.heap.size W w') := fun l hl ao bo ca cb W ha hb => by
    have := equalInts_any ao bo ca cb l l W ha hb (by unfold maxLen; omega)
    rwa [decide_eq_true rfl] at this
  have EH : Hid (∀ (l : List Nat), l.length ≤ 16384 → ∀ ao bo ca cb W, V.Row W ao (H.row l) → V.Row W bo (H.row l) → Calls Try.prog 62 #[.slice ao l.length ca, .slice bo l.length cb] W fun e w' => e = .returned (.bool true) ∧ Below W.heap.size W w') := fun l hl ao bo ca cb W ha hb => by
    have := equalHandles_any ao bo ca cb l l W ha hb (by unfold maxLen; omega)
    rwa [decide_eq_true rfl] at this
  have XS : Hid (∀ Z, Below w.heap.size w Z → Calls Try.prog 14 #[FL.ptr p] Z fun e w' => ∃ ao c bo d, e = .returned (.tuple #[.slice ao a.l.stk.length c, .slice bo (a.l.those 2).length d]) ∧ V.Row w' ao (FL.ints a.l.stk) ∧ V.Row w' bo (FL.ints (a.l.those 2)) ∧ Below Z.heap.size Z w') := fun Z hb => (X.slots p a R Z (HX.out Z hb)).mono fun _ _ k => by
    obtain ⟨v1, v2, rfl, m1, m2, _⟩ := k
    obtain ⟨ao, c, rfl, r1⟩ := FL.MI.row m1
    obtain ⟨bo, d, rfl, r2⟩ := FL.MI.row m2
    exact ⟨ao, c, bo, d, rfl, r1, r2, m1.below⟩
  have XH : Hid (∀ V, Below w.heap.size w V → Calls Try.prog 18 #[FL.ptr p] V fun e w' => ∃ v, e = .returned v ∧ H.Made a.l.hands V v w') := fun V hb => X.handles p a R V (HX.out V hb)
  have XT : Hid (∀ V, Below w.heap.size w V → Calls Try.prog 19 #[FL.ptr p] V fun e w' => e = .returned (Ar.st7 a) ∧ Below V.heap.size V w') := fun V hb => X.stats p a R V (HX.out V hb)
  clear hX hY X
  generalize hl1 : a.l.those 2 = l3 at *
  go_enter Try.func59, Try.ntmps59
  go_wp2_with fail
  refine (XS.out _ B0.out).mono ?_
  rintro e w1 ⟨ao, ca, bo, cb, rfl, ha, hb, hB⟩
  have B1 := Lib.hid (B0.out.trans (hB.mono B0.out.size))
  have R1 := Lib.hid (And.intro ha hb)
  clear B0 ha hb hB
  go_wp2_with fail
  refine (refSlots13_any q a Q _ (HY.out _ B1.out)).mono ?_
  rintro e w2 ⟨ao2, ca2, bo2, cb2, rfl, ha, hb, hB⟩
  rw [hl1] at hb ⊢
  have B2 := Lib.hid (B1.out.trans (hB.mono B1.out.size))
  have R2 := Lib.hid (And.intro (R1.out.1.below hB) (R1.out.2.below hB))
  have S2 := Lib.hid (And.intro ha hb)
  clear B1 R1 ha hb hB
  go_wp2_with fail
  refine (XH.out _ B2.out).mono ?_
  rintro e w3 ⟨v, rfl, hm⟩
  have hB := V.Made.below hm
  have B3 := Lib.hid (B2.out.trans (hB.mono B2.out.size))
  have R3 := Lib.hid (And.intro (R2.out.1.below hB) (R2.out.2.below hB))
  have S3 := Lib.hid (And.intro (S2.out.1.below hB) (S2.out.2.below hB))
  obtain ⟨co, cc, rfl, hc⟩ := H.Made.row hm
  have T3 := Lib.hid hc
  clear B2 R2 S2 hm hB hc
  go_wp2_with fail
  refine (refHandles13_any q a Q _ (HY.out _ B3.out)).mono ?_
  rintro e w4 ⟨v, rfl, hm⟩
  have hB := V.Made.below hm
  have B4 := Lib.hid (B3.out.trans (hB.mono B3.out.size))
  have R4 := Lib.hid (And.intro (R3.out.1.below hB) (R3.out.2.below hB))
  have S4 := Lib.hid (And.intro (S3.out.1.below hB) (S3.out.2.below hB))
  have T4 := Lib.hid (T3.out.below hB)
  obtain ⟨do_, dc, rfl, hc⟩ := H.Made.row hm
  have U4 := Lib.hid hc
  clear B3 R3 S3 T3 hm hB hc
  go_wp2_with fail
  refine (EH.out a.l.hands n2 _ _ _ _ _ T4.out U4.out).mono ?_
  rintro e w5 ⟨rfl, hB⟩
  have B5 := Lib.hid (B4.out.trans (hB.mono B4.out.size))
  have R5 := Lib.hid (And.intro (R4.out.1.below hB) (R4.out.2.below hB))
  have S5 := Lib.hid (And.intro (S4.out.1.below hB) (S4.out.2.below hB))
  clear B4 R4 S4 T4 U4 hB
  go_wp2_with fail
  refine (EI.out a.l.stk n1 _ _ _ _ _ R5.out.1 S5.out.1).mono ?_
  rintro e w6 ⟨rfl, hB⟩
  have B6 := Lib.hid (B5.out.trans (hB.mono B5.out.size))
  have R6 := Lib.hid (R5.out.2.below hB)
  have S6 := Lib.hid (S5.out.2.below hB)
  clear B5 R5 S5 hB
  go_wp2_with fail
  refine (EI.out l3 n3 _ _ _ _ _ R6.out S6.out).mono ?_
  rintro e w7 ⟨rfl, hB⟩
  have B7 := Lib.hid (B6.out.trans (hB.mono B6.out.size))
  clear B6 R6 S6 hB
  go_wp2_with fail
  refine (XT.out _ B7.out).mono ?_
  rintro e w8 ⟨rfl, hB⟩
  have B8 := Lib.hid (B7.out.trans (hB.mono B7.out.size))
  clear B7 hB
  obtain ⟨sv, hsv⟩ : ∃ sv, Ar.st7 a = sv := ⟨_, rfl⟩
  have ST : Hid (∀ V, RA.Own V q a Q → Calls Try.prog 87 #[FL.ptr q] V fun e w' => e = .returned sv ∧ Below V.heap.size V w') := fun V hV => hsv ▸ refStats13_any q a Q V hV
  subst hsv
  go_wp2_with fail
  refine (ST.out _ (HY.out _ B8.out)).mono ?_
  rintro e w9 ⟨rfl, hB⟩
  have B9 := Lib.hid (B8.out.trans (hB.mono B8.out.size))
  clear B8 hB
  unfold Ar.st7
  have i1 : ∀ z : Int, (z == z) = true := fun z => by simp
  go_wp2
  go_ret
  exact ⟨rfl, B9.out⟩
end
end Go.Proofs.Ytniccjbcchdkoaa
/- ArSpoil -/
namespace Go.Proofs.Ytniccjbcchdkoaa
open Go.RowKit

/-- A row that lies elsewhere outlives a store. -/
theorem FL.Pl.off {base n g i : Nat} {e : TypeId} {v u : Value} {W : World} (h : FL.Pl base e v n W) (hg : v.ownBlock ≠ some g) : FL.Pl base e v n (W.setCell ⟨g, i, none⟩ u) := by
  obtain ⟨xs, h⟩ := h
  exact ⟨xs, (FL.But.set (R := fun k => k = g) W u rfl).row h (fun b hb c => hg (by rw [hb, c]))⟩
section
variable {O : World → Nat → A13.A → (Nat → Prop) → Prop}
set_option maxRecDepth 100000 in
set_option maxHeartbeats 4000000 in
theorem spoil13_any (X : Ar.Pa O) (p : Nat) (a : A13.A) (R : Nat → Prop) (w : World) (hX : O w p a R) :
    Calls Try.prog 58 #[FL.ptr p] w fun e w' => e = .returned (.tuple #[]) ∧ Below w.heap.size w w' := by
  have HX : Hid (∀ V, Below w.heap.size w V → O V p a R) := fun V hb => X.on hX hb
  obtain ⟨n1, n2, n3⟩ := Ar.lens (X.inv hX)
  have m1 : (FL.ints a.l.stk).length ≤ 16384 := by rw [FL.ints_len]; exact n1
  have m2 : (H.row a.l.hands).length ≤ 16384 := by rw [H.row_len]; exact n2
  have m3 : (FL.ints (a.l.those 2)).length ≤ 16384 := by rw [FL.ints_len]; exact n3
  have H1 : Hid (Calls Try.prog 18 #[FL.ptr p] w fun e w' => ∃ v, e = .returned v ∧ Below w.heap.size w w' ∧ FL.Pl w.heap.size 24 v (H.row a.l.hands).length w') := (X.handles p a R w hX).mono fun _ _ k => by
    obtain ⟨v, rfl, m⟩ := k
    exact ⟨v, rfl, V.Made.below m, FL.Made.pl m⟩
  have H2 : Hid (∀ Z, Below w.heap.size w Z → Calls Try.prog 14 #[FL.ptr p] Z fun e w' => ∃ v1 v2, e = .returned (.tuple #[v1, v2]) ∧ Below Z.heap.size Z w' ∧ FL.Pl Z.heap.size 3 v1 (FL.ints a.l.stk).length w' ∧ FL.Pl Z.heap.size 3 v2 (FL.ints (a.l.those 2)).length w' ∧ ∀ k, v1.ownBlock = some k → v2.ownBlock ≠ some k) := fun Z hb => (X.slots p a R Z (HX.out Z hb)).mono fun _ _ k => by
    obtain ⟨v1, v2, rfl, k1, k2, hd⟩ := k
    exact ⟨v1, v2, rfl, k1.below, FL.Made.pl k1, FL.Made.pl k2, hd⟩
  clear HX hX X n1 n2 n3
  generalize (FL.ints a.l.stk).length = L1 at *
  generalize (H.row a.l.hands).length = L2 at *
  generalize (FL.ints (a.l.those 2)).length = L3 at *
  go_enter Try.func58, Try.ntmps58
  go_wp2_with fail
  refine H1.out.mono ?_
  rintro e w1 ⟨v1, rfl, b1, p1⟩
  obtain ⟨ao1, cc1, rfl⟩ := p1.slice
  have B1 := Lib.hid b1
  have P1 := Lib.hid p1
  clear b1 p1 H1
  go_wp2
  go_loopw [3] (fun j wr => ∃ k : Nat, k ≤ L2 ∧ j = .int .i64 k ∧ Hid (Below w.heap.size w wr ∧ FL.Pl w.heap.size 24 (.slice ao1 L2 cc1) L2 wr)) (fun j _ => L2 - (intOf j).toNat)
  case atStart => exact ⟨0, Nat.zero_le _, rfl, B1.out, P1.out⟩
  case round =>
    obtain ⟨k, hk, rfl, hL⟩ := hrel
    clear B1 P1
    by_cases hlt : k < L2
    · obtain ⟨hb, h1⟩ := hL.out
      obtain ⟨g, c, e, l1, l2, ⟨y, hy⟩, hf, hset⟩ := h1.put hlt
      have R := Lib.hid (show Below w.heap.size w (wr.setCell ⟨g, k, none⟩ (.int .u64 0)) ∧ FL.Pl w.heap.size 24 (.slice ao1 L2 cc1) L2 (wr.setCell ⟨g, k, none⟩ (.int .u64 0)) from ⟨hb.setCell (p := ⟨g, k, none⟩) l1 _, hset _⟩)
      cases e
      clear hb h1 hset hL
      go_wp2
      go_roundw
      case rel => exact ⟨k + 1, by omega, by go_num, R⟩
      case measure => simp [intOf]; omega
    · obtain rfl : k = L2 := by omega
      have B2 := Lib.hid hL.out.1
      have S2 := Lib.hid hL.out.1.size
      have H3 := Lib.hid (H2.out wr B2.out)
      clear hL H2
      go_wp2_with fail
      refine H3.out.mono ?_
      rintro e w2 ⟨v1, v2, rfl, b2, p1, p2, hd⟩
      have B3 : Hid (Below w.heap.size w w2) := B2.out.trans (b2.mono B2.out.size)
      obtain ⟨ao2, cc2, rfl⟩ := p1.slice
      obtain ⟨ao3, cc3, rfl⟩ := p2.slice
      have P1 := Lib.hid p1
      have P2 := Lib.hid p2
      have HD := Lib.hid hd
      clear b2 p1 p2 hd H3 B2
      generalize wr.heap.size = z at *
      go_wp2
      go_loopw [6] (fun j wr => ∃ k : Nat, k ≤ L1 ∧ j = .int .i64 k ∧ Hid (Below w.heap.size w wr ∧ FL.Pl z 3 (.slice ao2 L1 cc2) L1 wr ∧ FL.Pl z 3 (.slice ao3 L3 cc3) L3 wr)) (fun j _ => L1 - (intOf j).toNat)
      case atStart => exact ⟨0, Nat.zero_le _, rfl, B3.out, P1.out, P2.out⟩
      case round =>
        obtain ⟨k2, hk2, rfl, hL⟩ := hrel
        clear B3 P1 P2
        by_cases hlt : k2 < L1
        · obtain ⟨hb, h2, h3⟩ := hL.out
          obtain ⟨g, c, e, l1, l2, ⟨y, hy⟩, hf, hset⟩ := h2.put hlt
          have := S2.out
          have R := Lib.hid (show Below w.heap.size w (wr.setCell ⟨g, k2, none⟩ (.int .i64 (-1))) ∧ FL.Pl z 3 (.slice ao2 L1 cc2) L1 (wr.setCell ⟨g, k2, none⟩ (.int .i64 (-1))) ∧ FL.Pl z 3 (.slice ao3 L3 cc3) L3 (wr.setCell ⟨g, k2, none⟩ (.int .i64 (-1))) from ⟨hb.setCell (p := ⟨g, k2, none⟩) (by show _ ≤ g; omega) _, hset _, h3.off (HD.out g (by rw [e]; rfl))⟩)
          cases e
          clear hb h2 h3 hset hL this
          go_wp2
          go_roundw
          case rel => exact ⟨k2 + 1, by omega, by go_num, R⟩
          case measure => simp [intOf]; omega
        · obtain rfl : k2 = L1 := by omega
          have B4 := Lib.hid hL.out.1
          have P3 := Lib.hid hL.out.2.2
          clear hL HD
          go_wp2
          go_loopw [7] (fun j wr => ∃ k : Nat, k ≤ L3 ∧ j = .int .i64 k ∧ Hid (Below w.heap.size w wr ∧ FL.Pl z 3 (.slice ao3 L3 cc3) L3 wr)) (fun j _ => L3 - (intOf j).toNat)
          case atStart => exact ⟨0, Nat.zero_le _, rfl, B4.out, P3.out⟩
          case round =>
            obtain ⟨k3, hk3, rfl, hL⟩ := hrel
            clear B4 P3
            by_cases hlt : k3 < L3
            · obtain ⟨hb, h3⟩ := hL.out
              obtain ⟨g, c, e, l1, l2, ⟨y, hy⟩, hf, hset⟩ := h3.put hlt
              have := S2.out
              have R := Lib.hid (show Below w.heap.size w (wr.setCell ⟨g, k3, none⟩ (.int .i64 (-1))) ∧ FL.Pl z 3 (.slice ao3 L3 cc3) L3 (wr.setCell ⟨g, k3, none⟩ (.int .i64 (-1))) from ⟨hb.setCell (p := ⟨g, k3, none⟩) (by show _ ≤ g; omega) _, hset _⟩)
              cases e
              clear hb h3 hset hL this
              go_wp2
              go_roundw
              case rel => exact ⟨k3 + 1, by omega, by go_num, R⟩
              case measure => simp [intOf]; omega
            · obtain rfl : k3 = L3 := by omega
              go_wp2
              go_end0
              exact ⟨rfl, hL.out.1⟩
end
end Go.Proofs.Ytniccjbcchdkoaa
/- ArPlay -/
namespace Go.Proofs.Ytniccjbcchdkoaa
open Go.RowKit

def Ar.Dd.op (d : Ar.Dd) (all : List Ar.I) (a : A13.A) : A13.A := if d.is = true then A13.al Ar.ms a (d.nd all) else if d.kind % 8 = 6 then a.free (d.hand all) else a.gt (d.hand all)
def Ar.Dd.opH (d : Ar.Dd) (all : List Ar.I) (a : A13.A) : Nat := if d.is = true then A13.alH Ar.ms a (d.nd all) else d.hand all
def Ar.Dd.opX (d : Ar.Dd) (all : List Ar.I) (a : A13.A) : N.Nd := if d.is = true then d.nd all else if d.kind % 8 = 6 then ⟨0, [], []⟩ else Ar.got a (d.hand all)
def Ar.Dd.opK (d : Ar.Dd) : Int := if d.is = true then 0 else if d.kind % 8 = 6 then 2 else 1
def Ar.Dd.opE (d : Ar.Dd) (all : List Ar.I) (a : A13.A) : Int := if d.is = true then A13.alE Ar.ms a (d.nd all) else a.gtE (d.hand all)
theorem Ar.opX4 {d : Ar.Dd} {all : List Ar.I} {a : A13.A} (k : d.kind % 8 = 4) : (d.opX all a).ks = d.x.s.x := by
  have his : d.is = true := by unfold Ar.Dd.is; exact decide_eq_true (by omega)
  unfold Ar.Dd.opX
  rw [if_pos his]
  unfold Ar.Dd.nd
  rw [if_neg (by omega), if_neg (by omega), if_pos k]; rfl
/-- What play returns and leaves. -/
def Ar.Played (O : World → Nat → A13.A → (Nat → Prop) → Prop) (w : World) (p : Nat) (R : Nat → Prop) (d : Ar.Dd) (all : List Ar.I) (a : A13.A) (e : Ending) (w' : World) : Prop :=
  ∃ t xo xc R', t.data.toList = (d.opX all a).t ∧ e = .returned (.tuple #[.int .u64 (d.opH all a : Nat), .agg #[.int .i64 (d.opX all a).h, .string t, .slice xo (d.opX all a).ks.length xc], .int .i64 d.opK, .int .i64 (d.opE all a)]) ∧
    O w' p (d.op all a) R' ∧ (∀ k, R' k → Ar.ext R w.heap.size w'.heap.size k) ∧ FL.But R w w' ∧ N.NOk w' ⟨(d.opX all a).h, t, ⟨xo, xc, (d.opX all a).ks⟩⟩ ∧
    ((xo = d.x.s.a ∧ d.kind % 8 = 4) ∨ ∀ g o, xo = some ⟨g, o, none⟩ → w.heap.size ≤ g ∧ g < w'.heap.size ∧ ¬ R' g)
theorem Ar.hand_le {d : Ar.Dd} {all : List Ar.I} (h : d.h ≤ 18446744073709551615) (hok : ∀ i ∈ all, i.h ≤ 18446744073709551615) : d.hand all ≤ 18446744073709551615 := by
  unfold Ar.Dd.hand
  split
  · exact h
  · split
    · exact h
    · rename_i n r _
      cases e : all[Ar.pick all n]? with
      | none => exact h
      | some i => exact hok i (List.mem_of_getElem? e)
/-- A call behind one that made new memory, and a store behind it. -/
theorem Ar.but3 {R : Nat → Prop} {w w2 w3 w4 : World} {br : Nat} (h1 : Below w.heap.size w w2) (h2 : FL.But R w2 w3) (h3 : FL.But (fun k => k = br) w3 w4) (hb : w.heap.size ≤ br) : FL.But R w w4 :=
  ⟨(h3.os.trans h2.os).trans h1.os, (h3.tape.trans h2.tape).trans h1.tape, (h3.output.trans h2.output).trans h1.output, Nat.le_trans h1.size (Nat.le_trans h2.size h3.size), fun k hk hr =>
    (h3.block k (Nat.lt_of_lt_of_le hk (Nat.le_trans h1.size h2.size)) (by omega)).trans ((h2.block k (Nat.lt_of_lt_of_le hk h1.size) hr).trans (h1.block k hk))⟩
/-- The result's box, where it stands. -/
theorem Ar.box_but {R : Nat → Prop} {W W' : World} {b : Nat} {x y z : Value} {t : TypeId} (h : W.heap[b]? = some (.cells #[x, y, z] t (0, 0))) (hb : FL.But R W W') (hr : ¬ R b) : W'.heap[b]? = some (.cells #[x, y, z] t (0, 0)) :=
  (hb.block b (Array.getElem?_eq_some_iff.1 h).1 hr).trans h
theorem Ar.box_own {W : World} {b : Nat} {x y z : Value} {t : TypeId} (h : W.heap[b]? = some (.cells #[x, y, z] t (0, 0))) : N.Own W b x y z :=
  ⟨(Array.getElem?_eq_some_iff.1 h).1, Lib.cell_of_heap h 0, Lib.cell_of_heap h 1, Lib.cell_of_heap h 2, frozen_of_row _ _ _ _ _ h, frozen_of_row _ _ _ _ _ h, frozen_of_row _ _ _ _ _ h⟩
theorem Ar.Played.of {O : World → Nat → A13.A → (Nat → Prop) → Prop} {w : World} {p : Nat} {R : Nat → Prop} {d : Ar.Dd} {all : List Ar.I} {a a' : A13.A} {hh : Nat} {x : N.Nd} {k er : Int} {w' : World} {t : ByteArray} {xo : Option Addr} {xc : Nat} {R' : Nat → Prop}
    (e : d.op all a = a' ∧ d.opH all a = hh ∧ d.opX all a = x ∧ d.opK = k ∧ d.opE all a = er) (ht : t.data.toList = x.t) (hO : O w' p a' R') (hR : ∀ k, R' k → Ar.ext R w.heap.size w'.heap.size k) (hB : FL.But R w w') (hN : N.NOk w' ⟨x.h, t, ⟨xo, xc, x.ks⟩⟩)
    (hx : (xo = d.x.s.a ∧ d.kind % 8 = 4) ∨ ∀ g o, xo = some ⟨g, o, none⟩ → w.heap.size ≤ g ∧ g < w'.heap.size ∧ ¬ R' g) :
    Ar.Played O w p R d all a (.returned (.tuple #[.int .u64 (hh : Int), .agg #[.int .i64 x.h, .string t, .slice xo x.ks.length xc], .int .i64 k, .int .i64 er])) w' := by
  obtain ⟨rfl, rfl, rfl, rfl, rfl⟩ := e
  exact ⟨t, xo, xc, R', ht, rfl, hO, hR, hB, hN, hx⟩
section
variable {O : World → Nat → A13.A → (Nat → Prop) → Prop}
end
end Go.Proofs.Ytniccjbcchdkoaa
/- ArSt -/
namespace Go.Proofs.Ytniccjbcchdkoaa
open Go.RowKit

/-- One arena that was made since w, the row of what is known (v), the nodes at hand (pend), and the blocks of the law's own rows (L). -/
structure Ar.St (O : World → Nat → A13.A → (Nat → Prop) → Prop) (w : World) (p : Nat) (a : A13.A) (v : Value) (all pend : List Ar.I) (L : Nat → Prop) (W : World) : Prop where
  below : Below w.heap.size w W
  chk : ∀ i ∈ all, N.chk i.x.nd = 0
  ex : ∃ (R K : Nat → Prop), O W p a R ∧ (∀ k, R k → w.heap.size ≤ k) ∧ W.ownsRow w.heap.size 103 4 v all.length (Ar.cells all) ∧ Ar.Ok W K (all ++ pend) ∧ (∀ g, v.ownBlock = some g → ¬ R g) ∧ (∀ k, (K k ∨ L k) → ¬ R k ∧ v.ownBlock ≠ some k ∧ k < W.heap.size) ∧ ∀ k, L k → ¬ K k ∧ w.heap.size ≤ k
/-- What the law's own rows are after a call: as they were. -/
def Ar.Kept (L : Nat → Prop) (W W' : World) : Prop := ∀ k, L k → k < W.heap.size ∧ W'.heap[k]? = W.heap[k]?
section
variable {O : World → Nat → A13.A → (Nat → Prop) → Prop} {w W W' : World} {p : Nat} {a a' : A13.A} {v : Value} {all pend : List Ar.I} {L : Nat → Prop}
theorem Ar.St.make {R : Nat → Prop} (hO : O W p a R) (hb : Below w.heap.size w W) (hR : ∀ k, R k → w.heap.size ≤ k) : Ar.St O w p a (.slice none 0 0) [] [] (fun _ => False) W :=
  ⟨hb, (fun i hi => by cases hi), R, fun _ => False, hO, hR, World.ownsRow_nil _ _ _ _, Ar.Ok.nil _ _, (fun g e => by cases e), fun k hk => hk.elim False.elim False.elim, fun k hk => hk.elim⟩
/-- New memory; some of it may be the law's own. -/
theorem Ar.St.more (X : Ar.Pa O) (h : Ar.St O w p a v all pend L W) (hb : Below W.heap.size W W') {L' : Nat → Prop} (hL : ∀ k, L' k → L k ∨ (W.heap.size ≤ k ∧ k < W'.heap.size)) : Ar.St O w p a v all pend L' W' := by
  obtain ⟨R, K, hO, hR, hv, hk, h1, h2, h3⟩ := h.ex
  have hlt := X.lt hO
  refine ⟨h.below.trans (hb.mono h.below.size), h.chk, R, K, X.on hO hb, hR, D.own_below hv hb, hk.but (Q := fun _ => False) (FL.But.below hb) (fun _ _ => id), h1, fun k c => ?_, fun k c => ?_⟩
  rotate_left
  · rcases hL k c with c | c
    · exact h3 k c
    · exact ⟨fun c' => by have := (h2 k (.inl c')).2.2; omega, by have := h.below.size; omega⟩
  have key : (K k ∨ L k) ∨ (W.heap.size ≤ k ∧ k < W'.heap.size) := by
    rcases c with c | c
    · exact .inl (.inl c)
    · rcases hL k c with c | c
      · exact .inl (.inr c)
      · exact .inr c
  rcases key with c | c
  · exact ⟨(h2 k c).1, (h2 k c).2.1, Nat.lt_of_lt_of_le (h2 k c).2.2 hb.size⟩
  · exact ⟨fun c' => by have := hlt k c'; omega, fun e => by have := (hv.lt k e).2; omega, c.2⟩
theorem Ar.St.on (X : Ar.Pa O) (h : Ar.St O w p a v all pend L W) (hb : Below W.heap.size W W') : Ar.St O w p a v all pend L W' := h.more X hb (fun _ c => .inl c)
theorem Ar.St.less (h : Ar.St O w p a v all pend L W) {L' : Nat → Prop} (hL : ∀ k, L' k → L k) : Ar.St O w p a v all pend L' W := by
  obtain ⟨R, K, hO, hR, hv, hk, h1, h2, h3⟩ := h.ex
  exact ⟨h.below, h.chk, R, K, hO, hR, hv, hk, h1, fun k c => h2 k (c.imp id (hL k)), fun k c => h3 k (hL k c)⟩
theorem Ar.St.inv (X : Ar.Pa O) (h : Ar.St O w p a v all pend L W) : A13.Inv a := by obtain ⟨R, K, hO, _⟩ := h.ex; exact X.inv hO
theorem Ar.St.cnt (X : Ar.Pa O) (h : Ar.St O w p a v all pend L W) : A13.Cnt a := by obtain ⟨R, K, hO, _⟩ := h.ex; exact X.cnt hO
theorem Ar.St.drop (h : Ar.St O w p a v all pend L W) : Ar.St O w p a v all [] L W := by
  obtain ⟨R, K, hO, hR, hv, hk, h1, h2, h3⟩ := h.ex
  exact ⟨h.below, h.chk, R, K, hO, hR, hv, hk.mono (fun _ c => c) (fun i hi => List.mem_append.2 (.inl (by simpa using hi))), h1, h2, h3⟩
theorem Ar.St.hands (h : Ar.St O w p a v all pend L W) : ∀ i ∈ all, N.NOk W i.x ∧ N.chk i.x.nd = 0 ∧ i.h ≤ 18446744073709551615 := by
  obtain ⟨R, K, _, _, _, hk, _⟩ := h.ex
  exact fun i hi => ⟨hk.node i (List.mem_append.2 (.inl hi)), h.chk i hi, hk.hand i (List.mem_append.2 (.inl hi))⟩
theorem Ar.St.row (h : Ar.St O w p a v all pend L W) : ∃ ao c, v = .slice ao all.length c ∧ ∀ (i : Nat) (q : Ar.I), all[i]? = some q → ∃ b, ao = some ⟨b, 0, none⟩ ∧ b < W.heap.size ∧ W.cell? ⟨b, i * 4, none⟩ = some (.int .u64 (q.h : Int)) ∧ W.cell? ⟨b, i * 4 + 1, none⟩ = some (.int .i64 q.x.h) ∧ W.cell? ⟨b, i * 4 + 2, none⟩ = some (.string q.x.t) ∧ W.cell? ⟨b, i * 4 + 3, none⟩ = some (.slice q.x.s.a q.x.s.x.length q.x.s.c) := by
  obtain ⟨R, K, _, _, hv, _⟩ := h.ex
  obtain ⟨ao, c, e, _, hr⟩ := Ar.row_of hv
  exact ⟨ao, c, e, hr⟩
/-- A call of the arena's has been made. -/
theorem Ar.turn_ex {R R' K : Nat → Prop} (hv : W.ownsRow w.heap.size 103 4 v all.length (Ar.cells all)) (hR : ∀ k, R k → w.heap.size ≤ k) (hw : Below w.heap.size w W) (hk : Ar.Ok W K (all ++ pend)) (h1 : ∀ g, v.ownBlock = some g → ¬ R g) (h2 : ∀ k, (K k ∨ L k) → ¬ R k ∧ v.ownBlock ≠ some k ∧ k < W.heap.size)
    (hR' : ∀ k, R' k → Ar.ext R W.heap.size W'.heap.size k) (hb : FL.But R W W') :
    Below w.heap.size w W' ∧ (∀ k, R' k → w.heap.size ≤ k) ∧ W'.ownsRow w.heap.size 103 4 v all.length (Ar.cells all) ∧ Ar.Ok W' K (all ++ pend) ∧ (∀ g, v.ownBlock = some g → ¬ R' g) ∧ (∀ k, (K k ∨ L k) → ¬ R' k ∧ v.ownBlock ≠ some k ∧ k < W'.heap.size) ∧ Ar.Kept L W W' := by
  refine ⟨hb.toBelow hw hw.size hR, fun k c => ?_, hb.row hv h1, hk.but hb (fun k c => (h2 k (.inl c)).1), fun g e c => ?_, fun k c => ⟨fun c' => ?_, (h2 k c).2.1, Nat.lt_of_lt_of_le (h2 k c).2.2 hb.size⟩, fun k c => ⟨(h2 k (.inr c)).2.2, hb.block k (h2 k (.inr c)).2.2 (h2 k (.inr c)).1⟩⟩
  · rcases hR' k c with c | c
    · exact hR k c
    · exact Nat.le_trans hw.size c.1
  · rcases hR' g c with c | c
    · exact h1 g e c
    · have := (hv.lt g e).2; omega
  · rcases hR' k c' with c' | c'
    · exact (h2 k c).1 c'
    · have := (h2 k c).2.2; omega
/-- The node at hand is known from now on. -/
theorem Ar.St.push {i : Ar.I} (X : Ar.Pa O) (h : Ar.St O w p a v all [i] L W) (hc : N.chk i.x.nd = 0) {v' : Value} (ho : W'.ownsRow w.heap.size 103 4 v' (all ++ [i]).length (Ar.cells (all ++ [i]))) (hg : W.grownBy W' v.ownBlock) (hv' : v'.ownBlock = v.ownBlock ∨ ∃ g, v'.ownBlock = some g ∧ W.heap.size ≤ g) : Ar.St O w p a v' (all ++ [i]) [] L W' ∧ Ar.Kept L W W' := by
  obtain ⟨R, K, hO, hR, hv, hk, h1, h2, h3⟩ := h.ex
  have hb : FL.But (fun k => v.ownBlock = some k) W W' := FL.But.grown hg (fun _ c => c)
  have hlt := X.lt hO
  have hne : ∀ g, v'.ownBlock = some g → ∀ k, k < W.heap.size → v.ownBlock ≠ some k → g ≠ k := fun g e k hk hn c => by
    rcases hv' with hv' | ⟨g', e', hz⟩
    · rw [hv'] at e; exact hn (by rw [← c]; exact e)
    · rw [e] at e'; injection e' with e'; omega
  refine ⟨⟨hb.toBelow h.below h.below.size (fun k c => (hv.lt k c).1), fun j hj => ?_, R, K, X.but hO hb (fun k c c' => h1 k c' c), hR, ho, ?_, fun g e c => ?_, fun k c => ⟨(h2 k c).1, fun e => hne k e k (h2 k c).2.2 (h2 k c).2.1 rfl, Nat.lt_of_lt_of_le (h2 k c).2.2 hb.size⟩, h3⟩, fun k c => ⟨(h2 k (.inr c)).2.2, hb.block k (h2 k (.inr c)).2.2 (h2 k (.inr c)).2.1⟩⟩
  · rcases List.mem_append.1 hj with hj | hj
    · exact h.chk j hj
    · rw [List.mem_singleton.1 hj]; exact hc
  · rw [List.append_nil]
    exact hk.but hb (fun k c => (h2 k (.inl c)).2.1)
  · exact hne g e g (hlt g c) (fun e' => h1 g e' c) rfl
theorem Ar.St.get (X : Ar.Pa O) (h : Ar.St O w p a v all pend L W) (hst : a.st < 1000000000) (n : Nat) (hn : n ≤ 18446744073709551615) :
    Calls Try.prog 13 #[FL.ptr p, .int .u64 (n : Int)] W fun e W' => ∃ t xo xc, t.data.toList = (Ar.got a n).t ∧ e = .returned (.tuple #[.agg #[.int .i64 (Ar.got a n).h, .string t, .slice xo (Ar.got a n).ks.length xc], .int .i64 (a.gtE n)]) ∧
      Ar.St O w p (a.gt n) v all pend (fun k => L k ∨ ∃ o, xo = some ⟨k, o, none⟩) W' ∧ Ar.Kept L W W' ∧ N.NOk W' ⟨(Ar.got a n).h, t, ⟨xo, xc, (Ar.got a n).ks⟩⟩ ∧ W.heap.size ≤ W'.heap.size := by
  obtain ⟨R, K, hO, hR, hv, hk, h1, h2, h3⟩ := h.ex
  refine (X.get p a R n W hO hn hst).mono fun e W' k => ?_
  obtain ⟨t, xo, xc, R', ht, he, hO', hR', hB, _, hN, hx⟩ := k
  obtain ⟨t1, t2, t3, t4, t5, t6, t7⟩ := Ar.turn_ex hv hR h.below hk h1 h2 hR' hB
  refine ⟨t, xo, xc, ht, he, ⟨t1, h.chk, R', K, hO', t2, t3, t4, t5, fun k c => ?_, fun k c => ?_⟩, t7, hN, hB.size⟩
  rotate_left
  · rcases c with c | ⟨o, c⟩
    · exact h3 k c
    · have y1 := (hx k o c).1
      exact ⟨fun c' => by have := (h2 k (.inl c')).2.2; omega, by have := h.below.size; omega⟩
  rcases c with c | c | ⟨o, c⟩
  · exact t6 k (.inl c)
  · exact t6 k (.inr c)
  · obtain ⟨y1, y2, y3⟩ := hx k o c
    exact ⟨y3, fun e => by have := (hv.lt k e).2; omega, y2⟩
theorem Ar.St.handles (X : Ar.Pa O) (h : Ar.St O w p a v all pend L W) :
    Calls Try.prog 18 #[FL.ptr p] W fun e W' => ∃ ho hc, e = .returned (.slice ho a.l.hands.length hc) ∧ Ar.St O w p a v all pend (fun k => L k ∨ ∃ o, ho = some ⟨k, o, none⟩ ∧ W.heap.size ≤ k) W' ∧ V.Row W' ho (H.row a.l.hands) ∧ Below W.heap.size W W' ∧ ∀ k o, ho = some ⟨k, o, none⟩ → W.heap.size ≤ k := by
  have hh := h
  obtain ⟨R, K, hO, hR, hv, hk, h1, h2, h3⟩ := h.ex
  refine (X.handles p a R W hO).mono fun e W' k => ?_
  obtain ⟨v', he, hm⟩ := k
  obtain ⟨ho, hc, hv', hr⟩ := H.Made.row hm
  have hb := V.Made.below hm
  have own := V.Made.own hm
  have hblk : ∀ k o, ho = some ⟨k, o, none⟩ → W.heap.size ≤ k ∧ k < W'.heap.size := fun k o e => by
    obtain ⟨_, ⟨e', _⟩ | ⟨g, cap, cur, e', hg, hh, _⟩⟩ := own
    · rw [hv', e] at e'; cases e'
    · rw [hv', e] at e'
      have := (Array.getElem?_eq_some_iff.1 hh).1
      injection e' with e'
      injection e' with e'
      injection e' with e'
      omega
  refine ⟨ho, hc, by rw [he, hv'], hh.more X hb (fun k c => ?_), hr, hb, fun k o e => (hblk k o e).1⟩
  rcases c with c | ⟨o, c, _⟩
  · exact .inl c
  · exact .inr (hblk k o c)
/-- A store into a block of the law's own. -/
theorem Ar.St.put (X : Ar.Pa O) (h : Ar.St O w p a v all pend L W) {b : Nat} (hb : L b) (i : Nat) (u : Value) : Ar.St O w p a v all pend L (W.setCell ⟨b, i, none⟩ u) := by
  obtain ⟨R, K, hO, hR, hv, hk, h1, h2, h3⟩ := h.ex
  have hs : FL.But (fun k => k = b) W (W.setCell ⟨b, i, none⟩ u) := FL.But.set W u rfl
  exact ⟨h.below.setCell (p := ⟨b, i, none⟩) (h3 b hb).2 _, h.chk, R, K, X.but hO hs (fun k c e => (h2 b (.inr hb)).1 (by rw [← e]; exact c)), hR, hs.row hv (fun g e c => (h2 b (.inr hb)).2.1 (by rw [← c]; exact e)), hk.but hs (fun k c e => (h3 b hb).1 (by rw [← e]; exact c)), h1, fun k c => ⟨(h2 k c).1, (h2 k c).2.1, Nat.lt_of_lt_of_le (h2 k c).2.2 hs.size⟩, h3⟩
theorem Ar.St.own (h : Ar.St O w p a v all pend L W) : W.ownsRow w.heap.size 103 4 v all.length (Ar.cells all) := by
  obtain ⟨R, K, _, _, hv, _⟩ := h.ex
  exact hv
theorem Ar.St.live (X : Ar.Pa O) (h : Ar.St O w p a v all pend L W) (n : Nat) (hn : n ≤ 18446744073709551615) :
    Calls Try.prog 17 #[FL.ptr p, .int .u64 (n : Int)] W fun e W' => e = .returned (.bool (a.has n)) ∧ Below W.heap.size W W' := by
  obtain ⟨R, K, hO, _⟩ := h.ex
  exact X.live p a R n W hO hn
theorem Ar.St.stats (X : Ar.Pa O) (h : Ar.St O w p a v all pend L W) :
    Calls Try.prog 19 #[FL.ptr p] W fun e W' => e = .returned (Ar.st7 a) ∧ Below W.heap.size W W' := by
  obtain ⟨R, K, hO, _⟩ := h.ex
  exact X.stats p a R W hO
theorem Ar.kept_row {ao : Option Addr} {l : List Value} (h : V.Row W ao l) (hk : Ar.Kept L W W') (hs : W.heap.size ≤ W'.heap.size) (hL : ∀ k o, ao = some ⟨k, o, none⟩ → L k) : V.Row W' ao l := fun i x hx => by
  obtain ⟨b, o, e, hb, hc⟩ := h i x hx
  refine ⟨b, o, e, Nat.lt_of_lt_of_le hb hs, ?_⟩
  unfold World.cell?
  rw [(hk b (hL b o e)).2]
  exact hc
end
end Go.Proofs.Ytniccjbcchdkoaa
/- ArBelow -/
namespace Go.Proofs.Ytniccjbcchdkoaa
open Go.RowKit

/-- Is a handle a child of a live node? -/
def Ar.kd (a : A13.A) (n x : Nat) : Bool := (Ar.got a x).ks.any fun q => q.at_ == n
def Ar.blw (a : A13.A) (n : Nat) : Bool := a.l.hands.any (Ar.kd a n)
theorem Ar.hands_has {a : A13.A} (v : A13.Inv a) {x : Nat} (h : x ∈ a.l.hands) : a.has x = true := (A13.has_iff v).2 ((FL.mem_hands v.l).1 h)
theorem Ar.hands_le {a : A13.A} (v : A13.Inv a) {x : Nat} (h : x ∈ a.l.hands) : x ≤ 18446744073709551615 := by
  have h1 := (FL.mem_hands v.l).1 h
  have := H.ok_lt (FL.live_iff.1 h1).1
  omega
theorem Ar.any_take {α : Type} {f : α → Bool} {l : List α} {k : Nat} {x : α} (hx : l[k]? = some x) (h : (l.take k).any f = false) : (f x = true → l.any f = true) ∧ (f x = false → (l.take (k + 1)).any f = false) := by
  refine ⟨fun e => ?_, fun e => ?_⟩
  · exact List.any_eq_true.2 ⟨x, List.mem_of_getElem? hx, e⟩
  · rw [List.take_add_one, hx, List.any_append, h]; simp [e]
theorem Ar.Kept.trans {L L' : Nat → Prop} {W V V' : World} (h : Ar.Kept L W V) (h' : Ar.Kept L' V V') (hL : ∀ k, L k → L' k) : Ar.Kept L W V' := fun k c => ⟨(h k c).1, (h' k (hL k c)).2.trans (h k c).2⟩
theorem Ar.Kept.below {L : Nat → Prop} {W V V' : World} (h : Ar.Kept L W V) (hb : Below V.heap.size V V') (hs : W.heap.size ≤ V.heap.size) : Ar.Kept L W V' := fun k c => ⟨(h k c).1, (hb.block k (Nat.lt_of_lt_of_le (h k c).1 hs)).trans (h k c).2⟩
theorem Ar.St.kept {O : World → Nat → A13.A → (Nat → Prop) → Prop} {w W : World} {p : Nat} {a : A13.A} {v : Value} {all pend : List Ar.I} {L : Nat → Prop} (h : Ar.St O w p a v all pend L W) : Ar.Kept L W W := by
  obtain ⟨R, K, _, _, _, _, _, h2, _⟩ := h.ex
  exact fun k c => ⟨(h2 k (.inr c)).2.2, rfl⟩
section
variable {O : World → Nat → A13.A → (Nat → Prop) → Prop}
end
end Go.Proofs.Ytniccjbcchdkoaa
