/- Texts joined: ArPa ArSpoil ArPlay ArSt ArBelow -/
import Derived.Test.YtlhgakdplabnlaaPackArDeed
import Derived.Test.YtlhgakdplabnlaaPackFKit
import Derived.Laws.StructEq
import Derived.Test.YtlhgakdplabnlaaFreePl
/- ArPa -/
namespace Go.Proofs.Ytlhgakdplabnlaa
open Go.RowKit

structure Ar.Pa (O : World → Nat → A13.A → (Nat → Prop) → Prop) : Prop where
  but : ∀ {W W' : World} {p : Nat} {a : A13.A} {R Q : Nat → Prop}, O W p a R → FL.But Q W W' → (∀ k, R k → ¬ Q k) → O W' p a R
  inv : ∀ {W : World} {p : Nat} {a : A13.A} {R : Nat → Prop}, O W p a R → A13.Inv a
  cnt : ∀ {W : World} {p : Nat} {a : A13.A} {R : Nat → Prop}, O W p a R → A13.Cnt a
  lt : ∀ {W : World} {p : Nat} {a : A13.A} {R : Nat → Prop}, O W p a R → ∀ k, R k → k < W.heap.size
  bad : ∀ (n g : Int) (w : World), (n < 1 ∨ 16384 < n ∨ g < 1 ∨ 4294967295 < g) → -9223372036854775808 ≤ n → n ≤ 9223372036854775807 → 0 ≤ g → g ≤ 18446744073709551615 →
    Calls Try.prog 10 #[.int .i64 n, .int .u64 g] w fun e w' => e = .returned (.tuple #[.pointer none, .int .i64 3]) ∧ Below w.heap.size w w'
  new : ∀ (n g : Nat) (w : World), 1 ≤ n → n ≤ 16384 → 1 ≤ g → g ≤ 4294967295 →
    Calls Try.prog 10 #[.int .i64 (n : Int), .int .u64 (g : Int)] w fun e w' => ∃ p, e = .returned (.tuple #[FL.ptr p, .int .i64 0]) ∧ O w' p (A13.new n g) (Ar.ext (fun _ => False) w.heap.size w'.heap.size) ∧ Below w.heap.size w w'
  alloc : ∀ (p : Nat) (a : A13.A) (R : Nat → Prop) (x : N.NArg) (w : World), O w p a R → N.NOk w x → (∀ g o, x.s.a = some ⟨g, o, none⟩ → x.s.x ≠ [] → ¬ R g) →
    Calls Try.prog 16 #[FL.ptr p, .agg #[.int .i64 x.h, .string x.t, .slice x.s.a x.s.x.length x.s.c]] w fun e w' => e = .returned (.tuple #[.int .u64 (A13.alH Ar.ms a x.nd : Nat), .int .i64 (A13.alE Ar.ms a x.nd)]) ∧ O w' p (A13.al Ar.ms a x.nd) (Ar.ext R w.heap.size w'.heap.size) ∧ FL.But R w w'
  get : ∀ (p : Nat) (a : A13.A) (R : Nat → Prop) (h : Nat) (w : World), O w p a R → h ≤ 18446744073709551615 → a.st < 1000000000 →
    Calls Try.prog 21 #[FL.ptr p, .int .u64 (h : Int)] w fun e w' => ∃ t xo xc R', t.data.toList = (Ar.got a h).t ∧ e = .returned (.tuple #[.agg #[.int .i64 (Ar.got a h).h, .string t, .slice xo (Ar.got a h).ks.length xc], .int .i64 (a.gtE h)]) ∧
      O w' p (a.gt h) R' ∧ (∀ k, R' k → Ar.ext R w.heap.size w'.heap.size k) ∧ FL.But R w w' ∧ w'.ownsRow w.heap.size 50 4 (.slice xo (Ar.got a h).ks.length xc) (Ar.got a h).ks.length (N.cells (Ar.got a h).ks) ∧
      N.NOk w' ⟨(Ar.got a h).h, t, ⟨xo, xc, (Ar.got a h).ks⟩⟩ ∧ ∀ g o, xo = some ⟨g, o, none⟩ → w.heap.size ≤ g ∧ g < w'.heap.size ∧ ¬ R' g
  free : ∀ (p : Nat) (a : A13.A) (R : Nat → Prop) (h : Nat) (w : World), O w p a R → h ≤ 18446744073709551615 → a.st < 1000000000 →
    Calls Try.prog 19 #[FL.ptr p, .int .u64 (h : Int)] w fun e w' => e = .returned (.int .i64 (a.gtE h)) ∧ O w' p (a.free h) (Ar.ext R w.heap.size w'.heap.size) ∧ FL.But R w w'
  live : ∀ (p : Nat) (a : A13.A) (R : Nat → Prop) (h : Nat) (w : World), O w p a R → h ≤ 18446744073709551615 →
    Calls Try.prog 25 #[FL.ptr p, .int .u64 (h : Int)] w fun e w' => e = .returned (.bool (a.has h)) ∧ Below w.heap.size w w'
  handles : ∀ (p : Nat) (a : A13.A) (R : Nat → Prop) (w : World), O w p a R →
    Calls Try.prog 30 #[FL.ptr p] w fun e w' => ∃ v, e = .returned v ∧ H.Made a.l.hands w v w'
  slots : ∀ (p : Nat) (a : A13.A) (R : Nat → Prop) (w : World), O w p a R →
    Calls Try.prog 29 #[FL.ptr p] w fun e w' => ∃ v1 v2, e = .returned (.tuple #[v1, v2]) ∧ V.Made 3 (FL.ints a.l.stk) w v1 w' ∧ V.Made 3 (FL.ints (a.l.those 2)) w v2 w' ∧ ∀ k, v1.ownBlock = some k → v2.ownBlock ≠ some k
  stats : ∀ (p : Nat) (a : A13.A) (R : Nat → Prop) (w : World), O w p a R →
    Calls Try.prog 28 #[FL.ptr p] w fun e w' => e = .returned (Ar.st7 a) ∧ Below w.heap.size w w'
@[go_sem] theorem Ar.eqStats (a0 a1 a2 a3 a4 a5 a6 x0 x1 x2 x3 x4 x5 x6 : Int) (w : World) : (Op.equalIn 10000 62 (.agg #[.int .i64 a0, .int .i64 a1, .int .i64 a2, .int .i64 a3, .int .i64 a4, .int .i64 a5, .int .i64 a6]) (.agg #[.int .i64 x0, .int .i64 x1, .int .i64 x2, .int .i64 x3, .int .i64 x4, .int .i64 x5, .int .i64 x6])).run Try.prog w = .ok (a0 == x0 && a1 == x1 && a2 == x2 && a3 == x3 && a4 == x4 && a5 == x5 && a6 == x6) w := by
  have u3 := Try.underlying3
  have y3 := Try.isAgg3
  have z3 := Try.sizeOf3
  have hS : Try.prog.underlying 62 = some (.struct (Try.prog.fieldsOf 62)) := by kernel_rfl
  rw [show (10000 : Nat) = 9999 + 1 from rfl, run_equalIn_agg w 9999 62 _ _ hS (by kernel_rfl)]
  simp only [Program.fieldsOf, Try.underlying62]
  go_simp
  by_cases h0 : a0 = x0
  case neg => simp [h0]
  by_cases h1 : a1 = x1
  case neg => simp [h0, h1]
  by_cases h2 : a2 = x2
  case neg => simp [h0, h1, h2]
  by_cases h3 : a3 = x3
  case neg => simp [h0, h1, h2, h3]
  by_cases h4 : a4 = x4
  case neg => simp [h0, h1, h2, h3, h4]
  by_cases h5 : a5 = x5
  case neg => simp [h0, h1, h2, h3, h4, h5]
  by_cases h6 : a6 = x6
  case neg => simp [h0, h1, h2, h3, h4, h5, h6]
  simp [h0, h1, h2, h3, h4, h5, h6]
section
variable {O : World → Nat → A13.A → (Nat → Prop) → Prop}
theorem Ar.Pa.on (X : Ar.Pa O) {W W' : World} {p : Nat} {a : A13.A} {R : Nat → Prop} (h : O W p a R) (hb : Below W.heap.size W W') : O W' p a R := X.but (Q := fun _ => False) h (FL.But.below hb) (fun _ _ => id)
/-! ### same -/
theorem Ar.lens {a : A13.A} (h : A13.Inv a) : a.l.stk.length ≤ 16384 ∧ a.l.hands.length ≤ 16384 ∧ (a.l.those 2).length ≤ 16384 :=
  ⟨Nat.le_trans (FL.stk_len h.l) h.l.n2, by rw [← FL.hk_all]; exact Nat.le_trans (FL.hk_len _ _) h.l.n2, by rw [← FL.wk_all]; exact Nat.le_trans (FL.wk_len _ _) h.l.n2⟩
set_option maxRecDepth 100000 in
set_option maxHeartbeats 4000000 in
theorem same13_any (X : Ar.Pa O) (p q : Nat) (a : A13.A) (R Q : Nat → Prop) (w : World) (hX : O w p a R) (hY : RA.Own w q a Q) :
    Calls Try.prog 24 #[FL.ptr p, FL.ptr q] w fun e w' => e = .returned (.bool true) ∧ Below w.heap.size w w' := by
  have HX : Hid (∀ V, Below w.heap.size w V → O V p a R) := fun V hb => X.on hX hb
  have HY : Hid (∀ V, Below w.heap.size w V → RA.Own V q a Q) := fun V hb => hY.below hb
  obtain ⟨n1, n2, n3⟩ := Ar.lens (X.inv hX)
  have B0 : Hid (Below w.heap.size w w) := Below.refl _ _
  have EI : Hid (∀ (l : List Nat), l.length ≤ 16384 → ∀ ao bo ca cb W, V.Row W ao (FL.ints l) → V.Row W bo (FL.ints l) → Calls Try.prog 56 #[.slice ao l.length ca, .slice bo l.length cb] W fun e w' => e = .returned (.bool true) ∧ Below W.heap.size W w') := fun l hl ao bo ca cb W ha hb => by
    have := equalInts_any ao bo ca cb l l W ha hb (by unfold maxLen; omega)
    rwa [decide_eq_true rfl] at this
  have EH : Hid (∀ (l : List Nat), l.length ≤ 16384 → ∀ ao bo ca cb W, V.Row W ao (H.row l) → V.Row W bo (H.row l) → Calls Try.prog 38 #[.slice ao l.length ca, .slice bo l.length cb] W fun e w' => e = .returned (.bool true) ∧ Below W.heap.size W w') := fun l hl ao bo ca cb W ha hb => by
    have := equalHandles_any ao bo ca cb l l W ha hb (by unfold maxLen; omega)
    rwa [decide_eq_true rfl] at this
  have XS : Hid (∀ Z, Below w.heap.size w Z → Calls Try.prog 29 #[FL.ptr p] Z fun e w' => ∃ ao c bo d, e = .returned (.tuple #[.slice ao a.l.stk.length c, .slice bo (a.l.those 2).length d]) ∧ V.Row w' ao (FL.ints a.l.stk) ∧ V.Row w' bo (FL.ints (a.l.those 2)) ∧ Below Z.heap.size Z w') := fun Z hb => (X.slots p a R Z (HX.out Z hb)).mono fun _ _ k => by
    obtain ⟨v1, v2, rfl, m1, m2, _⟩ := k
    obtain ⟨ao, c, rfl, r1⟩ := FL.MI.row m1
    obtain ⟨bo, d, rfl, r2⟩ := FL.MI.row m2
    exact ⟨ao, c, bo, d, rfl, r1, r2, m1.below⟩
  have XH : Hid (∀ V, Below w.heap.size w V → Calls Try.prog 30 #[FL.ptr p] V fun e w' => ∃ v, e = .returned v ∧ H.Made a.l.hands V v w') := fun V hb => X.handles p a R V (HX.out V hb)
  have XT : Hid (∀ V, Below w.heap.size w V → Calls Try.prog 28 #[FL.ptr p] V fun e w' => e = .returned (Ar.st7 a) ∧ Below V.heap.size V w') := fun V hb => X.stats p a R V (HX.out V hb)
  clear hX hY X
  generalize hl1 : a.l.those 2 = l3 at *
  go_enter Try.func24, Try.ntmps24
  go_wp2_with fail
  refine (XS.out _ B0.out).mono ?_
  rintro e w1 ⟨ao, ca, bo, cb, rfl, ha, hb, hB⟩
  have B1 := Lib.hid (B0.out.trans (hB.mono B0.out.size))
  have R1 := Lib.hid (And.intro ha hb)
  clear B0 ha hb hB
  go_wp2_with fail
  refine (refSlots13_any q a Q _ (HY.out _ B1.out)).mono ?_
  rintro e w2 ⟨ao2, ca2, bo2, cb2, rfl, ha, hb, hB⟩
  rw [hl1] at hb ⊢
  have B2 := Lib.hid (B1.out.trans (hB.mono B1.out.size))
  have R2 := Lib.hid (And.intro (R1.out.1.below hB) (R1.out.2.below hB))
  have S2 := Lib.hid (And.intro ha hb)
  clear B1 R1 ha hb hB
  go_wp2_with fail
  refine (XH.out _ B2.out).mono ?_
  rintro e w3 ⟨v, rfl, hm⟩
  have hB := V.Made.below hm
  have B3 := Lib.hid (B2.out.trans (hB.mono B2.out.size))
  have R3 := Lib.hid (And.intro (R2.out.1.below hB) (R2.out.2.below hB))
  have S3 := Lib.hid (And.intro (S2.out.1.below hB) (S2.out.2.below hB))
  obtain ⟨co, cc, rfl, hc⟩ := H.Made.row hm
  have T3 := Lib.hid hc
  clear B2 R2 S2 hm hB hc
  go_wp2_with fail
  refine (refHandles13_any q a Q _ (HY.out _ B3.out)).mono ?_
  rintro e w4 ⟨v, rfl, hm⟩
  have hB := V.Made.below hm
  have B4 := Lib.hid (B3.out.trans (hB.mono B3.out.size))
  have R4 := Lib.hid (And.intro (R3.out.1.below hB) (R3.out.2.below hB))
  have S4 := Lib.hid (And.intro (S3.out.1.below hB) (S3.out.2.below hB))
  have T4 := Lib.hid (T3.out.below hB)
  obtain ⟨do_, dc, rfl, hc⟩ := H.Made.row hm
  have U4 := Lib.hid hc
  clear B3 R3 S3 T3 hm hB hc
  go_wp2_with fail
  refine (EH.out a.l.hands n2 _ _ _ _ _ T4.out U4.out).mono ?_
  rintro e w5 ⟨rfl, hB⟩
  have B5 := Lib.hid (B4.out.trans (hB.mono B4.out.size))
  have R5 := Lib.hid (And.intro (R4.out.1.below hB) (R4.out.2.below hB))
  have S5 := Lib.hid (And.intro (S4.out.1.below hB) (S4.out.2.below hB))
  clear B4 R4 S4 T4 U4 hB
  go_wp2_with fail
  refine (EI.out a.l.stk n1 _ _ _ _ _ R5.out.1 S5.out.1).mono ?_
  rintro e w6 ⟨rfl, hB⟩
  have B6 := Lib.hid (B5.out.trans (hB.mono B5.out.size))
  have R6 := Lib.hid (R5.out.2.below hB)
  have S6 := Lib.hid (S5.out.2.below hB)
  clear B5 R5 S5 hB
  go_wp2_with fail
  refine (EI.out l3 n3 _ _ _ _ _ R6.out S6.out).mono ?_
  rintro e w7 ⟨rfl, hB⟩
  have B7 := Lib.hid (B6.out.trans (hB.mono B6.out.size))
  clear B6 R6 S6 hB
  go_wp2_with fail
  refine (XT.out _ B7.out).mono ?_
  rintro e w8 ⟨rfl, hB⟩
  have B8 := Lib.hid (B7.out.trans (hB.mono B7.out.size))
  clear B7 hB
  obtain ⟨sv, hsv⟩ : ∃ sv, Ar.st7 a = sv := ⟨_, rfl⟩
  have ST : Hid (∀ V, RA.Own V q a Q → Calls Try.prog 57 #[FL.ptr q] V fun e w' => e = .returned sv ∧ Below V.heap.size V w') := fun V hV => hsv ▸ refStats13_any q a Q V hV
  subst hsv
  go_wp2_with fail
  refine (ST.out _ (HY.out _ B8.out)).mono ?_
  rintro e w9 ⟨rfl, hB⟩
  have B9 := Lib.hid (B8.out.trans (hB.mono B8.out.size))
  clear B8 hB
  unfold Ar.st7
  have i1 : ∀ z : Int, (z == z) = true := fun z => by simp
  go_wp2
  go_ret
  exact ⟨rfl, B9.out⟩
end
end Go.Proofs.Ytlhgakdplabnlaa
/- ArSpoil -/
namespace Go.Proofs.Ytlhgakdplabnlaa
open Go.RowKit

/-- A row that lies elsewhere outlives a store. -/
theorem FL.Pl.off {base n g i : Nat} {e : TypeId} {v u : Value} {W : World} (h : FL.Pl base e v n W) (hg : v.ownBlock ≠ some g) : FL.Pl base e v n (W.setCell ⟨g, i, none⟩ u) := by
  obtain ⟨xs, h⟩ := h
  exact ⟨xs, (FL.But.set (R := fun k => k = g) W u rfl).row h (fun b hb c => hg (by rw [hb, c]))⟩
section
variable {O : World → Nat → A13.A → (Nat → Prop) → Prop}
set_option maxRecDepth 100000 in
set_option maxHeartbeats 4000000 in
theorem spoil13_any (X : Ar.Pa O) (p : Nat) (a : A13.A) (R : Nat → Prop) (w : World) (hX : O w p a R) :
    Calls Try.prog 23 #[FL.ptr p] w fun e w' => e = .returned (.tuple #[]) ∧ Below w.heap.size w w' := by
  have HX : Hid (∀ V, Below w.heap.size w V → O V p a R) := fun V hb => X.on hX hb
  obtain ⟨n1, n2, n3⟩ := Ar.lens (X.inv hX)
  have m1 : (FL.ints a.l.stk).length ≤ 16384 := by rw [FL.ints_len]; exact n1
  have m2 : (H.row a.l.hands).length ≤ 16384 := by rw [H.row_len]; exact n2
  have m3 : (FL.ints (a.l.those 2)).length ≤ 16384 := by rw [FL.ints_len]; exact n3
  have H1 : Hid (Calls Try.prog 30 #[FL.ptr p] w fun e w' => ∃ v, e = .returned v ∧ Below w.heap.size w w' ∧ FL.Pl w.heap.size 33 v (H.row a.l.hands).length w') := (X.handles p a R w hX).mono fun _ _ k => by
    obtain ⟨v, rfl, m⟩ := k
    exact ⟨v, rfl, V.Made.below m, FL.Made.pl m⟩
  have H2 : Hid (∀ Z, Below w.heap.size w Z → Calls Try.prog 29 #[FL.ptr p] Z fun e w' => ∃ v1 v2, e = .returned (.tuple #[v1, v2]) ∧ Below Z.heap.size Z w' ∧ FL.Pl Z.heap.size 3 v1 (FL.ints a.l.stk).length w' ∧ FL.Pl Z.heap.size 3 v2 (FL.ints (a.l.those 2)).length w' ∧ ∀ k, v1.ownBlock = some k → v2.ownBlock ≠ some k) := fun Z hb => (X.slots p a R Z (HX.out Z hb)).mono fun _ _ k => by
    obtain ⟨v1, v2, rfl, k1, k2, hd⟩ := k
    exact ⟨v1, v2, rfl, k1.below, FL.Made.pl k1, FL.Made.pl k2, hd⟩
  clear HX hX X n1 n2 n3
  generalize (FL.ints a.l.stk).length = L1 at *
  generalize (H.row a.l.hands).length = L2 at *
  generalize (FL.ints (a.l.those 2)).length = L3 at *
  go_enter Try.func23, Try.ntmps23
  go_wp2_with fail
  refine H1.out.mono ?_
  rintro e w1 ⟨v1, rfl, b1, p1⟩
  obtain ⟨ao1, cc1, rfl⟩ := p1.slice
  have B1 := Lib.hid b1
  have P1 := Lib.hid p1
  clear b1 p1 H1
  go_wp2
  go_loopw [3] (fun j wr => ∃ k : Nat, k ≤ L2 ∧ j = .int .i64 k ∧ Hid (Below w.heap.size w wr ∧ FL.Pl w.heap.size 33 (.slice ao1 L2 cc1) L2 wr)) (fun j _ => L2 - (intOf j).toNat)
  case atStart => exact ⟨0, Nat.zero_le _, rfl, B1.out, P1.out⟩
  case round =>
    obtain ⟨k, hk, rfl, hL⟩ := hrel
    clear B1 P1
    by_cases hlt : k < L2
    · obtain ⟨hb, h1⟩ := hL.out
      obtain ⟨g, c, e, l1, l2, ⟨y, hy⟩, hf, hset⟩ := h1.put hlt
      have R := Lib.hid (show Below w.heap.size w (wr.setCell ⟨g, k, none⟩ (.int .u64 0)) ∧ FL.Pl w.heap.size 33 (.slice ao1 L2 cc1) L2 (wr.setCell ⟨g, k, none⟩ (.int .u64 0)) from ⟨hb.setCell (p := ⟨g, k, none⟩) l1 _, hset _⟩)
      cases e
      clear hb h1 hset hL
      go_wp2
      go_roundw
      case rel => exact ⟨k + 1, by omega, by go_num, R⟩
      case measure => simp [intOf]; omega
    · obtain rfl : k = L2 := by omega
      have B2 := Lib.hid hL.out.1
      have S2 := Lib.hid hL.out.1.size
      have H3 := Lib.hid (H2.out wr B2.out)
      clear hL H2
      go_wp2_with fail
      refine H3.out.mono ?_
      rintro e w2 ⟨v1, v2, rfl, b2, p1, p2, hd⟩
      have B3 : Hid (Below w.heap.size w w2) := B2.out.trans (b2.mono B2.out.size)
      obtain ⟨ao2, cc2, rfl⟩ := p1.slice
      obtain ⟨ao3, cc3, rfl⟩ := p2.slice
      have P1 := Lib.hid p1
      have P2 := Lib.hid p2
      have HD := Lib.hid hd
      clear b2 p1 p2 hd H3 B2
      generalize wr.heap.size = z at *
      go_wp2
      go_loopw [6] (fun j wr => ∃ k : Nat, k ≤ L1 ∧ j = .int .i64 k ∧ Hid (Below w.heap.size w wr ∧ FL.Pl z 3 (.slice ao2 L1 cc2) L1 wr ∧ FL.Pl z 3 (.slice ao3 L3 cc3) L3 wr)) (fun j _ => L1 - (intOf j).toNat)
      case atStart => exact ⟨0, Nat.zero_le _, rfl, B3.out, P1.out, P2.out⟩
      case round =>
        obtain ⟨k2, hk2, rfl, hL⟩ := hrel
        clear B3 P1 P2
        by_cases hlt : k2 < L1
        · obtain ⟨hb, h2, h3⟩ := hL.out
          obtain ⟨g, c, e, l1, l2, ⟨y, hy⟩, hf, hset⟩ := h2.put hlt
          have := S2.out
          have R := Lib.hid (show Below w.heap.size w (wr.setCell ⟨g, k2, none⟩ (.int .i64 (-1))) ∧ FL.Pl z 3 (.slice ao2 L1 cc2) L1 (wr.setCell ⟨g, k2, none⟩ (.int .i64 (-1))) ∧ FL.Pl z 3 (.slice ao3 L3 cc3) L3 (wr.setCell ⟨g, k2, none⟩ (.int .i64 (-1))) from ⟨hb.setCell (p := ⟨g, k2, none⟩) (by show _ ≤ g; omega) _, hset _, h3.off (HD.out g (by rw [e]; rfl))⟩)
          cases e
          clear hb h2 h3 hset hL this
          go_wp2
          go_roundw
          case rel => exact ⟨k2 + 1, by omega, by go_num, R⟩
          case measure => simp [intOf]; omega
        · obtain rfl : k2 = L1 := by omega
          have B4 := Lib.hid hL.out.1
          have P3 := Lib.hid hL.out.2.2
          clear hL HD
          go_wp2
          go_loopw [7] (fun j wr => ∃ k : Nat, k ≤ L3 ∧ j = .int .i64 k ∧ Hid (Below w.heap.size w wr ∧ FL.Pl z 3 (.slice ao3 L3 cc3) L3 wr)) (fun j _ => L3 - (intOf j).toNat)
          case atStart => exact ⟨0, Nat.zero_le _, rfl, B4.out, P3.out⟩
          case round =>
            obtain ⟨k3, hk3, rfl, hL⟩ := hrel
            clear B4 P3
            by_cases hlt : k3 < L3
            · obtain ⟨hb, h3⟩ := hL.out
              obtain ⟨g, c, e, l1, l2, ⟨y, hy⟩, hf, hset⟩ := h3.put hlt
              have := S2.out
              have R := Lib.hid (show Below w.heap.size w (wr.setCell ⟨g, k3, none⟩ (.int .i64 (-1))) ∧ FL.Pl z 3 (.slice ao3 L3 cc3) L3 (wr.setCell ⟨g, k3, none⟩ (.int .i64 (-1))) from ⟨hb.setCell (p := ⟨g, k3, none⟩) (by show _ ≤ g; omega) _, hset _⟩)
              cases e
              clear hb h3 hset hL this
              go_wp2
              go_roundw
              case rel => exact ⟨k3 + 1, by omega, by go_num, R⟩
              case measure => simp [intOf]; omega
            · obtain rfl : k3 = L3 := by omega
              go_wp2
              go_end0
              exact ⟨rfl, hL.out.1⟩
end
end Go.Proofs.Ytlhgakdplabnlaa
/- ArPlay -/
namespace Go.Proofs.Ytlhgakdplabnlaa
open Go.RowKit

def Ar.Dd.op (d : Ar.Dd) (all : List Ar.I) (a : A13.A) : A13.A := if d.is = true then A13.al Ar.ms a (d.nd all) else if d.kind % 8 = 6 then a.free (d.hand all) else a.gt (d.hand all)
def Ar.Dd.opH (d : Ar.Dd) (all : List Ar.I) (a : A13.A) : Nat := if d.is = true then A13.alH Ar.ms a (d.nd all) else d.hand all
def Ar.Dd.opX (d : Ar.Dd) (all : List Ar.I) (a : A13.A) : N.Nd := if d.is = true then d.nd all else if d.kind % 8 = 6 then ⟨0, [], []⟩ else Ar.got a (d.hand all)
def Ar.Dd.opK (d : Ar.Dd) : Int := if d.is = true then 0 else if d.kind % 8 = 6 then 2 else 1
def Ar.Dd.opE (d : Ar.Dd) (all : List Ar.I) (a : A13.A) : Int := if d.is = true then A13.alE Ar.ms a (d.nd all) else a.gtE (d.hand all)
theorem Ar.opX4 {d : Ar.Dd} {all : List Ar.I} {a : A13.A} (k : d.kind % 8 = 4) : (d.opX all a).ks = d.x.s.x := by
  have his : d.is = true := by unfold Ar.Dd.is; exact decide_eq_true (by omega)
  unfold Ar.Dd.opX
  rw [if_pos his]
  unfold Ar.Dd.nd
  rw [if_neg (by omega), if_neg (by omega), if_pos k]; rfl
/-- What play returns and leaves. -/
def Ar.Played (O : World → Nat → A13.A → (Nat → Prop) → Prop) (w : World) (p : Nat) (R : Nat → Prop) (d : Ar.Dd) (all : List Ar.I) (a : A13.A) (e : Ending) (w' : World) : Prop :=
  ∃ t xo xc R', t.data.toList = (d.opX all a).t ∧ e = .returned (.tuple #[.int .u64 (d.opH all a : Nat), .agg #[.int .i64 (d.opX all a).h, .string t, .slice xo (d.opX all a).ks.length xc], .int .i64 d.opK, .int .i64 (d.opE all a)]) ∧
    O w' p (d.op all a) R' ∧ (∀ k, R' k → Ar.ext R w.heap.size w'.heap.size k) ∧ FL.But R w w' ∧ N.NOk w' ⟨(d.opX all a).h, t, ⟨xo, xc, (d.opX all a).ks⟩⟩ ∧
    ((xo = d.x.s.a ∧ d.kind % 8 = 4) ∨ ∀ g o, xo = some ⟨g, o, none⟩ → w.heap.size ≤ g ∧ g < w'.heap.size ∧ ¬ R' g)
theorem Ar.hand_le {d : Ar.Dd} {all : List Ar.I} (h : d.h ≤ 18446744073709551615) (hok : ∀ i ∈ all, i.h ≤ 18446744073709551615) : d.hand all ≤ 18446744073709551615 := by
  unfold Ar.Dd.hand
  split
  · exact h
  · split
    · exact h
    · rename_i n r _
      cases e : all[Ar.pick all n]? with
      | none => exact h
      | some i => exact hok i (List.mem_of_getElem? e)
/-- A call behind one that made new memory, and a store behind it. -/
theorem Ar.but3 {R : Nat → Prop} {w w2 w3 w4 : World} {br : Nat} (h1 : Below w.heap.size w w2) (h2 : FL.But R w2 w3) (h3 : FL.But (fun k => k = br) w3 w4) (hb : w.heap.size ≤ br) : FL.But R w w4 :=
  ⟨(h3.os.trans h2.os).trans h1.os, (h3.tape.trans h2.tape).trans h1.tape, (h3.output.trans h2.output).trans h1.output, Nat.le_trans h1.size (Nat.le_trans h2.size h3.size), fun k hk hr =>
    (h3.block k (Nat.lt_of_lt_of_le hk (Nat.le_trans h1.size h2.size)) (by omega)).trans ((h2.block k (Nat.lt_of_lt_of_le hk h1.size) hr).trans (h1.block k hk))⟩
/-- The result's box, where it stands. -/
theorem Ar.box_but {R : Nat → Prop} {W W' : World} {b : Nat} {x y z : Value} {t : TypeId} (h : W.heap[b]? = some (.cells #[x, y, z] t (0, 0))) (hb : FL.But R W W') (hr : ¬ R b) : W'.heap[b]? = some (.cells #[x, y, z] t (0, 0)) :=
  (hb.block b (Array.getElem?_eq_some_iff.1 h).1 hr).trans h
theorem Ar.box_own {W : World} {b : Nat} {x y z : Value} {t : TypeId} (h : W.heap[b]? = some (.cells #[x, y, z] t (0, 0))) : N.Own W b x y z :=
  ⟨(Array.getElem?_eq_some_iff.1 h).1, Lib.cell_of_heap h 0, Lib.cell_of_heap h 1, Lib.cell_of_heap h 2, frozen_of_row _ _ _ _ _ h, frozen_of_row _ _ _ _ _ h, frozen_of_row _ _ _ _ _ h⟩
theorem Ar.Played.of {O : World → Nat → A13.A → (Nat → Prop) → Prop} {w : World} {p : Nat} {R : Nat → Prop} {d : Ar.Dd} {all : List Ar.I} {a a' : A13.A} {hh : Nat} {x : N.Nd} {k er : Int} {w' : World} {t : ByteArray} {xo : Option Addr} {xc : Nat} {R' : Nat → Prop}
    (e : d.op all a = a' ∧ d.opH all a = hh ∧ d.opX all a = x ∧ d.opK = k ∧ d.opE all a = er) (ht : t.data.toList = x.t) (hO : O w' p a' R') (hR : ∀ k, R' k → Ar.ext R w.heap.size w'.heap.size k) (hB : FL.But R w w') (hN : N.NOk w' ⟨x.h, t, ⟨xo, xc, x.ks⟩⟩)
    (hx : (xo = d.x.s.a ∧ d.kind % 8 = 4) ∨ ∀ g o, xo = some ⟨g, o, none⟩ → w.heap.size ≤ g ∧ g < w'.heap.size ∧ ¬ R' g) :
    Ar.Played O w p R d all a (.returned (.tuple #[.int .u64 (hh : Int), .agg #[.int .i64 x.h, .string t, .slice xo x.ks.length xc], .int .i64 k, .int .i64 er])) w' := by
  obtain ⟨rfl, rfl, rfl, rfl, rfl⟩ := e
  exact ⟨t, xo, xc, R', ht, rfl, hO, hR, hB, hN, hx⟩
section
variable {O : World → Nat → A13.A → (Nat → Prop) → Prop}
set_option maxRecDepth 100000 in
set_option maxHeartbeats 4000000 in
theorem play13_any (X : Ar.Pa O) (p : Nat) (a : A13.A) (R : Nat → Prop) (d : Ar.Dd) (ao : Option Addr) (ac : Nat) (all : List Ar.I) (w : World) (hX : O w p a R) (hst : a.st < 1000000000) (hd : Ar.DOk w d) (hl : all.length ≤ 1000) (hok : ∀ i ∈ all, N.NOk w i.x ∧ N.chk i.x.nd = 0 ∧ i.h ≤ 18446744073709551615)
    (hr : ∀ (i : Nat) (p : Ar.I), all[i]? = some p → ∃ b, ao = some ⟨b, 0, none⟩ ∧ b < w.heap.size ∧ w.cell? ⟨b, i * 4, none⟩ = some (.int .u64 (p.h : Int)) ∧ w.cell? ⟨b, i * 4 + 1, none⟩ = some (.int .i64 p.x.h) ∧ w.cell? ⟨b, i * 4 + 2, none⟩ = some (.string p.x.t) ∧ w.cell? ⟨b, i * 4 + 3, none⟩ = some (.slice p.x.s.a p.x.s.x.length p.x.s.c))
    (hdR : ∀ g o, d.x.s.a = some ⟨g, o, none⟩ → d.x.s.x ≠ [] → ¬ R g ∧ g < w.heap.size) :
    Calls Try.prog 34 #[FL.ptr p, d.v, .slice ao all.length ac] w (Ar.Played O w p R d all a) := by
  have hlt := X.lt hX
  have HX : Hid (∀ V, Below w.heap.size w V → O V p a R) := fun V hb => X.on hX hb
  have HR : ∀ V, Below w.heap.size w V → (∀ (i : Nat) (p : Ar.I), all[i]? = some p → ∃ b, ao = some ⟨b, 0, none⟩ ∧ b < V.heap.size ∧ V.cell? ⟨b, i * 4, none⟩ = some (.int .u64 (p.h : Int)) ∧ V.cell? ⟨b, i * 4 + 1, none⟩ = some (.int .i64 p.x.h) ∧ V.cell? ⟨b, i * 4 + 2, none⟩ = some (.string p.x.t) ∧ V.cell? ⟨b, i * 4 + 3, none⟩ = some (.slice p.x.s.a p.x.s.x.length p.x.s.c)) := fun V hb i q hq => by
    obtain ⟨b, e, hb', c0, c1, c2, c3⟩ := hr i q hq
    have key := fun o => (D.bcell hb).1 b o hb'
    exact ⟨b, e, Nat.lt_of_lt_of_le hb' hb.size, (key _).trans c0, (key _).trans c1, (key _).trans c2, (key _).trans c3⟩
  have HN : Hid (∀ V, Below w.heap.size w V → Calls Try.prog 14 #[.agg #[.int .i64 d.kind, .string d.text, .slice d.lo d.l.length d.lc, .int .i64 d.x.h, .string d.x.t, .slice d.x.s.a d.x.s.x.length d.x.s.c, .int .u64 (d.h : Int)], .slice ao all.length ac] V (Ar.NdEnd d all V)) := fun V hb =>
    dNode13_any d ao ac all V (hd.on hb) hl (fun i hi => ⟨(hok i hi).1.on hb, (hok i hi).2⟩) (HR V hb)
  have HH : Hid (∀ V, Below w.heap.size w V → Calls Try.prog 13 #[.agg #[.int .i64 d.kind, .string d.text, .slice d.lo d.l.length d.lc, .int .i64 d.x.h, .string d.x.t, .slice d.x.s.a d.x.s.x.length d.x.s.c, .int .u64 (d.h : Int)], .slice ao all.length ac] V fun e w' => e = .returned (.int .u64 (d.hand all : Nat)) ∧ Below V.heap.size V w') := fun V hb =>
    dHandle13_any d ao ac all V (hd.on hb) hl (fun i q hq => by obtain ⟨b, e, h1, h2, _⟩ := HR V hb i q hq; exact ⟨b, e, h1, h2⟩)
  have hhl := Ar.hand_le hd.h (fun i hi => (hok i hi).2.2)
  have HM : Hid (∀ V, Calls Try.prog 11 #[.int .i64 d.kind, .int .i64 8] V fun x w' => x = .returned (.int .i64 (d.kind % 8)) ∧ V = w') := fun V => mod11_any d.kind 8 (by omega) (by omega) V
  have HXa : Hid (Ar.Pa O) := X
  have hdR := Lib.hid hdR
  unfold Ar.Dd.v FL.ptr
  have HB : Hid (∀ o1 o2, Below w.heap.size w ((w.alloc o1).alloc o2)) := fun o1 o2 => ((Below.refl _ _).alloc (Nat.le_refl _) o1).alloc (by simp) o2
  clear hr HR hok hd hX X
  go_enter Try.func34, Try.ntmps34
  go_wp2_with fail
  refine (HN.out _ (HB.out _ _)).mono ?_
  rintro e w1 ⟨t, xo, xc, ht, rfl, hb, hno, hxo⟩
  have B1 : Below w.heap.size w w1 := Ar.bt (HB.out _ _) hb
  have rb : w1.heap[w.heap.size + 1]? = some (.cells #[.int .i64 0, .string ⟨#[]⟩, .slice none 0 0] 37 (0, 0)) := (hb.block _ (by simp)).trans (by have := heap_alloc_new (w.alloc (.cells #[.int .i64 d.kind, .string d.text, .slice d.lo d.l.length d.lc, .int .i64 d.x.h, .string d.x.t, .slice d.x.s.a d.x.s.x.length d.x.s.c, .int .u64 (d.h : Int)] 39)) (.cells #[.int .i64 0, .string ⟨#[]⟩, .slice none 0 0] 37); rwa [World.size_alloc] at this)
  have db : w1.heap[w.heap.size]? = some (.cells #[.int .i64 d.kind, .string d.text, .slice d.lo d.l.length d.lc, .int .i64 d.x.h, .string d.x.t, .slice d.x.s.a d.x.s.x.length d.x.s.c, .int .u64 (d.h : Int)] 39 (0, 0)) := (hb.block _ (by simp; omega)).trans ((Below.heap_alloc _ _ _ (by simp)).trans (heap_alloc_new w _))
  have hz1 := (Array.getElem?_eq_some_iff.1 rb).1
  have hsz := hb.size
  simp only [World.size_alloc] at hsz hxo
  have BN : Below w.heap.size w (w1.alloc (.cells #[.int .i64 (d.nd all).h, .string t, .slice xo (d.nd all).ks.length xc] 37)) := B1.alloc B1.size _
  have h4 : d.kind % 8 = 4 → (d.nd all).ks = d.x.s.x := fun k => by unfold Ar.Dd.nd; rw [if_neg (by omega), if_neg (by omega), if_pos k]; rfl
  have hnR : ∀ g o, xo = some ⟨g, o, none⟩ → (d.nd all).ks ≠ [] → ¬ R g := fun g o e hne c => by
    rcases hxo with ⟨h1, k4⟩ | h1
    · exact (hdR.out g o (by rw [← h1]; exact e) (by rw [← h4 k4]; exact hne)).1 c
    · have := hlt g c; have := (h1 g o e).1; omega
  by_cases his : d.is = true
  · rw [his]
    have E : d.op all a = A13.al Ar.ms a (d.nd all) ∧ d.opH all a = A13.alH Ar.ms a (d.nd all) ∧ d.opX all a = d.nd all ∧ d.opK = 0 ∧ d.opE all a = A13.alE Ar.ms a (d.nd all) := by
      unfold Ar.Dd.op Ar.Dd.opH Ar.Dd.opX Ar.Dd.opK Ar.Dd.opE
      simp [his]
    have HA := HXa.out.alloc p a R ⟨(d.nd all).h, t, ⟨xo, xc, (d.nd all).ks⟩⟩ _ (HX.out _ BN) (hno.on ((Below.refl _ _).alloc (Nat.le_refl _) _)) hnR
    have hnd : (⟨(d.nd all).h, t, ⟨xo, xc, (d.nd all).ks⟩⟩ : N.NArg).nd = d.nd all := by show (⟨_, _, _⟩ : N.Nd) = _; rw [ht]
    rw [hnd] at HA
    have HA := Lib.hid HA
    unfold FL.ptr at HA
    have nb := heap_alloc_new w1 (.cells #[.int .i64 (d.nd all).h, .string t, .slice xo (d.nd all).ks.length xc] 37)
    have rbN : (w1.alloc (.cells #[.int .i64 (d.nd all).h, .string t, .slice xo (d.nd all).ks.length xc] 37)).heap[w.heap.size + 1]? = _ := (Below.heap_alloc _ _ _ hz1).trans rb
    have hszN : (w1.alloc (.cells #[.int .i64 (d.nd all).h, .string t, .slice xo (d.nd all).ks.length xc] 37)).heap.size = w1.heap.size + 1 := World.size_alloc _ _
    clear HN HH HM HX his
    generalize d.nd all = x at *
    go_wp2_with fail
    refine HA.out.mono ?_
    rintro e w3 ⟨rfl, hO, hbut⟩
    have rb3 := Ar.box_but rbN hbut (fun c => by have := hlt _ c; omega)
    have nb3 := Ar.box_but nb hbut (fun c => by have := hlt _ c; omega)
    have ON := Ar.box_own nb3
    have O2 := Ar.box_own rb3
    have hP := O2.put (.int .i64 x.h) (.string t) (.slice xo x.ks.length xc)
    have hne : w.heap.size + 1 ≠ w1.heap.size := by omega
    have RF : Hid (Ar.Played O w p R d all a (.returned (.tuple #[.int .u64 (A13.alH Ar.ms a x : Nat), .agg #[.int .i64 x.h, .string t, .slice xo x.ks.length xc], .int .i64 0, .int .i64 (A13.alE Ar.ms a x)])) (N.put3 w3 (w.heap.size + 1) (.int .i64 x.h) (.string t) (.slice xo x.ks.length xc)).drew) := by
      have hz3 := hbut.size
      rw [hszN] at hz3 hO
      have hb3 : FL.But (fun k => k = w.heap.size + 1) w3 (N.put3 w3 (w.heap.size + 1) (.int .i64 x.h) (.string t) (.slice xo x.ks.length xc)).drew := (N.put3_but _ _ _ _ _).trans (FL.But.below (Below.refl _ _).drew)
      have hz4 := hb3.size
      refine Ar.Played.of E ht (HXa.out.but hO hb3 (fun k hk c => ?_)) (fun k hk => ?_) (Ar.but3 BN hbut hb3 (by omega)) (((hno.on ((Below.refl _ _).alloc (Nat.le_refl _) _)).but hbut hnR).but hb3 (fun g o e hne c => ?_)) ?_
      · rcases hk with hk | hk
        · have := hlt k hk; omega
        · omega
      · rcases hk with hk | hk
        · exact .inl hk
        · exact .inr (by omega)
      · rcases hxo with ⟨h1, k4⟩ | h1
        · have := (hdR.out g o (by rw [← h1]; exact e) (by rw [← h4 k4]; exact hne)).2; omega
        · have := (h1 g o e).1; omega
      · rcases hxo with h1 | h1
        · exact .inl h1
        · refine .inr fun g o e => ?_
          obtain ⟨y1, y2⟩ := h1 g o e
          refine ⟨by omega, by omega, fun c => ?_⟩
          rcases c with c | c
          · have := hlt g c; omega
          · omega
    have r0 := O2.c0
    have r1 := O2.c1
    have r2 := O2.c2
    have s0 := O2.f0
    have s1 := O2.f1
    have s2 := O2.f2
    have n0 := ON.c0
    have n1 := ON.c1
    have n2 := ON.c2
    generalize A13.alH Ar.ms a x = ah at *
    generalize A13.alE Ar.ms a x = ae at *
    clear HA hO hbut rb3 nb3 ON O2 E rb db nb rbN BN B1 hb hno hxo hnR hdR HB hlt
    go_wp2
    go_region
    go_wp2
    have p0 := hP.c0
    have p1 := hP.c1
    have p2 := hP.c2
    refine bodyPost_ret (v := .tuple #[.int .u64 (ah : Int), .agg #[.int .i64 x.h, .string t, .slice xo x.ks.length xc], .int .i64 0, .int .i64 ae]) ?_ rfl RF.out
    unfold N.put3 at p0 p1 p2
    simp [results, Try.results34, go_sem, p0, p1, p2]
  · have his' : d.is = false := by simpa using his
    rw [his']
    have rbN : (w1.alloc (.cells #[.int .i64 (d.nd all).h, .string t, .slice xo (d.nd all).ks.length xc] 37)).heap[w.heap.size + 1]? = _ := (Below.heap_alloc _ _ _ hz1).trans rb
    have dbN : (w1.alloc (.cells #[.int .i64 (d.nd all).h, .string t, .slice xo (d.nd all).ks.length xc] 37)).heap[w.heap.size]? = _ := (Below.heap_alloc _ _ _ (by omega)).trans db
    have hszN : (w1.alloc (.cells #[.int .i64 (d.nd all).h, .string t, .slice xo (d.nd all).ks.length xc] 37)).heap.size = w1.heap.size + 1 := World.size_alloc _ _
    have HHN := Lib.hid (HH.out _ BN)
    have d0 := Lib.cell_of_heap dbN 0
    have d1 := Lib.cell_of_heap dbN 1
    have d2 := Lib.cell_of_heap dbN 2
    have d3 := Lib.cell_of_heap dbN 3
    have d4 := Lib.cell_of_heap dbN 4
    have d5 := Lib.cell_of_heap dbN 5
    have d6 := Lib.cell_of_heap dbN 6
    have MK := HM.out
    have EO : ∀ (b : Bool), decide (d.kind % 8 = 6) = b → (d.op all a = if b = true then a.free (d.hand all) else a.gt (d.hand all)) ∧ d.opH all a = d.hand all ∧ (d.opX all a = if b = true then ⟨0, [], []⟩ else Ar.got a (d.hand all)) ∧ (d.opK = if b = true then 2 else 1) ∧ d.opE all a = a.gtE (d.hand all) := by
      rintro b rfl
      unfold Ar.Dd.op Ar.Dd.opH Ar.Dd.opX Ar.Dd.opK Ar.Dd.opE
      simp [his']
    have hkb : (d.kind % 8 == 6) = decide (d.kind % 8 = 6) := by by_cases c : d.kind % 8 = 6 <;> simp [c]
    clear HN HH HM his his' ht hno hxo hnR
    generalize decide (d.kind % 8 = 6) = b6 at *
    have EO := EO b6 rfl
    go_wp2_with fail
    refine HHN.out.mono ?_
    rintro e w3 ⟨rfl, hb3⟩
    have B3 : Below w.heap.size w w3 := Ar.bt BN hb3
    have hz3 := hb3.size
    rw [hszN] at hz3
    have e0 : w3.cell? ⟨w.heap.size, 0, none⟩ = some (.int .i64 d.kind) := by rw [(D.bcell hb3).1 _ _ (by omega)]; exact d0
    have rb3 := Ar.box_but (R := fun _ => False) rbN (FL.But.below hb3) id
    have OX := HX.out _ B3
    have HA := Lib.hid (HXa.out.free p a R (d.hand all) w3 OX hhl hst)
    have HG := Lib.hid (HXa.out.get p a R (d.hand all) w3 OX hhl hst)
    unfold FL.ptr at HA HG
    have MK := Lib.hid (MK w3)
    clear HHN d0 d1 d2 d3 d4 d5 d6 rbN dbN hb3 hszN OX HX
    generalize d.hand all = hn at *
    generalize d.kind % 8 = km at *
    go_wp2_with fail
    refine MK.out.mono ?_
    rintro e w4 ⟨rfl, rfl⟩
    clear MK e0
    cases b6 with
    | true =>
      simp only [if_true] at EO
      clear HG
      go_wp2_with fail
      refine HA.out.mono ?_
      rintro e w4 ⟨rfl, hO, hbut⟩
      have rb4 := Ar.box_but rb3 hbut (fun c => by have := hlt _ c; omega)
      have O2 := Ar.box_own rb4
      have hP := O2.put (.int .i64 0) (.string ⟨#[]⟩) (.slice none 0 0)
      have RF : Hid (Ar.Played O w p R d all a (.returned (.tuple #[.int .u64 (hn : Int), .agg #[.int .i64 0, .string ⟨#[]⟩, .slice none 0 0], .int .i64 2, .int .i64 (a.gtE hn)])) (N.put3 w4 (w.heap.size + 1) (.int .i64 0) (.string ⟨#[]⟩) (.slice none 0 0))) := by
        have hz4 := hbut.size
        have hb4 := N.put3_but w4 (w.heap.size + 1) (.int .i64 0) (.string ⟨#[]⟩) (.slice none 0 0)
        have hz5 := hb4.size
        refine Ar.Played.of (x := ⟨0, [], []⟩) EO rfl (HXa.out.but hO hb4 (fun k hk c => ?_)) (fun k hk => ?_) (Ar.but3 B3 hbut hb4 (by omega)) ⟨by show _ ≤ (0 : Int); omega, by show (0 : Int) < _; omega, by show (0 : Nat) ≤ _; omega, N.row_nil _ _, (fun _ => rfl), (fun p hp => by cases hp), Nat.zero_le _, Nat.zero_le _⟩ (.inr (fun g o e => by cases e))
        · rcases hk with hk | hk
          · have := hlt k hk; omega
          · omega
        · rcases hk with hk | hk
          · exact .inl hk
          · exact .inr (by omega)
      have r0 := O2.c0
      have r1 := O2.c1
      have r2 := O2.c2
      have s0 := O2.f0
      have s1 := O2.f1
      have s2 := O2.f2
      generalize a.gtE hn = ge at *
      clear HA hO hbut rb3 rb4 O2 EO rb db B1 BN hb hdR HB hlt HXa B3
      go_wp2
      have p0 := hP.c0
      have p1 := hP.c1
      have p2 := hP.c2
      refine bodyPost_ret (v := .tuple #[.int .u64 (hn : Int), .agg #[.int .i64 0, .string ⟨#[]⟩, .slice none 0 0], .int .i64 2, .int .i64 ge]) ?_ rfl RF.out
      unfold N.put3 at p0 p1 p2
      simp [results, Try.results34, go_sem, p0, p1, p2]
    | false =>
      simp only [Bool.false_eq_true, if_false] at EO
      clear HA
      go_wp2_with fail
      refine HG.out.mono ?_
      rintro e w4 ⟨t', yo, yc, R', ht', rfl, hO, hR', hbut, _, hno', hyo⟩
      have rb4 := Ar.box_but rb3 hbut (fun c => by have := hlt _ c; omega)
      have O2 := Ar.box_own rb4
      have hP1 := O2.put (.int .i64 (Ar.got a hn).h) (.string t') (.slice yo (Ar.got a hn).ks.length yc)
      have hP := hP1.put (.int .i64 (Ar.got a hn).h) (.string t') (.slice yo (Ar.got a hn).ks.length yc)
      have RF : Hid (Ar.Played O w p R d all a (.returned (.tuple #[.int .u64 (hn : Int), .agg #[.int .i64 (Ar.got a hn).h, .string t', .slice yo (Ar.got a hn).ks.length yc], .int .i64 1, .int .i64 (a.gtE hn)])) (N.put3 (N.put3 w4 (w.heap.size + 1) (.int .i64 (Ar.got a hn).h) (.string t') (.slice yo (Ar.got a hn).ks.length yc)) (w.heap.size + 1) (.int .i64 (Ar.got a hn).h) (.string t') (.slice yo (Ar.got a hn).ks.length yc)).drew) := by
        have hz4 := hbut.size
        have hb4 := ((N.put3_but w4 (w.heap.size + 1) (.int .i64 (Ar.got a hn).h) (.string t') (.slice yo (Ar.got a hn).ks.length yc)).trans (N.put3_but _ (w.heap.size + 1) (.int .i64 (Ar.got a hn).h) (.string t') (.slice yo (Ar.got a hn).ks.length yc))).trans (FL.But.below (Below.refl _ _).drew)
        have hz5 := hb4.size
        have hw4 : w3.heap.size ≤ w4.heap.size := hbut.size
        refine Ar.Played.of EO ht' (HXa.out.but hO hb4 (fun k hk c => ?_)) (fun k hk => ?_) (Ar.but3 B3 hbut hb4 (by omega)) (hno'.but hb4 (fun g o e _ c => ?_)) (.inr (fun g o e => ?_))
        · rcases hR' k hk with hk | hk
          · have := hlt k hk; omega
          · omega
        · rcases hR' k hk with hk | hk
          · exact .inl hk
          · exact .inr (by omega)
        · have := (hyo g o e).1; omega
        · obtain ⟨y1, y2, y3⟩ := hyo g o e
          exact ⟨by omega, by omega, y3⟩
      have r0 := O2.c0
      have r1 := O2.c1
      have r2 := O2.c2
      have s0 := O2.f0
      have s1 := O2.f1
      have s2 := O2.f2
      have u0 := hP1.c0
      have u1 := hP1.c1
      have u2 := hP1.c2
      have t0 := hP1.f0
      have t1 := hP1.f1
      have t2 := hP1.f2
      generalize a.gtE hn = ge at *
      clear HG hO hbut rb3 rb4 O2 EO rb db B1 BN hb hdR HB hlt HXa B3 hP1 hR' hno' hyo ht'
      generalize Ar.got a hn = x at *
      go_wp2
      go_region
      go_wp2
      have p0 := hP.c0
      have p1 := hP.c1
      have p2 := hP.c2
      refine bodyPost_ret (v := .tuple #[.int .u64 (hn : Int), .agg #[.int .i64 x.h, .string t', .slice yo x.ks.length yc], .int .i64 1, .int .i64 ge]) ?_ rfl RF.out
      unfold N.put3 at p0 p1 p2
      simp [results, Try.results34, go_sem, p0, p1, p2]
end
end Go.Proofs.Ytlhgakdplabnlaa
/- ArSt -/
namespace Go.Proofs.Ytlhgakdplabnlaa
open Go.RowKit

/-- One arena that was made since w, the row of what is known (v), the nodes at hand (pend), and the blocks of the law's own rows (L). -/
structure Ar.St (O : World → Nat → A13.A → (Nat → Prop) → Prop) (w : World) (p : Nat) (a : A13.A) (v : Value) (all pend : List Ar.I) (L : Nat → Prop) (W : World) : Prop where
  below : Below w.heap.size w W
  chk : ∀ i ∈ all, N.chk i.x.nd = 0
  ex : ∃ (R K : Nat → Prop), O W p a R ∧ (∀ k, R k → w.heap.size ≤ k) ∧ W.ownsRow w.heap.size 52 4 v all.length (Ar.cells all) ∧ Ar.Ok W K (all ++ pend) ∧ (∀ g, v.ownBlock = some g → ¬ R g) ∧ (∀ k, (K k ∨ L k) → ¬ R k ∧ v.ownBlock ≠ some k ∧ k < W.heap.size) ∧ ∀ k, L k → ¬ K k ∧ w.heap.size ≤ k
/-- What the law's own rows are after a call: as they were. -/
def Ar.Kept (L : Nat → Prop) (W W' : World) : Prop := ∀ k, L k → k < W.heap.size ∧ W'.heap[k]? = W.heap[k]?
section
variable {O : World → Nat → A13.A → (Nat → Prop) → Prop} {w W W' : World} {p : Nat} {a a' : A13.A} {v : Value} {all pend : List Ar.I} {L : Nat → Prop}
theorem Ar.St.make {R : Nat → Prop} (hO : O W p a R) (hb : Below w.heap.size w W) (hR : ∀ k, R k → w.heap.size ≤ k) : Ar.St O w p a (.slice none 0 0) [] [] (fun _ => False) W :=
  ⟨hb, (fun i hi => by cases hi), R, fun _ => False, hO, hR, World.ownsRow_nil _ _ _ _, Ar.Ok.nil _ _, (fun g e => by cases e), fun k hk => hk.elim False.elim False.elim, fun k hk => hk.elim⟩
/-- New memory; some of it may be the law's own. -/
theorem Ar.St.more (X : Ar.Pa O) (h : Ar.St O w p a v all pend L W) (hb : Below W.heap.size W W') {L' : Nat → Prop} (hL : ∀ k, L' k → L k ∨ (W.heap.size ≤ k ∧ k < W'.heap.size)) : Ar.St O w p a v all pend L' W' := by
  obtain ⟨R, K, hO, hR, hv, hk, h1, h2, h3⟩ := h.ex
  have hlt := X.lt hO
  refine ⟨h.below.trans (hb.mono h.below.size), h.chk, R, K, X.on hO hb, hR, D.own_below hv hb, hk.but (Q := fun _ => False) (FL.But.below hb) (fun _ _ => id), h1, fun k c => ?_, fun k c => ?_⟩
  rotate_left
  · rcases hL k c with c | c
    · exact h3 k c
    · exact ⟨fun c' => by have := (h2 k (.inl c')).2.2; omega, by have := h.below.size; omega⟩
  have key : (K k ∨ L k) ∨ (W.heap.size ≤ k ∧ k < W'.heap.size) := by
    rcases c with c | c
    · exact .inl (.inl c)
    · rcases hL k c with c | c
      · exact .inl (.inr c)
      · exact .inr c
  rcases key with c | c
  · exact ⟨(h2 k c).1, (h2 k c).2.1, Nat.lt_of_lt_of_le (h2 k c).2.2 hb.size⟩
  · exact ⟨fun c' => by have := hlt k c'; omega, fun e => by have := (hv.lt k e).2; omega, c.2⟩
theorem Ar.St.on (X : Ar.Pa O) (h : Ar.St O w p a v all pend L W) (hb : Below W.heap.size W W') : Ar.St O w p a v all pend L W' := h.more X hb (fun _ c => .inl c)
theorem Ar.St.less (h : Ar.St O w p a v all pend L W) {L' : Nat → Prop} (hL : ∀ k, L' k → L k) : Ar.St O w p a v all pend L' W := by
  obtain ⟨R, K, hO, hR, hv, hk, h1, h2, h3⟩ := h.ex
  exact ⟨h.below, h.chk, R, K, hO, hR, hv, hk, h1, fun k c => h2 k (c.imp id (hL k)), fun k c => h3 k (hL k c)⟩
theorem Ar.St.inv (X : Ar.Pa O) (h : Ar.St O w p a v all pend L W) : A13.Inv a := by obtain ⟨R, K, hO, _⟩ := h.ex; exact X.inv hO
theorem Ar.St.cnt (X : Ar.Pa O) (h : Ar.St O w p a v all pend L W) : A13.Cnt a := by obtain ⟨R, K, hO, _⟩ := h.ex; exact X.cnt hO
theorem Ar.St.drop (h : Ar.St O w p a v all pend L W) : Ar.St O w p a v all [] L W := by
  obtain ⟨R, K, hO, hR, hv, hk, h1, h2, h3⟩ := h.ex
  exact ⟨h.below, h.chk, R, K, hO, hR, hv, hk.mono (fun _ c => c) (fun i hi => List.mem_append.2 (.inl (by simpa using hi))), h1, h2, h3⟩
theorem Ar.St.hands (h : Ar.St O w p a v all pend L W) : ∀ i ∈ all, N.NOk W i.x ∧ N.chk i.x.nd = 0 ∧ i.h ≤ 18446744073709551615 := by
  obtain ⟨R, K, _, _, _, hk, _⟩ := h.ex
  exact fun i hi => ⟨hk.node i (List.mem_append.2 (.inl hi)), h.chk i hi, hk.hand i (List.mem_append.2 (.inl hi))⟩
theorem Ar.St.row (h : Ar.St O w p a v all pend L W) : ∃ ao c, v = .slice ao all.length c ∧ ∀ (i : Nat) (q : Ar.I), all[i]? = some q → ∃ b, ao = some ⟨b, 0, none⟩ ∧ b < W.heap.size ∧ W.cell? ⟨b, i * 4, none⟩ = some (.int .u64 (q.h : Int)) ∧ W.cell? ⟨b, i * 4 + 1, none⟩ = some (.int .i64 q.x.h) ∧ W.cell? ⟨b, i * 4 + 2, none⟩ = some (.string q.x.t) ∧ W.cell? ⟨b, i * 4 + 3, none⟩ = some (.slice q.x.s.a q.x.s.x.length q.x.s.c) := by
  obtain ⟨R, K, _, _, hv, _⟩ := h.ex
  obtain ⟨ao, c, e, _, hr⟩ := Ar.row_of hv
  exact ⟨ao, c, e, hr⟩
/-- A call of the arena's has been made. -/
theorem Ar.turn_ex {R R' K : Nat → Prop} (hv : W.ownsRow w.heap.size 52 4 v all.length (Ar.cells all)) (hR : ∀ k, R k → w.heap.size ≤ k) (hw : Below w.heap.size w W) (hk : Ar.Ok W K (all ++ pend)) (h1 : ∀ g, v.ownBlock = some g → ¬ R g) (h2 : ∀ k, (K k ∨ L k) → ¬ R k ∧ v.ownBlock ≠ some k ∧ k < W.heap.size)
    (hR' : ∀ k, R' k → Ar.ext R W.heap.size W'.heap.size k) (hb : FL.But R W W') :
    Below w.heap.size w W' ∧ (∀ k, R' k → w.heap.size ≤ k) ∧ W'.ownsRow w.heap.size 52 4 v all.length (Ar.cells all) ∧ Ar.Ok W' K (all ++ pend) ∧ (∀ g, v.ownBlock = some g → ¬ R' g) ∧ (∀ k, (K k ∨ L k) → ¬ R' k ∧ v.ownBlock ≠ some k ∧ k < W'.heap.size) ∧ Ar.Kept L W W' := by
  refine ⟨hb.toBelow hw hw.size hR, fun k c => ?_, hb.row hv h1, hk.but hb (fun k c => (h2 k (.inl c)).1), fun g e c => ?_, fun k c => ⟨fun c' => ?_, (h2 k c).2.1, Nat.lt_of_lt_of_le (h2 k c).2.2 hb.size⟩, fun k c => ⟨(h2 k (.inr c)).2.2, hb.block k (h2 k (.inr c)).2.2 (h2 k (.inr c)).1⟩⟩
  · rcases hR' k c with c | c
    · exact hR k c
    · exact Nat.le_trans hw.size c.1
  · rcases hR' g c with c | c
    · exact h1 g e c
    · have := (hv.lt g e).2; omega
  · rcases hR' k c' with c' | c'
    · exact (h2 k c).1 c'
    · have := (h2 k c).2.2; omega
/-- play, as the laws meet it: the node that it returns is at hand. -/
theorem Ar.St.play (X : Ar.Pa O) (h : Ar.St O w p a v all [] L W) (hst : a.st < 1000000000) (d : Ar.Dd) (hd : Ar.DOk W d) (hl : all.length ≤ 1000) (hdR : ∀ g o, d.x.s.a = some ⟨g, o, none⟩ → d.x.s.x ≠ [] → g < w.heap.size) :
    Calls Try.prog 34 #[FL.ptr p, d.v, v] W fun e W' => ∃ t xo xc, t.data.toList = (d.opX all a).t ∧ e = .returned (.tuple #[.int .u64 (d.opH all a : Nat), .agg #[.int .i64 (d.opX all a).h, .string t, .slice xo (d.opX all a).ks.length xc], .int .i64 d.opK, .int .i64 (d.opE all a)]) ∧
      (d.opH all a ≤ 18446744073709551615 → Ar.St O w p (d.op all a) v all [⟨d.opH all a, ⟨(d.opX all a).h, t, ⟨xo, xc, (d.opX all a).ks⟩⟩⟩] L W') ∧ Ar.Kept L W W' := by
  obtain ⟨ao, ac, hv', hrow⟩ := h.row
  have hh := h.hands
  obtain ⟨R, K, hO, hR, hv, hk, h1, h2, h3⟩ := h.ex
  subst hv'
  refine (play13_any X p a R d ao ac all W hO hst hd hl hh hrow (fun g o e n => ⟨fun c => ?_, ?_⟩)).mono fun e W' k => ?_
  · have := hdR g o e n; have := hR g c; omega
  · have := hdR g o e n; have := h.below.size; omega
  · obtain ⟨t, xo, xc, R', ht, he, hO', hR', hB, hN, hx⟩ := k
    have hk0 : Ar.Ok W K (all ++ []) := hk
    obtain ⟨t1, t2, t3, t4, t5, t6, t7⟩ := Ar.turn_ex hv hR h.below hk h1 h2 hR' hB
    refine ⟨t, xo, xc, ht, he, fun hle => ?_, t7⟩
    have h4 : d.kind % 8 = 4 → (d.opX all a).ks = d.x.s.x := Ar.opX4
    have hxo : ∀ g o, xo = some ⟨g, o, none⟩ → (d.opX all a).ks ≠ [] → ¬ R' g ∧ (Value.slice ao all.length ac).ownBlock ≠ some g ∧ (g < w.heap.size ∨ g < W'.heap.size) := fun g o e hne => by
      rcases hx with ⟨hx, k4⟩ | hx
      · have hg := hdR g o (by rw [← hx]; exact e) (by rw [← h4 k4]; exact hne)
        exact ⟨fun c => by have := t2 g c; omega, fun c => by have := (hv.lt g c).1; omega, .inl hg⟩
      · obtain ⟨y1, y2, y3⟩ := hx g o e
        exact ⟨y3, fun c => by have := (hv.lt g c).2; omega, .inr y2⟩
    rw [List.append_nil] at t4
    refine ⟨t1, h.chk, R', fun k => K k ∨ ((d.opX all a).ks ≠ [] ∧ ∃ o, xo = some ⟨k, o, none⟩), hO', t2, t3, (t4.mono (fun _ c => .inl c) (fun _ c => c)).add hN (fun g o e n => .inr ⟨n, o, e⟩) hle, t5, fun k c => ?_, fun k c => ⟨fun c' => ?_, (h3 k c).2⟩⟩
    rotate_left
    · rcases c' with c' | ⟨hne, o, c'⟩
      · exact (h3 k c).1 c'
      · rcases hx with ⟨hx, k4⟩ | hx
        · have := hdR k o (by rw [← hx]; exact c') (by rw [← h4 k4]; exact hne); have := (h3 k c).2; omega
        · have := (hx k o c').1; have := (h2 k (.inr c)).2.2; omega
    rcases c with (c | ⟨hne, o, c⟩) | c
    · exact t6 k (.inl c)
    · obtain ⟨z1, z2, z3⟩ := hxo k o c hne
      refine ⟨z1, z2, ?_⟩
      have := t1.size
      omega
    · exact t6 k (.inr c)
/-- The node at hand is known from now on. -/
theorem Ar.St.push {i : Ar.I} (X : Ar.Pa O) (h : Ar.St O w p a v all [i] L W) (hc : N.chk i.x.nd = 0) {v' : Value} (ho : W'.ownsRow w.heap.size 52 4 v' (all ++ [i]).length (Ar.cells (all ++ [i]))) (hg : W.grownBy W' v.ownBlock) (hv' : v'.ownBlock = v.ownBlock ∨ ∃ g, v'.ownBlock = some g ∧ W.heap.size ≤ g) : Ar.St O w p a v' (all ++ [i]) [] L W' ∧ Ar.Kept L W W' := by
  obtain ⟨R, K, hO, hR, hv, hk, h1, h2, h3⟩ := h.ex
  have hb : FL.But (fun k => v.ownBlock = some k) W W' := FL.But.grown hg (fun _ c => c)
  have hlt := X.lt hO
  have hne : ∀ g, v'.ownBlock = some g → ∀ k, k < W.heap.size → v.ownBlock ≠ some k → g ≠ k := fun g e k hk hn c => by
    rcases hv' with hv' | ⟨g', e', hz⟩
    · rw [hv'] at e; exact hn (by rw [← c]; exact e)
    · rw [e] at e'; injection e' with e'; omega
  refine ⟨⟨hb.toBelow h.below h.below.size (fun k c => (hv.lt k c).1), fun j hj => ?_, R, K, X.but hO hb (fun k c c' => h1 k c' c), hR, ho, ?_, fun g e c => ?_, fun k c => ⟨(h2 k c).1, fun e => hne k e k (h2 k c).2.2 (h2 k c).2.1 rfl, Nat.lt_of_lt_of_le (h2 k c).2.2 hb.size⟩, h3⟩, fun k c => ⟨(h2 k (.inr c)).2.2, hb.block k (h2 k (.inr c)).2.2 (h2 k (.inr c)).2.1⟩⟩
  · rcases List.mem_append.1 hj with hj | hj
    · exact h.chk j hj
    · rw [List.mem_singleton.1 hj]; exact hc
  · rw [List.append_nil]
    exact hk.but hb (fun k c => (h2 k (.inl c)).2.1)
  · exact hne g e g (hlt g c) (fun e' => h1 g e' c) rfl
theorem Ar.St.get (X : Ar.Pa O) (h : Ar.St O w p a v all pend L W) (hst : a.st < 1000000000) (n : Nat) (hn : n ≤ 18446744073709551615) :
    Calls Try.prog 21 #[FL.ptr p, .int .u64 (n : Int)] W fun e W' => ∃ t xo xc, t.data.toList = (Ar.got a n).t ∧ e = .returned (.tuple #[.agg #[.int .i64 (Ar.got a n).h, .string t, .slice xo (Ar.got a n).ks.length xc], .int .i64 (a.gtE n)]) ∧
      Ar.St O w p (a.gt n) v all pend (fun k => L k ∨ ∃ o, xo = some ⟨k, o, none⟩) W' ∧ Ar.Kept L W W' ∧ N.NOk W' ⟨(Ar.got a n).h, t, ⟨xo, xc, (Ar.got a n).ks⟩⟩ ∧ W.heap.size ≤ W'.heap.size := by
  obtain ⟨R, K, hO, hR, hv, hk, h1, h2, h3⟩ := h.ex
  refine (X.get p a R n W hO hn hst).mono fun e W' k => ?_
  obtain ⟨t, xo, xc, R', ht, he, hO', hR', hB, _, hN, hx⟩ := k
  obtain ⟨t1, t2, t3, t4, t5, t6, t7⟩ := Ar.turn_ex hv hR h.below hk h1 h2 hR' hB
  refine ⟨t, xo, xc, ht, he, ⟨t1, h.chk, R', K, hO', t2, t3, t4, t5, fun k c => ?_, fun k c => ?_⟩, t7, hN, hB.size⟩
  rotate_left
  · rcases c with c | ⟨o, c⟩
    · exact h3 k c
    · have y1 := (hx k o c).1
      exact ⟨fun c' => by have := (h2 k (.inl c')).2.2; omega, by have := h.below.size; omega⟩
  rcases c with c | c | ⟨o, c⟩
  · exact t6 k (.inl c)
  · exact t6 k (.inr c)
  · obtain ⟨y1, y2, y3⟩ := hx k o c
    exact ⟨y3, fun e => by have := (hv.lt k e).2; omega, y2⟩
theorem Ar.St.handles (X : Ar.Pa O) (h : Ar.St O w p a v all pend L W) :
    Calls Try.prog 30 #[FL.ptr p] W fun e W' => ∃ ho hc, e = .returned (.slice ho a.l.hands.length hc) ∧ Ar.St O w p a v all pend (fun k => L k ∨ ∃ o, ho = some ⟨k, o, none⟩ ∧ W.heap.size ≤ k) W' ∧ V.Row W' ho (H.row a.l.hands) ∧ Below W.heap.size W W' ∧ ∀ k o, ho = some ⟨k, o, none⟩ → W.heap.size ≤ k := by
  have hh := h
  obtain ⟨R, K, hO, hR, hv, hk, h1, h2, h3⟩ := h.ex
  refine (X.handles p a R W hO).mono fun e W' k => ?_
  obtain ⟨v', he, hm⟩ := k
  obtain ⟨ho, hc, hv', hr⟩ := H.Made.row hm
  have hb := V.Made.below hm
  have own := V.Made.own hm
  have hblk : ∀ k o, ho = some ⟨k, o, none⟩ → W.heap.size ≤ k ∧ k < W'.heap.size := fun k o e => by
    obtain ⟨_, ⟨e', _⟩ | ⟨g, cap, cur, e', hg, hh, _⟩⟩ := own
    · rw [hv', e] at e'; cases e'
    · rw [hv', e] at e'
      have := (Array.getElem?_eq_some_iff.1 hh).1
      injection e' with e'
      injection e' with e'
      injection e' with e'
      omega
  refine ⟨ho, hc, by rw [he, hv'], hh.more X hb (fun k c => ?_), hr, hb, fun k o e => (hblk k o e).1⟩
  rcases c with c | ⟨o, c, _⟩
  · exact .inl c
  · exact .inr (hblk k o c)
/-- A store into a block of the law's own. -/
theorem Ar.St.put (X : Ar.Pa O) (h : Ar.St O w p a v all pend L W) {b : Nat} (hb : L b) (i : Nat) (u : Value) : Ar.St O w p a v all pend L (W.setCell ⟨b, i, none⟩ u) := by
  obtain ⟨R, K, hO, hR, hv, hk, h1, h2, h3⟩ := h.ex
  have hs : FL.But (fun k => k = b) W (W.setCell ⟨b, i, none⟩ u) := FL.But.set W u rfl
  exact ⟨h.below.setCell (p := ⟨b, i, none⟩) (h3 b hb).2 _, h.chk, R, K, X.but hO hs (fun k c e => (h2 b (.inr hb)).1 (by rw [← e]; exact c)), hR, hs.row hv (fun g e c => (h2 b (.inr hb)).2.1 (by rw [← c]; exact e)), hk.but hs (fun k c e => (h3 b hb).1 (by rw [← e]; exact c)), h1, fun k c => ⟨(h2 k c).1, (h2 k c).2.1, Nat.lt_of_lt_of_le (h2 k c).2.2 hs.size⟩, h3⟩
theorem Ar.St.own (h : Ar.St O w p a v all pend L W) : W.ownsRow w.heap.size 52 4 v all.length (Ar.cells all) := by
  obtain ⟨R, K, _, _, hv, _⟩ := h.ex
  exact hv
theorem Ar.St.live (X : Ar.Pa O) (h : Ar.St O w p a v all pend L W) (n : Nat) (hn : n ≤ 18446744073709551615) :
    Calls Try.prog 25 #[FL.ptr p, .int .u64 (n : Int)] W fun e W' => e = .returned (.bool (a.has n)) ∧ Below W.heap.size W W' := by
  obtain ⟨R, K, hO, _⟩ := h.ex
  exact X.live p a R n W hO hn
theorem Ar.St.stats (X : Ar.Pa O) (h : Ar.St O w p a v all pend L W) :
    Calls Try.prog 28 #[FL.ptr p] W fun e W' => e = .returned (Ar.st7 a) ∧ Below W.heap.size W W' := by
  obtain ⟨R, K, hO, _⟩ := h.ex
  exact X.stats p a R W hO
theorem Ar.kept_row {ao : Option Addr} {l : List Value} (h : V.Row W ao l) (hk : Ar.Kept L W W') (hs : W.heap.size ≤ W'.heap.size) (hL : ∀ k o, ao = some ⟨k, o, none⟩ → L k) : V.Row W' ao l := fun i x hx => by
  obtain ⟨b, o, e, hb, hc⟩ := h i x hx
  refine ⟨b, o, e, Nat.lt_of_lt_of_le hb hs, ?_⟩
  unfold World.cell?
  rw [(hk b (hL b o e)).2]
  exact hc
end
end Go.Proofs.Ytlhgakdplabnlaa
/- ArBelow -/
namespace Go.Proofs.Ytlhgakdplabnlaa
open Go.RowKit

/-- Is a handle a child of a live node? -/
def Ar.kd (a : A13.A) (n x : Nat) : Bool := (Ar.got a x).ks.any fun q => q.at_ == n
def Ar.blw (a : A13.A) (n : Nat) : Bool := a.l.hands.any (Ar.kd a n)
theorem Ar.hands_has {a : A13.A} (v : A13.Inv a) {x : Nat} (h : x ∈ a.l.hands) : a.has x = true := (A13.has_iff v).2 ((FL.mem_hands v.l).1 h)
theorem Ar.hands_le {a : A13.A} (v : A13.Inv a) {x : Nat} (h : x ∈ a.l.hands) : x ≤ 18446744073709551615 := by
  have h1 := (FL.mem_hands v.l).1 h
  have := H.ok_lt (FL.live_iff.1 h1).1
  omega
theorem Ar.any_take {α : Type} {f : α → Bool} {l : List α} {k : Nat} {x : α} (hx : l[k]? = some x) (h : (l.take k).any f = false) : (f x = true → l.any f = true) ∧ (f x = false → (l.take (k + 1)).any f = false) := by
  refine ⟨fun e => ?_, fun e => ?_⟩
  · exact List.any_eq_true.2 ⟨x, List.mem_of_getElem? hx, e⟩
  · rw [List.take_add_one, hx, List.any_append, h]; simp [e]
theorem Ar.Kept.trans {L L' : Nat → Prop} {W V V' : World} (h : Ar.Kept L W V) (h' : Ar.Kept L' V V') (hL : ∀ k, L k → L' k) : Ar.Kept L W V' := fun k c => ⟨(h k c).1, (h' k (hL k c)).2.trans (h k c).2⟩
theorem Ar.Kept.below {L : Nat → Prop} {W V V' : World} (h : Ar.Kept L W V) (hb : Below V.heap.size V V') (hs : W.heap.size ≤ V.heap.size) : Ar.Kept L W V' := fun k c => ⟨(h k c).1, (hb.block k (Nat.lt_of_lt_of_le (h k c).1 hs)).trans (h k c).2⟩
theorem Ar.St.kept {O : World → Nat → A13.A → (Nat → Prop) → Prop} {w W : World} {p : Nat} {a : A13.A} {v : Value} {all pend : List Ar.I} {L : Nat → Prop} (h : Ar.St O w p a v all pend L W) : Ar.Kept L W W := by
  obtain ⟨R, K, _, _, _, _, _, h2, _⟩ := h.ex
  exact fun k c => ⟨(h2 k (.inr c)).2.2, rfl⟩
section
variable {O : World → Nat → A13.A → (Nat → Prop) → Prop}
set_option maxRecDepth 100000 in
set_option maxHeartbeats 4000000 in
theorem below13_any (X : Ar.Pa O) {w W : World} {p : Nat} {a : A13.A} {v : Value} {all pend : List Ar.I} {L : Nat → Prop} (h : Ar.St O w p a v all pend L W) (hst : a.st < 1000000000) (n : Nat) :
    Calls Try.prog 35 #[FL.ptr p, .int .u64 (n : Int)] W fun e W' => e = .returned (.bool (Ar.blw a n)) ∧ Ar.St O w p a v all pend L W' ∧ Ar.Kept L W W' ∧ W.heap.size ≤ W'.heap.size := by
  have hinv := h.inv X
  have HG : Hid (∀ (x : Nat) (L' : Nat → Prop) V, x ∈ a.l.hands → Ar.St O w p a v all pend L' V → Calls Try.prog 21 #[FL.ptr p, .int .u64 (x : Int)] V fun e W' => ∃ t xo xc, e = .returned (.tuple #[.agg #[.int .i64 (Ar.got a x).h, .string t, .slice xo (Ar.got a x).ks.length xc], .int .i64 0]) ∧
      Ar.St O w p a v all pend L' W' ∧ Ar.Kept L' V W' ∧ N.Row W' xo (Ar.got a x).ks ∧ (Ar.got a x).ks.length ≤ 17592186044416 ∧ V.heap.size ≤ W'.heap.size) := fun x L' V hx hV => (hV.get X hst x (Ar.hands_le hinv hx)).mono fun e W' k => by
    obtain ⟨t, xo, xc, _, he, hS, hk, hN, hz⟩ := k
    have hy := Ar.hands_has hinv hx
    rw [A13.gt_yes hy] at hS
    refine ⟨t, xo, xc, ?_, hS.less (fun _ c => .inl c), hk, hN.s.row, by have := hN.s.fit; dsimp only at this; omega, hz⟩
    rw [he]
    unfold A13.A.gtE
    rw [if_pos hy]
  have HL := Lib.hid (h.handles X)
  have hn := Lib.hid (Ar.lens hinv).2.1
  have HS0 := Lib.hid h
  clear h hinv hst
  unfold FL.ptr at *
  go_enter Try.func35, Try.ntmps35
  go_wp2_with fail
  refine HL.out.mono ?_
  rintro e w1 ⟨ho, hc, rfl, hS, hr, hb, hfr⟩
  obtain ⟨L1, hL1⟩ : ∃ L1 : Nat → Prop, L1 = fun k => L k ∨ ∃ o, ho = some ⟨k, o, none⟩ ∧ W.heap.size ≤ k := ⟨_, rfl⟩
  rw [← hL1] at hS
  have HLL : Hid ((∀ k, L k → L1 k) ∧ ∀ k o, ho = some ⟨k, o, none⟩ → L1 k) := by subst hL1; exact ⟨fun k c => .inl c, fun k o e => .inr ⟨o, e, hfr k o e⟩⟩
  have A1 : Hid (Ar.St O w p a v all pend L1 w1 ∧ Ar.Kept L W w1 ∧ W.heap.size ≤ w1.heap.size ∧ V.Row w1 ho (H.row a.l.hands)) := ⟨hS, HS0.out.kept.below hb (Nat.le_refl _), hb.size, hr⟩
  have hnl := hn.out
  clear hS hr hb hfr hL1 HL HS0 hn
  go_wp2
  go_loopw [6] (fun u wr => ∃ k : Nat, u = .int .i64 k ∧ k ≤ a.l.hands.length ∧ Hid ((Ar.St O w p a v all pend L1 wr ∧ Ar.Kept L W wr ∧ W.heap.size ≤ wr.heap.size ∧ V.Row wr ho (H.row a.l.hands)) ∧ (a.l.hands.take k).any (Ar.kd a n) = false)) (fun u _ => a.l.hands.length - (intOf u).toNat)
  case atStart => exact ⟨0, rfl, Nat.zero_le _, A1.out, rfl⟩
  case round =>
    clear A1
    obtain ⟨k, rfl, hk, hA⟩ := hrel
    by_cases hlt : k < a.l.hands.length
    · have hlt' : (k : Int) < (a.l.hands.length : Int) := by omega
      obtain ⟨x, hx⟩ : ∃ x, a.l.hands[k]? = some x := ⟨_, List.getElem?_eq_getElem hlt⟩
      obtain ⟨⟨hS, hK, hz, hr⟩, hany⟩ := hA.out
      obtain ⟨b, o, e, _, c0⟩ := H.row_at hr hx
      subst e
      have HGx := Lib.hid (HG.out x L1 wr (List.mem_of_getElem? hx) hS)
      have AN := Lib.hid (Ar.any_take hx hany)
      clear hS hr hany hx
      go_wp2_with fail
      refine HGx.out.mono ?_
      rintro e w2 ⟨t, xo, xc, rfl, hS2, hK2, hR2, hkl, hz2⟩
      have A2 : Hid (Ar.St O w p a v all pend L1 (w2.alloc (.cells #[.int .i64 (Ar.got a x).h, .string t, .slice xo (Ar.got a x).ks.length xc] 37)) ∧ Ar.Kept L W (w2.alloc (.cells #[.int .i64 (Ar.got a x).h, .string t, .slice xo (Ar.got a x).ks.length xc] 37)) ∧ W.heap.size ≤ (w2.alloc (.cells #[.int .i64 (Ar.got a x).h, .string t, .slice xo (Ar.got a x).ks.length xc] 37)).heap.size ∧ V.Row (w2.alloc (.cells #[.int .i64 (Ar.got a x).h, .string t, .slice xo (Ar.got a x).ks.length xc] 37)) (some ⟨b, o, none⟩) (H.row a.l.hands)) := by
        have hb : Below w2.heap.size w2 (w2.alloc (.cells #[.int .i64 (Ar.got a x).h, .string t, .slice xo (Ar.got a x).ks.length xc] 37)) := (Below.refl _ _).alloc (Nat.le_refl _) _
        exact ⟨hS2.on X hb, (hK.trans hK2 HLL.out.1).below hb (Nat.le_trans hz hz2), Nat.le_trans hz (Nat.le_trans hz2 hb.size), (Ar.kept_row hA.out.1.2.2.2 hK2 hz2 HLL.out.2).below hb⟩
      have R2 := Lib.hid (N.Row.below hR2 ((Below.refl _ _).alloc (Nat.le_refl _) (.cells #[.int .i64 (Ar.got a x).h, .string t, .slice xo (Ar.got a x).ks.length xc] 37)))
      have hnb := heap_alloc_new w2 (.cells #[.int .i64 (Ar.got a x).h, .string t, .slice xo (Ar.got a x).ks.length xc] 37)
      have HB := Lib.hid hnb
      have hbl : w2.heap.size < (w2.alloc (.cells #[.int .i64 (Ar.got a x).h, .string t, .slice xo (Ar.got a x).ks.length xc] 37)).heap.size := by simp
      clear hS2 hK2 hR2 hK HGx hA c0 hnb hz hz2
      have hkd : Hid (Ar.kd a n x = (Ar.got a x).ks.any fun q => q.at_ == n) := rfl
      generalize Ar.got a x = y at *
      go_wp2
      generalize w2.alloc (.cells #[.int .i64 y.h, .string t, .slice xo y.ks.length xc] 37) = W3 at *
      go_loopw [9] (fun u wr => ∃ j : Nat, u = .int .i64 j ∧ j ≤ y.ks.length ∧ Hid (Below W3.heap.size W3 wr ∧ (y.ks.take j).any (fun q => q.at_ == n) = false)) (fun u _ => y.ks.length - (intOf u).toNat)
      case atStart => exact ⟨0, rfl, Nat.zero_le _, Below.refl _ _, rfl⟩
      case round =>
        obtain ⟨j, rfl, hj, hJ⟩ := hrel
        have x2 : wr.cell? ⟨w2.heap.size, 2, none⟩ = some (.slice xo y.ks.length xc) := Lib.cell_of_heap ((hJ.out.1.block _ hbl).trans HB.out) 2
        by_cases hjl : j < y.ks.length
        · have hjl' : (j : Int) < (y.ks.length : Int) := by omega
          obtain ⟨q, hq⟩ : ∃ q, y.ks[j]? = some q := ⟨_, List.getElem?_eq_getElem hjl⟩
          obtain ⟨kb, ko, e, _, c0, _, _, _⟩ := (R2.out.below hJ.out.1) j q hq
          subst e
          have AQ := Lib.hid (Ar.any_take hq hJ.out.2)
          by_cases hqn : q.at_ = n
          · have F : Hid (Ar.blw a n = true) := AN.out.1 (hkd.out.trans (AQ.out.1 (by simpa using hqn)))
            have hqi : ((q.at_ : Int) == (n : Int)) = true := by simp; omega
            have hqj : (q.at_ == n) = true := by simpa using hqn
            have hqd : decide (q.at_ = n) = true := decide_eq_true hqn
            have G : Hid (Ar.St O w p a v all pend L wr ∧ Ar.Kept L W wr ∧ W.heap.size ≤ wr.heap.size) := ⟨(A2.out.1.on X hJ.out.1).less HLL.out.1, A2.out.2.1.below hJ.out.1 A2.out.2.2.1, Nat.le_trans A2.out.2.2.1 hJ.out.1.size⟩
            clear hJ AQ AN A2 R2 HB hqn hq HG
            go_wp2
            go_ret
            exact ⟨by rw [F.out]; rfl, G.out⟩
          · have hqi : ((q.at_ : Int) == (n : Int)) = false := by simp; omega
            have hqj : (q.at_ == n) = false := by simpa using hqn
            have hqd : decide (q.at_ = n) = false := decide_eq_false hqn
            have JN : Hid (Below W3.heap.size W3 wr ∧ (y.ks.take (j + 1)).any (fun q => q.at_ == n) = false) := ⟨hJ.out.1, AQ.out.2 (by simpa using hqn)⟩
            clear hJ AQ AN A2 R2 HB hqn hq HG
            go_wp2
            go_roundw
            case rel => exact ⟨j + 1, by rfl, by omega, JN⟩
            case measure => simp [intOf]; omega
        · have hje : ¬ (j : Int) < (y.ks.length : Int) := by omega
          have hjd : decide (j < y.ks.length) = false := decide_eq_false hjl
          have hj0 : (y.ks.take j).any (fun q => q.at_ == n) = false := hJ.out.2
          rw [List.take_of_length_le (by omega)] at hj0
          have AK : Hid ((Ar.St O w p a v all pend L1 wr ∧ Ar.Kept L W wr ∧ W.heap.size ≤ wr.heap.size ∧ V.Row wr (some ⟨b, o, none⟩) (H.row a.l.hands)) ∧ (a.l.hands.take (k + 1)).any (Ar.kd a n) = false) :=
            ⟨⟨A2.out.1.on X hJ.out.1, A2.out.2.1.below hJ.out.1 A2.out.2.2.1, Nat.le_trans A2.out.2.2.1 hJ.out.1.size, A2.out.2.2.2.below hJ.out.1⟩, AN.out.2 (hkd.out.trans hj0)⟩
          clear hJ AN A2 R2 HB hj0 HG
          go_wp2
          go_roundw
          case rel => exact ⟨k + 1, by rfl, by omega, AK⟩
          case measure => simp [intOf]; omega
    · have hge : ¬ (k : Int) < (a.l.hands.length : Int) := by omega
      have hgd : decide (k < a.l.hands.length) = false := decide_eq_false hlt
      obtain ⟨⟨hS, hK, hz, hr⟩, hany⟩ := hA.out
      have F : Hid (Ar.blw a n = false) := by
        show _ = _
        unfold Ar.blw
        rwa [List.take_of_length_le (by omega)] at hany
      have G : Hid (Ar.St O w p a v all pend L wr ∧ Ar.Kept L W wr ∧ W.heap.size ≤ wr.heap.size) := ⟨hS.less HLL.out.1, hK, hz⟩
      clear hS hK hz hr hany hA
      go_wp2
      go_ret
      exact ⟨by rw [F.out]; rfl, G.out⟩
end
end Go.Proofs.Ytlhgakdplabnlaa
