/- The walk of NodeMatches. -/
import Derived.Test.YtdpaleldalplfaaNodeLaws0
import Derived.Deep.RegionHeld3
namespace Go.Proofs.Ytdpaleldalplfaa
open Go.RowKit

/-- A node and its copy, each in a box, and their rows. -/
structure N.S2 (w : World) (bx bi : Nat) (h : Int) (t : ByteArray) (l : List N.K) (ao io : Option Addr) (ca ic : Nat) (W : World) : Prop where
  kn : N.Kn w W [(io, l), (ao, l)]
  x : N.Nb W bx h t (.slice ao l.length ca)
  i : N.Nb W bi h t (.slice io l.length ic)
theorem N.S2.on {w : World} {bx bi : Nat} {h : Int} {t : ByteArray} {l : List N.K} {ao io : Option Addr} {ca ic : Nat} {W W' : World} (s : N.S2 w bx bi h t l ao io ca ic W) (hb : Below W.heap.size W W') : N.S2 w bx bi h t l ao io ca ic W' := ⟨s.kn.on hb, s.x.below hb, s.i.below hb⟩
theorem N.S2.drew {w : World} {bx bi : Nat} {h : Int} {t : ByteArray} {l : List N.K} {ao io : Option Addr} {ca ic : Nat} {W : World} (s : N.S2 w bx bi h t l ao io ca ic W) : N.S2 w bx bi h t l ao io ca ic W.drew := s.on (Below.refl _ _).drew
theorem N.S2.alloc {w : World} {bx bi : Nat} {h : Int} {t : ByteArray} {l : List N.K} {ao io : Option Addr} {ca ic : Nat} {W : World} (s : N.S2 w bx bi h t l ao io ca ic W) (ob : Obj) : N.S2 w bx bi h t l ao io ca ic (W.alloc ob) := s.on ((Below.refl _ _).alloc (Nat.le_refl _) ob)
/-- Two measures in boxes beside them. -/
structure N.S4 (w : World) (bx bi b6 b8 : Nat) (a b c : Int) (h : Int) (t : ByteArray) (l : List N.K) (ao io : Option Addr) (ca ic : Nat) (W : World) : Prop where
  s : N.S2 w bx bi h t l ao io ca ic W
  m : M.Own W b6 a b c
  k : M.Own W b8 a b c
theorem N.S4.on {w : World} {bx bi b6 b8 : Nat} {a b c : Int} {h : Int} {t : ByteArray} {l : List N.K} {ao io : Option Addr} {ca ic : Nat} {W W' : World} (s : N.S4 w bx bi b6 b8 a b c h t l ao io ca ic W) (hb : Below W.heap.size W W') : N.S4 w bx bi b6 b8 a b c h t l ao io ca ic W' := ⟨s.s.on hb, s.m.below hb, s.k.below hb⟩
theorem N.S4.drew {w : World} {bx bi b6 b8 : Nat} {a b c : Int} {h : Int} {t : ByteArray} {l : List N.K} {ao io : Option Addr} {ca ic : Nat} {W : World} (s : N.S4 w bx bi b6 b8 a b c h t l ao io ca ic W) : N.S4 w bx bi b6 b8 a b c h t l ao io ca ic W.drew := s.on (Below.refl _ _).drew
set_option maxRecDepth 100000 in
set_option maxHeartbeats 8000000 in
theorem nodeMatches_walk (x : N.NArg) (n : Int) (w : World) (hx : N.NOk w x) (n0 : -9223372036854775808 ≤ n) (n1 : n < 9223372036854775808) :
    Calls Try.prog 3 #[x.v, .int .i64 n] w fun e w' => e = .returned (.bool true) ∧ Below w.heap.size w w' := by
  have cd := hx.cd
  have hrow := hx.s.row
  obtain ⟨h, t, ao, ca, l⟩ := x
  dsimp only at cd hrow
  clear hx
  have n1' : n ≤ 9223372036854775807 := by omega
  have HCp := N.hCp cd
  have HMs := N.hMs cd
  have HMs' := N.hMs' cd
  have HCk := N.hCk cd
  have HCk' := N.hCk' cd
  have HCh := N.hCh cd n n0 n1'
  have HCh' := N.hCh' cd n n0 n1'
  have HRn := N.hRn cd n n0 n1'
  have HRn' := N.hRn' cd n n0 n1'
  have HLn := N.hLn cd n n0 n1'
  have HLn' := N.hLn' cd n n0 n1'
  have HEn := N.hEn cd
  have HEn' := N.hEn' cd
  have HEq := N.hEq (h := h) (k := h) (s := t) (t := t) (a := l) (b := l) cd.len true (decide_eq_true rfl)
  have HK := N.hAw
  have X1 := Lib.hid (N.Nb.new w h t (.slice ao l.length ca) 24)
  have Z1 : Hid (N.Kn w (w.alloc (.cells #[.int .i64 h, .string t, .slice ao l.length ca] 24)) [(ao, l)]) := ((N.Kn0 w).add hrow).on ((Below.refl _ _).alloc (Nat.le_refl _) _)
  generalize N.mB (N.nd h t l) = ma at *
  generalize N.mR (N.nd h t l) = mb at *
  generalize N.mL (N.nd h t l) = mc at *
  generalize N.chk (N.nd h t l) = ck at *
  generalize N.fdI N.K.b 0 (N.nd h t l) n = ia at *
  generalize N.fdR N.K.b 0 (N.nd h t l) n = ra at *
  generalize N.fdE N.K.b 0 (N.nd h t l) n = ea at *
  generalize N.fdI N.K.r 0 (N.nd h t l) n = ib at *
  generalize N.fdR N.K.r 0 (N.nd h t l) n = rb at *
  generalize N.fdE N.K.r 0 (N.nd h t l) n = eb at *
  generalize N.fdI N.K.l 1 (N.nd h t l) n = ic at *
  generalize N.fdR N.K.l 1 (N.nd h t l) n = rc at *
  generalize N.fdE N.K.l 1 (N.nd h t l) n = ec at *
  generalize (⟨(N.enc (N.nd h t l)).toArray⟩ : ByteArray) = sx at *
  unfold N.NArg.v N.nv
  dsimp only
  clear cd hrow n0 n1 n1'
  go_enter Try.func3, Try.ntmps3
  go_wp2_with fail
  refine (HCp.out _ _ _ Z1.out.r0).mono ?_
  rintro e w2 ⟨v, rfl, hm⟩
  obtain ⟨io, jc, hv, Z2⟩ := Z1.out.made hm
  have X2 := Lib.hid (X1.out.below hm.below)
  subst hv
  clear hm Z1 X1
  have S2 : Hid (N.S2 w w.heap.size w2.heap.size h t l ao io ca jc (w2.alloc (.cells #[.int .i64 h, .string t, .slice io l.length jc] 24))) := ⟨Z2.out.on ((Below.refl _ _).alloc (Nat.le_refl _) _), X2.out.alloc _, N.Nb.new w2 h t _ _⟩
  clear Z2 X2
  have y0 := S2.out.i.c0
  have y1 := S2.out.i.c1
  have y2 := S2.out.i.c2
  obtain ⟨bi, hbi⟩ : ∃ bi, Hid (w2.heap.size = bi) := ⟨_, rfl⟩
  go_wp2_with fail
  refine (HMs.out _ _ _ S2.out.kn.r0).mono ?_
  rintro e w3 ⟨rfl, hb⟩
  have S3 := S2.out.on hb
  rw [hbi.out] at S3
  have S3 := Lib.hid (S3.alloc (.cells #[.int .i64 ma, .int .i64 mb, .int .i64 mc] 27))
  have M3 := Lib.hid (M.Own.new w3 ma mb mc 27)
  clear hb S2 y0 y1 y2
  have x0 := S3.out.x.c0
  have x1 := S3.out.x.c1
  have x2 := S3.out.x.c2
  obtain ⟨b6, hb6⟩ : ∃ b6, Hid (w3.heap.size = b6) := ⟨_, rfl⟩
  go_wp2_with fail
  rw [hb6.out, hbi.out]
  refine (HMs'.out _ _ _ S3.out.kn.tl.r0).mono ?_
  rintro e w4 ⟨rfl, hb⟩
  have M4 := M3.out.below hb
  rw [hb6.out] at M4
  have S4 : Hid (N.S4 w w.heap.size bi b6 w4.heap.size ma mb mc h t l ao io ca jc (w4.alloc (.cells #[.int .i64 ma, .int .i64 mb, .int .i64 mc] 27))) := ⟨(S3.out.on hb).alloc _, M4.alloc _, M.Own.new w4 ma mb mc 27⟩
  clear hb S3 M3 M4 x0 x1 x2
  go_upto_region 4 with (fail)
  obtain ⟨b8, hb8⟩ : ∃ b8, Hid (w4.heap.size = b8) := ⟨_, rfl⟩
  rw [hb8.out] at S4 ⊢
  generalize w4.alloc (.cells #[.int .i64 ma, .int .i64 mb, .int .i64 mc] 27) = V at S4 ⊢
  have HC : Hid (∀ V, N.S4 w w.heap.size bi b6 b8 ma mb mc h t l ao io ca jc V → V.cell? ⟨w.heap.size, 0, none⟩ = some (.int .i64 h) ∧ V.cell? ⟨w.heap.size, 1, none⟩ = some (.string t) ∧ V.cell? ⟨w.heap.size, 2, none⟩ = some (.slice ao l.length ca) ∧ V.cell? ⟨bi, 0, none⟩ = some (.int .i64 h) ∧ V.cell? ⟨bi, 1, none⟩ = some (.string t) ∧ V.cell? ⟨bi, 2, none⟩ = some (.slice io l.length jc) ∧ V.cell? ⟨b6, 0, none⟩ = some (.int .i64 ma) ∧ V.cell? ⟨b6, 1, none⟩ = some (.int .i64 mb) ∧ V.cell? ⟨b6, 2, none⟩ = some (.int .i64 mc) ∧ V.cell? ⟨b8, 0, none⟩ = some (.int .i64 ma) ∧ V.cell? ⟨b8, 1, none⟩ = some (.int .i64 mb) ∧ V.cell? ⟨b8, 2, none⟩ = some (.int .i64 mc)) := fun V q => ⟨q.s.x.c0, q.s.x.c1, q.s.x.c2, q.s.i.c0, q.s.i.c1, q.s.i.c2, q.m.c0, q.m.c1, q.m.c2, q.k.c0, q.k.c1, q.k.c2⟩
  clear hb8 hb6 hbi
  go_cut [46] (fun u wx => u = .bool false ∧ Hid (N.S4 w w.heap.size bi b6 b8 ma mb mc h t l ao io ca jc wx))
  case first =>
    obtain ⟨c0, c1, c2, c3, c4, c5, c6, c7, c8, c9, c10, c11⟩ := HC.out _ S4.out
    go_region_held3 (fun V => (V.cell? ⟨w.heap.size, 0, none⟩ = some (.int .i64 h) ∧ V.cell? ⟨w.heap.size, 1, none⟩ = some (.string t) ∧ V.cell? ⟨w.heap.size, 2, none⟩ = some (.slice ao l.length ca) ∧ V.cell? ⟨bi, 0, none⟩ = some (.int .i64 h) ∧ V.cell? ⟨bi, 1, none⟩ = some (.string t) ∧ V.cell? ⟨bi, 2, none⟩ = some (.slice io l.length jc) ∧ V.cell? ⟨b6, 0, none⟩ = some (.int .i64 ma) ∧ V.cell? ⟨b6, 1, none⟩ = some (.int .i64 mb) ∧ V.cell? ⟨b6, 2, none⟩ = some (.int .i64 mc) ∧ V.cell? ⟨b8, 0, none⟩ = some (.int .i64 ma) ∧ V.cell? ⟨b8, 1, none⟩ = some (.int .i64 mb) ∧ V.cell? ⟨b8, 2, none⟩ = some (.int .i64 mc)) ∧ N.S4 w w.heap.size bi b6 b8 ma mb mc h t l ao io ca jc V)
      (first
        | exact ⟨HC.out _ S4.out, S4.out⟩
        | exact ⟨HC.out _ S4.out.drew, S4.out.drew⟩
        | (go_split_ands; refine ⟨⟨?_, ?_, ?_, ?_, ?_, ?_, ?_, ?_, ?_, ?_, ?_, ?_⟩, ?_⟩ <;> with_reducible assumption))
      (first
        | (go_at_call 15; (with_reducible refine (HCk.out _ _ _ S4.out.drew.s.kn.r0).mono ?_); rintro e w5 ⟨rfl, hb5⟩; have hT5 := S4.out.drew.on hb5; obtain ⟨d0, d1, d2, d3, d4, d5, d6, d7, d8, d9, d10, d11⟩ := HC.out _ hT5)
        | (go_at_call 16; (with_reducible refine (HCk'.out _ _ _ hT5.s.kn.tl.r0).mono ?_); rintro e w6 ⟨rfl, hb6⟩; have hT6 := hT5.on hb6; obtain ⟨e0, e1, e2, e3, e4, e5, e6, e7, e8, e9, e10, e11⟩ := HC.out _ hT6))
    all_goals
      go_wp2_with fail
      go_meet
      case rel => exact ⟨by simp, by show N.S4 _ _ _ _ _ _ _ _ _ _ _ _ _ _ _ _; with_reducible assumption⟩
  case rest =>
    obtain ⟨rfl, hS⟩ := hcut
    have S0 := Lib.hid hS.out.s
    clear hS S4 HC
    have y0 := S0.out.i.c0
    have y1 := S0.out.i.c1
    have y2 := S0.out.i.c2
    go_wp2_with fail
    refine (HCh.out _ _ _ S0.out.kn.r0).mono ?_
    rintro e u6 ⟨rfl, hb⟩
    have T6 := Lib.hid (S0.out.on hb)
    clear hb y0 y1 y2 S0
    have y0 := T6.out.x.c0
    have y1 := T6.out.x.c1
    have y2 := T6.out.x.c2
    go_wp2_with fail
    refine (HCh'.out _ _ _ T6.out.kn.tl.r0).mono ?_
    rintro e u7 ⟨rfl, hb⟩
    have T7 := Lib.hid (T6.out.on hb)
    clear hb y0 y1 y2 T6
    have y0 := T7.out.i.c0
    have y1 := T7.out.i.c1
    have y2 := T7.out.i.c2
    go_wp2_with fail
    refine (HRn.out _ _ _ T7.out.kn.r0).mono ?_
    rintro e u8 ⟨rfl, hb⟩
    have T8 := Lib.hid (T7.out.on hb)
    clear hb y0 y1 y2 T7
    have y0 := T8.out.x.c0
    have y1 := T8.out.x.c1
    have y2 := T8.out.x.c2
    go_wp2_with fail
    refine (HRn'.out _ _ _ T8.out.kn.tl.r0).mono ?_
    rintro e u9 ⟨rfl, hb⟩
    have T9 := Lib.hid (T8.out.on hb)
    clear hb y0 y1 y2 T8
    have y0 := T9.out.i.c0
    have y1 := T9.out.i.c1
    have y2 := T9.out.i.c2
    go_wp2_with fail
    refine (HLn.out _ _ _ T9.out.kn.r0).mono ?_
    rintro e u10 ⟨rfl, hb⟩
    have T10 := Lib.hid (T9.out.on hb)
    clear hb y0 y1 y2 T9
    have y0 := T10.out.x.c0
    have y1 := T10.out.x.c1
    have y2 := T10.out.x.c2
    go_wp2_with fail
    refine (HLn'.out _ _ _ T10.out.kn.tl.r0).mono ?_
    rintro e u11 ⟨rfl, hb⟩
    have T11 := Lib.hid (T10.out.on hb)
    clear hb y0 y1 y2 T10
    have y0 := T11.out.i.c0
    have y1 := T11.out.i.c1
    have y2 := T11.out.i.c2
    go_wp2_with fail
    refine (HEn.out _ _ _ T11.out.kn.r0).mono ?_
    rintro e u12 ⟨rfl, hb⟩
    have T12 := Lib.hid (T11.out.on hb)
    clear hb y0 y1 y2 T11
    have y0 := T12.out.x.c0
    have y1 := T12.out.x.c1
    have y2 := T12.out.x.c2
    go_wp2_with fail
    refine (HEn'.out _ _ _ T12.out.kn.tl.r0).mono ?_
    rintro e u13 ⟨rfl, hb⟩
    have T13 := Lib.hid (T12.out.on hb)
    clear hb y0 y1 y2 T12
    have q1 : (sx.toList == sx.toList) = true := by simp
    have y0 := T13.out.i.c0
    have y1 := T13.out.i.c1
    have y2 := T13.out.i.c2
    have z0 := T13.out.x.c0
    have z1 := T13.out.x.c1
    have z2 := T13.out.x.c2
    go_wp2_with fail
    refine (HEq.out _ _ _ _ _ T13.out.kn.r0 T13.out.kn.tl.r0).mono ?_
    rintro e u20 ⟨rfl, hb⟩
    have B20 := Lib.hid (T13.out.kn.below.trans (hb.mono T13.out.kn.below.size))
    clear hb y0 y1 y2 z0 z1 z2 T13
    go_wp2_with fail
    refine (HK.out _).mono ?_
    rintro e wk ⟨rfl, hb⟩
    have KC := Lib.hid (B20.out.trans (hb.mono B20.out.size))
    clear hb
    go_wp2
    go_ret
    exact ⟨rfl, KC.out⟩
end Go.Proofs.Ytdpaleldalplfaa
