/- Texts joined: NodeLaws5 NodeLaws7 NodeLaws8 -/
import Derived.Test.YtdpaleldalplfaaNodeSpoil
import Derived.Test.YtdpaleldalplfaaNodeLaws0
import Derived.Deep.RegionHeld3
import Derived.Test.YtdpaleldalplfaaNodeRefDec
/- NodeLaws5 -/
namespace Go.Proofs.Ytdpaleldalplfaa
open Go.RowKit

set_option maxRecDepth 100000 in
set_option maxHeartbeats 8000000 in
theorem nodeMakes_walk (s : ByteArray) (h : Int) (r : N.Src) (w : World) (hs : s.size ≤ 140737488351232) (_ : -9223372036854775808 ≤ h) (_ : h < 9223372036854775808) (hr : N.ArgOk w r) :
    Calls Try.prog 4 #[.string s, .int .i64 h, .slice r.a r.x.length r.c] w fun e w' => e = .returned (.bool true) ∧ Below w.heap.size w w' := by
  have hrow := hr.row
  have hfit := hr.fit
  have hfits := hr.fits
  obtain ⟨ao, ca, l⟩ := r
  dsimp only at hrow hfit hfits
  clear hr
  have hsm : s.size ≤ maxLen := by unfold maxLen; omega
  have hlm : l.length ≤ maxLen := by unfold maxLen; omega
  have HL : Hid (∀ W, Calls Try.prog 27 #[.string s] W fun e w' => e = .returned (.tuple #[.agg #[.int .i64 0, .string (N.rT s), .slice none 0 0], .int .i64 (N.chk (N.nd 0 s []))]) ∧ Below W.heap.size W w') := fun W => leaf12_any s W hsm
  have HL' : Hid (∀ W, Calls Try.prog 28 #[.string s] W fun e w' => e = .returned (.tuple #[.agg #[.int .i64 0, .string (N.rT s), .slice none 0 0], .int .i64 (N.chk (N.nd 0 s []))]) ∧ Below W.heap.size W w') := fun W => refLeaf12_any s W hsm
  have HEl : Hid (∀ W, Calls Try.prog 25 #[.agg #[.int .i64 0, .string (N.rT s), .slice none 0 0], .agg #[.int .i64 0, .string (N.rT s), .slice none 0 0]] W fun e w' => e = .returned (.bool true) ∧ Below W.heap.size W w') := fun W => (N.hEq (h := 0) (k := 0) (s := N.rT s) (t := N.rT s) (a := []) (b := []) (Nat.zero_le _) true (decide_eq_true rfl)).out none 0 none 0 W (N.row_nil _ _) (N.row_nil _ _)
  have HCp : Hid (∀ W, N.Row W ao l → Calls Try.prog 29 #[.slice ao l.length ca] W fun e w' => ∃ v, e = .returned v ∧ N.Made l W v w') := fun W hW => copyKids_any ao ca l W hW hfit
  have HI : Hid (∀ yo yc W, N.Row W yo l → Calls Try.prog 30 #[.int .i64 h, .slice yo l.length yc] W fun e w' => ∃ v, e = .returned (.tuple #[.agg #[.int .i64 (N.rH h l), .string ⟨#[]⟩, v], .int .i64 (N.chk (N.nd h ⟨#[]⟩ l))]) ∧ N.Made (N.rL h l) W v w') := fun yo yc W hW => inner12_any h yo yc l W hlm hW hfits
  have HI' : Hid (∀ W, N.Row W ao l → Calls Try.prog 31 #[.int .i64 h, .slice ao l.length ca] W fun e w' => ∃ v, e = .returned (.tuple #[.agg #[.int .i64 (N.rH h l), .string ⟨#[]⟩, v], .int .i64 (N.chk (N.nd h ⟨#[]⟩ l))]) ∧ N.Made (N.rL h l) W v w') := fun W hW => refInner12_any h ao ca l W hfit hW hfits
  have hrl : (N.rL h l).length ≤ 1000000 := by
    unfold N.rL
    split
    · rename_i hc; have := (N.in_small hc).1; omega
    · exact Nat.zero_le _
  have HEq := N.hEq (h := N.rH h l) (k := N.rH h l) (s := ⟨#[]⟩) (t := ⟨#[]⟩) (a := N.rL h l) (b := N.rL h l) (by unfold maxLen; omega) true (decide_eq_true rfl)
  have HEk : Hid (∀ yo yc W, N.Row W yo l → N.Row W ao l → Calls Try.prog 33 #[.slice yo l.length yc, .slice ao l.length ca] W fun e w' => e = .returned (.bool true) ∧ Below W.heap.size W w') := fun yo yc W h1 h2 => by
    have := equalKids_any yo ao yc ca l l W h1 h2 hlm
    rwa [decide_eq_true rfl] at this
  have HK := N.hAw
  have HRl := Lib.hid hrl
  have HR := Lib.hid hrow
  have e1 : (N.chk (N.nd 0 s []) != N.chk (N.nd 0 s [])) = false := by simp
  have e2 : (N.chk (N.nd h ⟨#[]⟩ l) != N.chk (N.nd h ⟨#[]⟩ l)) = false := by simp
  generalize N.rT s = u at *
  generalize N.chk (N.nd 0 s []) = c1 at *
  generalize N.chk (N.nd h ⟨#[]⟩ l) = c2 at *
  generalize N.rH h l = rh at *
  obtain ⟨L, hL⟩ : ∃ L, N.rL h l = L := ⟨_, rfl⟩
  rw [hL] at HI HI' HEq HRl
  have B0 : Hid (Below w.heap.size w w) := Below.refl _ _
  clear hL hrow hfit hfits hsm hlm hrl hs
  go_enter Try.func4, Try.ntmps4
  go_wp2_with fail
  refine (HL.out _).mono ?_
  rintro e w1 ⟨rfl, hb⟩
  have B1 := Lib.hid ((B0.out.trans (hb.mono B0.out.size)).alloc (B0.out.trans (hb.mono B0.out.size)).size (.cells #[.int .i64 0, .string u, .slice none 0 0] 24))
  have X1 := Lib.hid (N.Nb.new w1 0 u (.slice none 0 0) 24)
  clear hb B0
  go_wp2_with fail
  refine (HL'.out _).mono ?_
  rintro e w2 ⟨rfl, hb⟩
  have B2 := Lib.hid ((B1.out.trans (hb.mono B1.out.size)).alloc (B1.out.trans (hb.mono B1.out.size)).size (.cells #[.int .i64 0, .string u, .slice none 0 0] 24))
  have X2 := (X1.out.below hb).alloc (.cells #[.int .i64 0, .string u, .slice none 0 0] 24)
  have x0 := X2.c0
  have x1 := X2.c1
  have x2 := X2.c2
  clear hb B1 X1 X2
  go_wp2_with fail
  refine (HEl.out _).mono ?_
  rintro e w3 ⟨rfl, hb⟩
  have B3 := Lib.hid (B2.out.trans (hb.mono B2.out.size))
  clear hb B2 x0 x1 x2
  go_wp2_with fail
  refine (HCp.out _ (HR.out.below B3.out)).mono ?_
  rintro e wk ⟨v, rfl, hm⟩
  obtain ⟨io, ic, hv, hro, _⟩ := hm.src
  have ZK : Hid (N.Kn w wk [(io, l), (ao, l)]) := ⟨B3.out.trans (hm.below.mono B3.out.size), fun p hp => by
    simp only [List.mem_cons, List.not_mem_nil, or_false] at hp
    rcases hp with rfl | rfl
    · exact hro
    · exact HR.out.below (B3.out.trans (hm.below.mono B3.out.size))⟩
  subst hv
  clear hm hro B3
  go_wp2_with fail
  refine (HI.out _ _ _ ZK.out.r0).mono ?_
  rintro e w5 ⟨v, rfl, hm⟩
  obtain ⟨vo, vc, hv, hro, _⟩ := hm.src
  have B5 := Lib.hid (hm.below.alloc hm.below.size (.cells #[.int .i64 rh, .string ⟨#[]⟩, v] 24))
  have O5 := Lib.hid (hm.own.alloc (.cells #[.int .i64 rh, .string ⟨#[]⟩, v] 24))
  have X5 := Lib.hid (N.Nb.new w5 rh ⟨#[]⟩ v 24)
  have R5 := Lib.hid (hro.below ((Below.refl _ _).alloc (Nat.le_refl _) (.cells #[.int .i64 rh, .string ⟨#[]⟩, v] 24)))
  subst hv
  clear hm hro
  go_wp2_with fail
  refine (HI'.out _ (((ZK.out.on B5.out)).tl.r0)).mono ?_
  rintro e w6 ⟨v, rfl, hm⟩
  obtain ⟨uo, uc, hv, hro, _⟩ := hm.src
  have hbb := hm.below.alloc hm.below.size (.cells #[.int .i64 rh, .string ⟨#[]⟩, v] 24)
  have B6 := Lib.hid (B5.out.trans (hbb.mono B5.out.size))
  have O6 := Lib.hid (D.own_below O5.out hbb)
  have X6 := Lib.hid (X5.out.below hbb)
  have R6 := Lib.hid (R5.out.below hbb)
  have Y6 := Lib.hid (N.Nb.new w6 rh ⟨#[]⟩ v 24)
  have Q6 := Lib.hid (hro.below ((Below.refl _ _).alloc (Nat.le_refl _) (.cells #[.int .i64 rh, .string ⟨#[]⟩, v] 24)))
  subst hv
  have x0 := X6.out.c0
  have x1 := X6.out.c1
  have x2 := X6.out.c2
  clear hm hro hbb B5 O5 X5 R5
  go_wp2_with fail
  refine (HEq.out _ _ _ _ _ R6.out Q6.out).mono ?_
  rintro e w7 ⟨rfl, hb⟩
  have B7 := Lib.hid (B6.out.trans (hb.mono B6.out.size))
  have O7 := Lib.hid (D.own_below O6.out hb)
  have X7 := X6.out.below hb
  clear hb B6 O6 X6 R6 Y6 Q6 x0 x1 x2
  have x0 := X7.c0
  have x1 := X7.c1
  have x2 := X7.c2
  go_wp2_with fail
  refine (spoil12_any rh ⟨#[]⟩ _ L _ w7 HRl.out O7.out).mono ?_
  rintro e w8 ⟨rfl, hg⟩
  have B8 := Lib.hid (B7.out.grown hg B7.out.size (fun k e => (O7.out.lt k e).1))
  have Z8 := Lib.hid (ZK.out.on B8.out)
  clear hg B7 O7 X7 x0 x1 x2 B8
  go_wp2_with fail
  refine (HEk.out _ _ _ Z8.out.r0 Z8.out.tl.r0).mono ?_
  rintro e w9 ⟨rfl, hb⟩
  have Z9 := Lib.hid (Z8.out.on hb)
  clear hb Z8
  go_wp2_with fail
  refine (HK.out _).mono ?_
  rintro e wl ⟨rfl, hb⟩
  have KC := Lib.hid (Z9.out.below.trans (hb.mono Z9.out.below.size))
  clear hb
  go_wp2
  go_ret
  exact ⟨rfl, KC.out⟩
end Go.Proofs.Ytdpaleldalplfaa
/- NodeLaws7 -/
namespace Go.Proofs.Ytdpaleldalplfaa
open Go.RowKit

theorem refEqual12_any (h k : Int) (s t : ByteArray) (ao bo : Option Addr) (ca cb : Nat) (a b : List N.K) (w : World) (ha : N.Row w ao a) (hb : N.Row w bo b) (la : a.length ≤ maxLen) :
    Calls Try.prog 37 #[N.nv h s (.slice ao a.length ca), N.nv k t (.slice bo b.length cb)] w fun e w' => e = .returned (.bool (decide (N.nd h s a = N.nd k t b))) ∧ Below w.heap.size w w' := by
  have B1 : Hid (Below w.heap.size w ((w.alloc (.cells #[.int .i64 h, .string s, .slice ao a.length ca] 24)).alloc (.cells #[.int .i64 k, .string t, .slice bo b.length cb] 24))) := ((Below.refl _ _).alloc (Nat.le_refl _) _).alloc (by simp) _
  have HE := Lib.hid (equalNode_any h k s t ao bo ca cb a b _ (ha.below B1.out) (hb.below B1.out) la)
  unfold N.nv at *
  generalize decide (N.nd h s a = N.nd k t b) = u at *
  clear ha hb la
  go_enter Try.func37, Try.ntmps37
  go_wp2_with (go_at_call 25; refine HE.out.mono ?_; rintro e w1 ⟨rfl, hb⟩; have B2 := Lib.hid (B1.out.trans (hb.mono B1.out.size)); clear hb)
  go_ret
  exact ⟨rfl, B2.out⟩
theorem N.hQ' {h k : Int} {s t : ByteArray} {a b : List N.K} (c : a.length ≤ maxLen) (u : Bool) (hu : decide (N.nd h s a = N.nd k t b) = u) : Hid (∀ ao ca bo cb W, N.Row W ao a → N.Row W bo b → Calls Try.prog 37 #[.agg #[.int .i64 h, .string s, .slice ao a.length ca], .agg #[.int .i64 k, .string t, .slice bo b.length cb]] W fun e w' => e = .returned (.bool u) ∧ Below W.heap.size W w') := fun ao ca bo cb W ha hb => by
  have := refEqual12_any h k s t ao bo ca cb a b W ha hb c
  rwa [hu] at this
def N.Mark (W V : World) : Prop := Below W.heap.size W V
/-- The two arguments: their boxes, and their rows. -/
structure N.F (w : World) (ba bb : Nat) (h k : Int) (t r : ByteArray) (l m : List N.K) (ao bo : Option Addr) (ca cb : Nat) (W : World) : Prop where
  ra : N.Row w ao l
  rb : N.Row w bo m
  below : Below w.heap.size w W
  a : N.Nb W ba h t (.slice ao l.length ca)
  b : N.Nb W bb k r (.slice bo m.length cb)
theorem N.F.mark {w : World} {ba bb : Nat} {h k : Int} {t r : ByteArray} {l m : List N.K} {ao bo : Option Addr} {ca cb : Nat} {W V : World} (f : N.F w ba bb h k t r l m ao bo ca cb W) (hb : N.Mark W V) : N.F w ba bb h k t r l m ao bo ca cb V := ⟨f.ra, f.rb, f.below.trans (Below.mono hb f.below.size), f.a.below hb, f.b.below hb⟩
theorem N.F.alloc {w : World} {ba bb : Nat} {h k : Int} {t r : ByteArray} {l m : List N.K} {ao bo : Option Addr} {ca cb : Nat} {W : World} (f : N.F w ba bb h k t r l m ao bo ca cb W) (ob : Obj) : N.F w ba bb h k t r l m ao bo ca cb (W.alloc ob) := f.mark ((Below.refl _ _).alloc (Nat.le_refl _) ob)
theorem N.F.drew {w : World} {ba bb : Nat} {h k : Int} {t r : ByteArray} {l m : List N.K} {ao bo : Option Addr} {ca cb : Nat} {W : World} (f : N.F w ba bb h k t r l m ao bo ca cb W) : N.F w ba bb h k t r l m ao bo ca cb W.drew := f.mark (Below.refl _ _).drew
theorem N.Nb.keep {W : World} {b c : Nat} {h : Int} {t : ByteArray} {v : Value} (x : N.Nb W b h t v) (hne : b ≠ c) (p q s : Value) : N.Nb (N.put3 W c p q s) b h t v := by
  have q1 : ∀ i j : Nat, (⟨c, i, none⟩ : Addr) ≠ ⟨b, j, none⟩ := fun i j e => hne (by injection e with e1; exact e1.symm)
  have q2 : ∀ i j : Nat, (⟨b, j, none⟩ : Addr) ≠ ⟨c, i, none⟩ := fun i j e => hne (by injection e)
  have k : ∀ o : Nat, (N.put3 W c p q s).cell? ⟨b, o, none⟩ = W.cell? ⟨b, o, none⟩ := fun o => by
    unfold N.put3
    rw [World.cell?_setCell_other _ _ _ _ (by first | exact q1 _ _ | exact q2 _ _), World.cell?_setCell_other _ _ _ _ (by first | exact q1 _ _ | exact q2 _ _), World.cell?_setCell_other _ _ _ _ (by first | exact q1 _ _ | exact q2 _ _)]
  exact ⟨by simpa using x.lt, (k 0).trans x.c0, (k 1).trans x.c1, (k 2).trans x.c2⟩
theorem N.F.put {w : World} {ba bb : Nat} {h k : Int} {t r : ByteArray} {l m : List N.K} {ao bo : Option Addr} {ca cb : Nat} {W : World} (f : N.F w ba bb h k t r l m ao bo ca cb W) (c : Nat) (h1 : w.heap.size ≤ c) (h2 : ba ≠ c) (h3 : bb ≠ c) (p q s : Value) : N.F w ba bb h k t r l m ao bo ca cb (N.put3 W c p q s) := ⟨f.ra, f.rb, N.put3_below f.below h1 _ _ _, f.a.keep h2 _ _ _, f.b.keep h3 _ _ _⟩
theorem N.F.cells {w : World} {ba bb : Nat} {h k : Int} {t r : ByteArray} {l m : List N.K} {ao bo : Option Addr} {ca cb : Nat} {V : World} (f : N.F w ba bb h k t r l m ao bo ca cb V) : (V.cell? ⟨ba, 0, none⟩ = some (.int .i64 h) ∧ V.cell? ⟨ba, 1, none⟩ = some (.string t) ∧ V.cell? ⟨ba, 2, none⟩ = some (.slice ao l.length ca) ∧ V.cell? ⟨bb, 0, none⟩ = some (.int .i64 k) ∧ V.cell? ⟨bb, 1, none⟩ = some (.string r) ∧ V.cell? ⟨bb, 2, none⟩ = some (.slice bo m.length cb)) ∧ N.F w ba bb h k t r l m ao bo ca cb V := ⟨⟨f.a.c0, f.a.c1, f.a.c2, f.b.c0, f.b.c1, f.b.c2⟩, f⟩
theorem N.F.rowA {w : World} {ba bb : Nat} {h k : Int} {t r : ByteArray} {l m : List N.K} {ao bo : Option Addr} {ca cb : Nat} {V : World} (f : N.F w ba bb h k t r l m ao bo ca cb V) : N.Row V ao l := f.ra.below f.below
theorem N.F.rowB {w : World} {ba bb : Nat} {h k : Int} {t r : ByteArray} {l m : List N.K} {ao bo : Option Addr} {ca cb : Nat} {V : World} (f : N.F w ba bb h k t r l m ao bo ca cb V) : N.Row V bo m := f.rb.below f.below
/-- A row that one call has made, between two sizes of the heap. -/
structure N.RO (lo hi : Nat) (v : Value) (l : List N.K) (W : World) : Prop where
  own : W.ownsRow 0 52 4 v l.length (N.cells l)
  at_ : ∀ k, v.ownBlock = some k → lo ≤ k ∧ k < hi
theorem N.Made.ro {l : List N.K} {W W' : World} {v : Value} (m : N.Made l W v W') : N.RO W.heap.size W'.heap.size v l W' := ⟨D.own_mono m.own (Nat.zero_le _), fun k hk => m.own.lt k hk⟩
theorem N.RO.mark {lo hi : Nat} {v : Value} {l : List N.K} {W V : World} (x : N.RO lo hi v l W) (hb : N.Mark W V) : N.RO lo hi v l V := ⟨D.own_below x.own hb, x.at_⟩
theorem N.RO.alloc {lo hi : Nat} {v : Value} {l : List N.K} {W : World} (x : N.RO lo hi v l W) (ob : Obj) : N.RO lo hi v l (W.alloc ob) := x.mark ((Below.refl _ _).alloc (Nat.le_refl _) ob)
theorem N.RO.drew {lo hi : Nat} {v : Value} {l : List N.K} {W : World} (x : N.RO lo hi v l W) : N.RO lo hi v l W.drew := x.mark (Below.refl _ _).drew
theorem N.RO.put {lo hi : Nat} {v : Value} {l : List N.K} {W : World} (x : N.RO lo hi v l W) (c : Nat) (hc : c < lo ∨ hi ≤ c) (p q s : Value) : N.RO lo hi v l (N.put3 W c p q s) := by
  have hne : v.ownBlock ≠ some c := fun e => by have := x.at_ c e; omega
  have step : ∀ {V : World} (o : Nat) (z : Value), V.ownsRow 0 52 4 v l.length (N.cells l) → (V.setCell ⟨c, o, none⟩ z).ownsRow 0 52 4 v l.length (N.cells l) := fun {V} o z m =>
    m.kept (row := some c) ⟨rfl, rfl, rfl, by simp [World.setCell], fun j _ hj => Below.heap_setCell _ _ _ _ (fun e => hj (by simpa using e))⟩ (.inr hne)
  exact ⟨step 2 s (step 1 q (step 0 p x.own)), x.at_⟩
theorem N.RO.row {lo hi : Nat} {ao : Option Addr} {c n : Nat} {l : List N.K} {W : World} (x : N.RO lo hi (.slice ao n c) l W) : N.Row W ao l := by
  obtain ⟨bo', bc', e, r, _⟩ := (⟨x.own, ⟨rfl, rfl, rfl, Nat.zero_le _, fun k hk => absurd hk (Nat.not_lt_zero _)⟩⟩ : N.Made l { W with heap := #[] } _ W).src
  cases e; exact r
theorem N.Own.new' (W : World) (x y z : Value) (T : TypeId) (b : Nat) (hb : W.heap.size = b) : N.Own (W.alloc (.cells #[x, y, z] T)) b x y z := by subst hb; exact N.Own.new W x y z T
theorem N.Own.mark {W V : World} {b : Nat} {x y z : Value} (o : N.Own W b x y z) (hb : N.Mark W V) : N.Own V b x y z := o.below hb
theorem N.Own.nb {W : World} {b : Nat} {h : Int} {t : ByteArray} {v : Value} (o : N.Own W b (.int .i64 h) (.string t) v) : N.Nb W b h t v := ⟨o.lt, o.c0, o.c1, o.c2⟩
/-- Two nodes and their copies, each in a box, and their rows. -/
structure N.E4 (w : World) (ba bb b5 b6 : Nat) (h k : Int) (t r : ByteArray) (l m : List N.K) (ao bo xo yo : Option Addr) (ca cb xc yc : Nat) (W : World) : Prop where
  kn : N.Kn w W [(xo, l), (yo, m), (ao, l), (bo, m)]
  a : N.Nb W ba h t (.slice ao l.length ca)
  b : N.Nb W bb k r (.slice bo m.length cb)
  x : N.Nb W b5 h t (.slice xo l.length xc)
  y : N.Nb W b6 k r (.slice yo m.length yc)
theorem N.E4.on {w : World} {ba bb b5 b6 : Nat} {h k : Int} {t r : ByteArray} {l m : List N.K} {ao bo xo yo : Option Addr} {ca cb xc yc : Nat} {W W' : World} (s : N.E4 w ba bb b5 b6 h k t r l m ao bo xo yo ca cb xc yc W) (hb : Below W.heap.size W W') : N.E4 w ba bb b5 b6 h k t r l m ao bo xo yo ca cb xc yc W' := ⟨s.kn.on hb, s.a.below hb, s.b.below hb, s.x.below hb, s.y.below hb⟩
theorem N.E4.drew {w : World} {ba bb b5 b6 : Nat} {h k : Int} {t r : ByteArray} {l m : List N.K} {ao bo xo yo : Option Addr} {ca cb xc yc : Nat} {W : World} (s : N.E4 w ba bb b5 b6 h k t r l m ao bo xo yo ca cb xc yc W) : N.E4 w ba bb b5 b6 h k t r l m ao bo xo yo ca cb xc yc W.drew := s.on (Below.refl _ _).drew
def N.E4x (w : World) (ba bb : Nat) (h k : Int) (t r : ByteArray) (l m : List N.K) (ao bo : Option Addr) (ca cb : Nat) (p q : Value) (W : World) : Prop :=
  ∃ (b5 b6 : Nat) (xo yo : Option Addr) (xc yc : Nat), p = .pointer (some ⟨b5, 0, none⟩) ∧ q = .pointer (some ⟨b6, 0, none⟩) ∧ N.E4 w ba bb b5 b6 h k t r l m ao bo xo yo ca cb xc yc W
theorem N.E4.mk_ {w : World} {ba bb b5 b6 : Nat} {h k : Int} {t r : ByteArray} {l m : List N.K} {ao bo xo yo : Option Addr} {ca cb xc yc lo hi lo' hi' : Nat} {W : World} (f : N.F w ba bb h k t r l m ao bo ca cb W) (x : N.RO lo hi (.slice xo l.length xc) l W) (y : N.RO lo' hi' (.slice yo m.length yc) m W) (p : N.Own W b5 (.int .i64 h) (.string t) (.slice xo l.length xc)) (q : N.Own W b6 (.int .i64 k) (.string r) (.slice yo m.length yc)) : N.E4 w ba bb b5 b6 h k t r l m ao bo xo yo ca cb xc yc W :=
  ⟨⟨f.below, fun z hz => by
    simp only [List.mem_cons, List.not_mem_nil, or_false] at hz
    rcases hz with rfl | rfl | rfl | rfl
    · exact x.row
    · exact y.row
    · exact f.rowA
    · exact f.rowB⟩, f.a, f.b, p.nb, q.nb⟩
theorem N.E4.mk2 {w : World} {ba bb b5 b6 : Nat} {h k : Int} {t r : ByteArray} {l m : List N.K} {ao bo xo yo : Option Addr} {ca cb xc yc lo hi lo' hi' : Nat} {W W1 W2 : World} (_ : N.RO lo hi (.slice xo l.length xc) l W1) (_ : N.RO lo' hi' (.slice yo m.length yc) m W2) (f : N.F w ba bb h k t r l m ao bo ca cb W) (x : N.RO lo hi (.slice xo l.length xc) l W) (y : N.RO lo' hi' (.slice yo m.length yc) m W) (p : N.Own W b5 (.int .i64 h) (.string t) (.slice xo l.length xc)) (q : N.Own W b6 (.int .i64 k) (.string r) (.slice yo m.length yc)) : N.E4 w ba bb b5 b6 h k t r l m ao bo xo yo ca cb xc yc W := N.E4.mk_ f x y p q
set_option maxRecDepth 100000 in
set_option maxHeartbeats 16000000 in
theorem nodeEquals_walk (x y : N.NArg) (w : World) (hx : N.NOk w x) (hy : N.NOk w y) :
    Calls Try.prog 6 #[x.v, y.v] w fun e w' => e = .returned (.bool true) ∧ Below w.heap.size w w' := by
  have cx := hx.cd
  have cy := hy.cd
  have rx := hx.s.row
  have ry := hy.s.row
  obtain ⟨h, t, ao, ca, l⟩ := x
  obtain ⟨k, r, bo, cb, m⟩ := y
  dsimp only at cx cy rx ry
  clear hx hy
  have HCx := N.hCp cx
  have HCy := N.hCp cy
  obtain ⟨u, hu⟩ : ∃ u, decide (N.nd h t l = N.nd k r m) = u := ⟨_, rfl⟩
  have hu2 : decide (N.nd k r m = N.nd h t l) = u := by rw [← hu]; exact decide_eq_decide.2 ⟨fun e => e.symm, fun e => e.symm⟩
  have HQ := N.hQ (h := h) (k := k) (s := t) (t := r) (a := l) (b := m) cx.len u hu
  have HQr := N.hQ' (h := h) (k := k) (s := t) (t := r) (a := l) (b := m) cx.len u hu
  have HQx := N.hQ (h := h) (k := h) (s := t) (t := t) (a := l) (b := l) cx.len true (decide_eq_true rfl)
  have HQy := N.hQ (h := k) (k := h) (s := r) (t := t) (a := m) (b := l) cy.len u hu2
  have HK := N.hAw
  have X1 := (N.Nb.new w h t (.slice ao l.length ca) 24).alloc (.cells #[.int .i64 k, .string r, .slice bo m.length cb] 24)
  have Y1 := N.Nb.new (w.alloc (.cells #[.int .i64 h, .string t, .slice ao l.length ca] 24)) k r (.slice bo m.length cb) 24
  rw [World.size_alloc] at Y1
  have F1 : N.F w w.heap.size (w.heap.size + 1) h k t r l m ao bo ca cb ((w.alloc (.cells #[.int .i64 h, .string t, .slice ao l.length ca] 24)).alloc (.cells #[.int .i64 k, .string r, .slice bo m.length cb] 24)) := ⟨rx, ry, ((Below.refl _ _).alloc (Nat.le_refl _) _).alloc (by simp) _, X1, Y1⟩
  have F1 := Lib.hid F1
  have S1 : Hid (w.heap.size + 2 ≤ ((w.alloc (.cells #[.int .i64 h, .string t, .slice ao l.length ca] 24)).alloc (.cells #[.int .i64 k, .string r, .slice bo m.length cb] 24)).heap.size) := by show _ ≤ _; simp
  have qu : (u == u) = true := by simp
  unfold N.NArg.v N.nv
  dsimp only
  clear cx cy rx ry hu hu2 X1 Y1
  go_enter Try.func6, Try.ntmps6
  go_upto_region 1 with (fail)
  generalize (w.alloc (.cells #[.int .i64 h, .string t, .slice ao l.length ca] 24)).alloc (.cells #[.int .i64 k, .string r, .slice bo m.length cb] 24) = V at F1 S1 ⊢
  obtain ⟨bb, hbb⟩ : ∃ bb, Hid (w.heap.size + 1 = bb) := ⟨_, rfl⟩
  obtain ⟨ba, hba⟩ : ∃ ba, Hid (w.heap.size = ba) := ⟨_, rfl⟩
  rw [hbb.out] at F1 ⊢
  have F1 : Hid (N.F w ba bb h k t r l m ao bo ca cb V) := by have := F1.out; rw [hba.out] at this; exact (by show N.F _ _ _ _ _ _ _ _ _ _ _ _ _ _; simpa using this)
  rw [hba.out]
  have SS : Hid (w.heap.size ≤ V.heap.size ∧ ba < V.heap.size ∧ bb < V.heap.size) := by have := S1.out; have := hbb.out; have := hba.out; exact ⟨by omega, by omega, by omega⟩
  clear S1 hbb hba
  go_cut [5, 6] (fun p q wx => N.E4x w ba bb h k t r l m ao bo ca cb p q wx)
  case first =>
    obtain ⟨⟨c0, c1, c2, c3, c4, c5⟩, _⟩ := F1.out.cells
    have s0 := SS.out.1
    have s1 := SS.out.2.1
    have s2 := SS.out.2.2
    go_region_held3 (fun V => (V.cell? ⟨ba, 0, none⟩ = some (.int .i64 h) ∧ V.cell? ⟨ba, 1, none⟩ = some (.string t) ∧ V.cell? ⟨ba, 2, none⟩ = some (.slice ao l.length ca) ∧ V.cell? ⟨bb, 0, none⟩ = some (.int .i64 k) ∧ V.cell? ⟨bb, 1, none⟩ = some (.string r) ∧ V.cell? ⟨bb, 2, none⟩ = some (.slice bo m.length cb)) ∧ N.F w ba bb h k t r l m ao bo ca cb V)
      ((refine N.F.cells ?_; repeat' first
        | (with_reducible exact F1.out)
        | (with_reducible refine N.F.drew ?_)
        | (with_reducible refine N.F.alloc ?_ _)
        | (with_reducible refine N.F.put ?_ _ (by first | omega | (simp only [World.size_alloc, World.size_drew]; omega)) (by first | omega | (simp only [World.size_alloc, World.size_drew]; omega)) (by first | omega | (simp only [World.size_alloc, World.size_drew]; omega)) _ _ _)
        | (with_reducible refine N.F.mark ?_ (by assumption))))
      (first
        | (go_at_call 12; first
           | ((with_reducible refine (HCx.out _ _ _ (N.F.rowA (by go_split_ands; with_reducible assumption))).mono ?_); rintro e w2 ⟨v1, rfl, hm1⟩; obtain ⟨xo, xc, hv1, _, _⟩ := hm1.src; have hR1 := hm1.ro; have hmark1 : N.Mark _ _ := hm1.below; have hz1 := hm1.below.size; (try simp only [World.size_drew] at hz1); (try simp only [World.size_alloc] at hz1); subst hv1; clear hm1; (try ((first | (with_reducible have hoA := N.Own.mark (N.Own.new _ _ _ _ _) hmark1) | (with_reducible have hoA := N.Own.mark (N.Own.drew (N.Own.new _ _ _ _ _)) hmark1)); have pA0 := hoA.c0; have pA1 := hoA.c1; have pA2 := hoA.c2; have qA0 := hoA.f0; have qA1 := hoA.f1; have qA2 := hoA.f2; have rAc0 : ∀ z : Obj, _ := fun z => (hoA.alloc z).c0; have rAc1 : ∀ z : Obj, _ := fun z => (hoA.alloc z).c1; have rAc2 : ∀ z : Obj, _ := fun z => (hoA.alloc z).c2; have rAf0 : ∀ z : Obj, _ := fun z => (hoA.alloc z).f0; have rAf1 : ∀ z : Obj, _ := fun z => (hoA.alloc z).f1; have rAf2 : ∀ z : Obj, _ := fun z => (hoA.alloc z).f2; have nA := Nat.ne_of_lt hoA.lt; have mA := Nat.ne_of_gt hoA.lt; (try simp only [World.size_drew] at pA0 pA1 pA2 qA0 qA1 qA2 nA mA rAc0 rAc1 rAc2 rAf0 rAf1 rAf2); (try simp only [World.size_alloc] at pA0 pA1 pA2 qA0 qA1 qA2 nA mA rAc0 rAc1 rAc2 rAf0 rAf1 rAf2))); (try ((first | (with_reducible have hoB := N.Own.mark (N.Own.alloc (N.Own.new _ _ _ _ _) _) hmark1) | (with_reducible have hoB := N.Own.mark (N.Own.drew (N.Own.alloc (N.Own.new _ _ _ _ _) _)) hmark1)); have pB0 := hoB.c0; have pB1 := hoB.c1; have pB2 := hoB.c2; have qB0 := hoB.f0; have qB1 := hoB.f1; have qB2 := hoB.f2; have rBc0 : ∀ z : Obj, _ := fun z => (hoB.alloc z).c0; have rBc1 : ∀ z : Obj, _ := fun z => (hoB.alloc z).c1; have rBc2 : ∀ z : Obj, _ := fun z => (hoB.alloc z).c2; have rBf0 : ∀ z : Obj, _ := fun z => (hoB.alloc z).f0; have rBf1 : ∀ z : Obj, _ := fun z => (hoB.alloc z).f1; have rBf2 : ∀ z : Obj, _ := fun z => (hoB.alloc z).f2; have nB := Nat.ne_of_lt hoB.lt; have mB := Nat.ne_of_gt hoB.lt; (try simp only [World.size_drew] at pB0 pB1 pB2 qB0 qB1 qB2 nB mB rBc0 rBc1 rBc2 rBf0 rBf1 rBf2); (try simp only [World.size_alloc] at pB0 pB1 pB2 qB0 qB1 qB2 nB mB rBc0 rBc1 rBc2 rBf0 rBf1 rBf2))))
           | ((with_reducible refine (HCy.out _ _ _ (N.F.rowB (by go_split_ands; with_reducible assumption))).mono ?_); rintro e w3 ⟨v2, rfl, hm2⟩; obtain ⟨yo, yc, hv2, _, _⟩ := hm2.src; have hR2 := hm2.ro; have hmark2 : N.Mark _ _ := hm2.below; have hz2 := hm2.below.size; (try simp only [World.size_drew] at hz2); (try simp only [World.size_alloc] at hz2); subst hv2; clear hm2; (try ((first | (with_reducible have hoC := N.Own.mark (N.Own.new _ _ _ _ _) hmark2)); have pC0 := hoC.c0; have pC1 := hoC.c1; have pC2 := hoC.c2; have qC0 := hoC.f0; have qC1 := hoC.f1; have qC2 := hoC.f2; have rCc0 : ∀ z : Obj, _ := fun z => (hoC.alloc z).c0; have rCc1 : ∀ z : Obj, _ := fun z => (hoC.alloc z).c1; have rCc2 : ∀ z : Obj, _ := fun z => (hoC.alloc z).c2; have rCf0 : ∀ z : Obj, _ := fun z => (hoC.alloc z).f0; have rCf1 : ∀ z : Obj, _ := fun z => (hoC.alloc z).f1; have rCf2 : ∀ z : Obj, _ := fun z => (hoC.alloc z).f2; have nC := Nat.ne_of_lt hoC.lt; have mC := Nat.ne_of_gt hoC.lt; (try simp only [World.size_drew] at pC0 pC1 pC2 qC0 qC1 qC2 nC mC rCc0 rCc1 rCc2 rCf0 rCf1 rCf2); (try simp only [World.size_alloc] at pC0 pC1 pC2 qC0 qC1 qC2 nC mC rCc0 rCc1 rCc2 rCf0 rCf1 rCf2))); (try ((first | (with_reducible have hoD := N.Own.mark (N.Own.alloc (N.Own.new _ _ _ _ _) _) hmark2)); have pD0 := hoD.c0; have pD1 := hoD.c1; have pD2 := hoD.c2; have qD0 := hoD.f0; have qD1 := hoD.f1; have qD2 := hoD.f2; have rDc0 : ∀ z : Obj, _ := fun z => (hoD.alloc z).c0; have rDc1 : ∀ z : Obj, _ := fun z => (hoD.alloc z).c1; have rDc2 : ∀ z : Obj, _ := fun z => (hoD.alloc z).c2; have rDf0 : ∀ z : Obj, _ := fun z => (hoD.alloc z).f0; have rDf1 : ∀ z : Obj, _ := fun z => (hoD.alloc z).f1; have rDf2 : ∀ z : Obj, _ := fun z => (hoD.alloc z).f2; have nD := Nat.ne_of_lt hoD.lt; have mD := Nat.ne_of_gt hoD.lt; (try simp only [World.size_drew] at pD0 pD1 pD2 qD0 qD1 qD2 nD mD rDc0 rDc1 rDc2 rDf0 rDf1 rDf2); (try simp only [World.size_alloc] at pD0 pD1 pD2 qD0 qD1 qD2 nD mD rDc0 rDc1 rDc2 rDf0 rDf1 rDf2))); (try ((first | (with_reducible have hoE := N.Own.mark (hoA) hmark2) | (with_reducible have hoE := N.Own.mark (N.Own.alloc hoA _) hmark2)); have pE0 := hoE.c0; have pE1 := hoE.c1; have pE2 := hoE.c2; have qE0 := hoE.f0; have qE1 := hoE.f1; have qE2 := hoE.f2; have rEc0 : ∀ z : Obj, _ := fun z => (hoE.alloc z).c0; have rEc1 : ∀ z : Obj, _ := fun z => (hoE.alloc z).c1; have rEc2 : ∀ z : Obj, _ := fun z => (hoE.alloc z).c2; have rEf0 : ∀ z : Obj, _ := fun z => (hoE.alloc z).f0; have rEf1 : ∀ z : Obj, _ := fun z => (hoE.alloc z).f1; have rEf2 : ∀ z : Obj, _ := fun z => (hoE.alloc z).f2; have nE := Nat.ne_of_lt hoE.lt; have mE := Nat.ne_of_gt hoE.lt; (try simp only [World.size_drew] at pE0 pE1 pE2 qE0 qE1 qE2 nE mE rEc0 rEc1 rEc2 rEf0 rEf1 rEf2); (try simp only [World.size_alloc] at pE0 pE1 pE2 qE0 qE1 qE2 nE mE rEc0 rEc1 rEc2 rEf0 rEf1 rEf2))); (try ((first | (with_reducible have hoF := N.Own.mark (hoB) hmark2)); have pF0 := hoF.c0; have pF1 := hoF.c1; have pF2 := hoF.c2; have qF0 := hoF.f0; have qF1 := hoF.f1; have qF2 := hoF.f2; have rFc0 : ∀ z : Obj, _ := fun z => (hoF.alloc z).c0; have rFc1 : ∀ z : Obj, _ := fun z => (hoF.alloc z).c1; have rFc2 : ∀ z : Obj, _ := fun z => (hoF.alloc z).c2; have rFf0 : ∀ z : Obj, _ := fun z => (hoF.alloc z).f0; have rFf1 : ∀ z : Obj, _ := fun z => (hoF.alloc z).f1; have rFf2 : ∀ z : Obj, _ := fun z => (hoF.alloc z).f2; have nF := Nat.ne_of_lt hoF.lt; have mF := Nat.ne_of_gt hoF.lt; (try simp only [World.size_drew] at pF0 pF1 pF2 qF0 qF1 qF2 nF mF rFc0 rFc1 rFc2 rFf0 rFf1 rFf2); (try simp only [World.size_alloc] at pF0 pF1 pF2 qF0 qF1 qF2 nF mF rFc0 rFc1 rFc2 rFf0 rFf1 rFf2))))))
    all_goals
      go_wp2_with fail
      go_meet
      case rel =>
        refine ⟨_, _, _, _, _, _, rfl, rfl, N.E4.mk2 hR1 hR2
          (by go_split_ands; with_reducible assumption)
          (by
            repeat' first
              | (with_reducible exact hR1)
              | (with_reducible refine N.RO.drew ?_)
              | (with_reducible refine N.RO.alloc ?_ _)
              | (with_reducible refine N.RO.put ?_ _ (by first | omega | (simp only [World.size_alloc, World.size_drew]; omega)) _ _ _)
              | (with_reducible refine N.RO.mark ?_ (by assumption)))
          (by
            repeat' first
              | (with_reducible exact hR2)
              | (with_reducible refine N.RO.drew ?_)
              | (with_reducible refine N.RO.alloc ?_ _)
              | (with_reducible refine N.RO.put ?_ _ (by first | omega | (simp only [World.size_alloc]; omega)) _ _ _)
              | (with_reducible refine N.RO.mark ?_ (by assumption)))
          (by
            repeat' first
              | (with_reducible exact N.Own.new _ _ _ _ _)
              | ((with_reducible refine N.Own.new' _ _ _ _ _ _ ?_); (simp only [World.size_alloc]); done)
              | (with_reducible refine N.Own.put (x := .int .i64 0) (y := .string ⟨#[]⟩) (z := .slice none 0 0) ?_ _ _ _)
              | (with_reducible refine N.Own.keep ?_ (by first | omega | (simp only [World.size_alloc, World.size_drew]; omega)) _ _ _)
              | (with_reducible refine N.Own.alloc ?_ _)
              | (with_reducible refine N.Own.drew ?_)
              | (with_reducible refine N.Own.mark ?_ (by assumption)))
          (by
            repeat' first
              | (with_reducible exact N.Own.new _ _ _ _ _)
              | ((with_reducible refine N.Own.new' _ _ _ _ _ _ ?_); (simp only [World.size_alloc]); done)
              | (with_reducible refine N.Own.put (x := .int .i64 0) (y := .string ⟨#[]⟩) (z := .slice none 0 0) ?_ _ _ _)
              | (with_reducible refine N.Own.keep ?_ (by first | omega | (simp only [World.size_alloc, World.size_drew]; omega)) _ _ _)
              | (with_reducible refine N.Own.alloc ?_ _)
              | (with_reducible refine N.Own.drew ?_)
              | (with_reducible refine N.Own.mark ?_ (by assumption)))⟩
  case rest =>
    obtain ⟨b5, b6, xo, yo, xc, yc, rfl, rfl, hS⟩ := hcut
    obtain ⟨V2, rfl⟩ : ∃ V2 : World, V2 = wc := ⟨_, rfl⟩
    have hT := Lib.hid hS
    have HC : Hid (∀ V, N.E4 w ba bb b5 b6 h k t r l m ao bo xo yo ca cb xc yc V → V.cell? ⟨ba, 0, none⟩ = some (.int .i64 h) ∧ V.cell? ⟨ba, 1, none⟩ = some (.string t) ∧ V.cell? ⟨ba, 2, none⟩ = some (.slice ao l.length ca) ∧ V.cell? ⟨bb, 0, none⟩ = some (.int .i64 k) ∧ V.cell? ⟨bb, 1, none⟩ = some (.string r) ∧ V.cell? ⟨bb, 2, none⟩ = some (.slice bo m.length cb) ∧ V.cell? ⟨b5, 0, none⟩ = some (.int .i64 h) ∧ V.cell? ⟨b5, 1, none⟩ = some (.string t) ∧ V.cell? ⟨b5, 2, none⟩ = some (.slice xo l.length xc) ∧ V.cell? ⟨b6, 0, none⟩ = some (.int .i64 k) ∧ V.cell? ⟨b6, 1, none⟩ = some (.string r) ∧ V.cell? ⟨b6, 2, none⟩ = some (.slice yo m.length yc)) := fun V q => ⟨q.a.c0, q.a.c1, q.a.c2, q.b.c0, q.b.c1, q.b.c2, q.x.c0, q.x.c1, q.x.c2, q.y.c0, q.y.c1, q.y.c2⟩
    clear hS F1 SS HCx HCy
    obtain ⟨c0, c1, c2, c3, c4, c5, c6, c7, c8, c9, c10, c11⟩ := HC.out _ hT.out
    go_wp2_with fail
    go_region_held3 (fun V => (V.cell? ⟨ba, 0, none⟩ = some (.int .i64 h) ∧ V.cell? ⟨ba, 1, none⟩ = some (.string t) ∧ V.cell? ⟨ba, 2, none⟩ = some (.slice ao l.length ca) ∧ V.cell? ⟨bb, 0, none⟩ = some (.int .i64 k) ∧ V.cell? ⟨bb, 1, none⟩ = some (.string r) ∧ V.cell? ⟨bb, 2, none⟩ = some (.slice bo m.length cb) ∧ V.cell? ⟨b5, 0, none⟩ = some (.int .i64 h) ∧ V.cell? ⟨b5, 1, none⟩ = some (.string t) ∧ V.cell? ⟨b5, 2, none⟩ = some (.slice xo l.length xc) ∧ V.cell? ⟨b6, 0, none⟩ = some (.int .i64 k) ∧ V.cell? ⟨b6, 1, none⟩ = some (.string r) ∧ V.cell? ⟨b6, 2, none⟩ = some (.slice yo m.length yc)) ∧ N.E4 w ba bb b5 b6 h k t r l m ao bo xo yo ca cb xc yc V)
      (first
        | exact ⟨HC.out _ hT.out, hT.out⟩
        | exact ⟨HC.out _ hT.out.drew, hT.out.drew⟩
        | (go_split_ands; refine ⟨⟨?_, ?_, ?_, ?_, ?_, ?_, ?_, ?_, ?_, ?_, ?_, ?_⟩, ?_⟩ <;> with_reducible assumption))
      (first
        | (go_at_call 36; first
           | ((with_reducible refine (HQ.out _ _ _ _ _ hT.out.drew.kn.r0 hT.out.drew.kn.tl.r0).mono ?_); rintro e w5 ⟨rfl, hb⟩; have hT5 := hT.out.drew.on hb; obtain ⟨d0, d1, d2, d3, d4, d5, d6, d7, d8, d9, d10, d11⟩ := HC.out _ hT5)
           | ((with_reducible refine (HQx.out _ _ _ _ _ hT6.kn.r0 hT6.kn.r0).mono ?_); rintro e w7 ⟨rfl, hb⟩; have hT7 := hT6.on hb; obtain ⟨f0, f1, f2, f3, f4, f5, f6, f7, f8, f9, f10, f11⟩ := HC.out _ hT7)
           | ((with_reducible refine (HQy.out _ _ _ _ _ hT7.kn.tl.r0 hT7.kn.r0).mono ?_); rintro e w8 ⟨rfl, hb⟩; have hT8 := hT7.on hb; obtain ⟨g0, g1, g2, g3, g4, g5, g6, g7, g8, g9, g10, g11⟩ := HC.out _ hT8)
           | ((with_reducible refine (HQ.out _ _ _ _ _ hT8.kn.r0 hT8.kn.tl.r0).mono ?_); rintro e w9 ⟨rfl, hb⟩; have hT9 := hT8.on hb; obtain ⟨i0, i1, i2, i3, i4, i5, i6, i7, i8, i9, i10, i11⟩ := HC.out _ hT9))
        | (go_at_call 37; (with_reducible refine (HQr.out _ _ _ _ _ hT5.kn.tl.tl.r0 hT5.kn.tl.tl.tl.r0).mono ?_); rintro e w6 ⟨rfl, hb⟩; have hT6 := hT5.on hb; obtain ⟨e0, e1, e2, e3, e4, e5, e6, e7, e8, e9, e10, e11⟩ := HC.out _ hT6)
        | (go_at_call 26; (with_reducible refine (HK.out _).mono ?_); rintro e wk ⟨rfl, hb⟩; have hTk := hT9.on hb; obtain ⟨j0, j1, j2, j3, j4, j5, j6, j7, j8, j9, j10, j11⟩ := HC.out _ hTk))
    all_goals
      go_wp2
      go_ret
      refine ⟨rfl, N.Kn.below (rs := [(xo, l), (yo, m), (ao, l), (bo, m)]) (N.E4.kn (ba := ba) (bb := bb) (b5 := b5) (b6 := b6) (h := h) (k := k) (t := t) (r := r) (ca := ca) (cb := cb) (xc := xc) (yc := yc) ?_)⟩
      with_reducible assumption
end Go.Proofs.Ytdpaleldalplfaa
/- NodeLaws8 -/
namespace Go.Proofs.Ytdpaleldalplfaa
open Go.RowKit

theorem N.dc_short (s : List UInt8) : (N.dcX s).ks.length ≤ 4 := by
  unfold N.dcX
  cases hd : N.dec s with
  | none => exact Nat.zero_le _
  | some x =>
    obtain ⟨hc, _⟩ := N.enc_dec hd
    rcases N.chk_cases hc with k | k
    · show x.ks.length ≤ 4
      rw [k.ks]; exact Nat.zero_le _
    · exact k.k4
set_option maxRecDepth 100000 in
set_option maxHeartbeats 8000000 in
theorem nodeDecodes_walk (s : ByteArray) (w : World) (hs : s.size ≤ 1048576) :
    Calls Try.prog 5 #[.string s] w fun e w' => e = .returned (.bool true) ∧ Below w.heap.size w w' := by
  have HD : Hid (∀ W, Calls Try.prog 34 #[.string s] W fun e w' => ∃ v, e = .returned (.tuple #[.agg #[.int .i64 (N.dcX s.data.toList).h, .string ⟨(N.dcX s.data.toList).t.toArray⟩, v], .int .i64 (N.dcE s.data.toList)]) ∧ N.Made (N.dcX s.data.toList).ks W v w') := fun W => decode12_any s (by unfold maxLen; omega) W
  have HR : Hid (∀ W, Calls Try.prog 35 #[.string s] W fun e w' => ∃ v, e = .returned (.tuple #[.agg #[.int .i64 (N.dcX s.data.toList).h, .string ⟨(N.dcX s.data.toList).t.toArray⟩, v], .int .i64 (N.dcE s.data.toList)]) ∧ N.Made (N.dcX s.data.toList).ks W v w') := fun W => refDecode12_any s hs W
  have HL := Lib.hid (N.dc_short s.data.toList)
  obtain ⟨X, hX⟩ : ∃ X, N.dcX s.data.toList = X := ⟨_, rfl⟩
  rw [hX] at HD HR HL
  obtain ⟨xh, xt0, L⟩ := X
  dsimp only at HD HR HL
  generalize (⟨xt0.toArray⟩ : ByteArray) = xt at HD HR
  have ee : (N.dcE s.data.toList != N.dcE s.data.toList) = false := by simp
  generalize N.dcE s.data.toList = xe at HD HR ee
  have HEq := N.hEq (h := xh) (k := xh) (s := xt) (t := xt) (a := L) (b := L) (by have := HL.out; unfold maxLen; omega) true (decide_eq_true rfl)
  have HK := N.hAw
  have B0 : Hid (Below w.heap.size w w) := Below.refl _ _
  clear hX hs
  go_enter Try.func5, Try.ntmps5
  go_wp2_with fail
  refine (HD.out _).mono ?_
  rintro e w1 ⟨va, rfl, hm⟩
  obtain ⟨ao, ac, hv, hro, _⟩ := hm.src
  have Ba := Lib.hid ((B0.out.trans (hm.below.mono B0.out.size)).alloc (B0.out.trans (hm.below.mono B0.out.size)).size (.cells #[.int .i64 xh, .string xt, va] 24))
  have Oa := Lib.hid ((D.own_mono hm.own (Nat.le_refl w.heap.size)).alloc (.cells #[.int .i64 xh, .string xt, va] 24))
  have Xa := Lib.hid (N.Nb.new w1 xh xt va 24)
  have Ra := Lib.hid (hro.below ((Below.refl _ _).alloc (Nat.le_refl _) (.cells #[.int .i64 xh, .string xt, va] 24)))
  have la : Hid (∀ k, va.ownBlock = some k → k < w1.heap.size) := fun k hk => (hm.own.lt k hk).2
  subst hv
  clear hm hro B0
  go_wp2_with fail
  refine (HR.out _).mono ?_
  rintro e w2 ⟨vb, rfl, hm⟩
  obtain ⟨bo, bc, hv, hro, _⟩ := hm.src
  have hbb := hm.below.alloc hm.below.size (.cells #[.int .i64 xh, .string xt, vb] 24)
  have Bb := Lib.hid (Ba.out.trans (hbb.mono Ba.out.size))
  have Oa2 := Lib.hid (D.own_below Oa.out hbb)
  have Xa2 := Lib.hid (Xa.out.below hbb)
  have Ra2 := Lib.hid (Ra.out.below hbb)
  have Ob := Lib.hid (hm.own.alloc (.cells #[.int .i64 xh, .string xt, vb] 24))
  have Xb := Lib.hid (N.Nb.new w2 xh xt vb 24)
  have Rb := Lib.hid (hro.below ((Below.refl _ _).alloc (Nat.le_refl _) (.cells #[.int .i64 xh, .string xt, vb] 24)))
  have lb : Hid (w1.heap.size < w2.heap.size) := by have := hm.below.size; simp at this; show _ < _; omega
  subst hv
  have x0 := Xa2.out.c0
  have x1 := Xa2.out.c1
  have x2 := Xa2.out.c2
  clear hm hro hbb Ba Oa Xa Ra
  go_wp2_with fail
  refine (HEq.out _ _ _ _ _ Ra2.out Rb.out).mono ?_
  rintro e w3 ⟨rfl, hb⟩
  have B3 := Lib.hid (Bb.out.trans (hb.mono Bb.out.size))
  have Oa3 := Lib.hid (D.own_below Oa2.out hb)
  have Xa3 := Xa2.out.below hb
  have Ob3 := Lib.hid (D.own_below Ob.out hb)
  have Xb3 := Lib.hid (Xb.out.below hb)
  clear hb Bb Oa2 Xa2 Ra2 Ob Xb Rb x0 x1 x2
  have x0 := Xa3.c0
  have x1 := Xa3.c1
  have x2 := Xa3.c2
  go_wp2_with fail
  refine (spoil12_any xh xt _ L _ w3 (by have := HL.out; omega) Oa3.out).mono ?_
  rintro e w4 ⟨rfl, hg⟩
  have B4 := Lib.hid (B3.out.grown hg B3.out.size (fun k e => (Oa3.out.lt k e).1))
  have Ob4 := Lib.hid (Ob3.out.kept hg (by
    cases hvb : (Value.slice bo L.length bc).ownBlock with
    | none => exact .inl rfl
    | some k =>
      refine .inr fun e => ?_
      have h1 := (Ob3.out.lt k hvb).1
      have h2 := la.out k e.symm
      simp at h1
      omega))
  have Xb4 : Hid (N.Nb w4 w2.heap.size xh xt (.slice bo L.length bc)) := by
    have e := hg.block w2.heap.size Xb3.out.lt (fun e => by have := la.out _ e.symm; have := lb.out; omega)
    have key : ∀ o : Nat, w4.cell? ⟨w2.heap.size, o, none⟩ = w3.cell? ⟨w2.heap.size, o, none⟩ := fun o => by unfold World.cell?; simp only [e]
    exact ⟨Nat.lt_of_lt_of_le Xb3.out.lt hg.size, (key 0).trans Xb3.out.c0, (key 1).trans Xb3.out.c1, (key 2).trans Xb3.out.c2⟩
  clear hg B3 Oa3 Xa3 Ob3 Xb3 x0 x1 x2
  go_wp2_with fail
  refine (HD.out _).mono ?_
  rintro e w5 ⟨vc, rfl, hm⟩
  obtain ⟨co, cc, hv, hro, _⟩ := hm.src
  have hbb := hm.below.alloc hm.below.size (.cells #[.int .i64 xh, .string xt, vc] 24)
  have B5 := Lib.hid (B4.out.trans (hbb.mono B4.out.size))
  have Xb5 := Xb4.out.below hbb
  have Ob5 := D.own_below Ob4.out hbb
  have Rb5 : Hid (N.Row (w5.alloc (.cells #[.int .i64 xh, .string xt, vc] 24)) bo L) := by
    obtain ⟨bo', bc', e, r, _⟩ := (⟨D.own_mono Ob5 (Nat.zero_le _), ⟨rfl, rfl, rfl, Nat.zero_le _, fun k hk => absurd hk (Nat.not_lt_zero _)⟩⟩ : N.Made L { (w5.alloc (.cells #[.int .i64 xh, .string xt, vc] 24)) with heap := #[] } _ _).src
    cases e; exact r
  have Rc := Lib.hid (hro.below ((Below.refl _ _).alloc (Nat.le_refl _) (.cells #[.int .i64 xh, .string xt, vc] 24)))
  subst hv
  have x0 := Xb5.c0
  have x1 := Xb5.c1
  have x2 := Xb5.c2
  clear hm hro hbb Xb5 Ob5 B4 Ob4 Xb4
  go_wp2_with fail
  refine (HEq.out _ _ _ _ _ Rc.out Rb5.out).mono ?_
  rintro e w6 ⟨rfl, hb⟩
  have B6 := Lib.hid (B5.out.trans (hb.mono B5.out.size))
  clear hb B5 Rc Rb5 x0 x1 x2
  go_wp2_with fail
  refine (HK.out _).mono ?_
  rintro e wl ⟨rfl, hb⟩
  have KC := Lib.hid (B6.out.trans (hb.mono B6.out.size))
  clear hb
  go_wp2
  go_ret
  exact ⟨rfl, KC.out⟩
end Go.Proofs.Ytdpaleldalplfaa
