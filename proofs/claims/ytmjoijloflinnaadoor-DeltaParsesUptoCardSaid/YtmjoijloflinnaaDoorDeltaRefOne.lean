/- The contract of the reference's one. -/
import Derived.Test.YtmjoijloflinnaaDoorDeltaRefNum
namespace Go.Proofs.YtmjoijloflinnaaDoor
open Go.RowKit
theorem D.Cl.same {W V : World} {b k n t} (h : D.Cl W b k n t) (e : V.heap[b]? = W.heap[b]?) (hs : W.heap.size ≤ V.heap.size) : D.Cl V b k n t := by
  have key : ∀ j, V.cell? ⟨b, j, none⟩ = W.cell? ⟨b, j, none⟩ := fun j => World.cell?_of_block e
  have kf : ∀ j, V.frozen? ⟨b, j, none⟩ = W.frozen? ⟨b, j, none⟩ := fun j => by unfold World.frozen?; simp only [e]
  exact ⟨Nat.lt_of_lt_of_le h.lt hs, (key 0).trans h.c0, (key 1).trans h.c1, (key 2).trans h.c2, (kf 0).trans h.f0, (kf 1).trans h.f1, (kf 2).trans h.f2⟩
theorem D.Two.grown {w k n t W V} (h : D.Two w k n t W) {r : Option Nat} (hg : W.grownBy V r) (hr : ∀ k, r = some k → w.heap.size + 2 ≤ k) : D.Two w k n t V := by
  have hs := h.below.size
  refine ⟨h.res.same (hg.block _ h.res.lt (fun e => by have := hr _ e.symm; omega)) hg.size, h.acc.same (hg.block _ h.acc.lt (fun e => by have := hr _ e.symm; omega)) hg.size, h.below.grown hg hs (fun k e => by have := hr k e; omega)⟩
theorem D.Two.alloc {w k n t W} (h : D.Two w k n t W) (ob : Obj) : D.Two w k n t (W.alloc ob) := ⟨h.res.alloc _, h.acc.alloc _, h.below.alloc h.below.size _⟩
/-- The bytes that have been read of an insertion. -/
structure D.HxAt (w : World) (z : List UInt8) (v : Value) (wr : World) : Prop where
  two : D.Two w 2 0 ⟨#[]⟩ wr
  own : wr.ownsRow (w.heap.size + 2) 5 1 v z.length (D.bytesL z)
set_option maxRecDepth 100000 in
set_option maxHeartbeats 4000000 in
theorem refOne_I (t : List UInt8) (r : List UInt8) (w : World) (hl : t.length ≤ 1000000000) (ht : t = 43 :: r) (hr : r ≠ []) : Calls Tryd.prog 49 #[.string ⟨t.toArray⟩] w (D.OneEnd ((D.unhex r).map .I) w) := by
  have hsz : (⟨t.toArray⟩ : ByteArray).size = t.length := D.size_l t
  have h2 : 2 ≤ t.length := by rw [ht]; have := List.length_pos_iff.2 hr; simp; omega
  have z0 : 0 < (⟨t.toArray⟩ : ByteArray).size := by omega
  have b0 : ((⟨t.toArray⟩ : ByteArray)[0]'z0).toNat = 43 := by subst ht; rfl
  have ed : t.drop 1 = r := by rw [ht]; rfl
  have R : Hid (∀ x e w', D.unhex (t.drop 1) = x → D.OneEnd (x.map .I) w e w' → D.OneEnd ((D.unhex r).map .I) w e w') := fun x e w' hx h => by rw [← ed, hx]; exact h
  obtain ⟨ib, hb, hb0, hb1, hb2⟩ := info_parts Tryd.infoByte
  have Hb := Lib.hid (And.intro hb (And.intro hb0 (And.intro hb1 hb2)))
  clear hb hb0 hb1 hb2 ht hr ed
  go_enter Tryd.func49, Tryd.ntmps49
  go_wp2
  go_loopw [5, 6] (fun v i wr => ∃ (j : Nat) (z : List UInt8), 1 ≤ j ∧ j ≤ t.length ∧ z.length ≤ j ∧ (z = [] → j = 1) ∧ i = .int .i64 j ∧ Hid (D.HxAt w z v wr ∧ D.unhex (t.drop 1) = (D.unhex (t.drop j)).map (z ++ ·))) (fun _ i _ => t.length - (intOf i).toNat)
  case atStart => exact ⟨1, [], Nat.le_refl _, by omega, Nat.zero_le _, fun _ => rfl, rfl, ⟨⟨D.two_new w _ _ 2 0 ⟨#[]⟩, World.ownsRow_nil _ _ _ _⟩, by cases D.unhex (t.drop 1) <;> rfl⟩⟩
  case round =>
    obtain ⟨j, z, hj1, hj, hzl, hz1, rfl, hz⟩ := hrel
    clear b0 z0
    have hx := Lib.hid hz.out.1
    have hu := Lib.hid hz.out.2
    clear hz
    obtain ⟨_, r0, r1, r2, rf0, rf1, rf2⟩ := hx.out.two.res
    obtain ⟨_, a0, a1, a2, af0, af1, af2⟩ := hx.out.two.acc
    obtain ⟨tb, tc, rfl⟩ := D.slice_of_own hx.out.own
    by_cases hlt : j < t.length
    · have hjz : j < (⟨t.toArray⟩ : ByteArray).size := by omega
      have hd1 := List.drop_eq_getElem_cons hlt
      by_cases hl2 : j + 1 < t.length
      · have hkz : j + 1 < (⟨t.toArray⟩ : ByteArray).size := by omega
        have hd2 := List.drop_eq_getElem_cons hl2
        have hne : ((j : Int) + 1 == t.length) = false := by simp; omega
        obtain ⟨U, hU⟩ : ∃ U : Nat, ((⟨t.toArray⟩ : ByteArray)[j]'hjz).toNat = U := ⟨_, rfl⟩
        obtain ⟨V, hV⟩ : ∃ V : Nat, ((⟨t.toArray⟩ : ByteArray)[j + 1]'hkz).toNat = V := ⟨_, rfl⟩
        have hU8 : U < 256 := hU ▸ UInt8.toNat_lt _
        have hV8 : V < 256 := hV ▸ UInt8.toNat_lt _
        have hU' : (t[j]'hlt).toNat = U := hU
        have hV' : (t[j + 1]'hl2).toNat = V := hV
        have hnx : Hid (D.unhex (t.drop j) = if 15 < D.half U ∨ 15 < D.half V then none else (D.unhex (t.drop (j + 2))).map fun s => UInt8.ofNat (16 * D.half U + D.half V) :: s) := by
          show _ = _
          rw [hd1, hd2, D.unhex, hU', hV']
        have H1 : Hid (∀ W, Calls Tryd.prog 56 #[.int .u8 U] W (fun e w' => e = .returned (.int .u8 (D.half U)) ∧ W = w')) := fun W => refHalf_any U hU8 W
        have H2 : Hid (∀ W, Calls Tryd.prog 56 #[.int .u8 V] W (fun e w' => e = .returned (.int .u8 (D.half V)) ∧ W = w')) := fun W => refHalf_any V hV8 W
        clear hd1 hd2 hU' hV'
        generalize D.half U = X at *
        generalize D.half V = Y at *
        by_cases g1 : 15 < X
        · have g1' : (15 : Int) < X := by omega
          have E : Hid (∀ e w', D.OneEnd none w e w' → D.OneEnd ((D.unhex r).map .I) w e w') := fun e w' h => R.out none e w' (by rw [hu.out, hnx.out, if_pos (.inl g1)]; rfl) h
          clear hnx
          go_wp2_with (go_at_call 56; refine (H1.out _).mono ?_; rintro e w' ⟨rfl, rfl⟩)
          refine bodyPost_ret (v := .tuple #[.agg #[.int .u8 0, .int .i64 0, .string ⟨#[]⟩], .bool false]) ?_ rfl (E.out _ _ ⟨⟨0, 0, ⟨#[]⟩, rfl⟩, hx.out.two.out _ _ _⟩)
          simp [results, Tryd.results49, go_sem, r0, r1, r2]
        · have g1' : (X : Int) ≤ 15 := by omega
          by_cases g2 : 15 < Y
          · have g2' : (15 : Int) < Y := by omega
            have E : Hid (∀ e w', D.OneEnd none w e w' → D.OneEnd ((D.unhex r).map .I) w e w') := fun e w' h => R.out none e w' (by rw [hu.out, hnx.out, if_pos (.inr g2)]; rfl) h
            clear hnx
            go_wp2_with fail
            refine (H1.out _).mono ?_
            rintro e w' ⟨rfl, rfl⟩
            go_wp2_with fail
            refine (H2.out _).mono ?_
            rintro e w' ⟨rfl, rfl⟩
            go_wp2
            refine bodyPost_ret (v := .tuple #[.agg #[.int .u8 0, .int .i64 0, .string ⟨#[]⟩], .bool false]) ?_ rfl (E.out _ _ ⟨⟨0, 0, ⟨#[]⟩, rfl⟩, hx.out.two.out _ _ _⟩)
            simp [results, Tryd.results49, go_sem, r0, r1, r2]
          · have g2' : (Y : Int) ≤ 15 := by omega
            have N : Hid (D.unhex (t.drop 1) = (D.unhex (t.drop (j + 2))).map ((z ++ [UInt8.ofNat (16 * X + Y)]) ++ ·)) := by
              show _ = _
              rw [hu.out, hnx.out, if_neg (by omega)]
              cases D.unhex (t.drop (j + 2)) <;> simp
            clear hnx hu
            go_wp2_with fail
            refine (H1.out _).mono ?_
            rintro e w' ⟨rfl, rfl⟩
            go_wp2_with fail
            refine (H2.out _).mono ?_
            rintro e w' ⟨rfl, rfl⟩
            obtain ⟨W0, rfl⟩ : ∃ W0 : World, W0 = wr := ⟨_, rfl⟩
            have hO := hx.out.own
            have hT := hx.out.two
            have hS := hT.acc.lt
            have hbb : D.bytesL [UInt8.ofNat (16 * X + Y)] = [.int .u8 (16 * (X : Int) + (Y : Int))] := by simp [D.bytesL]; omega
            have hfin : Hid (∀ g5 cp5 w5, w5.ownsRow (w.heap.size + 2) 5 1 (.slice (some ⟨g5, 0, none⟩) (z.length + 1) cp5) (z.length + 1) (D.bytesL z ++ [.int .u8 (16 * (X : Int) + (Y : Int))]) →
                (W0.alloc (.cells #[.int .u8 (16 * (X : Int) + (Y : Int))] 5)).drew.grownBy w5 (Value.ownBlock (.slice tb z.length tc)) → D.HxAt w (z ++ [UInt8.ofNat (16 * X + Y)]) (.slice (some ⟨g5, 0, none⟩) (z.length + 1) cp5) w5) := fun g5 cp5 w5 h5 hg5 => by
              refine ⟨((hT.alloc _).drew).grown hg5 (fun k e => (hO.lt k e).1), ?_⟩
              rw [D.bytesL_append, List.length_append, hbb]
              exact h5
            clear hx
            have a16 : IntKind.u8.wrap (16 * (X : Int)) = 16 * (X : Int) := by simp only [IntKind.wrap, IntKind.bits, IntKind.signed]; simp; omega
            have a17 : IntKind.u8.wrap (16 * (X : Int) + (Y : Int)) = 16 * (X : Int) + (Y : Int) := by simp only [IntKind.wrap, IntKind.bits, IntKind.signed]; simp; omega
            have aw : IntKind.i64.wrap ((j : Int) + 1) = (j : Int) + 1 := by simp only [IntKind.wrap, IntKind.bits, IntKind.signed]; simp; omega
            have ap : (0 : Int) ≤ (j : Int) + 1 := by omega
            have aq : (j : Int) + 1 < t.length := by omega
            have an : ((j : Int) + 1).toNat = j + 1 := by omega
            go_wp2_with fail
            go_region_law (first
              | (go_simp; go_at_call 56; (with_reducible refine (H1.out _).mono ?_); rintro e w2 ⟨rfl, rfl⟩)
              | (go_simp; go_at_call 56; (with_reducible refine (H2.out _).mono ?_); rintro e w2 ⟨rfl, rfl⟩)
              | (refine step_append_lies _ rfl (.tmp 43) (.tmp 55) 62 rfl (w.heap.size + 2) 5 ib (.int .u8 0) 1 1 Tryd.underlying62 Hb.out.1 Hb.out.2.1 Hb.out.2.2.1 Hb.out.2.2.2 rfl (by decide) (.slice tb z.length tc) z.length (D.bytesL z) rfl ?own _ 1 1 [.int .u8 (16 * (X : Int) + (Y : Int))] rfl rfl ?news (fun u hu => by simp at hu; rw [hu]; rfl) (by decide) (by unfold maxLen; omega) (by omega) ?base _ rfl ?_
                 case own => repeat (first | exact hO | refine World.ownsRow.drew ?_ | refine World.ownsRow.alloc ?_ _)
                 case news => exact D.news _ _ _
                 case base => first | omega | (simp; omega)
                 intro g5 cp5 w5 hO5 hg5 hat5 hlt5
                 have R5 := Lib.hid (hfin.out g5 cp5 w5 hO5 hg5)
                 clear hO5 hg5 hat5 hlt5))
            all_goals
              have R6 := Lib.hid (And.intro R5.out N.out)
              go_wp2
              go_roundw
              case rel => exact ⟨j + 2, z ++ [UInt8.ofNat (16 * X + Y)], by omega, by omega, by rw [List.length_append]; simp; omega, fun e => absurd e (by simp), by go_num, R6⟩
              case measure => simp [intOf]; omega
      · have ej : j + 1 = t.length := by omega
        have hne : ((j : Int) + 1 == t.length) = true := by simp; omega
        have E : Hid (∀ e w', D.OneEnd none w e w' → D.OneEnd ((D.unhex r).map .I) w e w') := fun e w' h => R.out none e w' (by rw [hu.out, hd1, List.drop_eq_nil_iff.2 (by omega), D.unhex]; rfl) h
        clear hd1
        go_wp2
        refine bodyPost_ret (v := .tuple #[.agg #[.int .u8 0, .int .i64 0, .string ⟨#[]⟩], .bool false]) ?_ rfl (E.out _ _ ⟨⟨0, 0, ⟨#[]⟩, rfl⟩, hx.out.two.out _ _ _⟩)
        simp [results, Tryd.results49, go_sem, r0, r1, r2]
    · obtain rfl : j = t.length := by omega
      have E : Hid (∀ e w', D.OneEnd (some (.I z)) w e w' → D.OneEnd ((D.unhex r).map .I) w e w') := fun e w' h => R.out (some z) e w' (by rw [hu.out, List.drop_length, D.unhex]; simp) h
      have hz2 : z ≠ [] := fun e => by have := hz1 e; omega
      obtain ⟨g, c, hv, hby⟩ := D.bytes_of_own hx.out.own hz2
      cases hv
      have hpos : 0 < z.length := List.length_pos_iff.2 hz2
      have hz3 : z.length ≠ 0 := by omega
      have hconv := Lib.run_convert_whole (P := Tryd.prog) wr 62 5 9 Tryd.underlying62 Tryd.underlying5 Tryd.underlying9 g 0 ⟨z.toArray⟩ hby tc
      rw [D.size_l] at hconv
      have F : Hid (∀ x y q, Below w.heap.size w ((((wr.setCell ⟨w.heap.size + 1, 2, none⟩ (.string ⟨z.toArray⟩)).setCell ⟨w.heap.size, 0, none⟩ x).setCell ⟨w.heap.size, 1, none⟩ y).setCell ⟨w.heap.size, 2, none⟩ q)) := fun x y q => (hx.out.two.set2 _).out x y q
      clear hu hx hby hz2 hz1
      go_wp2
      refine bodyPost_ret (v := .tuple #[.agg #[.int .u8 2, .int .i64 0, .string ⟨z.toArray⟩], .bool true]) ?_ rfl (E.out _ _ ⟨rfl, F.out _ _ _⟩)
      simp [results, Tryd.results49, go_sem, r0, r1, r2]
theorem refOne_short (t : List UInt8) (w : World) (hl : t.length < 2) : Calls Tryd.prog 49 #[.string ⟨t.toArray⟩] w (D.OneEnd none w) := by
  have hsz : (⟨t.toArray⟩ : ByteArray).size = t.length := D.size_l t
  have R : Hid (∀ w', Below w.heap.size w w' → D.OneEnd none w (.returned (.tuple #[.agg #[.int .u8 0, .int .i64 0, .string ⟨#[]⟩], .bool false])) w') := fun w' hb => ⟨⟨0, 0, ⟨#[]⟩, rfl⟩, hb⟩
  go_enter Tryd.func49, Tryd.ntmps49
  go_wp2
  refine bodyPost_ret (v := .tuple #[.agg #[.int .u8 0, .int .i64 0, .string ⟨#[]⟩], .bool false]) ?_ rfl (R.out _ ((Below.refl _ _).alloc (Nat.le_refl _) _))
  simp [results, Tryd.results49, go_sem]
theorem refOne_bad (t : List UInt8) (c d : UInt8) (r : List UInt8) (w : World) (ht : t = c :: d :: r) (h1 : c ≠ 43) (h2 : c ≠ 45) (h3 : c ≠ 61) : Calls Tryd.prog 49 #[.string ⟨t.toArray⟩] w (D.OneEnd none w) := by
  have hsz : (⟨t.toArray⟩ : ByteArray).size = t.length := D.size_l t
  have hl : 2 ≤ t.length := by rw [ht]; simp
  have z0 : 0 < (⟨t.toArray⟩ : ByteArray).size := by omega
  have b0 : ((⟨t.toArray⟩ : ByteArray)[0]'z0).toNat = c.toNat := by subst ht; rfl
  have key : ∀ k : UInt8, c ≠ k → ((c.toNat : Int) == (k.toNat : Int)) = false := fun k hk => by
    simp only [beq_eq_false_iff_ne, ne_eq]
    exact fun e => hk (UInt8.toNat_inj.1 (by omega))
  have g1 : ((c.toNat : Int) == 43) = false := key 43 h1
  have g2 : ((c.toNat : Int) == 45) = false := key 45 h2
  have g3 : ((c.toNat : Int) == 61) = false := key 61 h3
  have R : Hid (∀ w', Below w.heap.size w w' → D.OneEnd none w (.returned (.tuple #[.agg #[.int .u8 0, .int .i64 0, .string ⟨#[]⟩], .bool false])) w') := fun w' hb => ⟨⟨0, 0, ⟨#[]⟩, rfl⟩, hb⟩
  generalize c.toNat = cn at b0 g1 g2 g3
  clear ht h1 h2 h3 key
  go_enter Tryd.func49, Tryd.ntmps49
  go_wp2
  refine bodyPost_ret (v := .tuple #[.agg #[.int .u8 0, .int .i64 0, .string ⟨#[]⟩], .bool false]) ?_ rfl (R.out _ (D.two_new w _ _ 1 0 ⟨#[]⟩).below)
  simp [results, Tryd.results49, go_sem]
theorem refOne_any (t : List UInt8) (w : World) (hl : t.length ≤ 1000000000) : Calls Tryd.prog 49 #[.string ⟨t.toArray⟩] w (D.OneEnd (D.one t) w) := by
  match t, hl with
  | [], _ => exact refOne_short [] w (by decide)
  | [c], _ => exact refOne_short [c] w (by simp)
  | c :: d :: r, hl =>
    rw [D.one_num]
    by_cases c1 : c = 43
    · subst c1; exact refOne_I _ (d :: r) w hl rfl (by simp)
    · rw [if_neg c1]
      by_cases c2 : c = 45
      · subst c2; exact refOne_D _ d r w hl rfl
      · rw [if_neg c2]
        by_cases c3 : c = 61
        · subst c3; exact refOne_R _ d r w hl rfl
        · rw [if_neg c3]; exact refOne_bad _ c d r w rfl c1 c2 c3
end Go.Proofs.YtmjoijloflinnaaDoor
