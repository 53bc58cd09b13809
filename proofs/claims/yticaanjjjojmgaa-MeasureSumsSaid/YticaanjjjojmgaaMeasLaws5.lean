/- The walk of the statement of stage 2 on sums and differences. -/
import Derived.Test.YticaanjjjojmgaaMeasKnown
import Derived.Test.YticaanjjjojmgaaMeasRef
import Derived.Deep.DeepCutAuto
import Derived.Deep.CutBlock
import Derived.BigQuiet
import Derived.Deep.QuietTactic
import Derived.Maps.AppendAt
import Derived.Laws.AppendOwnNone
import Derived.RangeFuncBox
import Derived.Outline
namespace Go.Proofs.Yticaanjjjojmgaa
open Go.RowKit Go.Shelf

theorem Try.infoMeasure : (Try.prog.info? 23).map (fun i => (i.zero, i.size, i.bytes)) = some (some (.agg #[.int .i64 0, .int .i64 0, .int .i64 0]), 3, 24) := by kernel_rfl
/-- The cells of n measures. -/
def M.cellsOf (F : Nat → Nat → Int) (n : Nat) : List Value := (List.range (n * 3)).map fun j => .int .i64 (F (j / 3) (j % 3))
theorem M.cellsOf_len (F : Nat → Nat → Int) (n : Nat) : (M.cellsOf F n).length = n * 3 := by simp [M.cellsOf]
theorem M.cellsOf_at (F : Nat → Nat → Int) (n i j : Nat) (hi : i < n) (hj : j < 3) : (M.cellsOf F n)[i * 3 + j]? = some (.int .i64 (F i j)) := by
  unfold M.cellsOf
  rw [List.getElem?_map, List.getElem?_range (by omega)]
  simp only [Option.map_some]
  rw [show (i * 3 + j) / 3 = i by omega, show (i * 3 + j) % 3 = j by omega]
theorem M.Row.news {W : World} {ad : Addr} {n : Nat} {F : Nat → Nat → Int} (h : M.Row W (some ad) n F) : ∀ j u, (M.cellsOf F n)[j]? = some u → W.cell? (ad.add j) = some u := fun j u hu => by
  have hj : j < n * 3 := by have := (List.getElem?_eq_some_iff.1 hu).1; rwa [M.cellsOf_len] at this
  obtain ⟨b, o, e, _, hc⟩ := h (j / 3) (by omega)
  cases e
  have hcj := hc (j % 3) (by omega)
  have h2 := M.cellsOf_at F n (j / 3) (j % 3) (by omega) (by omega)
  rw [show j / 3 * 3 + j % 3 = j by omega] at h2
  rw [h2] at hu
  rw [← hu, ← hcj]
  rw [show o + j / 3 * 3 + j % 3 = o + j by omega]
  have hadd : (⟨b, o, none⟩ : Addr).add j = ⟨b, o + j, none⟩ := by unfold Addr.add; split <;> simp_all
  rw [hadd]
theorem M.row_of_own {W : World} {base n : Nat} {v : Value} {F : Nat → Nat → Int} (h : W.ownsRow base 23 3 v n (M.cellsOf F n)) (hv : ¬ v = .slice none 0 0) :
    ∃ g cap, v = .slice (some ⟨g, 0, none⟩) n cap ∧ base ≤ g ∧ g < W.heap.size ∧ M.Row W (some ⟨g, 0, none⟩) n F := by
  obtain ⟨hl, h | ⟨g, cap, cur, rfl, hb, hg, hnc, hcm, hcs, ht⟩⟩ := h
  · exact absurd h.1 hv
  · have hlt := (Array.getElem?_eq_some_iff.1 hg).1
    refine ⟨g, cap, rfl, hb, hlt, fun i hi => ⟨g, 0, rfl, hlt, fun j hj => ?_⟩⟩
    have h2 := M.cellsOf_at F n i j hi hj
    rw [← ht, List.getElem?_take] at h2
    rw [if_pos (by omega)] at h2
    rw [Nat.zero_add, cell_of_row W g _ cur _ _ hg]
    simpa using h2
theorem M.oneCells (F : Nat → Nat → Int) (n : Nat) : ∀ u ∈ M.cellsOf F n, u.oneCell' = true := fun u hu => by
  obtain ⟨j, _, rfl⟩ := List.mem_map.1 hu
  rfl
/-- What the copy leaves: a slice of the call's own that reads as the argument, and all that lay before. -/
def M.Copied (W : World) (n : Nat) (F : Nat → Nat → Int) (v : Value) (V : World) : Prop :=
  ∃ g cap, v = .slice (some ⟨g, 0, none⟩) n cap ∧ M.Row V (some ⟨g, 0, none⟩) n F ∧ Below W.heap.size W V
theorem M.subEnd_form (a b c x y z : Int) : ∃ p q r e : Int, M.subEnd a b c x y z = .returned (.tuple #[.agg #[.int .i64 p, .int .i64 q, .int .i64 r], .int .i64 e]) := by
  unfold M.subEnd; split <;> exact ⟨_, _, _, _, rfl⟩
set_option maxRecDepth 100000 in
set_option maxHeartbeats 2000000 in
theorem measureSums_walk (ao : Option Addr) (n cap : Nat) (F : Nat → Nat → Int) (a b c x y z : Int) (w : World) (hn : n * 24 ≤ 140737488351232) (h0 : ao = none → n = 0 ∧ cap = 0) (hr : M.Row w ao n F) :
    Calls Try.prog 4 #[.slice ao n cap, .agg #[.int .i64 a, .int .i64 b, .int .i64 c], .agg #[.int .i64 x, .int .i64 y, .int .i64 z]] w fun e w' => e = .returned (.bool true) ∧ Below w.heap.size w w' := by
  obtain ⟨i0, hi, hz0, hz1, hz2⟩ := info_parts Try.infoMeasure
  have Hi := Lib.hid hi
  have Hz0 := Lib.hid hz0
  have Hz1 := Lib.hid hz1
  have Hz2 := Lib.hid hz2
  clear hi hz0 hz1 hz2
  have H0 := Lib.hid h0
  clear h0
  go_enter Try.func4, Try.ntmps4
  have A := Lib.hid ((M.Own.new w a b c 23).alloc (.cells #[.int .i64 x, .int .i64 y, .int .i64 z] 23))
  have B := Lib.hid (M.Own.new (w.alloc (.cells #[.int .i64 a, .int .i64 b, .int .i64 c] 23)) x y z 23)
  have D := Lib.hid (((Below.refl w.heap.size w).alloc (Nat.le_refl _) (.cells #[.int .i64 a, .int .i64 b, .int .i64 c] 23)).alloc (by simp) (.cells #[.int .i64 x, .int .i64 y, .int .i64 z] 23))
  rw [World.size_alloc] at B
  have Hr := Lib.hid ((hr.below ((Below.refl _ _).alloc (Nat.le_refl _) (.cells #[.int .i64 a, .int .i64 b, .int .i64 c] 23))).below ((Below.refl _ _).alloc (Nat.le_refl _) (.cells #[.int .i64 x, .int .i64 y, .int .i64 z] 23)))
  clear hr
  go_upto_region 1 with (fail)
  generalize (w.alloc (.cells #[.int .i64 a, .int .i64 b, .int .i64 c] 23)).alloc (.cells #[.int .i64 x, .int .i64 y, .int .i64 z] 23) = W at A B D Hr ⊢
  have hm : n ≤ maxLen := by unfold maxLen; omega
  have Hm := Lib.hid hm
  clear hm
  go_cut [7] (fun v wx => Hid (M.Copied W n F v wx))
  case first =>
    have hown := Lib.hid (World.ownsRow_made (base := W.heap.size) (e := 23) (size := 3) W #[] 0 (Nat.le_refl _) (by unfold maxLen; omega) rfl)
    cases ao with
    | none =>
      obtain ⟨rfl, rfl⟩ := H0.out rfl
      go_wp2_with (at_builtin; refine wpList_append_own_none rfl _ _ 27 rfl W.heap.size 23 i0 3 Try.underlying27 Hi.out _ 0 [] rfl hown.out rfl ?_)
      go_meet
      case rel => exact ⟨_, _, rfl, fun i hi => absurd hi (Nat.not_lt_zero _), (Below.refl _ _).alloc (Nat.le_refl _) _⟩
    | some ad =>
      have hnews := Lib.hid (fun j u h => ((Below.refl W.heap.size W).alloc (Nat.le_refl _) (.cells #[] 23)).cell (p := ad.add j) (by
          have := Hr.out.news j u h
          exact World.block_lt_of_cell? W _ this) |>.trans (Hr.out.news j u h))
      go_wp2_with (at_builtin; refine wpList_append_own _ rfl _ _ 27 rfl W.heap.size 23 i0 (.agg #[.int .i64 0, .int .i64 0, .int .i64 0]) 3 24 Try.underlying27 Hi.out Hz0.out Hz1.out Hz2.out rfl (by decide) _ 0 [] rfl hown.out ad n cap (M.cellsOf F n) rfl (M.cellsOf_len F n) ?c1 (M.oneCells F n) ?c3 ?c4 ?c5 ?_)
      case c1 => exact hnews.out
      case c3 => have := Hm.out; omega
      case c4 => omega
      case c5 => simp
      intro v' w3 hown' hgrow hnil
      have hne : ¬ v' = .slice none 0 0 := fun h => by simp [h] at hnil
      obtain ⟨g, cap', hv, hbg, hglt, hrow⟩ := M.row_of_own hown' hne
      have hbel := ((Below.refl W.heap.size W).alloc (Nat.le_refl _) (.cells #[] 23)).grown hgrow (by simp) (fun k e => by cases e; exact Nat.le_refl _)
      have R : Hid (M.Copied W n F v' w3) := ⟨g, cap', hv, hrow, hbel⟩
      clear hown' hgrow hnil hne hrow hv hbel hnews hown
      go_wp2
      go_meet
      case rel => exact R
  case rest =>
    obtain ⟨g, cap', rfl, hrow, hbel⟩ := hcut.out
    have hs := D.out.size
    have A1 := Lib.hid (A.out.below hbel)
    have B1 := Lib.hid (B.out.below hbel)
    have D1 := Lib.hid (D.out.trans (hbel.mono hs))
    have R1 := Lib.hid hrow
    have L1 := Lib.hid (Hr.out.below hbel)
    clear A B D hrow hbel Hr hcut hs
    go_wp2_with fail
    refine (add_any _ n cap' F _ Hm.out R1.out).mono ?_
    rintro e w1 ⟨rfl, hb1⟩
    have A2 := Lib.hid (A1.out.below hb1)
    have B2 := Lib.hid (B1.out.below hb1)
    have D2 := Lib.hid (D1.out.trans (hb1.mono D1.out.size))
    have R2 := Lib.hid (R1.out.below hb1)
    have L2 := Lib.hid (L1.out.below hb1)
    clear A1 B1 D1 R1 L1 hb1
    go_wp2_with fail
    refine (refAdd_any _ n cap F _ Hm.out L2.out).mono ?_
    rintro e w2 ⟨rfl, hb2⟩
    have A3 := Lib.hid (A2.out.below hb2)
    have B3 := Lib.hid (B2.out.below hb2)
    have D3 := Lib.hid (D2.out.trans (hb2.mono D2.out.size))
    have R3 := Lib.hid (R2.out.below hb2)
    have L3 := Lib.hid (L2.out.below hb2)
    clear A2 B2 D2 R2 L2 hb2
    go_wp2_with fail
    go_loopw [8] (fun i wr => ∃ k : Nat, k ≤ n ∧ i = .int .i64 k ∧ Hid (Below w2.heap.size w2 wr)) (fun i _ => n - (intOf i).toNat)
    case atStart => exact ⟨0, Nat.zero_le _, rfl, Below.refl _ _⟩
    case round =>
      obtain ⟨k, hk, rfl, hbw⟩ := hrel
      have hm' := Hm.out
      unfold maxLen at hm'
      by_cases hlt : k < n
      · obtain ⟨b1, o1, e1, l1, c1⟩ := R3.out k hlt
        cases e1
        obtain ⟨b2, o2, e2, l2, c2⟩ := L3.out k hlt
        subst e2
        have p0 := (hbw.out.cell (p := ⟨g, 0 + k * 3 + 0, none⟩) l1).trans (c1 0 (by omega))
        have p1 := (hbw.out.cell (p := ⟨g, 0 + k * 3 + 1, none⟩) l1).trans (c1 1 (by omega))
        have p2 := (hbw.out.cell (p := ⟨g, 0 + k * 3 + 2, none⟩) l1).trans (c1 2 (by omega))
        have q0 := (hbw.out.cell (p := ⟨b2, o2 + k * 3 + 0, none⟩) l2).trans (c2 0 (by omega))
        have q1 := (hbw.out.cell (p := ⟨b2, o2 + k * 3 + 1, none⟩) l2).trans (c2 1 (by omega))
        have q2 := (hbw.out.cell (p := ⟨b2, o2 + k * 3 + 2, none⟩) l2).trans (c2 2 (by omega))
        rw [Nat.zero_add] at p0 p1 p2
        rw [Nat.add_zero] at p0 q0
        clear c1 c2 l1 l2 hm'
        go_wp2_with fail
        go_quiet (fail)
        go_wp2
        go_roundw
        case rel => exact ⟨k + 1, by omega, by go_num, below_drewN hbw.out _⟩
        case measure => simp [intOf]; omega
      · obtain rfl : k = n := by omega
        obtain ⟨p, q, r, e, hE⟩ := M.subEnd_form a b c x y z
        have A4 := Lib.hid (A3.out.below hbw.out)
        have B4 := Lib.hid (B3.out.below hbw.out)
        have D4 := Lib.hid (D3.out.trans (hbw.out.mono D3.out.size))
        have S1 := sub_any a b c x y z wr
        rw [hE] at S1
        have S2 : Hid (∀ V, _) := fun V => refSub_any a b c x y z V
        rw [hE] at S2
        clear A3 B3 D3 R3 L3 hbw hE hm'
        have a0 := A4.out.c0
        have a1 := A4.out.c1
        have a2 := A4.out.c2
        have b0 := B4.out.c0
        have b1 := B4.out.c1
        have b2 := B4.out.c2
        go_wp2_with fail
        refine S1.mono ?_
        rintro e w4 ⟨rfl, hb4⟩
        have A5 := Lib.hid ((A4.out.below hb4).alloc (.cells #[.int .i64 p, .int .i64 q, .int .i64 r] 23))
        have B5 := Lib.hid ((B4.out.below hb4).alloc (.cells #[.int .i64 p, .int .i64 q, .int .i64 r] 23))
        have C5 := Lib.hid (M.Own.new w4 p q r 23)
        have D5 := Lib.hid ((D4.out.trans (hb4.mono D4.out.size)).alloc (Nat.le_trans D4.out.size hb4.size) (.cells #[.int .i64 p, .int .i64 q, .int .i64 r] 23))
        clear A4 B4 D4 hb4 a0 a1 a2 b0 b1 b2
        have a0 := A5.out.c0
        have a1 := A5.out.c1
        have a2 := A5.out.c2
        have b0 := B5.out.c0
        have b1 := B5.out.c1
        have b2 := B5.out.c2
        clear S1
        go_wp2_with fail
        refine (S2.out _).mono ?_
        rintro e w5 ⟨rfl, hb5⟩
        have C6 := C5.out.below hb5
        have D6 := (D5.out.trans (hb5.mono D5.out.size)).alloc (Nat.le_trans D5.out.size hb5.size) (.cells #[.int .i64 p, .int .i64 q, .int .i64 r] 23)
        have C7 := C6.alloc (.cells #[.int .i64 p, .int .i64 q, .int .i64 r] 23)
        have c0 := C7.c0
        have c1 := C7.c1
        have c2 := C7.c2
        have D6 := Lib.hid D6
        clear C5 C6 C7 D5 hb5 A5 B5 a0 a1 a2 b0 b1 b2 S2
        go_wp2_with fail
        refine (mknown_any _).mono ?_
        rintro e w6 ⟨rfl, hb6⟩
        go_wp2
        go_ret
        exact ⟨rfl, D6.out.trans (hb6.mono D6.out.size)⟩
end Go.Proofs.Yticaanjjjojmgaa
