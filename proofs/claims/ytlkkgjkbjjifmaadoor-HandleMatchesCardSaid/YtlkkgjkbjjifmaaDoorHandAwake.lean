/- The examples that every statement of stage 10 asks. -/
import Derived.Test.YtlkkgjkbjjifmaaDoorHandKit
namespace Go.Proofs.YtlkkgjkbjjifmaaDoor
open Go.RowKit

def M10.kl : List Nat := [131075, 65536, 65539, 65536]
def M10.kw : List Nat := [65536, 65539, 131075]
theorem M10.row_lit (w : World) (l : List Nat) : V.Row (w.alloc (.cells (H.row l).toArray 23)) (some ⟨w.heap.size, 0, none⟩) (H.row l) := fun i x hx => by
  refine ⟨w.heap.size, 0, rfl, by simp, ?_⟩
  rw [Nat.zero_add, Lib.cell_of_heap (heap_alloc_new w _)]; simpa using hx
theorem M10.srt_kl : H.srt M10.kl = M10.kw := by decide
set_option maxRecDepth 100000 in
set_option maxHeartbeats 4000000 in
theorem awake_any (w : World) (hp : H.Pow w.heap.size w) : Calls Tryd.prog 21 #[] w fun e w' => e = .returned (.bool true) ∧ Below w.heap.size w w' := by
  have HP : Hid (∀ W, Below w.heap.size w W → H.Pow W.heap.size W) := fun W hb => H.Pow.go hp hb
  clear hp
  have H1 := M10.hMk 3 2 (by decide) (by decide) (by decide) (by decide)
  rw [show H.mkV 3 2 = 131075 by decide, show H.mkE 3 2 = 0 by decide] at H1
  have H2 := M10.hMk 16384 1 (by decide) (by decide) (by decide) (by decide)
  rw [show H.mkV 16384 1 = 0 by decide, show H.mkE 16384 1 = 3 by decide] at H2
  have H3 := M10.hNx 131075 (by decide)
  rw [show H.nxV 131075 = 196611 by decide, show H.nxE 131075 = 0 by decide] at H3
  have H4 := M10.hPa ⟨#[51, 46, 50]⟩ (by decide)
  rw [show H.parse (⟨#[51, 46, 50]⟩ : ByteArray).data.toList = (131075, 0) by decide] at H4
  have H5 := M10.hPa ⟨#[51, 46, 48, 50]⟩ (by decide)
  rw [show H.parse (⟨#[51, 46, 48, 50]⟩ : ByteArray).data.toList = (0, 4) by decide] at H5
  have H6 := M10.hTx 131075 (by decide)
  rw [show H.textL 131075 = [51, 46, 50] from by unfold H.textL; rw [if_pos (by decide), show H.slot 131075 = 3 by decide, show H.gen 131075 = 2 by decide, D.digs_lt (by decide), D.digs_lt (by decide)]; rfl, show H.ckE 131075 = 0 by decide] at H6
  have H7 := M10.hCk 3 (by decide)
  rw [show H.ckE 3 = 2 by decide] at H7
  have I1 : Hid (∀ W h e, Calls Tryd.prog 30 #[.int .u64 h, .int .i64 e, .int .u64 h, .int .i64 e] W fun x w' => x = .returned (.bool true) ∧ Below W.heap.size W w') := fun W h e => (M10.is_any h e h e W).mono fun _ _ k => ⟨by rw [k.1]; simp, k.2 ▸ Below.refl _ _⟩
  have B0 : Hid (Below w.heap.size w w) := Below.refl _ _
  go_enter Tryd.func21, Tryd.ntmps21
  go_wp2_with fail
  refine (H1.out _).mono ?_
  rintro e w1 ⟨rfl, hb⟩
  have B1 := Lib.hid (B0.out.trans (hb.mono B0.out.size))
  clear hb B0
  go_wp2_with fail
  refine (H2.out _).mono ?_
  rintro e w2 ⟨rfl, hb⟩
  have B2 := Lib.hid (B1.out.trans (hb.mono B1.out.size))
  clear hb B1
  go_wp2_with fail
  refine (H3.out _).mono ?_
  rintro e w3 ⟨rfl, hb⟩
  have B3 := Lib.hid (B2.out.trans (hb.mono B2.out.size))
  clear hb B2
  go_wp2_with fail
  refine (H4.out _).mono ?_
  rintro e w4 ⟨rfl, hb⟩
  have B4 := Lib.hid (B3.out.trans (hb.mono B3.out.size))
  clear hb B3
  go_wp2_with fail
  refine (H5.out _).mono ?_
  rintro e w5 ⟨rfl, hb⟩
  have B5 := Lib.hid (B4.out.trans (hb.mono B4.out.size))
  clear hb B4
  go_wp2_with fail
  refine (H6.out _ (HP.out _ B5.out)).mono ?_
  rintro e w6 ⟨rfl, hb⟩
  have B6 := Lib.hid (B5.out.trans (hb.mono B5.out.size))
  clear hb B5
  go_wp2_with fail
  refine (I1.out _ _ _).mono ?_
  rintro e w7 ⟨rfl, hb⟩
  have B7 := Lib.hid (B6.out.trans (hb.mono B6.out.size))
  clear hb B6
  go_wp2_with fail
  refine (I1.out _ _ _).mono ?_
  rintro e w8 ⟨rfl, hb⟩
  have B8 := Lib.hid (B7.out.trans (hb.mono B7.out.size))
  clear hb B7
  go_wp2_with fail
  refine (I1.out _ _ _).mono ?_
  rintro e w9 ⟨rfl, hb⟩
  have B9 := Lib.hid (B8.out.trans (hb.mono B8.out.size))
  clear hb B8
  go_wp2_with fail
  refine (I1.out _ _ _).mono ?_
  rintro e w10 ⟨rfl, hb⟩
  have B10 := Lib.hid (B9.out.trans (hb.mono B9.out.size))
  clear hb B9
  go_wp2_with fail
  refine (I1.out _ _ _).mono ?_
  rintro e w11 ⟨rfl, hb⟩
  have B11 := Lib.hid (B10.out.trans (hb.mono B10.out.size))
  clear hb B10
  go_wp2_with fail
  refine (H7.out _).mono ?_
  rintro e w12 ⟨rfl, hb⟩
  have B12 := Lib.hid (B11.out.trans (hb.mono B11.out.size))
  clear hb B11
  go_wp2_with fail
  change Calls _ _ _ (w12.alloc (.cells (H.row M10.kl).toArray 23)) _
  have BA := Lib.hid (B12.out.alloc B12.out.size (.cells (H.row M10.kl).toArray 23))
  have RA := Lib.hid (M10.row_lit w12 M10.kl)
  generalize w12.alloc (.cells (H.row M10.kl).toArray 23) = wa at BA RA ⊢
  have HS := sort10_any (some ⟨w12.heap.size, 0, none⟩) 4 M10.kl wa RA.out (fun h => nomatch h) (by decide) (by decide)
  rw [M10.srt_kl, show M10.kl.length = 4 from rfl] at HS
  refine HS.mono ?_
  clear HS
  rintro e wb ⟨v, rfl, hm⟩
  have BB := Lib.hid (BA.out.trans (hm.below.mono BA.out.size))
  obtain ⟨vo, vc, hv, hr⟩ := hm.row
  subst hv
  have RB := Lib.hid (V.Row.below hr ((Below.refl wb.heap.size wb).alloc (Nat.le_refl _) (.cells (H.row M10.kw).toArray 23)))
  clear hm hr
  have BC := Lib.hid (BB.out.alloc BB.out.size (.cells (H.row M10.kw).toArray 23))
  have RC := Lib.hid (M10.row_lit wb M10.kw)
  go_wp2_with fail
  change Calls _ _ _ (wb.alloc (.cells (H.row M10.kw).toArray 23)) _
  generalize wb.alloc (.cells (H.row M10.kw).toArray 23) = wc at BC RB RC ⊢
  have HE := equalHandles_any vo (some ⟨wb.heap.size, 0, none⟩) vc 3 M10.kw M10.kw wc RB.out RC.out (by decide)
  rw [decide_eq_true rfl, show M10.kw.length = 3 from rfl] at HE
  refine HE.mono ?_
  clear HE
  rintro e wd ⟨rfl, hb⟩
  have BD := Lib.hid (BC.out.trans (hb.mono BC.out.size))
  clear hb
  go_wp2
  go_ret
  exact ⟨rfl, BD.out⟩
theorem M10.hAw : Hid (∀ W, H.Pow W.heap.size W → Calls Tryd.prog 21 #[] W (fun e w' => e = .returned (.bool true) ∧ Below W.heap.size W w')) := fun W hp => awake_any W hp
end Go.Proofs.YtlkkgjkbjjifmaaDoor
