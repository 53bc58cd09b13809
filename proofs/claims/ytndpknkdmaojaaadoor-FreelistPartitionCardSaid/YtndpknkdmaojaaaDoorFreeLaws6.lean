/- The walk of FreelistPartition. -/
import Derived.Test.YtndpknkdmaojaaaDoorFreePart
import Derived.BigQuiet
import Derived.BigRegion
import Derived.RegionTactic
import Derived.ChangeAlike
import Derived.IntWalk
import Derived.Deep.DeepCutAuto
import Derived.Deep.CutBlock
namespace Go.Proofs.YtndpknkdmaojaaaDoor
open Go.RowKit

set_option maxRecDepth 100000 in
set_option maxHeartbeats 16000000 in
theorem freelistPartition_walk (n g : Int) (sr : FL.Src) (w : World) (_ : -9223372036854775808 ≤ n) (_ : n < 9223372036854775808) (_ : -9223372036854775808 ≤ g) (_ : g < 9223372036854775808) (hs : FL.ArgOk w sr) (hp : H.Pow w.heap.size w) :
    Calls Tryd.prog 6 #[.int .i64 n, .int .i64 g, .slice sr.a sr.x.length sr.c] w fun e w' => e = .returned (.bool true) ∧ Below w.heap.size w w' := by
  have HK : Hid (∀ W, Below w.heap.size w W → Calls Tryd.prog 19 #[] W (fun e w' => e = .returned (.bool true) ∧ Below W.heap.size W w')) := fun W hb => awake11_any W (H.Pow.go hp hb)
  have HR := Lib.hid (run11_any n g sr w hs)
  obtain ⟨n1, n2, _⟩ := FL.nn_bd n
  unfold FL.RunEnd at HR
  generalize FL.nn n = nn at *
  have hm1 := run_make_row' (P := Tryd.prog) 45 3 (.int .i64 0) 8 Tryd.underlying45 Tryd.infoInt11 rfl .i64 .i64 nn (by omega) (by omega)
  clear hp hs
  go_enter Tryd.func6, Tryd.ntmps6
  go_wp2_with fail
  refine HR.out.mono ?_
  rintro e w1 ⟨p, R, s, X, D, va, vc, B, rfl, t, al, hh, hl, hx, wB⟩
  have T0 := Lib.hid (show FL.One w p R s B w1 ∧ FL.Al B X (.slice va X.length vc) w1 from ⟨t, al⟩)
  have HH := Lib.hid hh
  have HV := Lib.hid t.x.inv
  have hBG := t.size
  clear t al hh HR
  go_upto_region 5 with (fail)
  have C0 : Hid (FL.One w p R s B (w1.alloc (.cells (madeCells #[.int .i64 0] nn) 3)) ∧ FL.Rw (w1.alloc (.cells (madeCells #[.int .i64 0] nn) 3)) w1.heap.size nn nn 3 (FL.ints (FL.cn nn fun i => (s.stk.take 0).count i)) ∧ FL.Al B X (.slice va X.length vc) (w1.alloc (.cells (madeCells #[.int .i64 0] nn) 3)) ∧ w1.heap.size + 1 ≤ (w1.alloc (.cells (madeCells #[.int .i64 0] nn) 3)).heap.size) := by
    refine ⟨T0.out.1.on ((Below.refl _ _).alloc (Nat.le_refl _) _), FL.rw_made w1 nn (.int .i64 0) 3 (by unfold maxLen; omega) ?_, T0.out.2.on ((Below.refl _ _).alloc (Nat.le_refl _) _), by rw [World.size_alloc]; exact Nat.le_refl _⟩
    have : FL.cn nn (fun i => (s.stk.take 0).count i) = List.replicate nn 0 := by
      unfold FL.cn
      simp only [List.take_zero, List.count_nil]
      exact List.ext_getElem (by simp) (by simp)
    rw [this]; unfold FL.ints; rw [List.map_replicate]; rfl
  have hva : Hid (∀ k, (Value.slice va X.length vc).ownBlock = some k → k < w1.heap.size) := fun k e => (T0.out.2.own.lt k e).2
  generalize w1.alloc (.cells (madeCells #[.int .i64 0] nn) 3) = W2 at C0 ⊢
  obtain ⟨G, hG⟩ : ∃ G, w1.heap.size = G := ⟨_, rfl⟩
  rw [hG] at C0 hva hBG ⊢
  clear hG T0 hm1
  go_wp2_with fail
  refine C0.out.1.freeW.mono ?_
  rintro e w3 ⟨fa, fc, rfl, hr, hb⟩
  have R1 := Lib.hid (FL.Ri.mono hr C0.out.2.2.2)
  have C1 : Hid (FL.One w p R s B w3 ∧ FL.Rw w3 G nn nn 3 (FL.ints (FL.cn nn fun i => (s.stk.take 0).count i)) ∧ FL.Al B X (.slice va X.length vc) w3 ∧ G + 1 ≤ w3.heap.size) := ⟨C0.out.1.on hb, C0.out.2.1.but (R := fun _ => False) (FL.But.below hb) id, C0.out.2.2.1.on hb, Nat.le_trans C0.out.2.2.2 hb.size⟩
  clear hr hb C0
  go_wp2_with fail
  refine C1.out.1.withdrawnW.mono ?_
  rintro e w4 ⟨ga, gc, rfl, hr, hb⟩
  have R2 := Lib.hid (FL.Ri.mono hr C1.out.2.2.2)
  have R1' := Lib.hid (R1.out.on hb)
  have C2 : Hid (FL.One w p R s B w4 ∧ FL.Rw w4 G nn nn 3 (FL.ints (FL.cn nn fun i => (s.stk.take 0).count i)) ∧ FL.Al B X (.slice va X.length vc) w4 ∧ G + 1 ≤ w4.heap.size) := ⟨C1.out.1.on hb, C1.out.2.1.but (R := fun _ => False) (FL.But.below hb) id, C1.out.2.2.1.on hb, Nat.le_trans C1.out.2.2.2 hb.size⟩
  clear hr hb C1 R1
  go_wp2_with fail
  refine C2.out.1.handlesW.mono ?_
  rintro e w5 ⟨la, lc, rfl, hr, hb⟩
  have P0 : Hid (FL.Pn w p R s B G nn X (.slice fa s.stk.length fc) (.slice ga (s.those 2).length gc) (.slice la s.hands.length lc) (.slice va X.length vc) (fun i => (s.stk.take 0).count i) w5) :=
    ⟨C2.out.1.on hb, C2.out.2.1.but (R := fun _ => False) (FL.But.below hb) id, R1'.out.on hb, R2.out.on hb, hr.mono C2.out.2.2.2, C2.out.2.2.1.on hb⟩
  clear hr hb C2 R1' R2
  have hl1 : s.stk.length ≤ 16384 := Nat.le_trans (FL.stk_len HV.out) HV.out.n2
  have hl2 : (s.those 2).length ≤ 16384 := by rw [← FL.wk_all]; exact Nat.le_trans (FL.wk_len _ _) HV.out.n2
  have hl3 : s.hands.length ≤ 16384 := by rw [← FL.hk_all]; exact Nat.le_trans (FL.hk_len _ _) HV.out.n2
  obtain ⟨L1, hL1⟩ : ∃ L1, Hid (s.stk.length = L1) := ⟨_, rfl⟩
  obtain ⟨L2, hL2⟩ : ∃ L2, Hid ((s.those 2).length = L2) := ⟨_, rfl⟩
  obtain ⟨L3, hL3⟩ : ∃ L3, Hid (s.hands.length = L3) := ⟨_, rfl⟩
  have hL4 : Hid ((s.those 1).length = L3) := by show _ = _; rw [← hL3.out, FL.hands_len]
  rw [hL1.out, hL2.out, hL3.out] at P0 ⊢
  rw [hL1.out] at hl1
  rw [hL2.out] at hl2
  rw [hL3.out] at hl3
  go_wp2
  go_loopw [15] (fun j wr => ∃ k : Nat, k ≤ L1 ∧ j = .int .i64 k ∧ Hid (FL.Pn w p R s B G nn X (.slice fa L1 fc) (.slice ga L2 gc) (.slice la L3 lc) (.slice va X.length vc) (fun i => (s.stk.take k).count i) wr)) (fun j _ => L1 - (intOf j).toNat)
  case atStart => exact ⟨0, Nat.zero_le _, rfl, P0.out⟩
  case round =>
    obtain ⟨k, hk, rfl, hP⟩ := hrel
    clear P0
    by_cases hlt : k < L1
    · have q1 : decide ((k : Int) < (L1 : Int)) = true := by simp; omega
      obtain ⟨x, hx0⟩ : ∃ x, s.stk[k]? = some x := ⟨_, List.getElem?_eq_getElem (by rw [hL1.out]; exact hlt)⟩
      have hxn : x < nn := by have := ((HV.out.stk x).1 (List.mem_of_getElem? hx0)).1; omega
      obtain ⟨b1, o1, ea, l1, cx⟩ := FL.row_at hP.out.fr.row hx0
      obtain ⟨ci, hci⟩ : ∃ ci : Int, (((s.stk.take k).count x : Nat) : Int) = ci := ⟨_, rfl⟩
      have hcb : (s.stk.take k).count x ≤ 16384 := Nat.le_trans List.count_le_length (by rw [List.length_take]; omega)
      obtain ⟨cc, fcz⟩ := hP.out.cell hxn hci
      have R1 := Lib.hid (hP.out.bump hBG wB hva.out (FL.count_next hx0) hci)
      have c0 : 0 ≤ ci := by omega
      have c1 : ci ≤ 16384 := by omega
      have x0 : ¬ (x : Int) < 0 := by omega
      have x1 : ¬ (nn : Int) ≤ (x : Int) := by omega
      subst ea
      clear hP hci hcb hx0 l1
      go_wp2
      go_roundw
      case rel => exact ⟨k + 1, by omega, by go_num, R1.out⟩
      case measure => simp [intOf]; omega
    · obtain rfl : L1 = k := by omega
      have q1 : decide ((L1 : Int) < (L1 : Int)) = false := by simp
      have P1 : Hid (FL.Pn w p R s B G nn X (.slice fa L1 fc) (.slice ga L2 gc) (.slice la L3 lc) (.slice va X.length vc) (fun i => s.stk.count i + ((s.those 2).take 0).count i) wr) := by
        have := hP.out
        rw [← hL1.out, List.take_length, hL1.out] at this
        exact this
      clear hP
      go_wp2
      go_loopw [16] (fun j wr => ∃ k : Nat, k ≤ L2 ∧ j = .int .i64 k ∧ Hid (FL.Pn w p R s B G nn X (.slice fa L1 fc) (.slice ga L2 gc) (.slice la L3 lc) (.slice va X.length vc) (fun i => s.stk.count i + ((s.those 2).take k).count i) wr)) (fun j _ => L2 - (intOf j).toNat)
      case atStart => exact ⟨0, Nat.zero_le _, rfl, P1.out⟩
      case round =>
        obtain ⟨k, hk, rfl, hP⟩ := hrel
        clear P1
        by_cases hlt : k < L2
        · have q1 : decide ((k : Int) < (L2 : Int)) = true := by simp; omega
          obtain ⟨x, hx0⟩ : ∃ x, (s.those 2)[k]? = some x := ⟨_, List.getElem?_eq_getElem (by rw [hL2.out]; exact hlt)⟩
          obtain ⟨hxs, hxa⟩ := FL.mem_those.1 (List.mem_of_getElem? hx0)
          have hxn : x < nn := by omega
          have gE : s.gnE (x : Int) = 7 := by unfold FL.S.gnE; rw [if_neg (by omega), if_pos (by simpa using hxa)]
          have gV : ((s.gnV (x : Int) : Nat) : Int) = 0 := by unfold FL.S.gnV; rw [gE]; rfl
          obtain ⟨b1, o1, ea, l1, cx⟩ := FL.row_at hP.out.go.row hx0
          obtain ⟨ci, hci⟩ : ∃ ci : Int, ((s.stk.count x + ((s.those 2).take k).count x : Nat) : Int) = ci := ⟨_, rfl⟩
          have hcb : s.stk.count x ≤ 16384 := Nat.le_trans List.count_le_length (by rw [hL1.out]; exact hl1)
          have hcb2 : ((s.those 2).take k).count x ≤ 16384 := Nat.le_trans List.count_le_length (by rw [List.length_take]; omega)
          have c0 : 0 ≤ ci := by omega
          have c1 : ci ≤ 32768 := by omega
          have x0 : decide ((x : Int) < 0) = false := decide_eq_false (by omega)
          have x1 : decide ((nn : Int) ≤ (x : Int)) = false := decide_eq_false (by omega)
          have x1n : ¬ nn ≤ x := by omega
          have x1m : decide (nn ≤ x) = false := decide_eq_false (by omega)
          subst ea
          clear hcb2 hxa hxs l1
          by_cases hk0 : k = 0
          · have q3 : decide ((0 : Int) < (k : Int)) = false := decide_eq_false (by omega)
            have q3n : ¬ 0 < k := by omega
            have q3m : decide (0 < k) = false := decide_eq_false (by omega)
            clear hk0
            go_wp2_with fail
            go_region
            have P2 : Hid (FL.Pn w p R s B G nn X (.slice fa L1 fc) (.slice (some ⟨b1, o1, none⟩) L2 gc) (.slice la L3 lc) (.slice va X.length vc) (fun i => s.stk.count i + ((s.those 2).take k).count i) (wr.drew)) := hP.out.on (Below.refl _ _).drew
            generalize wr.drew = wd at P2 ⊢
            obtain ⟨cc, fcz⟩ := P2.out.cell hxn hci
            obtain ⟨_, o2, ea, l2, cx2⟩ := FL.row_at P2.out.go.row hx0
            cases ea
            have R1 := Lib.hid (show FL.Pn w p R s B G nn X (.slice fa L1 fc) (.slice (some ⟨b1, o1, none⟩) L2 gc) (.slice la L3 lc) (.slice va X.length vc) (fun i => s.stk.count i + ((s.those 2).take (k + 1)).count i) (wd.setCell ⟨G, x, none⟩ (.int .i64 (ci + 1))) from P2.out.bump hBG wB hva.out (fun i => (congrArg (s.stk.count i + ·) (FL.count_next hx0 i)).trans (Nat.add_assoc _ _ _).symm) hci)
            have hne : G ≠ b1 := by have := (hP.out.go.own.lt b1 rfl).1; omega
            have HG := Lib.hid (R1.out.one.genW (x : Int) (by omega) (by omega) (v := 0) (e := 7) gV gE)
            clear hP P2 hci hcb hx0 cx gV gE
            go_wp2_with fail
            refine HG.out.mono ?_
            rintro e wg ⟨rfl, hb⟩
            have R2 := Lib.hid (R1.out.on hb)
            clear hb R1 HG cc fcz cx2
            go_wp2
            go_roundw
            case rel => exact ⟨k + 1, by omega, by go_num, R2.out⟩
            case measure => simp [intOf]; omega
          · obtain ⟨km, rfl⟩ : ∃ km, k = km + 1 := ⟨k - 1, by omega⟩
            obtain ⟨y, hy0⟩ : ∃ y, (s.those 2)[km]? = some y := ⟨_, List.getElem?_eq_getElem (by rw [hL2.out]; omega)⟩
            have hyx : y < x := by
              have := List.pairwise_iff_getElem.1 (FL.those_asc s 2) km (km + 1) (by rw [hL2.out]; omega) (by rw [hL2.out]; exact hlt) (by omega)
              rw [List.getElem?_eq_getElem (by rw [hL2.out]; omega)] at hy0 hx0
              cases hy0
              cases hx0
              exact this
            obtain ⟨_, o2, ea, l2, cy⟩ := FL.row_at hP.out.go.row hy0
            cases ea
            have q2 : decide ((x : Int) ≤ (y : Int)) = false := decide_eq_false (by omega)
            have q2n : ¬ x ≤ y := by omega
            have q2m : decide (x ≤ y) = false := decide_eq_false (by omega)
            have q3 : decide ((0 : Int) < ((km + 1 : Nat) : Int)) = true := decide_eq_true (by omega)
            have q3n : decide (0 < km + 1) = true := decide_eq_true (by omega)
            obtain ⟨k, hk1⟩ : ∃ k, km + 1 = k := ⟨_, rfl⟩
            rw [hk1] at hP hx0 hci hlt hk cx q3 q3n q1 ⊢
            have hk9 : (km : Int) < (L2 : Int) := by omega
            have q4 : IntKind.i64.wrap ((k : Int) - 1) = (km : Int) := by rw [show (k : Int) - 1 = (km : Int) by omega]; exact IntWalk.i64_in _ (by omega)
            clear hy0 l2 hyx hk0
            go_wp2_with fail
            go_region
            clear q4 q2 q2n q2m hk9
            have P2 : Hid (FL.Pn w p R s B G nn X (.slice fa L1 fc) (.slice (some ⟨b1, o1, none⟩) L2 gc) (.slice la L3 lc) (.slice va X.length vc) (fun i => s.stk.count i + ((s.those 2).take k).count i) (wr.drew)) := hP.out.on (Below.refl _ _).drew
            generalize wr.drew = wd at P2 ⊢
            obtain ⟨cc, fcz⟩ := P2.out.cell hxn hci
            obtain ⟨_, o2, ea, l2, cx2⟩ := FL.row_at P2.out.go.row hx0
            cases ea
            have R1 := Lib.hid (show FL.Pn w p R s B G nn X (.slice fa L1 fc) (.slice (some ⟨b1, o1, none⟩) L2 gc) (.slice la L3 lc) (.slice va X.length vc) (fun i => s.stk.count i + ((s.those 2).take (k + 1)).count i) (wd.setCell ⟨G, x, none⟩ (.int .i64 (ci + 1))) from P2.out.bump hBG wB hva.out (fun i => (congrArg (s.stk.count i + ·) (FL.count_next hx0 i)).trans (Nat.add_assoc _ _ _).symm) hci)
            have hne : G ≠ b1 := by have := (hP.out.go.own.lt b1 rfl).1; omega
            have HG := Lib.hid (R1.out.one.genW (x : Int) (by omega) (by omega) (v := 0) (e := 7) gV gE)
            clear hP P2 hci hcb hx0 cx gV gE
            go_wp2_with fail
            refine HG.out.mono ?_
            rintro e wg ⟨rfl, hb⟩
            have R2 := Lib.hid (R1.out.on hb)
            clear hb R1 HG cc fcz cx2
            go_wp2
            go_roundw
            case rel => exact ⟨k + 1, by omega, by go_num, R2.out⟩
            case measure => simp [intOf]; omega
        · obtain rfl : L2 = k := by omega
          have q2 : decide ((L2 : Int) < (L2 : Int)) = false := by simp
          have P2 : Hid (FL.Pn w p R s B G nn X (.slice fa L1 fc) (.slice ga L2 gc) (.slice la L3 lc) (.slice va X.length vc) (fun i => s.stk.count i + (s.those 2).count i + ((s.those 1).take 0).count i) wr) := by
            have := hP.out
            rw [← hL2.out, List.take_length, hL2.out] at this
            exact this
          clear hP
          go_wp2
          go_loopw [19] (fun j wr => ∃ k : Nat, k ≤ L3 ∧ j = .int .i64 k ∧ Hid (FL.Pn w p R s B G nn X (.slice fa L1 fc) (.slice ga L2 gc) (.slice la L3 lc) (.slice va X.length vc) (fun i => s.stk.count i + (s.those 2).count i + ((s.those 1).take k).count i) wr)) (fun j _ => L3 - (intOf j).toNat)
          case atStart => exact ⟨0, Nat.zero_le _, rfl, P2.out⟩
          case round =>
            obtain ⟨k, hk, rfl, hP⟩ := hrel
            clear P2
            by_cases hlt : k < L3
            · have q1 : decide ((k : Int) < (L3 : Int)) = true := by simp; omega
              obtain ⟨x, hx0⟩ : ∃ x, (s.those 1)[k]? = some x := ⟨_, List.getElem?_eq_getElem (by rw [hL4.out]; exact hlt)⟩
              obtain ⟨hxs, hxa⟩ := FL.mem_those.1 (List.mem_of_getElem? hx0)
              have hxn : x < nn := by omega
              have hz0 := FL.hands_at hx0
              obtain ⟨ok, os, og⟩ := FL.hand_of HV.out hxs
              have olv := (FL.mem_hands HV.out).1 (List.mem_of_getElem? hz0)
              obtain ⟨e1, e2, e3⟩ := H.ck_ok ok
              have gE : s.gnE (x : Int) = 0 := by unfold FL.S.gnE; rw [if_neg (by omega), if_neg (by rw [Int.toNat_natCast]; omega)]
              have gV : ((s.gnV (x : Int) : Nat) : Int) = (s.gn x : Int) := by unfold FL.S.gnV; rw [if_pos gE]; rfl
              obtain ⟨z, hz⟩ : ∃ z, H.pack x (s.gn x) = z := ⟨_, rfl⟩
              rw [hz] at hz0 olv e1 e2 e3 os og
              have hzl := hP.out.li.le z (List.mem_of_getElem? hz0)
              obtain ⟨b1, o1, ea, l1, cx⟩ := H.row_at (FL.Al.row hP.out.li) hz0
              subst ea
              have HS := fun W => slot10_any z hzl W
              have HGn := fun W => gen10_any z hzl W
              rw [e1, e2, os] at HS
              rw [e1, e3, og] at HGn
              have HLv := hP.out.one.toOn.live z hzl
              rw [olv] at HLv
              obtain ⟨gi, hgi⟩ : ∃ gi : Int, ((s.gn x : Nat) : Int) = gi := ⟨_, rfl⟩
              obtain ⟨zi, hzi⟩ : ∃ zi : Int, (z : Int) = zi := ⟨_, rfl⟩
              rw [hgi] at HGn gV
              rw [hzi] at HS HGn HLv cx
              have HG := Lib.hid (hP.out.one.genW (x : Int) (by omega) (by omega) gV gE)
              have HS := Lib.hid HS
              have HGn := Lib.hid HGn
              have HLv := Lib.hid HLv
              obtain ⟨ci, hci⟩ : ∃ ci : Int, ((s.stk.count x + (s.those 2).count x + ((s.those 1).take k).count x : Nat) : Int) = ci := ⟨_, rfl⟩
              have hcb : s.stk.count x ≤ 16384 := Nat.le_trans List.count_le_length (by rw [hL1.out]; exact hl1)
              have hcb2 : (s.those 2).count x ≤ 16384 := Nat.le_trans List.count_le_length (by rw [hL2.out]; exact hl2)
              have hcb3 : ((s.those 1).take k).count x ≤ 16384 := Nat.le_trans List.count_le_length (by rw [List.length_take]; omega)
              have c0 : 0 ≤ ci := by omega
              have c1 : ci ≤ 49152 := by omega
              have x1 : decide ((nn : Int) ≤ (x : Int)) = false := decide_eq_false (by omega)
              have q5 : (gi != gi) = false := by simp
              clear hcb hcb2 hcb3 hxa hxs l1 hgi hzi hz hz0 ok os og olv e1 e2 e3 gE gV hzl
              go_wp2_with fail
              refine (HS.out _).mono ?_
              rintro e w6 ⟨rfl, rfl⟩
              go_wp2_with fail
              refine (HGn.out _).mono ?_
              rintro e w6 ⟨rfl, rfl⟩
              go_wp2_with fail
              refine HLv.out.mono ?_
              rintro e w6 ⟨rfl, rfl⟩
              go_wp2_with fail
              refine HG.out.mono ?_
              rintro e w6 ⟨rfl, hb⟩
              have P2 := Lib.hid (hP.out.on hb)
              obtain ⟨cc, fcz⟩ := P2.out.cell hxn hci
              have R1 := Lib.hid (show FL.Pn w p R s B G nn X (.slice fa L1 fc) (.slice ga L2 gc) (.slice (some ⟨b1, o1, none⟩) L3 lc) (.slice va X.length vc) (fun i => s.stk.count i + (s.those 2).count i + ((s.those 1).take (k + 1)).count i) (w6.setCell ⟨G, x, none⟩ (.int .i64 (ci + 1))) from P2.out.bump hBG wB hva.out (fun i => (congrArg (s.stk.count i + (s.those 2).count i + ·) (FL.count_next hx0 i)).trans (Nat.add_assoc _ _ _).symm) hci)
              clear hb hP P2 hci hx0 HS HGn HLv HG cx
              go_wp2
              go_roundw
              case rel => exact ⟨k + 1, by omega, by go_num, R1.out⟩
              case measure => simp [intOf]; omega
            · obtain rfl : L3 = k := by omega
              have q3 : decide ((L3 : Int) < (L3 : Int)) = false := by simp
              have CT : Hid (∀ i, i < nn → wr.cell? ⟨G, i, none⟩ = some (.int .i64 1)) := fun i hi => by
                refine (hP.out.cell hi ?_).1
                rw [← hL4.out, List.take_length, FL.partition HV.out (by omega)]
                rfl
              have P3 := Lib.hid (show FL.One w p R s B wr ∧ FL.Al B X (.slice va X.length vc) wr from ⟨hP.out.one, hP.out.al⟩)
              clear hP
              go_wp2
              go_loopw [26] (fun j wr2 => ∃ k : Nat, k ≤ nn ∧ j = .int .i64 k ∧ Hid (wr2 = wr)) (fun j _ => nn - (intOf j).toNat)
              case atStart => exact ⟨0, Nat.zero_le _, rfl, rfl⟩
              case round =>
                obtain ⟨k, hk, rfl, hw⟩ := hrel
                obtain rfl := hw.out
                by_cases hlk : k < nn
                · have ck := CT.out k hlk
                  have q5 : decide ((k : Int) < (nn : Int)) = true := by simp; omega
                  go_wp2
                  go_roundw
                  case rel => exact ⟨k + 1, by omega, by go_num, trivial⟩
                  case measure => simp [intOf]; omega
                · obtain rfl : k = nn := by omega
                  have q5 : decide ((k : Int) < (k : Int)) = false := by simp
                  have MN := Lib.hid (FL.many HV.out HH.out)
                  clear CT
                  go_wp2
                  go_loopw [27, 28] (fun mv j wr2 => ∃ k : Nat, k ≤ X.length ∧ mv = .int .i64 ((((X.take k).filter fun h => s.live h).length : Nat) : Int) ∧ j = .int .i64 k ∧ Hid (wr2 = wr)) (fun _ j _ => X.length - (intOf j).toNat)
                  case atStart => exact ⟨0, Nat.zero_le _, rfl, rfl, rfl⟩
                  case round =>
                    obtain ⟨i, hi, rfl, rfl, hw⟩ := hrel
                    obtain rfl := hw.out
                    by_cases hli : i < X.length
                    · obtain ⟨y, hy⟩ : ∃ y, X[i]? = some y := ⟨_, List.getElem?_eq_getElem hli⟩
                      have hyl := P3.out.2.le y (List.mem_of_getElem? hy)
                      obtain ⟨b1, o1, ea, l1, cy⟩ := H.row_at (FL.Al.row P3.out.2) hy
                      subst ea
                      have HLv := P3.out.1.toOn.live y hyl
                      have q6 : decide ((i : Int) < (X.length : Int)) = true := by simp; omega
                      have hfl : ((X.take i).filter fun h => s.live h).length ≤ i := Nat.le_trans (List.length_filter_le _ _) (by rw [List.length_take]; omega)
                      have hst : ((X.take (i + 1)).filter fun h => s.live h).length = ((X.take i).filter fun h => s.live h).length + (if s.live y = true then 1 else 0) := by
                        rw [List.take_add_one, hy, List.filter_append, List.length_append]
                        congr 1
                        show ([y].filter fun h => s.live h).length = _
                        rw [List.filter_cons]
                        split <;> simp
                      obtain ⟨yi, hyi⟩ : ∃ yi : Int, (y : Int) = yi := ⟨_, rfl⟩
                      rw [hyi] at cy HLv
                      have HLv := Lib.hid HLv
                      obtain ⟨mc, hmc⟩ : ∃ mc : Nat, ((X.take i).filter fun h => s.live h).length = mc := ⟨_, rfl⟩
                      rw [hmc] at hfl hst ⊢
                      clear hy hyl l1 hyi hmc
                      go_wp2_with fail
                      refine HLv.out.mono ?_
                      rintro e w7 ⟨rfl, rfl⟩
                      cases lv : s.live y with
                      | true =>
                        rw [lv, if_pos rfl] at hst
                        go_wp2
                        go_roundw
                        case rel => exact ⟨i + 1, by omega, by rw [hst]; go_num, by go_num, trivial⟩
                        case measure => simp [intOf]; omega
                      | false =>
                        rw [lv, if_neg (by decide)] at hst
                        have hst := hst.trans (Nat.add_zero mc)
                        go_wp2
                        go_roundw
                        case rel => exact ⟨i + 1, by omega, by rw [hst], by go_num, trivial⟩
                        case measure => simp [intOf]; omega
                    · obtain rfl : i = X.length := by omega
                      have q6 : decide ((X.length : Int) < (X.length : Int)) = false := by simp
                      rw [List.take_length, MN.out, hL3.out]
                      have q7 : ((L3 : Int) == (L3 : Int)) = true := by simp
                      go_wp2_with fail
                      refine (HK.out _ P3.out.1.below).mono ?_
                      rintro e w8 ⟨rfl, hb⟩
                      have T3 := Lib.hid (P3.out.1.below.trans (hb.mono P3.out.1.below.size))
                      clear hb
                      go_wp2
                      go_ret
                      exact ⟨rfl, T3.out⟩
end Go.Proofs.YtndpknkdmaojaaaDoor
