/- The walk of FreelistExamples. -/
import Derived.Test.YtndpknkdmaojaaaDoorFreeEx
import Derived.Deep.DeepCutAuto
import Derived.Deep.CutBlock
namespace Go.Proofs.YtndpknkdmaojaaaDoor
open Go.RowKit

set_option maxRecDepth 100000 in
set_option maxHeartbeats 8000000 in
theorem freelistExamples_walk (w : World) (hp : H.Pow w.heap.size w) :
    Calls Tryd.prog 5 #[] w fun e w' => e = .returned (.bool true) ∧ Below w.heap.size w w' := by
  have HP : Hid (∀ W, Below w.heap.size w W → H.Pow W.heap.size W) := fun W hb => H.Pow.go hp hb
  have HK : Hid (∀ W, Below w.heap.size w W → Calls Tryd.prog 19 #[] W (fun e w' => e = .returned (.bool true) ∧ Below W.heap.size W w')) := fun W hb => awake11_any W (H.Pow.go hp hb)
  have HM : Hid (∀ (s g : Int), (-9223372036854775808 ≤ s ∧ s < 9223372036854775808) → (0 ≤ g ∧ g ≤ 18446744073709551615) → ∀ W, Below w.heap.size w W → Calls Tryd.prog 4 #[.int .i64 s, .int .u64 g] W fun e w' => e = .returned (.bool true) ∧ Below W.heap.size W w') := fun s g hs hg W hb => freelistMakes_walk s g W hs.1 hs.2 hg.1 hg.2 (HP.out W hb)
  have HQ : Hid (∀ (g : Int), (-9223372036854775808 ≤ g ∧ g < 9223372036854775808) → ∀ ao c W, Below w.heap.size w W → FL.DRow W ao (FL.dl 15) → Calls Tryd.prog 3 #[.int .i64 2, .int .i64 g, .slice ao (FL.dl 15).length c] W fun e w' => e = .returned (.bool true) ∧ Below W.heap.size W w') := fun g hg ao c W hb hr =>
    freelistPlays_walk 2 g ⟨ao, c, FL.dl 15⟩ W (by omega) (by omega) hg.1 hg.2 ⟨hr, FL.dl_fit (by omega), by show (FL.dl 15).length ≤ _; rw [FL.dl_len]; omega⟩ (HP.out W hb)
  have N1 : Hid (∀ W, Calls Tryd.prog 13 #[.pointer none] W fun e w' => e = .returned (.tuple #[.int .u64 0, .int .i64 1]) ∧ W = w') := takeNil11_any
  have N2 : Hid (∀ W, Calls Tryd.prog 15 #[.pointer none, .int .u64 65536] W fun e w' => e = .returned (.tuple #[.bool false, .int .i64 1]) ∧ W = w') := giveNil11_any 65536
  have N3 : Hid (∀ W, Calls Tryd.prog 23 #[.pointer none, .int .i64 0] W fun e w' => e = .returned (.tuple #[.int .u64 0, .int .i64 1]) ∧ W = w') := genNil11_any 0
  have N4 : Hid (∀ W, Calls Tryd.prog 24 #[.pointer none, .int .u64 65536] W fun e w' => e = .returned (.bool false) ∧ W = w') := liveNil11_any 65536 (by omega)
  have N5 : Hid (∀ W, Calls Tryd.prog 21 #[.pointer none] W fun e w' => e = .returned (.slice none 0 0) ∧ W = w') := freeNil11_any
  have N6 : Hid (∀ W, Calls Tryd.prog 25 #[.pointer none] W fun e w' => e = .returned (.slice none 0 0) ∧ W = w') := handlesNil11_any
  have N7 : Hid (∀ W, Calls Tryd.prog 26 #[.pointer none] W fun e w' => e = .returned (.slice none 0 0) ∧ W = w') := withdrawnNil11_any
  clear hp
  go_enter Tryd.func5, Tryd.ntmps5
  go_wp2_with fail
  refine (N1.out _).mono ?_
  rintro e w1 ⟨rfl, rfl⟩
  go_wp2_with fail
  refine (N2.out _).mono ?_
  rintro e w1 ⟨rfl, rfl⟩
  go_wp2_with fail
  refine (N3.out _).mono ?_
  rintro e w1 ⟨rfl, rfl⟩
  go_wp2_with fail
  refine (N4.out _).mono ?_
  rintro e w1 ⟨rfl, rfl⟩
  go_wp2_with fail
  refine (N5.out _).mono ?_
  rintro e w1 ⟨rfl, rfl⟩
  go_wp2_with fail
  refine (N6.out _).mono ?_
  rintro e w1 ⟨rfl, rfl⟩
  go_wp2_with fail
  refine (N7.out _).mono ?_
  rintro e w1 ⟨rfl, rfl⟩
  clear N1 N2 N3 N4 N5 N6 N7
  go_upto_region 8 with (fail)
  have E0 : Hid (FL.Er w w.heap.size (w.alloc (.cells FL.er.toArray 3))) := ⟨(Below.refl _ _).alloc (Nat.le_refl _) _, FL.lit w FL.er 3⟩
  change Code.wp _ _ _ _ (w.alloc (.cells FL.er.toArray 3))
  generalize w.alloc (.cells FL.er.toArray 3) = W1 at E0 ⊢
  obtain ⟨b, hb⟩ : ∃ b, w.heap.size = b := ⟨_, rfl⟩
  have E0 : Hid (FL.Er w b W1) := by rw [← hb]; exact E0.out
  rw [hb]
  clear hb
  go_wp2
  go_loopw [9] (fun j wx => ∃ c : Nat, c ≤ 7 ∧ j = .int .i64 c ∧ Hid (FL.Er w b wx)) (fun j _ => 7 - (intOf j).toNat)
  case atStart => exact ⟨0, by omega, rfl, E0.out⟩
  case round =>
    obtain ⟨c, hc, rfl, hE⟩ := hrel
    clear E0
    by_cases hlc : c < 7
    · have h2 : (c : Int) < 7 := by omega
      obtain ⟨t, ht⟩ : ∃ t, FL.el[c]? = some t := ⟨_, List.getElem?_eq_getElem (show c < FL.el.length from hlc)⟩
      have htb := FL.el_bd t (List.mem_of_getElem? ht)
      have HC : Hid (∀ V, FL.Er w b V → V.cell? ⟨b, c, none⟩ = some (.int .i64 t)) := fun V h => h.cell ht
      have A1 := Lib.hid (HM.out t 1 htb (by omega))
      have A2 := Lib.hid (HM.out t 0 htb (by omega))
      have A3 := Lib.hid (HM.out t 4294967295 htb (by omega))
      have A4 := Lib.hid (HM.out t 4294967296 htb (by omega))
      have c1 := HC.out _ hE.out
      clear ht htb
      go_wp2_with fail
      refine (A1.out _ hE.out.below).mono ?_
      rintro e w2 ⟨rfl, hb⟩
      have E1 := Lib.hid (hE.out.on hb)
      have c2 := HC.out _ E1.out
      clear hb hE c1
      go_wp2_with fail
      refine (A2.out _ E1.out.below).mono ?_
      rintro e w3 ⟨rfl, hb⟩
      have E2 := Lib.hid (E1.out.on hb)
      have c3 := HC.out _ E2.out
      clear hb E1 c2
      go_wp2_with fail
      refine (A3.out _ E2.out.below).mono ?_
      rintro e w4 ⟨rfl, hb⟩
      have E3 := Lib.hid (E2.out.on hb)
      have c4 := HC.out _ E3.out
      clear hb E2 c3
      go_wp2_with fail
      refine (A4.out _ E3.out.below).mono ?_
      rintro e w5 ⟨rfl, hb⟩
      have E4 := Lib.hid (E3.out.on hb)
      clear hb E3 c4 A1 A2 A3 A4 HC
      go_wp2
      go_roundw
      case rel => exact ⟨c + 1, by omega, by go_num, E4⟩
      case measure => simp [intOf]; omega
    · obtain rfl : c = 7 := by omega
      have B0 := Lib.hid hE.out.below
      clear hE
      rw [show ((7 : Nat) : Int) = 7 from rfl]
      go_wp2
      go_loopw [10] (fun j wx => ∃ c : Nat, c ≤ 4 ∧ j = .int .i64 c ∧ Hid (Below w.heap.size w wx)) (fun j _ => 4 - (intOf j).toNat)
      case atStart => exact ⟨0, by omega, rfl, B0.out⟩
      case round =>
        obtain ⟨c, hc, rfl, hB⟩ := hrel
        clear B0
        by_cases hlc : c < 4
        · have h2 : (c : Int) < 4 := by omega
          have D0 : Hid (wr.ownsRow wr.heap.size 35 3 (.slice none 0 0) (FL.dl 0).length (FL.cd (FL.dl 0)) ∧ Below wr.heap.size wr wr) := ⟨World.ownsRow_nil _ _ _ _, Below.refl _ _⟩
          obtain ⟨W0, rfl⟩ : ∃ W0 : World, W0 = wr := ⟨_, rfl⟩
          go_wp2
          go_loopw [11, 12] (fun v j wx => ∃ k : Nat, k ≤ 15 ∧ j = .int .i64 k ∧ Hid (wx.ownsRow W0.heap.size 35 3 v (FL.dl k).length (FL.cd (FL.dl k)) ∧ Below W0.heap.size W0 wx)) (fun _ j _ => 15 - (intOf j).toNat)
          case atStart => exact ⟨0, by omega, rfl, D0.out⟩
          case round =>
            obtain ⟨k, hk, rfl, hD⟩ := hrel
            clear D0
            obtain ⟨ao, ac, hv⟩ := D.slice_of_own hD.out.1
            subst hv
            by_cases hlk : k < 15
            · have h3 : (k : Int) < 15 := by omega
              have cv : IntKind.u64.wrap (k : Int) = (k : Int) := H.u64_in k (by omega)
              have hbs := hD.out.2.size
              have hk9 : k ≤ 1000 := by omega
              obtain ⟨V0, rfl⟩ : ∃ V0 : World, V0 = wr := ⟨_, rfl⟩
              go_wp2_with (at_builtin; refine FL.append_deeds rfl _ _ rfl W0.heap.size (.slice ao (FL.dl k).length ac) k ?hs hD.out.1 (k : Int) rfl 4 ?a0 hk9 hbs ?_)
              case hs => rfl
              case a0 => rfl
              intro v' w3 hO hg
              have R : Hid (w3.ownsRow W0.heap.size 35 3 v' (FL.dl (k + 1)).length (FL.cd (FL.dl (k + 1))) ∧ Below W0.heap.size W0 w3) := ⟨hO, hD.out.2.grown hg hD.out.2.size (fun j e => (hD.out.1.lt j e).1)⟩
              clear hO hg hD cv
              go_wp2
              go_roundw
              case rel => exact ⟨k + 1, by omega, by go_num, R⟩
              case measure => simp [intOf]; omega
            · obtain rfl : k = 15 := by omega
              obtain ⟨_, _, hv, hr⟩ := FL.drow_of_own hD.out.1
              cases hv
              have DR := Lib.hid hr
              have B1 : Hid (Below w.heap.size w wr) := hB.out.trans (hD.out.2.mono hB.out.size)
              have A1 := Lib.hid (HQ.out (c : Int) (by omega) ao ac wr B1.out DR.out)
              clear hr hD DR
              rw [show ((15 : Nat) : Int) = 15 from rfl]
              go_wp2_with fail
              refine A1.out.mono ?_
              rintro e w4 ⟨rfl, hb⟩
              have B2 := Lib.hid (B1.out.trans (hb.mono B1.out.size))
              clear hb B1 A1
              go_wp2
              go_roundw
              case rel => exact ⟨c + 1, by omega, by go_num, B2⟩
              case measure => simp [intOf]; omega
        · obtain rfl : c = 4 := by omega
          rw [show ((4 : Nat) : Int) = 4 from rfl]
          go_wp2_with fail
          refine (HK.out _ hB.out).mono ?_
          rintro e w5 ⟨rfl, hb⟩
          have B2 := Lib.hid (hB.out.trans (hb.mono hB.out.size))
          clear hb
          go_wp2
          go_ret
          exact ⟨rfl, B2.out⟩
end Go.Proofs.YtndpknkdmaojaaaDoor
