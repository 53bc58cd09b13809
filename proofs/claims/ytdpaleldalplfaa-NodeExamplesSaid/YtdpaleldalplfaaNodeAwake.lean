/- The examples that every statement of stage 12 asks. -/
import Derived.Test.YtdpaleldalplfaaNodeLawKit
import Derived.Test.YtdpaleldalplfaaMeasEq
namespace Go.Proofs.Ytdpaleldalplfaa
open Go.RowKit

@[go_sem] theorem N.nfield2 (h : Int) (t : ByteArray) (a : Option Addr) (n c : Nat) (w : World) : (Instr.field 24 (.agg #[.int .i64 h, .string t, .slice a n c]) 2).run Try.prog w = .ok (.slice a n c) w := by kernel_rfl
def N.xv (g : Nat) : Value := .agg #[.int .i64 1, .string ⟨#[]⟩, .slice (some ⟨g, 0, none⟩) 3 3]
set_option maxRecDepth 100000 in
set_option maxHeartbeats 8000000 in
theorem awake_any (w : World) : Calls Try.prog 26 #[] w fun e w' => e = .returned (.bool true) ∧ Below w.heap.size w w' := by
  have X3 : Hid (∀ W, Calls Try.prog 57 #[] W fun e W' => ∃ g, e = .returned (.agg #[.int .i64 1, .string ⟨#[]⟩, .slice (some ⟨g, 0, none⟩) 3 3]) ∧ N.Row W' (some ⟨g, 0, none⟩) N.xK ∧ Below W.heap.size W W') := fun W => x3_any W
  have m0 : (⟨#[]⟩ : ByteArray).size ≤ maxLen := Nat.zero_le _
  have m3 : N.xK.length ≤ maxLen := by decide
  have HM : Hid (∀ g W, N.Row W (some ⟨g, 0, none⟩) N.xK → Calls Try.prog 13 #[.agg #[.int .i64 1, .string ⟨#[]⟩, .slice (some ⟨g, 0, none⟩) 3 3]] W fun e W' => e = .returned (.tuple #[.agg #[.int .i64 27, .int .i64 18, .int .i64 3], .int .i64 0]) ∧ Below W.heap.size W W') := fun g W hr => by
    have := measure12_any 1 ⟨#[]⟩ (some ⟨g, 0, none⟩) 3 N.xK W m0 m3 hr N.x_fit
    unfold N.MsEnd at this
    rw [N.xN_eq, N.x_mB, N.x_mR, N.x_mL, N.x_chk] at this
    exact this
  have HC : Hid (∀ g W, N.Row W (some ⟨g, 0, none⟩) N.xK → Calls Try.prog 15 #[.agg #[.int .i64 1, .string ⟨#[]⟩, .slice (some ⟨g, 0, none⟩) 3 3]] W fun e W' => e = .returned (.int .i64 0) ∧ Below W.heap.size W W') := fun g W hr => by
    have := check12_any 1 ⟨#[]⟩ (some ⟨g, 0, none⟩) 3 N.xK W m0 m3 hr N.x_fit
    rw [N.xN_eq, N.x_chk] at this
    exact this
  have HC1 : Hid (∀ g W, N.Row W (some ⟨g, 0, none⟩) N.xK → Calls Try.prog 15 #[.agg #[.int .i64 1, .string ⟨#[]⟩, .slice (some ⟨g, 0, none⟩) 1 3]] W fun e W' => e = .returned (.int .i64 23) ∧ Below W.heap.size W W') := fun g W hr => by
    have := check12_any 1 ⟨#[]⟩ (some ⟨g, 0, none⟩) 3 (N.xK.take 1) W m0 (by decide) (fun i p hp => hr i p (by
      have hi := (List.getElem?_eq_some_iff.1 hp).1
      rw [List.getElem?_take] at hp
      split at hp
      · exact hp
      · cases hp)) (fun p hp => N.x_fit p (List.mem_of_mem_take hp))
    rw [N.x_one] at this
    exact this
  have HC0 : Hid (∀ W, Calls Try.prog 15 #[.agg #[.int .i64 0, .string ⟨#[]⟩, .slice none 0 0]] W fun e W' => e = .returned (.int .i64 23) ∧ Below W.heap.size W W') := fun W => by
    have := check12_any 0 ⟨#[]⟩ none 0 [] W m0 (Nat.zero_le _) (N.row_nil _ _) (fun p hp => by cases hp)
    rw [N.z_chk] at this
    exact this
  have Ha : Hid (∀ g W, N.Row W (some ⟨g, 0, none⟩) N.xK → Calls Try.prog 17 #[.agg #[.int .i64 1, .string ⟨#[]⟩, .slice (some ⟨g, 0, none⟩) 3 3], .int .i64 9] W fun e W' => e = .returned (.tuple #[.int .i64 1, .int .i64 0, .int .i64 0]) ∧ Below W.heap.size W W') := fun g W hr => by
    have := child12_any 1 ⟨#[]⟩ (some ⟨g, 0, none⟩) 3 N.xK 9 (by decide) (by decide) W m0 m3 hr N.x_fit
    unfold N.FdEnd at this
    rw [N.xN_eq, N.x_c9.1, N.x_c9.2.1, N.x_c9.2.2] at this
    exact this
  have Hb : Hid (∀ g W, N.Row W (some ⟨g, 0, none⟩) N.xK → Calls Try.prog 17 #[.agg #[.int .i64 1, .string ⟨#[]⟩, .slice (some ⟨g, 0, none⟩) 3 3], .int .i64 27] W fun e W' => e = .returned (.tuple #[.int .i64 0, .int .i64 0, .int .i64 3]) ∧ Below W.heap.size W W') := fun g W hr => by
    have := child12_any 1 ⟨#[]⟩ (some ⟨g, 0, none⟩) 3 N.xK 27 (by decide) (by decide) W m0 m3 hr N.x_fit
    unfold N.FdEnd at this
    rw [N.xN_eq, N.x_c27.1, N.x_c27.2.1, N.x_c27.2.2] at this
    exact this
  have Hc : Hid (∀ g W, N.Row W (some ⟨g, 0, none⟩) N.xK → Calls Try.prog 19 #[.agg #[.int .i64 1, .string ⟨#[]⟩, .slice (some ⟨g, 0, none⟩) 3 3], .int .i64 8] W fun e W' => e = .returned (.tuple #[.int .i64 2, .int .i64 0, .int .i64 0]) ∧ Below W.heap.size W W') := fun g W hr => by
    have := rune12_any 1 ⟨#[]⟩ (some ⟨g, 0, none⟩) 3 N.xK 8 (by decide) (by decide) W m0 m3 hr N.x_fit
    unfold N.FdEnd at this
    rw [N.xN_eq, N.x_r8.1, N.x_r8.2.1, N.x_r8.2.2] at this
    exact this
  have Hd : Hid (∀ g W, N.Row W (some ⟨g, 0, none⟩) N.xK → Calls Try.prog 21 #[.agg #[.int .i64 1, .string ⟨#[]⟩, .slice (some ⟨g, 0, none⟩) 3 3], .int .i64 2] W fun e W' => e = .returned (.tuple #[.int .i64 2, .int .i64 1, .int .i64 0]) ∧ Below W.heap.size W W') := fun g W hr => by
    have := line12_any 1 ⟨#[]⟩ (some ⟨g, 0, none⟩) 3 N.xK 2 (by decide) (by decide) W m0 m3 hr N.x_fit
    unfold N.FdEnd at this
    rw [N.xN_eq, N.x_l2.1, N.x_l2.2.1, N.x_l2.2.2] at this
    exact this
  have He : Hid (∀ g W, N.Row W (some ⟨g, 0, none⟩) N.xK → Calls Try.prog 21 #[.agg #[.int .i64 1, .string ⟨#[]⟩, .slice (some ⟨g, 0, none⟩) 3 3], .int .i64 4] W fun e W' => e = .returned (.tuple #[.int .i64 0, .int .i64 0, .int .i64 3]) ∧ Below W.heap.size W W') := fun g W hr => by
    have := line12_any 1 ⟨#[]⟩ (some ⟨g, 0, none⟩) 3 N.xK 4 (by decide) (by decide) W m0 m3 hr N.x_fit
    unfold N.FdEnd at this
    rw [N.xN_eq, N.x_l4.1, N.x_l4.2.1, N.x_l4.2.2] at this
    exact this
  have HI : Hid (∀ a b c W, Calls Try.prog 58 #[.int .i64 a, .int .i64 b, .int .i64 c, .agg #[.int .i64 a, .int .i64 b], .int .i64 c] W fun e W' => e = .returned (.bool true) ∧ Below W.heap.size W W') := is12_any
  have HL : Hid (∀ W, Calls Try.prog 27 #[.string ⟨#[97, 98]⟩] W fun e W' => e = .returned (.tuple #[.agg #[.int .i64 0, .string ⟨#[97, 98]⟩, .slice none 0 0], .int .i64 0]) ∧ Below W.heap.size W W') := fun W => by
    have := leaf12_any N.ab W (by decide)
    unfold N.LfEnd at this
    rw [N.ab_rT, N.ab_chk] at this
    exact this
  have HEl : Hid (∀ W, Calls Try.prog 23 #[.agg #[.int .i64 0, .string ⟨#[97, 98]⟩, .slice none 0 0]] W fun e W' => e = .returned (.tuple #[.string ⟨#[0, 97, 98]⟩, .int .i64 0]) ∧ Below W.heap.size W W') := fun W => by
    have := encode12_any 0 N.ab none 0 [] W (by decide) (Nat.zero_le _) (N.row_nil _ _) (fun p hp => by cases hp)
    unfold N.EnEnd at this
    rw [N.ab_enc, N.ab_chk] at this
    exact this
  have HD : Hid (∀ W, Calls Try.prog 34 #[.string ⟨#[0, 97, 98]⟩] W fun e W' => ∃ vo vc, e = .returned (.tuple #[.agg #[.int .i64 0, .string ⟨#[97, 98]⟩, .slice vo 0 vc], .int .i64 0]) ∧ N.Row W' vo [] ∧ Below W.heap.size W W') := fun W => by
    refine (decode12_any ⟨#[0, 97, 98]⟩ (by decide) W).mono fun e W' h => ?_
    obtain ⟨v, rfl, hm⟩ := h
    have e1 : N.dcX (⟨#[0, 97, 98]⟩ : ByteArray).data.toList = N.nd 0 N.ab [] := by unfold N.dcX; rw [show (⟨#[0, 97, 98]⟩ : ByteArray).data.toList = [0, 97, 98] from rfl, N.ab_dec]; rfl
    have e2 : N.dcE (⟨#[0, 97, 98]⟩ : ByteArray).data.toList = 0 := by unfold N.dcE; rw [show (⟨#[0, 97, 98]⟩ : ByteArray).data.toList = [0, 97, 98] from rfl, N.ab_dec]; rfl
    rw [e1] at hm ⊢
    rw [e2]
    obtain ⟨vo, vc, rfl, hr, _⟩ := hm.src
    exact ⟨vo, vc, rfl, hr, hm.below⟩
  have HD0 : Hid (∀ W, Calls Try.prog 34 #[.string ⟨#[0]⟩] W fun e W' => ∃ vo vc, e = .returned (.tuple #[.agg #[.int .i64 0, .string ⟨#[]⟩, .slice vo 0 vc], .int .i64 4]) ∧ Below W.heap.size W W') := fun W => by
    refine (decode12_any ⟨#[0]⟩ (by decide) W).mono fun e W' h => ?_
    obtain ⟨v, rfl, hm⟩ := h
    have e1 : N.dcX (⟨#[0]⟩ : ByteArray).data.toList = ⟨0, [], []⟩ := by unfold N.dcX; rw [show (⟨#[0]⟩ : ByteArray).data.toList = [0] from rfl, N.z_dec]; rfl
    have e2 : N.dcE (⟨#[0]⟩ : ByteArray).data.toList = 4 := by unfold N.dcE; rw [show (⟨#[0]⟩ : ByteArray).data.toList = [0] from rfl, N.z_dec]; rfl
    rw [e1] at hm ⊢
    rw [e2]
    obtain ⟨vo, vc, rfl, hr, _⟩ := hm.src
    exact ⟨vo, vc, rfl, hm.below⟩
  have HEx : Hid (∀ g W, N.Row W (some ⟨g, 0, none⟩) N.xK → Calls Try.prog 23 #[.agg #[.int .i64 1, .string ⟨#[]⟩, .slice (some ⟨g, 0, none⟩) 3 3]] W fun e W' => e = .returned (.tuple #[.string ⟨#[1, 0, 0, 0, 1, 0, 0, 0, 9, 0, 8, 0, 1, 0, 0, 0, 1, 0, 1, 0, 8, 0, 0, 0, 0, 0, 0, 0, 1, 0, 2, 0, 10, 0, 10, 0, 2]⟩, .int .i64 0]) ∧ Below W.heap.size W W') := fun g W hr => by
    have := encode12_any 1 ⟨#[]⟩ (some ⟨g, 0, none⟩) 3 N.xK W m0 m3 hr N.x_fit
    unfold N.EnEnd at this
    rw [N.xN_eq, N.x_enc, N.x_chk] at this
    exact this
  have HCl : Hid (∀ W, Calls Try.prog 17 #[.agg #[.int .i64 0, .string ⟨#[97, 98]⟩, .slice none 0 0], .int .i64 0] W fun e W' => e = .returned (.tuple #[.int .i64 0, .int .i64 0, .int .i64 8]) ∧ Below W.heap.size W W') := fun W => by
    have := child12_any 0 N.ab none 0 [] 0 (by decide) (by decide) W (by decide) (Nat.zero_le _) (N.row_nil _ _) (fun p hp => by cases hp)
    unfold N.FdEnd at this
    rw [N.ab_c0.1, N.ab_c0.2.1, N.ab_c0.2.2] at this
    exact this
  have HQ : Hid (∀ vo vc W, N.Row W vo [] → Calls Try.prog 36 #[.agg #[.int .i64 0, .string ⟨#[97, 98]⟩, .slice vo 0 vc], .agg #[.int .i64 0, .string ⟨#[97, 98]⟩, .slice none 0 0]] W fun e W' => e = .returned (.bool true) ∧ Below W.heap.size W W') := fun vo vc W hr => by
    have := equal12_any 0 0 N.ab N.ab vo none vc 0 [] [] W hr (N.row_nil _ _) (Nat.zero_le _)
    rw [decide_eq_true rfl] at this
    exact this
  have B0 : Hid (Below w.heap.size w w) := Below.refl _ _
  clear m0 m3
  go_enter Try.func26, Try.ntmps26
  go_wp2_with fail
  refine (X3.out _).mono ?_
  rintro e w1 ⟨g1, rfl, hr, hb⟩
  have B1 := Lib.hid (B0.out.trans (hb.mono B0.out.size))
  clear hb B0 
  go_wp2_with fail
  refine (HM.out _ _ hr).mono ?_
  rintro e w2 ⟨rfl, hb⟩
  have B2 := Lib.hid (B1.out.trans (hb.mono B1.out.size))
  clear hb B1 
  clear hr
  have Q := Lib.hid (M.Own.new w2 27 18 3 27)
  have B3 := Lib.hid (B2.out.alloc B2.out.size (.cells #[.int .i64 27, .int .i64 18, .int .i64 3] 27))
  clear B2
  go_wp2_with fail
  refine (X3.out _).mono ?_
  rintro e w4 ⟨g4, rfl, hr, hb⟩
  have B4 := Lib.hid (B3.out.trans (hb.mono B3.out.size))
  have Q' := Lib.hid (Q.out.below hb)
  clear hb B3 Q
  have Q := Q'
  clear Q'
  go_wp2_with fail
  refine (HC.out _ _ hr).mono ?_
  rintro e w5 ⟨rfl, hb⟩
  have B5 := Lib.hid (B4.out.trans (hb.mono B4.out.size))
  have Q' := Lib.hid (Q.out.below hb)
  clear hb B4 Q
  have Q := Q'
  clear Q'
  clear hr
  have qa := Q.out.c0
  have qb := Q.out.c1
  have qc := Q.out.c2
  go_wp2_with fail
  refine (HC0.out _).mono ?_
  rintro e w6 ⟨rfl, hb⟩
  have B6 := Lib.hid (B5.out.trans (hb.mono B5.out.size))
  have Q' := Lib.hid (Q.out.below hb)
  clear hb B5 Q
  have Q := Q'
  clear Q'
  clear qa qb qc
  go_wp2_with fail
  refine (X3.out _).mono ?_
  rintro e w7 ⟨g7, rfl, hr, hb⟩
  have B7 := Lib.hid (B6.out.trans (hb.mono B6.out.size))
  have Q' := Lib.hid (Q.out.below hb)
  clear hb B6 Q
  have Q := Q'
  clear Q'
  go_wp2_with fail
  refine (HC1.out _ _ hr).mono ?_
  rintro e w8 ⟨rfl, hb⟩
  have B8 := Lib.hid (B7.out.trans (hb.mono B7.out.size))
  have Q' := Lib.hid (Q.out.below hb)
  clear hb B7 Q
  have Q := Q'
  clear Q'
  clear hr
  clear Q
  go_wp2_with fail
  refine (X3.out _).mono ?_
  rintro e w9 ⟨g9, rfl, hr, hb⟩
  have B9 := Lib.hid (B8.out.trans (hb.mono B8.out.size))
  clear hb B8 
  go_wp2_with fail
  refine (Ha.out _ _ hr).mono ?_
  rintro e w10 ⟨rfl, hb⟩
  have B10 := Lib.hid (B9.out.trans (hb.mono B9.out.size))
  clear hb B9 
  clear hr
  go_wp2_with fail
  refine (X3.out _).mono ?_
  rintro e w11 ⟨g11, rfl, hr, hb⟩
  have B11 := Lib.hid (B10.out.trans (hb.mono B10.out.size))
  clear hb B10 
  go_wp2_with fail
  refine (Hb.out _ _ hr).mono ?_
  rintro e w12 ⟨rfl, hb⟩
  have B12 := Lib.hid (B11.out.trans (hb.mono B11.out.size))
  clear hb B11 
  clear hr
  go_wp2_with fail
  refine (X3.out _).mono ?_
  rintro e w13 ⟨g13, rfl, hr, hb⟩
  have B13 := Lib.hid (B12.out.trans (hb.mono B12.out.size))
  clear hb B12 
  go_wp2_with fail
  refine (Hc.out _ _ hr).mono ?_
  rintro e w14 ⟨rfl, hb⟩
  have B14 := Lib.hid (B13.out.trans (hb.mono B13.out.size))
  clear hb B13 
  clear hr
  go_wp2_with fail
  refine (X3.out _).mono ?_
  rintro e w15 ⟨g15, rfl, hr, hb⟩
  have B15 := Lib.hid (B14.out.trans (hb.mono B14.out.size))
  clear hb B14 
  go_wp2_with fail
  refine (Hd.out _ _ hr).mono ?_
  rintro e w16 ⟨rfl, hb⟩
  have B16 := Lib.hid (B15.out.trans (hb.mono B15.out.size))
  clear hb B15 
  clear hr
  go_wp2_with fail
  refine (X3.out _).mono ?_
  rintro e w17 ⟨g17, rfl, hr, hb⟩
  have B17 := Lib.hid (B16.out.trans (hb.mono B16.out.size))
  clear hb B16 
  go_wp2_with fail
  refine (He.out _ _ hr).mono ?_
  rintro e w18 ⟨rfl, hb⟩
  have B18 := Lib.hid (B17.out.trans (hb.mono B17.out.size))
  clear hb B17 
  clear hr
  go_wp2_with fail
  refine (HI.out _ _ _ _).mono ?_
  rintro e w19 ⟨rfl, hb⟩
  have B19 := Lib.hid (B18.out.trans (hb.mono B18.out.size))
  clear hb B18 
  go_wp2_with fail
  refine (HI.out _ _ _ _).mono ?_
  rintro e w20 ⟨rfl, hb⟩
  have B20 := Lib.hid (B19.out.trans (hb.mono B19.out.size))
  clear hb B19 
  go_wp2_with fail
  refine (HI.out _ _ _ _).mono ?_
  rintro e w21 ⟨rfl, hb⟩
  have B21 := Lib.hid (B20.out.trans (hb.mono B20.out.size))
  clear hb B20 
  go_wp2_with fail
  refine (HI.out _ _ _ _).mono ?_
  rintro e w22 ⟨rfl, hb⟩
  have B22 := Lib.hid (B21.out.trans (hb.mono B21.out.size))
  clear hb B21 
  go_wp2_with fail
  refine (HI.out _ _ _ _).mono ?_
  rintro e w23 ⟨rfl, hb⟩
  have B23 := Lib.hid (B22.out.trans (hb.mono B22.out.size))
  clear hb B22 
  go_wp2_with fail
  refine (HL.out _).mono ?_
  rintro e w24 ⟨rfl, hb⟩
  have B24 := Lib.hid (B23.out.trans (hb.mono B23.out.size))
  clear hb B23 
  have L := Lib.hid (N.Nb.new w24 0 ⟨#[97, 98]⟩ (.slice none 0 0) 24)
  have B25 := Lib.hid (B24.out.alloc B24.out.size (.cells #[.int .i64 0, .string ⟨#[97, 98]⟩, .slice none 0 0] 24))
  clear B24
  have l0 := L.out.c0
  have l1 := L.out.c1
  have l2 := L.out.c2
  go_wp2_with fail
  refine (HEl.out _).mono ?_
  rintro e w26 ⟨rfl, hb⟩
  have B26 := Lib.hid (B25.out.trans (hb.mono B25.out.size))
  have L' := Lib.hid (L.out.below hb)
  clear hb B25 L
  have L := L'
  clear L'
  clear l0 l1 l2
  go_wp2_with fail
  refine (HD.out _).mono ?_
  rintro e w27 ⟨vo, vc, rfl, hrow, hb⟩
  have B27 := Lib.hid (B26.out.trans (hb.mono B26.out.size))
  have L' := Lib.hid (L.out.below hb)
  clear hb B26 L
  have L := L'
  clear L'
  have RR := Lib.hid hrow
  clear hrow
  have U := Lib.hid (N.Nb.new w27 0 ⟨#[97, 98]⟩ (.slice vo 0 vc) 24)
  have B28 := Lib.hid (B27.out.alloc B27.out.size (.cells #[.int .i64 0, .string ⟨#[97, 98]⟩, .slice vo 0 vc] 24))
  have L' := Lib.hid (L.out.below ((Below.refl _ _).alloc (Nat.le_refl _) (.cells #[.int .i64 0, .string ⟨#[97, 98]⟩, .slice vo 0 vc] 24)))
  clear L
  have L := L'
  clear L'
  have RR' := Lib.hid (RR.out.below ((Below.refl _ _).alloc (Nat.le_refl _) (.cells #[.int .i64 0, .string ⟨#[97, 98]⟩, .slice vo 0 vc] 24)))
  clear RR
  have RR := RR'
  clear RR'
  clear B27
  go_wp2_with fail
  refine (HD0.out _).mono ?_
  rintro e w29 ⟨zo, zc, rfl, hb⟩
  have B29 := Lib.hid (B28.out.trans (hb.mono B28.out.size))
  have L' := Lib.hid (L.out.below hb)
  have U' := Lib.hid (U.out.below hb)
  have RR' := Lib.hid (RR.out.below hb)
  clear hb B28 L U RR
  have L := L'
  clear L'
  have U := U'
  clear U'
  have RR := RR'
  clear RR'
  have B30 := Lib.hid (B29.out.alloc B29.out.size (.cells #[.int .i64 0, .string ⟨#[]⟩, .slice zo 0 zc] 24))
  have L' := Lib.hid (L.out.below ((Below.refl _ _).alloc (Nat.le_refl _) (.cells #[.int .i64 0, .string ⟨#[]⟩, .slice zo 0 zc] 24)))
  clear L
  have L := L'
  clear L'
  have U' := Lib.hid (U.out.below ((Below.refl _ _).alloc (Nat.le_refl _) (.cells #[.int .i64 0, .string ⟨#[]⟩, .slice zo 0 zc] 24)))
  clear U
  have U := U'
  clear U'
  have RR' := Lib.hid (RR.out.below ((Below.refl _ _).alloc (Nat.le_refl _) (.cells #[.int .i64 0, .string ⟨#[]⟩, .slice zo 0 zc] 24)))
  clear RR
  have RR := RR'
  clear RR'
  clear B29
  go_wp2_with fail
  refine (X3.out _).mono ?_
  rintro e w31 ⟨g31, rfl, hr, hb⟩
  have B31 := Lib.hid (B30.out.trans (hb.mono B30.out.size))
  have L' := Lib.hid (L.out.below hb)
  have U' := Lib.hid (U.out.below hb)
  have RR' := Lib.hid (RR.out.below hb)
  clear hb B30 L U RR
  have L := L'
  clear L'
  have U := U'
  clear U'
  have RR := RR'
  clear RR'
  go_wp2_with fail
  refine (HEx.out _ _ hr).mono ?_
  rintro e w32 ⟨rfl, hb⟩
  have B32 := Lib.hid (B31.out.trans (hb.mono B31.out.size))
  have L' := Lib.hid (L.out.below hb)
  have U' := Lib.hid (U.out.below hb)
  have RR' := Lib.hid (RR.out.below hb)
  clear hb B31 L U RR
  have L := L'
  clear L'
  have U := U'
  clear U'
  have RR := RR'
  clear RR'
  clear hr
  have l0 := L.out.c0
  have l1 := L.out.c1
  have l2 := L.out.c2
  go_wp2_with fail
  refine (HCl.out _).mono ?_
  rintro e w33 ⟨rfl, hb⟩
  have B33 := Lib.hid (B32.out.trans (hb.mono B32.out.size))
  have L' := Lib.hid (L.out.below hb)
  have U' := Lib.hid (U.out.below hb)
  have RR' := Lib.hid (RR.out.below hb)
  clear hb B32 L U RR
  have L := L'
  clear L'
  have U := U'
  clear U'
  have RR := RR'
  clear RR'
  clear l0 l1 l2
  have l0 := L.out.c0
  have l1 := L.out.c1
  have l2 := L.out.c2
  have u0 := U.out.c0
  have u1 := U.out.c1
  have u2 := U.out.c2
  go_wp2_with fail
  refine (HQ.out _ _ _ RR.out).mono ?_
  rintro e w34 ⟨rfl, hb⟩
  have B34 := Lib.hid (B33.out.trans (hb.mono B33.out.size))
  have L' := Lib.hid (L.out.below hb)
  have U' := Lib.hid (U.out.below hb)
  have RR' := Lib.hid (RR.out.below hb)
  clear hb B33 L U RR
  have L := L'
  clear L'
  have U := U'
  clear U'
  have RR := RR'
  clear RR'
  clear l0 l1 l2 u0 u1 u2
  go_wp2
  go_ret
  exact ⟨rfl, B34.out⟩
theorem N.hAw : Hid (∀ W, Calls Try.prog 26 #[] W fun e w' => e = .returned (.bool true) ∧ Below W.heap.size W w') := awake_any
end Go.Proofs.Ytdpaleldalplfaa
