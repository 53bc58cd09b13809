/- The walk of NodeMakes. -/
import Derived.Test.YtdpaleldalplfaaNodeSpoil
namespace Go.Proofs.Ytdpaleldalplfaa
open Go.RowKit

set_option maxRecDepth 100000 in
set_option maxHeartbeats 8000000 in
theorem nodeMakes_walk (s : ByteArray) (h : Int) (r : N.Src) (w : World) (hs : s.size ≤ 140737488351232) (_ : -9223372036854775808 ≤ h) (_ : h < 9223372036854775808) (hr : N.ArgOk w r) :
    Calls Try.prog 4 #[.string s, .int .i64 h, .slice r.a r.x.length r.c] w fun e w' => e = .returned (.bool true) ∧ Below w.heap.size w w' := by
  have hrow := hr.row
  have hfit := hr.fit
  have hfits := hr.fits
  obtain ⟨ao, ca, l⟩ := r
  dsimp only at hrow hfit hfits
  clear hr
  have hsm : s.size ≤ maxLen := by unfold maxLen; omega
  have hlm : l.length ≤ maxLen := by unfold maxLen; omega
  have HL : Hid (∀ W, Calls Try.prog 27 #[.string s] W fun e w' => e = .returned (.tuple #[.agg #[.int .i64 0, .string (N.rT s), .slice none 0 0], .int .i64 (N.chk (N.nd 0 s []))]) ∧ Below W.heap.size W w') := fun W => leaf12_any s W hsm
  have HL' : Hid (∀ W, Calls Try.prog 28 #[.string s] W fun e w' => e = .returned (.tuple #[.agg #[.int .i64 0, .string (N.rT s), .slice none 0 0], .int .i64 (N.chk (N.nd 0 s []))]) ∧ Below W.heap.size W w') := fun W => refLeaf12_any s W hsm
  have HEl : Hid (∀ W, Calls Try.prog 25 #[.agg #[.int .i64 0, .string (N.rT s), .slice none 0 0], .agg #[.int .i64 0, .string (N.rT s), .slice none 0 0]] W fun e w' => e = .returned (.bool true) ∧ Below W.heap.size W w') := fun W => (N.hEq (h := 0) (k := 0) (s := N.rT s) (t := N.rT s) (a := []) (b := []) (Nat.zero_le _) true (decide_eq_true rfl)).out none 0 none 0 W (N.row_nil _ _) (N.row_nil _ _)
  have HCp : Hid (∀ W, N.Row W ao l → Calls Try.prog 29 #[.slice ao l.length ca] W fun e w' => ∃ v, e = .returned v ∧ N.Made l W v w') := fun W hW => copyKids_any ao ca l W hW hfit
  have HI : Hid (∀ yo yc W, N.Row W yo l → Calls Try.prog 30 #[.int .i64 h, .slice yo l.length yc] W fun e w' => ∃ v, e = .returned (.tuple #[.agg #[.int .i64 (N.rH h l), .string ⟨#[]⟩, v], .int .i64 (N.chk (N.nd h ⟨#[]⟩ l))]) ∧ N.Made (N.rL h l) W v w') := fun yo yc W hW => inner12_any h yo yc l W hlm hW hfits
  have HI' : Hid (∀ W, N.Row W ao l → Calls Try.prog 31 #[.int .i64 h, .slice ao l.length ca] W fun e w' => ∃ v, e = .returned (.tuple #[.agg #[.int .i64 (N.rH h l), .string ⟨#[]⟩, v], .int .i64 (N.chk (N.nd h ⟨#[]⟩ l))]) ∧ N.Made (N.rL h l) W v w') := fun W hW => refInner12_any h ao ca l W hfit hW hfits
  have hrl : (N.rL h l).length ≤ 1000000 := by
    unfold N.rL
    split
    · rename_i hc; have := (N.in_small hc).1; omega
    · exact Nat.zero_le _
  have HEq := N.hEq (h := N.rH h l) (k := N.rH h l) (s := ⟨#[]⟩) (t := ⟨#[]⟩) (a := N.rL h l) (b := N.rL h l) (by unfold maxLen; omega) true (decide_eq_true rfl)
  have HEk : Hid (∀ yo yc W, N.Row W yo l → N.Row W ao l → Calls Try.prog 33 #[.slice yo l.length yc, .slice ao l.length ca] W fun e w' => e = .returned (.bool true) ∧ Below W.heap.size W w') := fun yo yc W h1 h2 => by
    have := equalKids_any yo ao yc ca l l W h1 h2 hlm
    rwa [decide_eq_true rfl] at this
  have HK := N.hAw
  have HRl := Lib.hid hrl
  have HR := Lib.hid hrow
  have e1 : (N.chk (N.nd 0 s []) != N.chk (N.nd 0 s [])) = false := by simp
  have e2 : (N.chk (N.nd h ⟨#[]⟩ l) != N.chk (N.nd h ⟨#[]⟩ l)) = false := by simp
  generalize N.rT s = u at *
  generalize N.chk (N.nd 0 s []) = c1 at *
  generalize N.chk (N.nd h ⟨#[]⟩ l) = c2 at *
  generalize N.rH h l = rh at *
  obtain ⟨L, hL⟩ : ∃ L, N.rL h l = L := ⟨_, rfl⟩
  rw [hL] at HI HI' HEq HRl
  have B0 : Hid (Below w.heap.size w w) := Below.refl _ _
  clear hL hrow hfit hfits hsm hlm hrl hs
  go_enter Try.func4, Try.ntmps4
  go_wp2_with fail
  refine (HL.out _).mono ?_
  rintro e w1 ⟨rfl, hb⟩
  have B1 := Lib.hid ((B0.out.trans (hb.mono B0.out.size)).alloc (B0.out.trans (hb.mono B0.out.size)).size (.cells #[.int .i64 0, .string u, .slice none 0 0] 24))
  have X1 := Lib.hid (N.Nb.new w1 0 u (.slice none 0 0) 24)
  clear hb B0
  go_wp2_with fail
  refine (HL'.out _).mono ?_
  rintro e w2 ⟨rfl, hb⟩
  have B2 := Lib.hid ((B1.out.trans (hb.mono B1.out.size)).alloc (B1.out.trans (hb.mono B1.out.size)).size (.cells #[.int .i64 0, .string u, .slice none 0 0] 24))
  have X2 := (X1.out.below hb).alloc (.cells #[.int .i64 0, .string u, .slice none 0 0] 24)
  have x0 := X2.c0
  have x1 := X2.c1
  have x2 := X2.c2
  clear hb B1 X1 X2
  go_wp2_with fail
  refine (HEl.out _).mono ?_
  rintro e w3 ⟨rfl, hb⟩
  have B3 := Lib.hid (B2.out.trans (hb.mono B2.out.size))
  clear hb B2 x0 x1 x2
  go_wp2_with fail
  refine (HCp.out _ (HR.out.below B3.out)).mono ?_
  rintro e wk ⟨v, rfl, hm⟩
  obtain ⟨io, ic, hv, hro, _⟩ := hm.src
  have ZK : Hid (N.Kn w wk [(io, l), (ao, l)]) := ⟨B3.out.trans (hm.below.mono B3.out.size), fun p hp => by
    simp only [List.mem_cons, List.not_mem_nil, or_false] at hp
    rcases hp with rfl | rfl
    · exact hro
    · exact HR.out.below (B3.out.trans (hm.below.mono B3.out.size))⟩
  subst hv
  clear hm hro B3
  go_wp2_with fail
  refine (HI.out _ _ _ ZK.out.r0).mono ?_
  rintro e w5 ⟨v, rfl, hm⟩
  obtain ⟨vo, vc, hv, hro, _⟩ := hm.src
  have B5 := Lib.hid (hm.below.alloc hm.below.size (.cells #[.int .i64 rh, .string ⟨#[]⟩, v] 24))
  have O5 := Lib.hid (hm.own.alloc (.cells #[.int .i64 rh, .string ⟨#[]⟩, v] 24))
  have X5 := Lib.hid (N.Nb.new w5 rh ⟨#[]⟩ v 24)
  have R5 := Lib.hid (hro.below ((Below.refl _ _).alloc (Nat.le_refl _) (.cells #[.int .i64 rh, .string ⟨#[]⟩, v] 24)))
  subst hv
  clear hm hro
  go_wp2_with fail
  refine (HI'.out _ (((ZK.out.on B5.out)).tl.r0)).mono ?_
  rintro e w6 ⟨v, rfl, hm⟩
  obtain ⟨uo, uc, hv, hro, _⟩ := hm.src
  have hbb := hm.below.alloc hm.below.size (.cells #[.int .i64 rh, .string ⟨#[]⟩, v] 24)
  have B6 := Lib.hid (B5.out.trans (hbb.mono B5.out.size))
  have O6 := Lib.hid (D.own_below O5.out hbb)
  have X6 := Lib.hid (X5.out.below hbb)
  have R6 := Lib.hid (R5.out.below hbb)
  have Y6 := Lib.hid (N.Nb.new w6 rh ⟨#[]⟩ v 24)
  have Q6 := Lib.hid (hro.below ((Below.refl _ _).alloc (Nat.le_refl _) (.cells #[.int .i64 rh, .string ⟨#[]⟩, v] 24)))
  subst hv
  have x0 := X6.out.c0
  have x1 := X6.out.c1
  have x2 := X6.out.c2
  clear hm hro hbb B5 O5 X5 R5
  go_wp2_with fail
  refine (HEq.out _ _ _ _ _ R6.out Q6.out).mono ?_
  rintro e w7 ⟨rfl, hb⟩
  have B7 := Lib.hid (B6.out.trans (hb.mono B6.out.size))
  have O7 := Lib.hid (D.own_below O6.out hb)
  have X7 := X6.out.below hb
  clear hb B6 O6 X6 R6 Y6 Q6 x0 x1 x2
  have x0 := X7.c0
  have x1 := X7.c1
  have x2 := X7.c2
  go_wp2_with fail
  refine (spoil12_any rh ⟨#[]⟩ _ L _ w7 HRl.out O7.out).mono ?_
  rintro e w8 ⟨rfl, hg⟩
  have B8 := Lib.hid (B7.out.grown hg B7.out.size (fun k e => (O7.out.lt k e).1))
  have Z8 := Lib.hid (ZK.out.on B8.out)
  clear hg B7 O7 X7 x0 x1 x2 B8
  go_wp2_with fail
  refine (HEk.out _ _ _ Z8.out.r0 Z8.out.tl.r0).mono ?_
  rintro e w9 ⟨rfl, hb⟩
  have Z9 := Lib.hid (Z8.out.on hb)
  clear hb Z8
  go_wp2_with fail
  refine (HK.out _).mono ?_
  rintro e wl ⟨rfl, hb⟩
  have KC := Lib.hid (Z9.out.below.trans (hb.mono Z9.out.below.size))
  clear hb
  go_wp2
  go_ret
  exact ⟨rfl, KC.out⟩
end Go.Proofs.Ytdpaleldalplfaa
