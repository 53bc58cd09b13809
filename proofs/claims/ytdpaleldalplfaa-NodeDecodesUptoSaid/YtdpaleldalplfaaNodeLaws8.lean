/- The walk of NodeDecodes, for strings of at most 1048576 bytes. -/
import Derived.Test.YtdpaleldalplfaaNodeSpoil
import Derived.Test.YtdpaleldalplfaaNodeRefDec
namespace Go.Proofs.Ytdpaleldalplfaa
open Go.RowKit

theorem N.dc_short (s : List UInt8) : (N.dcX s).ks.length ≤ 4 := by
  unfold N.dcX
  cases hd : N.dec s with
  | none => exact Nat.zero_le _
  | some x =>
    obtain ⟨hc, _⟩ := N.enc_dec hd
    rcases N.chk_cases hc with k | k
    · show x.ks.length ≤ 4
      rw [k.ks]; exact Nat.zero_le _
    · exact k.k4
set_option maxRecDepth 100000 in
set_option maxHeartbeats 8000000 in
theorem nodeDecodes_walk (s : ByteArray) (w : World) (hs : s.size ≤ 1048576) :
    Calls Try.prog 5 #[.string s] w fun e w' => e = .returned (.bool true) ∧ Below w.heap.size w w' := by
  have HD : Hid (∀ W, Calls Try.prog 34 #[.string s] W fun e w' => ∃ v, e = .returned (.tuple #[.agg #[.int .i64 (N.dcX s.data.toList).h, .string ⟨(N.dcX s.data.toList).t.toArray⟩, v], .int .i64 (N.dcE s.data.toList)]) ∧ N.Made (N.dcX s.data.toList).ks W v w') := fun W => decode12_any s (by unfold maxLen; omega) W
  have HR : Hid (∀ W, Calls Try.prog 35 #[.string s] W fun e w' => ∃ v, e = .returned (.tuple #[.agg #[.int .i64 (N.dcX s.data.toList).h, .string ⟨(N.dcX s.data.toList).t.toArray⟩, v], .int .i64 (N.dcE s.data.toList)]) ∧ N.Made (N.dcX s.data.toList).ks W v w') := fun W => refDecode12_any s hs W
  have HL := Lib.hid (N.dc_short s.data.toList)
  obtain ⟨X, hX⟩ : ∃ X, N.dcX s.data.toList = X := ⟨_, rfl⟩
  rw [hX] at HD HR HL
  obtain ⟨xh, xt0, L⟩ := X
  dsimp only at HD HR HL
  generalize (⟨xt0.toArray⟩ : ByteArray) = xt at HD HR
  have ee : (N.dcE s.data.toList != N.dcE s.data.toList) = false := by simp
  generalize N.dcE s.data.toList = xe at HD HR ee
  have HEq := N.hEq (h := xh) (k := xh) (s := xt) (t := xt) (a := L) (b := L) (by have := HL.out; unfold maxLen; omega) true (decide_eq_true rfl)
  have HK := N.hAw
  have B0 : Hid (Below w.heap.size w w) := Below.refl _ _
  clear hX hs
  go_enter Try.func5, Try.ntmps5
  go_wp2_with fail
  refine (HD.out _).mono ?_
  rintro e w1 ⟨va, rfl, hm⟩
  obtain ⟨ao, ac, hv, hro, _⟩ := hm.src
  have Ba := Lib.hid ((B0.out.trans (hm.below.mono B0.out.size)).alloc (B0.out.trans (hm.below.mono B0.out.size)).size (.cells #[.int .i64 xh, .string xt, va] 24))
  have Oa := Lib.hid ((D.own_mono hm.own (Nat.le_refl w.heap.size)).alloc (.cells #[.int .i64 xh, .string xt, va] 24))
  have Xa := Lib.hid (N.Nb.new w1 xh xt va 24)
  have Ra := Lib.hid (hro.below ((Below.refl _ _).alloc (Nat.le_refl _) (.cells #[.int .i64 xh, .string xt, va] 24)))
  have la : Hid (∀ k, va.ownBlock = some k → k < w1.heap.size) := fun k hk => (hm.own.lt k hk).2
  subst hv
  clear hm hro B0
  go_wp2_with fail
  refine (HR.out _).mono ?_
  rintro e w2 ⟨vb, rfl, hm⟩
  obtain ⟨bo, bc, hv, hro, _⟩ := hm.src
  have hbb := hm.below.alloc hm.below.size (.cells #[.int .i64 xh, .string xt, vb] 24)
  have Bb := Lib.hid (Ba.out.trans (hbb.mono Ba.out.size))
  have Oa2 := Lib.hid (D.own_below Oa.out hbb)
  have Xa2 := Lib.hid (Xa.out.below hbb)
  have Ra2 := Lib.hid (Ra.out.below hbb)
  have Ob := Lib.hid (hm.own.alloc (.cells #[.int .i64 xh, .string xt, vb] 24))
  have Xb := Lib.hid (N.Nb.new w2 xh xt vb 24)
  have Rb := Lib.hid (hro.below ((Below.refl _ _).alloc (Nat.le_refl _) (.cells #[.int .i64 xh, .string xt, vb] 24)))
  have lb : Hid (w1.heap.size < w2.heap.size) := by have := hm.below.size; simp at this; show _ < _; omega
  subst hv
  have x0 := Xa2.out.c0
  have x1 := Xa2.out.c1
  have x2 := Xa2.out.c2
  clear hm hro hbb Ba Oa Xa Ra
  go_wp2_with fail
  refine (HEq.out _ _ _ _ _ Ra2.out Rb.out).mono ?_
  rintro e w3 ⟨rfl, hb⟩
  have B3 := Lib.hid (Bb.out.trans (hb.mono Bb.out.size))
  have Oa3 := Lib.hid (D.own_below Oa2.out hb)
  have Xa3 := Xa2.out.below hb
  have Ob3 := Lib.hid (D.own_below Ob.out hb)
  have Xb3 := Lib.hid (Xb.out.below hb)
  clear hb Bb Oa2 Xa2 Ra2 Ob Xb Rb x0 x1 x2
  have x0 := Xa3.c0
  have x1 := Xa3.c1
  have x2 := Xa3.c2
  go_wp2_with fail
  refine (spoil12_any xh xt _ L _ w3 (by have := HL.out; omega) Oa3.out).mono ?_
  rintro e w4 ⟨rfl, hg⟩
  have B4 := Lib.hid (B3.out.grown hg B3.out.size (fun k e => (Oa3.out.lt k e).1))
  have Ob4 := Lib.hid (Ob3.out.kept hg (by
    cases hvb : (Value.slice bo L.length bc).ownBlock with
    | none => exact .inl rfl
    | some k =>
      refine .inr fun e => ?_
      have h1 := (Ob3.out.lt k hvb).1
      have h2 := la.out k e.symm
      simp at h1
      omega))
  have Xb4 : Hid (N.Nb w4 w2.heap.size xh xt (.slice bo L.length bc)) := by
    have e := hg.block w2.heap.size Xb3.out.lt (fun e => by have := la.out _ e.symm; have := lb.out; omega)
    have key : ∀ o : Nat, w4.cell? ⟨w2.heap.size, o, none⟩ = w3.cell? ⟨w2.heap.size, o, none⟩ := fun o => by unfold World.cell?; simp only [e]
    exact ⟨Nat.lt_of_lt_of_le Xb3.out.lt hg.size, (key 0).trans Xb3.out.c0, (key 1).trans Xb3.out.c1, (key 2).trans Xb3.out.c2⟩
  clear hg B3 Oa3 Xa3 Ob3 Xb3 x0 x1 x2
  go_wp2_with fail
  refine (HD.out _).mono ?_
  rintro e w5 ⟨vc, rfl, hm⟩
  obtain ⟨co, cc, hv, hro, _⟩ := hm.src
  have hbb := hm.below.alloc hm.below.size (.cells #[.int .i64 xh, .string xt, vc] 24)
  have B5 := Lib.hid (B4.out.trans (hbb.mono B4.out.size))
  have Xb5 := Xb4.out.below hbb
  have Ob5 := D.own_below Ob4.out hbb
  have Rb5 : Hid (N.Row (w5.alloc (.cells #[.int .i64 xh, .string xt, vc] 24)) bo L) := by
    obtain ⟨bo', bc', e, r, _⟩ := (⟨D.own_mono Ob5 (Nat.zero_le _), ⟨rfl, rfl, rfl, Nat.zero_le _, fun k hk => absurd hk (Nat.not_lt_zero _)⟩⟩ : N.Made L { (w5.alloc (.cells #[.int .i64 xh, .string xt, vc] 24)) with heap := #[] } _ _).src
    cases e; exact r
  have Rc := Lib.hid (hro.below ((Below.refl _ _).alloc (Nat.le_refl _) (.cells #[.int .i64 xh, .string xt, vc] 24)))
  subst hv
  have x0 := Xb5.c0
  have x1 := Xb5.c1
  have x2 := Xb5.c2
  clear hm hro hbb Xb5 Ob5 B4 Ob4 Xb4
  go_wp2_with fail
  refine (HEq.out _ _ _ _ _ Rc.out Rb5.out).mono ?_
  rintro e w6 ⟨rfl, hb⟩
  have B6 := Lib.hid (B5.out.trans (hb.mono B5.out.size))
  clear hb B5 Rc Rb5 x0 x1 x2
  go_wp2_with fail
  refine (HK.out _).mono ?_
  rintro e wl ⟨rfl, hb⟩
  have KC := Lib.hid (B6.out.trans (hb.mono B6.out.size))
  clear hb
  go_wp2
  go_ret
  exact ⟨rfl, KC.out⟩
end Go.Proofs.Ytdpaleldalplfaa
