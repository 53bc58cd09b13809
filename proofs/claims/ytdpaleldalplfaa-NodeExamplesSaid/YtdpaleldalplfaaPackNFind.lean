/- Texts joined: NodeRef6 NodeRef7 NodeRef8 NodeRef9 -/
import Derived.Test.YtdpaleldalplfaaPackNRef
import Derived.Test.YtdpaleldalplfaaPackNMake
import Derived.Test.YtdpaleldalplfaaPackNEnc
import Derived.Deep.RegionHeld3
/- NodeRef6 -/
namespace Go.Proofs.Ytdpaleldalplfaa
open Go.RowKit

theorem N.fd_bad (f : N.K → Int) (first : Int) {x : N.Nd} (n : Int) (h : N.inE x ≠ 0) : N.fdE f first x n = N.inE x := by
  unfold N.inE at h
  unfold N.fdE N.inE
  by_cases hc : N.chk x = 0
  · rw [if_pos hc] at h
    by_cases h0 : x.h = 0
    · rw [if_pos hc, if_pos h0, if_pos hc, if_pos h0]
    · rw [if_neg h0] at h; exact absurd rfl h
  · rw [if_neg hc, if_neg hc]
/-- So many children's parts are not beyond n. -/
def N.Sle (f : N.K → Int) (l : List N.K) (k : Nat) (c n : Int) : Prop := N.sum f (l.take k) + c ≤ n
theorem N.in_ok {h : Int} {t : ByteArray} {l : List N.K} (hi : N.inE (N.nd h t l) = 0) : N.chk (N.nd h t l) = 0 ∧ h ≠ 0 := by
  unfold N.inE at hi
  by_cases hc : N.chk (N.nd h t l) = 0
  · rw [if_pos hc] at hi
    refine ⟨hc, fun h0 => ?_⟩
    rw [if_pos (show (N.nd h t l).h = 0 from h0)] at hi
    cases hi
  · rw [if_neg hc] at hi; exact absurd hi hc
set_option maxRecDepth 100000 in
set_option maxHeartbeats 2000000 in
theorem refChild12_any (h : Int) (t : ByteArray) (ao : Option Addr) (ca : Nat) (l : List N.K) (n : Int) (n0 : -9223372036854775808 ≤ n) (n1 : n ≤ 9223372036854775807) (w : World) (ht : t.size ≤ maxLen) (hn : l.length ≤ maxLen) (hr : N.Row w ao l) (hf : ∀ p ∈ l, N.Fit p) :
    Calls Try.prog 18 #[N.nv h t (.slice ao l.length ca), .int .i64 n] w (N.FdEnd N.K.b 0 (N.nd h t l) n w) := by
  have B1 : Hid (Below w.heap.size w (w.alloc (.cells #[.int .i64 h, .string t, .slice ao l.length ca] 24))) := (Below.refl _ _).alloc (Nat.le_refl _) _
  have X1 := Lib.hid (N.Nb.new w h t (.slice ao l.length ca) 24)
  have HM : Hid (∀ W, Below w.heap.size w W → Calls Try.prog 52 #[.agg #[.int .i64 h, .string t, .slice ao l.length ca]] W fun e w' => e = .returned (.tuple #[.agg #[.int .i64 (N.iz (N.nd h t l) (N.mB (N.nd h t l))), .int .i64 (N.iz (N.nd h t l) (N.mR (N.nd h t l))), .int .i64 (N.iz (N.nd h t l) (N.mL (N.nd h t l)))], .int .i64 (N.inE (N.nd h t l))]) ∧ Below W.heap.size W w') := fun W hW => refInner12m_any h t ao ca l W ht hn (hr.below hW) hf
  unfold N.nv
  by_cases hi : N.inE (N.nd h t l) = 0
  · obtain ⟨hc, h0⟩ := N.in_ok hi
    obtain ⟨hin, hs⟩ := N.inP_of hc h0
    have hsm := N.sml_of hin
    have e0 : ¬ (N.nd h t l).h = 0 := h0
    have iz : ∀ m, N.iz (N.nd h t l) m = m := fun m => by rw [N.iz, if_pos hi]
    have mB : N.mB (N.nd h t l) = N.sum N.K.b l := by rw [N.mB, if_pos hc, if_neg e0]; rfl
    have mR : N.mR (N.nd h t l) = N.sum N.K.r l := by rw [N.mR, if_pos hc, if_neg e0]; rfl
    have mL : N.mL (N.nd h t l) = N.sum N.K.l l := by rw [N.mL, if_pos hc, if_neg e0]; rfl
    rw [iz, iz, iz, mB, mR, mL, hi] at HM
    have HS : Hid (∀ (k : Nat) (z : Int), k ≤ l.length → z = (k : Int) → ∀ W, Below w.heap.size w W → Calls Try.prog 48 #[.agg #[.int .i64 h, .string t, .slice ao l.length ca], .int .i64 z] W fun e w' => e = .returned (.agg #[.int .i64 (N.sum N.K.b (l.take k)), .int .i64 (N.sum N.K.r (l.take k)), .int .i64 (N.sum N.K.l (l.take k))]) ∧ Below W.heap.size W w') := fun k z hk hz W hW => by
      subst hz
      exact refSum12_any h t ao ca l hsm k hk W (hr.below hW)
    have Hbd : Hid (∀ k, 0 ≤ N.sum N.K.b (l.take k) ∧ N.sum N.K.b (l.take k) ≤ 262144) := fun k => by
      have := N.sum_bd (f := N.K.b) (l := l.take k) fun y hy => hsm.b y (List.mem_of_mem_take hy)
      have h4 := hsm.len
      have : (l.take k).length ≤ 4 := by rw [List.length_take]; omega
      omega
    have he : N.fdE N.K.b 0 (N.nd h t l) n = if 0 ≤ n ∧ n < 0 + N.sum N.K.b l then 0 else 3 := by
      rw [N.fdE, if_pos hc, if_neg e0]; rfl
    have hbs := Hbd.out l.length
    rw [N.take_all] at hbs
    have hl4 := hsm.len
    have Hall : Hid (∀ k, k ≤ l.length → ¬ k < l.length → N.sum N.K.b (l.take k) = N.sum N.K.b l) := fun k h1 h2 => by
      rw [show k = l.length by omega, N.take_all]
    have Hpos : Hid (∀ y ∈ l, 0 ≤ N.K.b y) := fun y hy => (hsm.b y hy).1
    have h1l : 0 < l.length := by have := hin.2.2.2.1; omega
    by_cases hx : 0 ≤ n ∧ n < 0 + N.sum N.K.b l
    · rw [if_pos hx] at he
      have He : Hid (∀ (k : Nat) (q : Int) (W : World), k < l.length → N.sum N.K.b (l.take k) + 0 ≤ n → n < N.sum N.K.b (l.take (k + 1)) + 0 → q = n - N.sum N.K.b (l.take k) → Below w.heap.size w W → N.FdEnd N.K.b 0 (N.nd h t l) n w (.returned (.tuple #[.int .i64 k, .int .i64 q, .int .i64 0])) W) := by
        intro k q W hk h1 h2 hq hW
        subst hq
        have hfe := N.fnd_eq (f := N.K.b) (l := l) (n := n - 0) (i := k) Hpos.out hk (by omega) (by omega)
        refine ⟨?_, hW⟩
        rw [N.fdI, N.fdR, if_pos he, if_pos he, he]
        show _ = Ending.returned (.tuple #[.int .i64 ((N.fnd N.K.b l (n - 0)).1 : Int), .int .i64 ((N.fnd N.K.b l (n - 0)).2 + 0), _])
        rw [hfe]
        show _ = Ending.returned (.tuple #[.int .i64 (k : Int), .int .i64 (n - 0 - N.sum N.K.b (l.take k) + 0), _])
        rw [show n - 0 - N.sum N.K.b (l.take k) + 0 = n - N.sum N.K.b (l.take k) by omega]
      have hx1 := hx.1
      have hx2 := hx.2
      have hbs1 := hbs.1
      have hbs2 := hbs.2
      clear hc ht hn hr hf hin hs hsm e0 iz mB mR mL he hi hx hbs h0
      generalize N.sum N.K.b l = ma at *
      generalize N.sum N.K.r l = mb at *
      generalize N.sum N.K.l l = mc at *
      go_enter Try.func18, Try.ntmps18
      go_wp2_with fail
      refine (HM.out _ B1.out).mono ?_
      rintro e w1 ⟨rfl, hb⟩
      have B2 := Lib.hid ((B1.out.trans (hb.mono B1.out.size)).alloc (B1.out.trans (hb.mono B1.out.size)).size (.cells #[.int .i64 ma, .int .i64 mb, .int .i64 mc] 27))
      have X2 := Lib.hid ((X1.out.below hb).alloc (.cells #[.int .i64 ma, .int .i64 mb, .int .i64 mc] 27))
      clear hb X1 B1
      go_wp2
      go_loopw [9] (fun j wr => ∃ k : Nat, k < l.length ∧ j = .int .i64 k ∧ N.Sle N.K.b l k 0 n ∧ Hid (Below w.heap.size w wr) ∧ Hid (N.Nb wr w.heap.size h t (.slice ao l.length ca))) (fun j _ => l.length - (intOf j).toNat)
      case atStart => exact ⟨0, h1l, rfl, by simp [N.Sle, N.sum]; omega, B2, X2⟩
      case round =>
        clear B2 X2
        obtain ⟨k, hk, rfl, hks0, hw, hX⟩ := hrel
        have hks := hks0
        unfold N.Sle at hks
        clear hks0
        have b1 := Hbd.out (k + 1)
        have b0 := Hbd.out k
        have hall := Hall.out (k + 1) (by omega)
        have HS1 := Lib.hid (HS.out (k + 1) ((k : Int) + 1) (by omega) (by omega))
        have HS0 := Lib.hid (HS.out k (k : Int) (by omega) rfl)
        have He1 := Lib.hid (He.out k)
        have x0 := hX.out.c0
        have x1 := hX.out.c1
        have x2 := hX.out.c2
        have b11 := b1.1
        have b12 := b1.2
        have b01 := b0.1
        have b02 := b0.2
        by_cases hgo : N.sum N.K.b (l.take (k + 1)) + 0 ≤ n
        · have hk1 : k + 1 < l.length := by
            refine Nat.lt_of_not_le fun c => ?_
            have := hall (by omega)
            omega
          have hks1 : N.Sle N.K.b l (k + 1) 0 n := hgo
          generalize N.sum N.K.b (l.take (k + 1)) = s1 at *
          generalize N.sum N.K.r (l.take (k + 1)) = s2 at *
          generalize N.sum N.K.l (l.take (k + 1)) = s3 at *
          generalize N.sum N.K.b (l.take k) = s0 at *
          clear b1 b0 hall He1 HS0
          go_wp2_with fail
          refine (HS1.out _ hw.out).mono ?_
          rintro e w2 ⟨rfl, hb⟩
          have B3 := Lib.hid (hw.out.trans (hb.mono hw.out.size))
          have X3 := Lib.hid (hX.out.below hb)
          clear hb x0 x1 x2
          go_wp2
          go_roundw
          case rel => exact ⟨k + 1, hk1, by go_num, hks1, B3, X3⟩
          case measure => simp [intOf]; omega
        · have hgo' := Lib.hid hgo
          have hks0 := Lib.hid hks
          generalize N.sum N.K.b (l.take (k + 1)) = s1 at *
          generalize N.sum N.K.r (l.take (k + 1)) = s2 at *
          generalize N.sum N.K.l (l.take (k + 1)) = s3 at *
          generalize N.sum N.K.b (l.take k) = t1 at *
          generalize N.sum N.K.r (l.take k) = t2 at *
          generalize N.sum N.K.l (l.take k) = t3 at *
          clear b1 b0 hall
          go_wp2_with fail
          refine (HS1.out _ hw.out).mono ?_
          rintro e w2 ⟨rfl, hb⟩
          have B3 := Lib.hid (hw.out.trans (hb.mono hw.out.size))
          have X3 := Lib.hid (hX.out.below hb)
          clear hb x0 x1 x2
          have x0 := X3.out.c0
          have x1 := X3.out.c1
          have x2 := X3.out.c2
          go_wp2_with fail
          refine (HS0.out _ B3.out).mono ?_
          rintro e w3 ⟨rfl, hb⟩
          have B4 := Lib.hid (B3.out.trans (hb.mono B3.out.size))
          clear hb
          go_wp2
          go_ret3
          exact He1.out _ _ hk (by omega) (by have := hgo'.out; omega) rfl B4.out
    · rw [if_neg hx] at he
      have R := Lib.hid he
      have hbs1 := hbs.1
      have hbs2 := hbs.2
      have hx' : n < 0 ∨ (0 ≤ n ∧ 0 + N.sum N.K.b l ≤ n) := by omega
      clear hc ht hn hr hf hin hs hsm e0 iz mB mR mL he hi hx hbs Hbd HS Hall Hpos h1l h0
      generalize N.sum N.K.b l = ma at *
      generalize N.sum N.K.r l = mb at *
      generalize N.sum N.K.l l = mc at *
      rcases hx' with hx | ⟨hx1, hx2⟩
      all_goals
        go_enter Try.func18, Try.ntmps18
        go_wp2_with fail
        refine (HM.out _ B1.out).mono ?_
        rintro e w1 ⟨rfl, hb⟩
        have B2 := Lib.hid ((B1.out.trans (hb.mono B1.out.size)).alloc (B1.out.trans (hb.mono B1.out.size)).size (.cells #[.int .i64 ma, .int .i64 mb, .int .i64 mc] 27))
        clear hb X1 B1
        go_wp2
        go_ret3
        exact N.FdEnd.bad R.out (by decide) B2.out
  · have R := Lib.hid (N.fd_bad N.K.b 0 n hi)
    have hc' : (N.inE (N.nd h t l) != 0) = true := by simpa using hi
    have hc2 := Lib.hid hi
    generalize N.inE (N.nd h t l) = d at *
    generalize N.iz (N.nd h t l) (N.mB (N.nd h t l)) = a at *
    generalize N.iz (N.nd h t l) (N.mR (N.nd h t l)) = b at *
    generalize N.iz (N.nd h t l) (N.mL (N.nd h t l)) = c at *
    clear hi ht hn hr hf
    go_enter Try.func18, Try.ntmps18
    go_wp2_with fail
    refine (HM.out _ B1.out).mono ?_
    rintro e w1 ⟨rfl, hb⟩
    have B2 := Lib.hid ((B1.out.trans (hb.mono B1.out.size)).alloc (B1.out.trans (hb.mono B1.out.size)).size (.cells #[.int .i64 a, .int .i64 b, .int .i64 c] 27))
    clear hb
    go_wp2
    go_ret3
    exact N.FdEnd.bad R.out hc2.out B2.out
set_option maxRecDepth 100000 in
set_option maxHeartbeats 2000000 in
theorem refRune12_any (h : Int) (t : ByteArray) (ao : Option Addr) (ca : Nat) (l : List N.K) (n : Int) (n0 : -9223372036854775808 ≤ n) (n1 : n ≤ 9223372036854775807) (w : World) (ht : t.size ≤ maxLen) (hn : l.length ≤ maxLen) (hr : N.Row w ao l) (hf : ∀ p ∈ l, N.Fit p) :
    Calls Try.prog 20 #[N.nv h t (.slice ao l.length ca), .int .i64 n] w (N.FdEnd N.K.r 0 (N.nd h t l) n w) := by
  have B1 : Hid (Below w.heap.size w (w.alloc (.cells #[.int .i64 h, .string t, .slice ao l.length ca] 24))) := (Below.refl _ _).alloc (Nat.le_refl _) _
  have X1 := Lib.hid (N.Nb.new w h t (.slice ao l.length ca) 24)
  have HM : Hid (∀ W, Below w.heap.size w W → Calls Try.prog 52 #[.agg #[.int .i64 h, .string t, .slice ao l.length ca]] W fun e w' => e = .returned (.tuple #[.agg #[.int .i64 (N.iz (N.nd h t l) (N.mB (N.nd h t l))), .int .i64 (N.iz (N.nd h t l) (N.mR (N.nd h t l))), .int .i64 (N.iz (N.nd h t l) (N.mL (N.nd h t l)))], .int .i64 (N.inE (N.nd h t l))]) ∧ Below W.heap.size W w') := fun W hW => refInner12m_any h t ao ca l W ht hn (hr.below hW) hf
  unfold N.nv
  by_cases hi : N.inE (N.nd h t l) = 0
  · obtain ⟨hc, h0⟩ := N.in_ok hi
    obtain ⟨hin, hs⟩ := N.inP_of hc h0
    have hsm := N.sml_of hin
    have e0 : ¬ (N.nd h t l).h = 0 := h0
    have iz : ∀ m, N.iz (N.nd h t l) m = m := fun m => by rw [N.iz, if_pos hi]
    have mB : N.mB (N.nd h t l) = N.sum N.K.b l := by rw [N.mB, if_pos hc, if_neg e0]; rfl
    have mR : N.mR (N.nd h t l) = N.sum N.K.r l := by rw [N.mR, if_pos hc, if_neg e0]; rfl
    have mL : N.mL (N.nd h t l) = N.sum N.K.l l := by rw [N.mL, if_pos hc, if_neg e0]; rfl
    rw [iz, iz, iz, mB, mR, mL, hi] at HM
    have HS : Hid (∀ (k : Nat) (z : Int), k ≤ l.length → z = (k : Int) → ∀ W, Below w.heap.size w W → Calls Try.prog 48 #[.agg #[.int .i64 h, .string t, .slice ao l.length ca], .int .i64 z] W fun e w' => e = .returned (.agg #[.int .i64 (N.sum N.K.b (l.take k)), .int .i64 (N.sum N.K.r (l.take k)), .int .i64 (N.sum N.K.l (l.take k))]) ∧ Below W.heap.size W w') := fun k z hk hz W hW => by
      subst hz
      exact refSum12_any h t ao ca l hsm k hk W (hr.below hW)
    have Hbd : Hid (∀ k, 0 ≤ N.sum N.K.r (l.take k) ∧ N.sum N.K.r (l.take k) ≤ 262144) := fun k => by
      have := N.sum_bd (f := N.K.r) (l := l.take k) fun y hy => hsm.r y (List.mem_of_mem_take hy)
      have h4 := hsm.len
      have : (l.take k).length ≤ 4 := by rw [List.length_take]; omega
      omega
    have he : N.fdE N.K.r 0 (N.nd h t l) n = if 0 ≤ n ∧ n < 0 + N.sum N.K.r l then 0 else 3 := by
      rw [N.fdE, if_pos hc, if_neg e0]; rfl
    have hbs := Hbd.out l.length
    rw [N.take_all] at hbs
    have hl4 := hsm.len
    have Hall : Hid (∀ k, k ≤ l.length → ¬ k < l.length → N.sum N.K.r (l.take k) = N.sum N.K.r l) := fun k h1 h2 => by
      rw [show k = l.length by omega, N.take_all]
    have Hpos : Hid (∀ y ∈ l, 0 ≤ N.K.r y) := fun y hy => (hsm.r y hy).1
    have h1l : 0 < l.length := by have := hin.2.2.2.1; omega
    by_cases hx : 0 ≤ n ∧ n < 0 + N.sum N.K.r l
    · rw [if_pos hx] at he
      have He : Hid (∀ (k : Nat) (q : Int) (W : World), k < l.length → N.sum N.K.r (l.take k) + 0 ≤ n → n < N.sum N.K.r (l.take (k + 1)) + 0 → q = n - N.sum N.K.r (l.take k) → Below w.heap.size w W → N.FdEnd N.K.r 0 (N.nd h t l) n w (.returned (.tuple #[.int .i64 k, .int .i64 q, .int .i64 0])) W) := by
        intro k q W hk h1 h2 hq hW
        subst hq
        have hfe := N.fnd_eq (f := N.K.r) (l := l) (n := n - 0) (i := k) Hpos.out hk (by omega) (by omega)
        refine ⟨?_, hW⟩
        rw [N.fdI, N.fdR, if_pos he, if_pos he, he]
        show _ = Ending.returned (.tuple #[.int .i64 ((N.fnd N.K.r l (n - 0)).1 : Int), .int .i64 ((N.fnd N.K.r l (n - 0)).2 + 0), _])
        rw [hfe]
        show _ = Ending.returned (.tuple #[.int .i64 (k : Int), .int .i64 (n - 0 - N.sum N.K.r (l.take k) + 0), _])
        rw [show n - 0 - N.sum N.K.r (l.take k) + 0 = n - N.sum N.K.r (l.take k) by omega]
      have hx1 := hx.1
      have hx2 := hx.2
      have hbs1 := hbs.1
      have hbs2 := hbs.2
      clear hc ht hn hr hf hin hs hsm e0 iz mB mR mL he hi hx hbs h0
      generalize N.sum N.K.b l = ma at *
      generalize N.sum N.K.r l = mb at *
      generalize N.sum N.K.l l = mc at *
      go_enter Try.func20, Try.ntmps20
      go_wp2_with fail
      refine (HM.out _ B1.out).mono ?_
      rintro e w1 ⟨rfl, hb⟩
      have B2 := Lib.hid ((B1.out.trans (hb.mono B1.out.size)).alloc (B1.out.trans (hb.mono B1.out.size)).size (.cells #[.int .i64 ma, .int .i64 mb, .int .i64 mc] 27))
      have X2 := Lib.hid ((X1.out.below hb).alloc (.cells #[.int .i64 ma, .int .i64 mb, .int .i64 mc] 27))
      clear hb X1 B1
      go_wp2
      go_loopw [9] (fun j wr => ∃ k : Nat, k < l.length ∧ j = .int .i64 k ∧ N.Sle N.K.r l k 0 n ∧ Hid (Below w.heap.size w wr) ∧ Hid (N.Nb wr w.heap.size h t (.slice ao l.length ca))) (fun j _ => l.length - (intOf j).toNat)
      case atStart => exact ⟨0, h1l, rfl, by simp [N.Sle, N.sum]; omega, B2, X2⟩
      case round =>
        clear B2 X2
        obtain ⟨k, hk, rfl, hks0, hw, hX⟩ := hrel
        have hks := hks0
        unfold N.Sle at hks
        clear hks0
        have b1 := Hbd.out (k + 1)
        have b0 := Hbd.out k
        have hall := Hall.out (k + 1) (by omega)
        have HS1 := Lib.hid (HS.out (k + 1) ((k : Int) + 1) (by omega) (by omega))
        have HS0 := Lib.hid (HS.out k (k : Int) (by omega) rfl)
        have He1 := Lib.hid (He.out k)
        have x0 := hX.out.c0
        have x1 := hX.out.c1
        have x2 := hX.out.c2
        have b11 := b1.1
        have b12 := b1.2
        have b01 := b0.1
        have b02 := b0.2
        by_cases hgo : N.sum N.K.r (l.take (k + 1)) + 0 ≤ n
        · have hk1 : k + 1 < l.length := by
            refine Nat.lt_of_not_le fun c => ?_
            have := hall (by omega)
            omega
          have hks1 : N.Sle N.K.r l (k + 1) 0 n := hgo
          generalize N.sum N.K.b (l.take (k + 1)) = s1 at *
          generalize N.sum N.K.r (l.take (k + 1)) = s2 at *
          generalize N.sum N.K.l (l.take (k + 1)) = s3 at *
          generalize N.sum N.K.r (l.take k) = s0 at *
          clear b1 b0 hall He1 HS0
          go_wp2_with fail
          refine (HS1.out _ hw.out).mono ?_
          rintro e w2 ⟨rfl, hb⟩
          have B3 := Lib.hid (hw.out.trans (hb.mono hw.out.size))
          have X3 := Lib.hid (hX.out.below hb)
          clear hb x0 x1 x2
          go_wp2
          go_roundw
          case rel => exact ⟨k + 1, hk1, by go_num, hks1, B3, X3⟩
          case measure => simp [intOf]; omega
        · have hgo' := Lib.hid hgo
          have hks0 := Lib.hid hks
          generalize N.sum N.K.b (l.take (k + 1)) = s1 at *
          generalize N.sum N.K.r (l.take (k + 1)) = s2 at *
          generalize N.sum N.K.l (l.take (k + 1)) = s3 at *
          generalize N.sum N.K.b (l.take k) = t1 at *
          generalize N.sum N.K.r (l.take k) = t2 at *
          generalize N.sum N.K.l (l.take k) = t3 at *
          clear b1 b0 hall
          go_wp2_with fail
          refine (HS1.out _ hw.out).mono ?_
          rintro e w2 ⟨rfl, hb⟩
          have B3 := Lib.hid (hw.out.trans (hb.mono hw.out.size))
          have X3 := Lib.hid (hX.out.below hb)
          clear hb x0 x1 x2
          have x0 := X3.out.c0
          have x1 := X3.out.c1
          have x2 := X3.out.c2
          go_wp2_with fail
          refine (HS0.out _ B3.out).mono ?_
          rintro e w3 ⟨rfl, hb⟩
          have B4 := Lib.hid (B3.out.trans (hb.mono B3.out.size))
          clear hb
          go_wp2
          go_ret3
          exact He1.out _ _ hk (by omega) (by have := hgo'.out; omega) rfl B4.out
    · rw [if_neg hx] at he
      have R := Lib.hid he
      have hbs1 := hbs.1
      have hbs2 := hbs.2
      have hx' : n < 0 ∨ (0 ≤ n ∧ 0 + N.sum N.K.r l ≤ n) := by omega
      clear hc ht hn hr hf hin hs hsm e0 iz mB mR mL he hi hx hbs Hbd HS Hall Hpos h1l h0
      generalize N.sum N.K.b l = ma at *
      generalize N.sum N.K.r l = mb at *
      generalize N.sum N.K.l l = mc at *
      rcases hx' with hx | ⟨hx1, hx2⟩
      all_goals
        go_enter Try.func20, Try.ntmps20
        go_wp2_with fail
        refine (HM.out _ B1.out).mono ?_
        rintro e w1 ⟨rfl, hb⟩
        have B2 := Lib.hid ((B1.out.trans (hb.mono B1.out.size)).alloc (B1.out.trans (hb.mono B1.out.size)).size (.cells #[.int .i64 ma, .int .i64 mb, .int .i64 mc] 27))
        clear hb X1 B1
        go_wp2
        go_ret3
        exact N.FdEnd.bad R.out (by decide) B2.out
  · have R := Lib.hid (N.fd_bad N.K.r 0 n hi)
    have hc' : (N.inE (N.nd h t l) != 0) = true := by simpa using hi
    have hc2 := Lib.hid hi
    generalize N.inE (N.nd h t l) = d at *
    generalize N.iz (N.nd h t l) (N.mB (N.nd h t l)) = a at *
    generalize N.iz (N.nd h t l) (N.mR (N.nd h t l)) = b at *
    generalize N.iz (N.nd h t l) (N.mL (N.nd h t l)) = c at *
    clear hi ht hn hr hf
    go_enter Try.func20, Try.ntmps20
    go_wp2_with fail
    refine (HM.out _ B1.out).mono ?_
    rintro e w1 ⟨rfl, hb⟩
    have B2 := Lib.hid ((B1.out.trans (hb.mono B1.out.size)).alloc (B1.out.trans (hb.mono B1.out.size)).size (.cells #[.int .i64 a, .int .i64 b, .int .i64 c] 27))
    clear hb
    go_wp2
    go_ret3
    exact N.FdEnd.bad R.out hc2.out B2.out
set_option maxRecDepth 100000 in
set_option maxHeartbeats 2000000 in
theorem refLine12_any (h : Int) (t : ByteArray) (ao : Option Addr) (ca : Nat) (l : List N.K) (n : Int) (n0 : -9223372036854775808 ≤ n) (n1 : n ≤ 9223372036854775807) (w : World) (ht : t.size ≤ maxLen) (hn : l.length ≤ maxLen) (hr : N.Row w ao l) (hf : ∀ p ∈ l, N.Fit p) :
    Calls Try.prog 22 #[N.nv h t (.slice ao l.length ca), .int .i64 n] w (N.FdEnd N.K.l 1 (N.nd h t l) n w) := by
  have B1 : Hid (Below w.heap.size w (w.alloc (.cells #[.int .i64 h, .string t, .slice ao l.length ca] 24))) := (Below.refl _ _).alloc (Nat.le_refl _) _
  have X1 := Lib.hid (N.Nb.new w h t (.slice ao l.length ca) 24)
  have HM : Hid (∀ W, Below w.heap.size w W → Calls Try.prog 52 #[.agg #[.int .i64 h, .string t, .slice ao l.length ca]] W fun e w' => e = .returned (.tuple #[.agg #[.int .i64 (N.iz (N.nd h t l) (N.mB (N.nd h t l))), .int .i64 (N.iz (N.nd h t l) (N.mR (N.nd h t l))), .int .i64 (N.iz (N.nd h t l) (N.mL (N.nd h t l)))], .int .i64 (N.inE (N.nd h t l))]) ∧ Below W.heap.size W w') := fun W hW => refInner12m_any h t ao ca l W ht hn (hr.below hW) hf
  unfold N.nv
  by_cases hi : N.inE (N.nd h t l) = 0
  · obtain ⟨hc, h0⟩ := N.in_ok hi
    obtain ⟨hin, hs⟩ := N.inP_of hc h0
    have hsm := N.sml_of hin
    have e0 : ¬ (N.nd h t l).h = 0 := h0
    have iz : ∀ m, N.iz (N.nd h t l) m = m := fun m => by rw [N.iz, if_pos hi]
    have mB : N.mB (N.nd h t l) = N.sum N.K.b l := by rw [N.mB, if_pos hc, if_neg e0]; rfl
    have mR : N.mR (N.nd h t l) = N.sum N.K.r l := by rw [N.mR, if_pos hc, if_neg e0]; rfl
    have mL : N.mL (N.nd h t l) = N.sum N.K.l l := by rw [N.mL, if_pos hc, if_neg e0]; rfl
    rw [iz, iz, iz, mB, mR, mL, hi] at HM
    have HS : Hid (∀ (k : Nat) (z : Int), k ≤ l.length → z = (k : Int) → ∀ W, Below w.heap.size w W → Calls Try.prog 48 #[.agg #[.int .i64 h, .string t, .slice ao l.length ca], .int .i64 z] W fun e w' => e = .returned (.agg #[.int .i64 (N.sum N.K.b (l.take k)), .int .i64 (N.sum N.K.r (l.take k)), .int .i64 (N.sum N.K.l (l.take k))]) ∧ Below W.heap.size W w') := fun k z hk hz W hW => by
      subst hz
      exact refSum12_any h t ao ca l hsm k hk W (hr.below hW)
    have Hbd : Hid (∀ k, 0 ≤ N.sum N.K.l (l.take k) ∧ N.sum N.K.l (l.take k) ≤ 262144) := fun k => by
      have := N.sum_bd (f := N.K.l) (l := l.take k) fun y hy => hsm.l y (List.mem_of_mem_take hy)
      have h4 := hsm.len
      have : (l.take k).length ≤ 4 := by rw [List.length_take]; omega
      omega
    have he : N.fdE N.K.l 1 (N.nd h t l) n = if 1 ≤ n ∧ n < 1 + N.sum N.K.l l then 0 else 3 := by
      rw [N.fdE, if_pos hc, if_neg e0]; rfl
    have hbs := Hbd.out l.length
    rw [N.take_all] at hbs
    have hl4 := hsm.len
    have Hall : Hid (∀ k, k ≤ l.length → ¬ k < l.length → N.sum N.K.l (l.take k) = N.sum N.K.l l) := fun k h1 h2 => by
      rw [show k = l.length by omega, N.take_all]
    have Hpos : Hid (∀ y ∈ l, 0 ≤ N.K.l y) := fun y hy => (hsm.l y hy).1
    have h1l : 0 < l.length := by have := hin.2.2.2.1; omega
    by_cases hx : 1 ≤ n ∧ n < 1 + N.sum N.K.l l
    · rw [if_pos hx] at he
      have He : Hid (∀ (k : Nat) (q : Int) (W : World), k < l.length → N.sum N.K.l (l.take k) + 1 ≤ n → n < N.sum N.K.l (l.take (k + 1)) + 1 → q = n - N.sum N.K.l (l.take k) → Below w.heap.size w W → N.FdEnd N.K.l 1 (N.nd h t l) n w (.returned (.tuple #[.int .i64 k, .int .i64 q, .int .i64 0])) W) := by
        intro k q W hk h1 h2 hq hW
        subst hq
        have hfe := N.fnd_eq (f := N.K.l) (l := l) (n := n - 1) (i := k) Hpos.out hk (by omega) (by omega)
        refine ⟨?_, hW⟩
        rw [N.fdI, N.fdR, if_pos he, if_pos he, he]
        show _ = Ending.returned (.tuple #[.int .i64 ((N.fnd N.K.l l (n - 1)).1 : Int), .int .i64 ((N.fnd N.K.l l (n - 1)).2 + 1), _])
        rw [hfe]
        show _ = Ending.returned (.tuple #[.int .i64 (k : Int), .int .i64 (n - 1 - N.sum N.K.l (l.take k) + 1), _])
        rw [show n - 1 - N.sum N.K.l (l.take k) + 1 = n - N.sum N.K.l (l.take k) by omega]
      have hx1 := hx.1
      have hx2 := hx.2
      have hbs1 := hbs.1
      have hbs2 := hbs.2
      clear hc ht hn hr hf hin hs hsm e0 iz mB mR mL he hi hx hbs h0
      generalize N.sum N.K.b l = ma at *
      generalize N.sum N.K.r l = mb at *
      generalize N.sum N.K.l l = mc at *
      go_enter Try.func22, Try.ntmps22
      go_wp2_with fail
      refine (HM.out _ B1.out).mono ?_
      rintro e w1 ⟨rfl, hb⟩
      have B2 := Lib.hid ((B1.out.trans (hb.mono B1.out.size)).alloc (B1.out.trans (hb.mono B1.out.size)).size (.cells #[.int .i64 ma, .int .i64 mb, .int .i64 mc] 27))
      have X2 := Lib.hid ((X1.out.below hb).alloc (.cells #[.int .i64 ma, .int .i64 mb, .int .i64 mc] 27))
      clear hb X1 B1
      go_wp2
      go_loopw [9] (fun j wr => ∃ k : Nat, k < l.length ∧ j = .int .i64 k ∧ N.Sle N.K.l l k 1 n ∧ Hid (Below w.heap.size w wr) ∧ Hid (N.Nb wr w.heap.size h t (.slice ao l.length ca))) (fun j _ => l.length - (intOf j).toNat)
      case atStart => exact ⟨0, h1l, rfl, by simp [N.Sle, N.sum]; omega, B2, X2⟩
      case round =>
        clear B2 X2
        obtain ⟨k, hk, rfl, hks0, hw, hX⟩ := hrel
        have hks := hks0
        unfold N.Sle at hks
        clear hks0
        have b1 := Hbd.out (k + 1)
        have b0 := Hbd.out k
        have hall := Hall.out (k + 1) (by omega)
        have HS1 := Lib.hid (HS.out (k + 1) ((k : Int) + 1) (by omega) (by omega))
        have HS0 := Lib.hid (HS.out k (k : Int) (by omega) rfl)
        have He1 := Lib.hid (He.out k)
        have x0 := hX.out.c0
        have x1 := hX.out.c1
        have x2 := hX.out.c2
        have b11 := b1.1
        have b12 := b1.2
        have b01 := b0.1
        have b02 := b0.2
        by_cases hgo : N.sum N.K.l (l.take (k + 1)) + 1 ≤ n
        · have hk1 : k + 1 < l.length := by
            refine Nat.lt_of_not_le fun c => ?_
            have := hall (by omega)
            omega
          have hks1 : N.Sle N.K.l l (k + 1) 1 n := hgo
          generalize N.sum N.K.b (l.take (k + 1)) = s1 at *
          generalize N.sum N.K.r (l.take (k + 1)) = s2 at *
          generalize N.sum N.K.l (l.take (k + 1)) = s3 at *
          generalize N.sum N.K.l (l.take k) = s0 at *
          clear b1 b0 hall He1 HS0
          go_wp2_with fail
          refine (HS1.out _ hw.out).mono ?_
          rintro e w2 ⟨rfl, hb⟩
          have B3 := Lib.hid (hw.out.trans (hb.mono hw.out.size))
          have X3 := Lib.hid (hX.out.below hb)
          clear hb x0 x1 x2
          go_wp2
          go_roundw
          case rel => exact ⟨k + 1, hk1, by go_num, hks1, B3, X3⟩
          case measure => simp [intOf]; omega
        · have hgo' := Lib.hid hgo
          have hks0 := Lib.hid hks
          generalize N.sum N.K.b (l.take (k + 1)) = s1 at *
          generalize N.sum N.K.r (l.take (k + 1)) = s2 at *
          generalize N.sum N.K.l (l.take (k + 1)) = s3 at *
          generalize N.sum N.K.b (l.take k) = t1 at *
          generalize N.sum N.K.r (l.take k) = t2 at *
          generalize N.sum N.K.l (l.take k) = t3 at *
          clear b1 b0 hall
          go_wp2_with fail
          refine (HS1.out _ hw.out).mono ?_
          rintro e w2 ⟨rfl, hb⟩
          have B3 := Lib.hid (hw.out.trans (hb.mono hw.out.size))
          have X3 := Lib.hid (hX.out.below hb)
          clear hb x0 x1 x2
          have x0 := X3.out.c0
          have x1 := X3.out.c1
          have x2 := X3.out.c2
          go_wp2_with fail
          refine (HS0.out _ B3.out).mono ?_
          rintro e w3 ⟨rfl, hb⟩
          have B4 := Lib.hid (B3.out.trans (hb.mono B3.out.size))
          clear hb
          go_wp2
          go_ret3
          exact He1.out _ _ hk (by omega) (by have := hgo'.out; omega) rfl B4.out
    · rw [if_neg hx] at he
      have R := Lib.hid he
      have hbs1 := hbs.1
      have hbs2 := hbs.2
      have hx' : n < 1 ∨ (1 ≤ n ∧ 1 + N.sum N.K.l l ≤ n) := by omega
      clear hc ht hn hr hf hin hs hsm e0 iz mB mR mL he hi hx hbs Hbd HS Hall Hpos h1l h0
      generalize N.sum N.K.b l = ma at *
      generalize N.sum N.K.r l = mb at *
      generalize N.sum N.K.l l = mc at *
      rcases hx' with hx | ⟨hx1, hx2⟩
      all_goals
        go_enter Try.func22, Try.ntmps22
        go_wp2_with fail
        refine (HM.out _ B1.out).mono ?_
        rintro e w1 ⟨rfl, hb⟩
        have B2 := Lib.hid ((B1.out.trans (hb.mono B1.out.size)).alloc (B1.out.trans (hb.mono B1.out.size)).size (.cells #[.int .i64 ma, .int .i64 mb, .int .i64 mc] 27))
        clear hb X1 B1
        go_wp2
        go_ret3
        exact N.FdEnd.bad R.out (by decide) B2.out
  · have R := Lib.hid (N.fd_bad N.K.l 1 n hi)
    have hc' : (N.inE (N.nd h t l) != 0) = true := by simpa using hi
    have hc2 := Lib.hid hi
    generalize N.inE (N.nd h t l) = d at *
    generalize N.iz (N.nd h t l) (N.mB (N.nd h t l)) = a at *
    generalize N.iz (N.nd h t l) (N.mR (N.nd h t l)) = b at *
    generalize N.iz (N.nd h t l) (N.mL (N.nd h t l)) = c at *
    clear hi ht hn hr hf
    go_enter Try.func22, Try.ntmps22
    go_wp2_with fail
    refine (HM.out _ B1.out).mono ?_
    rintro e w1 ⟨rfl, hb⟩
    have B2 := Lib.hid ((B1.out.trans (hb.mono B1.out.size)).alloc (B1.out.trans (hb.mono B1.out.size)).size (.cells #[.int .i64 a, .int .i64 b, .int .i64 c] 27))
    clear hb
    go_wp2
    go_ret3
    exact N.FdEnd.bad R.out hc2.out B2.out
end Go.Proofs.Ytdpaleldalplfaa
/- NodeRef7 -/
namespace Go.Proofs.Ytdpaleldalplfaa
open Go.RowKit

set_option maxRecDepth 100000 in
set_option maxHeartbeats 1000000 in
theorem refLeaf12_any (t : ByteArray) (w : World) (ht : t.size ≤ maxLen) : Calls Try.prog 28 #[.string t] w (N.LfEnd t w) := by
  have B1 : Hid (Below w.heap.size w ((w.alloc (.cells #[.int .i64 0, .string ⟨#[]⟩, .slice none 0 0] 24)).alloc (.cells #[.int .i64 0, .string t, .slice none 0 0] 24))) := ((Below.refl _ _).alloc (Nat.le_refl _) _).alloc (by simp) _
  have O1 := Lib.hid ((N.Own.new w (.int .i64 0) (.string ⟨#[]⟩) (.slice none 0 0) 24).alloc (.cells #[.int .i64 0, .string t, .slice none 0 0] 24))
  have X1 := N.Nb.new (w.alloc (.cells #[.int .i64 0, .string ⟨#[]⟩, .slice none 0 0] 24)) 0 t (.slice none 0 0) 24
  rw [World.size_alloc] at X1
  have X1 := Lib.hid X1
  have HC : Hid (∀ W, Calls Try.prog 16 #[.agg #[.int .i64 0, .string t, .slice none 0 0]] W fun e w' => e = .returned (.int .i64 (N.chk (N.nd 0 t []))) ∧ Below W.heap.size W w') := fun W => refCheck12_any 0 t none 0 [] W ht (Nat.zero_le _) (N.row_nil _ _) (fun p hp => by cases hp)
  by_cases hc : N.chk (N.nd 0 t []) = 0
  · have HE : Hid (∀ W, Below w.heap.size w W → N.LfEnd t w (.returned (.tuple #[.agg #[.int .i64 0, .string t, .slice none 0 0], .int .i64 0])) W) := fun W hW => ⟨by rw [N.rT, if_pos hc, hc]; rfl, hW⟩
    rw [hc] at HC
    clear hc ht
    go_enter Try.func28, Try.ntmps28
    go_wp2_with fail
    refine (HC.out _).mono ?_
    rintro e w1 ⟨rfl, hb⟩
    have B2 := Lib.hid (B1.out.trans (hb.mono B1.out.size))
    have O2 := Lib.hid (O1.out.below hb)
    have X2 := Lib.hid (X1.out.below hb)
    clear hb B1 O1 X1
    have x0 := X2.out.c0
    have x1 := X2.out.c1
    have x2 := X2.out.c2
    have r0 := O2.out.c0
    have r1 := O2.out.c1
    have r2 := O2.out.c2
    have s0 := O2.out.f0
    have s1 := O2.out.f1
    have s2 := O2.out.f2
    have hP := O2.out.put (.int .i64 0) (.string t) (.slice none 0 0)
    have R := Lib.hid (HE.out _ (N.put3_below B2.out (b := w.heap.size) (by omega) (.int .i64 0) (.string t) (.slice none 0 0)))
    go_wp2
    have p0 := hP.c0
    have p1 := hP.c1
    have p2 := hP.c2
    refine bodyPost_ret (v := .tuple #[.agg #[.int .i64 0, .string t, .slice none 0 0], .int .i64 0]) ?_ rfl R.out
    unfold N.put3 at p0 p1 p2
    simp [results, Try.results28, go_sem, p0, p1, p2]
  · have HE : Hid (∀ W, Below w.heap.size w W → N.LfEnd t w (.returned (.tuple #[.agg #[.int .i64 0, .string ⟨#[]⟩, .slice none 0 0], .int .i64 (N.chk (N.nd 0 t []))])) W) := fun W hW => ⟨by rw [N.rT, if_neg hc]; rfl, hW⟩
    have hc' : (N.chk (N.nd 0 t []) != 0) = true := by simpa using hc
    generalize N.chk (N.nd 0 t []) = c at *
    clear hc ht
    go_enter Try.func28, Try.ntmps28
    go_wp2_with fail
    refine (HC.out _).mono ?_
    rintro e w1 ⟨rfl, hb⟩
    have B2 := Lib.hid (B1.out.trans (hb.mono B1.out.size))
    have O2 := Lib.hid (O1.out.below hb)
    clear hb B1 O1 X1
    have r0 := O2.out.c0
    have r1 := O2.out.c1
    have r2 := O2.out.c2
    have s0 := O2.out.f0
    have s1 := O2.out.f1
    have s2 := O2.out.f2
    have hP := O2.out.put (.int .i64 0) (.string ⟨#[]⟩) (.slice none 0 0)
    have R := Lib.hid (HE.out _ (N.put3_below B2.out (b := w.heap.size) (by omega) (.int .i64 0) (.string ⟨#[]⟩) (.slice none 0 0)))
    go_wp2
    have p0 := hP.c0
    have p1 := hP.c1
    have p2 := hP.c2
    refine bodyPost_ret (v := .tuple #[.agg #[.int .i64 0, .string ⟨#[]⟩, .slice none 0 0], .int .i64 c]) ?_ rfl R.out
    unfold N.put3 at p0 p1 p2
    simp [results, Try.results28, go_sem, p0, p1, p2]
set_option maxRecDepth 100000 in
set_option maxHeartbeats 2000000 in
theorem refInner12_any (h : Int) (ao : Option Addr) (ca : Nat) (l : List N.K) (w : World) (hn : l.length * 32 ≤ 140737488351232) (hr : N.Row w ao l) (hf : ∀ p ∈ l, N.Fit p) :
    Calls Try.prog 31 #[.int .i64 h, .slice ao l.length ca] w (N.InEnd h l w) := by
  have B1 : Hid (Below w.heap.size w (w.alloc (.cells #[.int .i64 0, .string ⟨#[]⟩, .slice none 0 0] 24))) := (Below.refl _ _).alloc (Nat.le_refl _) _
  have O1 := Lib.hid (N.Own.new w (.int .i64 0) (.string ⟨#[]⟩) (.slice none 0 0) 24)
  have hlm : l.length ≤ maxLen := by unfold maxLen; omega
  have HK : Hid (∀ W, Below w.heap.size w W → Calls Try.prog 29 #[.slice ao l.length ca] W fun e w' => ∃ v, e = .returned v ∧ N.Made l W v w') := fun W hW => copyKids_any ao ca l W (hr.below hW) hn
  have HC : Hid (∀ yo yc W, N.Row W yo l → Calls Try.prog 16 #[.agg #[.int .i64 h, .string ⟨#[]⟩, .slice yo l.length yc]] W fun e w' => e = .returned (.int .i64 (N.chk (N.nd h ⟨#[]⟩ l))) ∧ Below W.heap.size W w') := fun yo yc W hW => refCheck12_any h ⟨#[]⟩ yo yc l W (Nat.zero_le _) hlm hW hf
  clear hn hr hf hlm
  by_cases hc : N.chk (N.nd h ⟨#[]⟩ l) = 0
  · have HE : Hid (∀ v W, N.Made l w v W → N.InEnd h l w (.returned (.tuple #[.agg #[.int .i64 h, .string ⟨#[]⟩, v], .int .i64 0])) W) := fun v W hm => ⟨v, by rw [N.rH, if_pos hc, hc]; rfl, by rw [N.rL, if_pos hc]; exact hm⟩
    rw [hc] at HC
    clear hc
    go_enter Try.func31, Try.ntmps31
    go_wp2_with fail
    refine (HK.out _ B1.out).mono ?_
    rintro e w1 ⟨v, rfl, hm⟩
    obtain ⟨vo, vc, hv, hrow, _⟩ := hm.src
    have A1 := Lib.hid (hm.ab B1.out)
    have B2 := Lib.hid ((B1.out.trans (hm.below.mono B1.out.size)).alloc (B1.out.trans (hm.below.mono B1.out.size)).size (.cells #[.int .i64 h, .string ⟨#[]⟩, v] 24))
    have O2 := Lib.hid ((O1.out.below hm.below).alloc (.cells #[.int .i64 h, .string ⟨#[]⟩, v] 24))
    have X2 := Lib.hid (N.Nb.new w1 h ⟨#[]⟩ v 24)
    have A2 : Hid (N.Ab l w (w.alloc (.cells #[.int .i64 0, .string ⟨#[]⟩, .slice none 0 0] 24)).heap.size v (w1.alloc (.cells #[.int .i64 h, .string ⟨#[]⟩, v] 24))) := ⟨A1.out.own.alloc _, B2.out, A1.out.lo⟩
    have R2 := Lib.hid (hrow.below ((Below.refl _ _).alloc (Nat.le_refl _) (.cells #[.int .i64 h, .string ⟨#[]⟩, v] 24)))
    subst hv
    clear hm hrow A1 B1 O1
    go_wp2_with fail
    refine (HC.out _ _ _ R2.out).mono ?_
    rintro e w2 ⟨rfl, hb⟩
    have B3 := Lib.hid (B2.out.trans (hb.mono B2.out.size))
    have O3 := Lib.hid (O2.out.below hb)
    have X3 := Lib.hid (X2.out.below hb)
    have A3 : Hid (N.Ab l w (w.alloc (.cells #[.int .i64 0, .string ⟨#[]⟩, .slice none 0 0] 24)).heap.size (.slice vo l.length vc) w2) := ⟨D.own_below A2.out.own hb, B3.out, A2.out.lo⟩
    clear hb A2 R2 O2 X2 B2
    have A5 := ((A3.out.set (b := w.heap.size) (Nat.le_refl _) (by simp) 0 (.int .i64 h)).set (b := w.heap.size) (Nat.le_refl _) (by simp) 1 (.string ⟨#[]⟩)).set (b := w.heap.size) (Nat.le_refl _) (by simp) 2 (.slice vo l.length vc)
    have M5 := Lib.hid (HE.out _ _ A5.made)
    have x0 := X3.out.c0
    have x1 := X3.out.c1
    have x2 := X3.out.c2
    have r0 := O3.out.c0
    have r1 := O3.out.c1
    have r2 := O3.out.c2
    have s0 := O3.out.f0
    have s1 := O3.out.f1
    have s2 := O3.out.f2
    have hP := O3.out.put (.int .i64 h) (.string ⟨#[]⟩) (.slice vo l.length vc)
    clear A3 A5
    go_wp2
    have p0 := hP.c0
    have p1 := hP.c1
    have p2 := hP.c2
    refine bodyPost_ret (v := .tuple #[.agg #[.int .i64 h, .string ⟨#[]⟩, .slice vo l.length vc], .int .i64 0]) ?_ rfl M5.out
    unfold N.put3 at p0 p1 p2
    simp [results, Try.results31, go_sem, p0, p1, p2]
  · have HE : Hid (∀ W, Below w.heap.size w W → N.InEnd h l w (.returned (.tuple #[.agg #[.int .i64 0, .string ⟨#[]⟩, .slice none 0 0], .int .i64 (N.chk (N.nd h ⟨#[]⟩ l))])) W) := fun W hW => ⟨.slice none 0 0, by rw [N.rH, if_neg hc]; rfl, by rw [N.rL, if_neg hc]; exact N.Made.nil w hW⟩
    have hc' : (N.chk (N.nd h ⟨#[]⟩ l) != 0) = true := by simpa using hc
    generalize N.chk (N.nd h ⟨#[]⟩ l) = c at *
    clear hc
    go_enter Try.func31, Try.ntmps31
    go_wp2_with fail
    refine (HK.out _ B1.out).mono ?_
    rintro e w1 ⟨v, rfl, hm⟩
    obtain ⟨vo, vc, hv, hrow, _⟩ := hm.src
    have B2 := Lib.hid ((B1.out.trans (hm.below.mono B1.out.size)).alloc (B1.out.trans (hm.below.mono B1.out.size)).size (.cells #[.int .i64 h, .string ⟨#[]⟩, v] 24))
    have O2 := Lib.hid ((O1.out.below hm.below).alloc (.cells #[.int .i64 h, .string ⟨#[]⟩, v] 24))
    have R2 := Lib.hid (hrow.below ((Below.refl _ _).alloc (Nat.le_refl _) (.cells #[.int .i64 h, .string ⟨#[]⟩, v] 24)))
    subst hv
    clear hm hrow B1 O1
    go_wp2_with fail
    refine (HC.out _ _ _ R2.out).mono ?_
    rintro e w2 ⟨rfl, hb⟩
    have B3 := Lib.hid (B2.out.trans (hb.mono B2.out.size))
    have O3 := Lib.hid (O2.out.below hb)
    clear hb R2 O2 B2
    have r0 := O3.out.c0
    have r1 := O3.out.c1
    have r2 := O3.out.c2
    have s0 := O3.out.f0
    have s1 := O3.out.f1
    have s2 := O3.out.f2
    have hP := O3.out.put (.int .i64 0) (.string ⟨#[]⟩) (.slice none 0 0)
    have R := Lib.hid (HE.out _ (N.put3_below B3.out (b := w.heap.size) (by omega) (.int .i64 0) (.string ⟨#[]⟩) (.slice none 0 0)))
    go_wp2
    have p0 := hP.c0
    have p1 := hP.c1
    have p2 := hP.c2
    refine bodyPost_ret (v := .tuple #[.agg #[.int .i64 0, .string ⟨#[]⟩, .slice none 0 0], .int .i64 c]) ?_ rfl R.out
    unfold N.put3 at p0 p1 p2
    simp [results, Try.results31, go_sem, p0, p1, p2]
end Go.Proofs.Ytdpaleldalplfaa
/- NodeRef8 -/
namespace Go.Proofs.Ytdpaleldalplfaa
open Go.RowKit

theorem N.bytes_cons (c : UInt8) (X : List UInt8) : (⟨[c].toArray⟩ : ByteArray) ++ (⟨X.toArray⟩ : ByteArray) = ⟨(c :: X).toArray⟩ := by
  rw [← D.bytes_eq ((⟨[c].toArray⟩ : ByteArray) ++ (⟨X.toArray⟩ : ByteArray))]
  simp
set_option maxRecDepth 100000 in
set_option maxHeartbeats 2000000 in
theorem refNumber12_any (n s : Nat) (hn : n < 18446744073709551616) (hs : s ≤ 6) (w : World) :
    Calls Try.prog 56 #[.int .u64 (n : Int), .int .i64 (s : Int)] w fun e w' => e = .returned (.string ⟨(N.be s n).toArray⟩) ∧ Below w.heap.size w w' := by
  go_enter Try.func56, Try.ntmps56
  go_wp2
  go_loopw [0, 5, 6] (fun x o j wr => ∃ (i m : Nat) (O : ByteArray), i ≤ s ∧ m < 18446744073709551616 ∧ x = .int .u64 (m : Int) ∧ o = .string O ∧ j = .int .i64 i ∧ Hid (m = n / 256 ^ i) ∧ Hid (O = ⟨(N.be i n).toArray⟩) ∧ Hid (Below w.heap.size w wr)) (fun _ _ j _ => s - (intOf j).toNat)
  case atStart => exact ⟨0, n, ⟨#[]⟩, Nat.zero_le _, hn, rfl, rfl, rfl, (by show _ = _; simp), rfl, Below.refl _ _⟩
  case round =>
    obtain ⟨i, m, O, hi, hm, rfl, rfl, rfl, hmi, hO, hw⟩ := hrel
    by_cases hlt : i < s
    · obtain ⟨c, hc⟩ : ∃ c, c = UInt8.ofNat (n / 256 ^ i % 256) := ⟨_, rfl⟩
      have hcm : (m : Int) % 256 = (c.toNat : Int) := by
        rw [hc, UInt8.toNat_ofNat', ← hmi.out]; omega
      have hcb : c.toNat < 256 := c.toNat_lt
      have hOs : O.size ≤ 6 := by rw [hO.out, D.size_l, N.be_len]; omega
      have hconv := A.to_string (N.own_byte wr (base := w.heap.size) c hw.out.size) (wr.alloc (.cells #[.int .u8 (c.toNat : Int)] 5)) (fun _ => rfl)
      have R1 : Hid (Below w.heap.size w (wr.alloc (.cells #[.int .u8 (c.toNat : Int)] 5))) := hw.out.alloc hw.out.size _
      have R2 : Hid ((⟨[c].toArray⟩ : ByteArray) ++ O = ⟨(N.be (i + 1) n).toArray⟩) := by
        show _ = _
        rw [hO.out, N.bytes_cons, N.be_head, hc]
      have R3 : Hid ((m : Int) / 256 = ((m / 256 : Nat) : Int)) := by show _ = _; omega
      have R4 : Hid (m / 256 = n / 256 ^ (i + 1)) := by show _ = _; rw [hmi.out, Nat.div_div_eq_div_mul, Nat.pow_succ]
      obtain ⟨C, hC⟩ : ∃ C : ByteArray, C = ⟨[c].toArray⟩ := ⟨_, rfl⟩
      have hCs : C.size = 1 := by rw [hC]; rfl
      rw [← hC] at hconv R2
      have hsz : ¬ 9223372036854775807 < C.size + O.size := by omega
      clear hC hc hmi hO hw hCs
      go_wp2
      go_roundw
      case rel => exact ⟨i + 1, m / 256, C ++ O, by omega, by omega, by rw [R3.out], rfl, by go_num, R4, R2, R1⟩
      case measure => simp [intOf]; omega
    · obtain rfl : i = s := by omega
      have R : Hid (Ending.returned (.string O) = .returned (.string ⟨(N.be i n).toArray⟩)) := by show _ = _; rw [hO.out]
      go_wp2
      go_ret
      exact ⟨R.out, hw.out⟩
theorem N.val_take {l : List UInt8} {i : Nat} {c : UInt8} (h : l[i]? = some c) : N.val (l.take (i + 1)) = 256 * N.val (l.take i) + c.toNat := by
  rw [List.take_add_one, h]; exact N.val_snoc _ _
set_option maxRecDepth 100000 in
set_option maxHeartbeats 1000000 in
theorem refValue12_any (s : ByteArray) (hs : s.size ≤ 6) (w : World) :
    Calls Try.prog 62 #[.string s] w fun e w' => e = .returned (.int .u64 (N.val s.data.toList : Int)) ∧ w = w' := by
  have Hb : Hid (∀ i, i ≤ s.size → N.val (s.data.toList.take i) < 256 ^ i ∧ (256 : Nat) ^ i ≤ 281474976710656) := fun i hi => by
    have h1 := N.val_lt (s.data.toList.take i)
    have h2 : (s.data.toList.take i).length = i := by rw [List.length_take, N.len_data]; omega
    rw [h2] at h1
    exact ⟨h1, Nat.le_trans (Nat.pow_le_pow_right (by decide) (show i ≤ 6 by omega)) (by decide)⟩
  go_enter Try.func62, Try.ntmps62
  go_wp2
  go_loop [3, 4] (fun x j => ∃ (i m : Nat), i ≤ s.size ∧ x = .int .u64 (m : Int) ∧ j = .int .i64 i ∧ Hid (m = N.val (s.data.toList.take i))) (fun _ j => s.size - (intOf j).toNat)
  case atStart => exact ⟨0, 0, Nat.zero_le _, rfl, rfl, rfl⟩
  case round =>
    obtain ⟨i, m, hi, rfl, rfl, hm⟩ := hrel
    have hb := Hb.out i hi
    rw [← hm.out] at hb
    by_cases hlt : i < s.size
    · have hget : s.data.toList[i]? = some s[i] := by
        rw [List.getElem?_eq_getElem (by rw [N.len_data]; exact hlt)]; rfl
      have hcb : s[i].toNat < 256 := s[i].toNat_lt
      have R : Hid (256 * m + s[i].toNat = N.val (s.data.toList.take (i + 1))) := by show _ = _; rw [N.val_take hget, hm.out]
      have hm2 : m < 281474976710656 := by omega
      clear hget hm hb
      generalize hcc : s[i].toNat = c at *
      go_wp2
      go_round
      case rel => exact ⟨i + 1, 256 * m + c, by omega, by go_num, by go_num, R⟩
      case measure => simp [intOf]; omega
    · obtain rfl : i = s.size := by omega
      have R : Hid (Ending.returned (.int .u64 (m : Int)) = .returned (.int .u64 (N.val s.data.toList : Int))) := by
        show _ = _
        rw [hm.out, List.take_of_length_le (by rw [N.len_data]; exact Nat.le_refl _)]
      go_wp2
      go_ret
      exact ⟨R.out, rfl⟩
end Go.Proofs.Ytdpaleldalplfaa
/- NodeRef9 -/
namespace Go.Proofs.Ytdpaleldalplfaa
open Go.RowKit

theorem N.bytes_app (X Y : List UInt8) : (⟨X.toArray⟩ : ByteArray) ++ (⟨Y.toArray⟩ : ByteArray) = ⟨(X ++ Y).toArray⟩ := by
  rw [← D.bytes_eq ((⟨X.toArray⟩ : ByteArray) ++ (⟨Y.toArray⟩ : ByteArray))]
  simp
/-- A box that holds a child, beside what has been made since w. -/
structure N.Kx (w : World) (bn : Nat) (h : Int) (t : ByteArray) (v : Value) (b : Nat) (k : N.K) (V : World) : Prop where
  lt : b < V.heap.size
  c0 : V.cell? ⟨b, 0, none⟩ = some (.int .u64 (k.at_ : Int))
  c1 : V.cell? ⟨b, 1, none⟩ = some (.int .i64 k.b)
  c2 : V.cell? ⟨b, 2, none⟩ = some (.int .i64 k.r)
  c3 : V.cell? ⟨b, 3, none⟩ = some (.int .i64 k.l)
  nb : N.Nb V bn h t v
  below : Below w.heap.size w V
theorem N.Kx.on {w : World} {bn : Nat} {h : Int} {t : ByteArray} {v : Value} {b : Nat} {k : N.K} {V V' : World} (x : N.Kx w bn h t v b k V) (hb : Below V.heap.size V V') : N.Kx w bn h t v b k V' := by
  have hc := (D.bcell hb).1
  exact ⟨Nat.lt_of_lt_of_le x.lt hb.size, (hc _ _ x.lt).trans x.c0, (hc _ _ x.lt).trans x.c1, (hc _ _ x.lt).trans x.c2, (hc _ _ x.lt).trans x.c3, x.nb.below hb, x.below.trans (hb.mono x.below.size)⟩
theorem N.Kx.drew {w : World} {bn : Nat} {h : Int} {t : ByteArray} {v : Value} {b : Nat} {k : N.K} {V : World} (x : N.Kx w bn h t v b k V) : N.Kx w bn h t v b k V.drew := x.on (Below.refl _ _).drew
set_option maxRecDepth 100000 in
set_option maxHeartbeats 4000000 in
theorem refEncode12_any (h : Int) (t : ByteArray) (ao : Option Addr) (ca : Nat) (l : List N.K) (w : World) (ht : t.size ≤ maxLen) (hn : l.length ≤ maxLen) (hr : N.Row w ao l) (hf : ∀ p ∈ l, N.Fit p) :
    Calls Try.prog 24 #[N.nv h t (.slice ao l.length ca)] w (N.EnEnd (N.nd h t l) w) := by
  have B1 : Hid (Below w.heap.size w (w.alloc (.cells #[.int .i64 h, .string t, .slice ao l.length ca] 24))) := (Below.refl _ _).alloc (Nat.le_refl _) _
  have X1 := Lib.hid (N.Nb.new w h t (.slice ao l.length ca) 24)
  have HC : Hid (∀ W, Below w.heap.size w W → Calls Try.prog 16 #[.agg #[.int .i64 h, .string t, .slice ao l.length ca]] W fun e w' => e = .returned (.int .i64 (N.chk (N.nd h t l))) ∧ Below W.heap.size W w') := fun W hW => refCheck12_any h t ao ca l W ht hn (hr.below hW) hf
  unfold N.nv
  by_cases hc : N.chk (N.nd h t l) = 0
  · obtain ⟨c, rfl, he, ht16, hl4, hpos⟩ := N.enc_byte hc
    rw [hc] at HC
    have hcb : c.toNat < 256 := c.toNat_lt
    have Hr := Lib.hid hr
    have Hf := Lib.hid hf
    have Hp := Lib.hid hpos
    have HE : Hid (∀ O W, O = (⟨(N.encU c t.data.toList l l.length).toArray⟩ : ByteArray) → Below w.heap.size w W → N.EnEnd (N.nd (c.toNat : Int) t l) w (.returned (.tuple #[.string O, .int .i64 0])) W) := fun O W hO hW => ⟨by rw [hO, he, hc], hW⟩
    have HU : Hid (∀ i, (N.encU c t.data.toList l i).length ≤ 65) := fun i => N.encU_len (by rw [N.len_data]; exact ht16) hl4
    have H0 : Hid ((⟨[c].toArray⟩ : ByteArray) ++ t = ⟨(N.encU c t.data.toList l 0).toArray⟩) := by
      have e := N.bytes_app [c] t.data.toList
      rw [D.bytes_eq] at e
      show _ = _
      rw [e]; simp [N.encU]
    clear hr hf hpos he hc ht hn
    go_enter Try.func24, Try.ntmps24
    go_wp2_with fail
    refine (HC.out _ B1.out).mono ?_
    rintro e w1 ⟨rfl, hb⟩
    have B2 := Lib.hid (B1.out.trans (hb.mono B1.out.size))
    have X2 := Lib.hid (X1.out.below hb)
    have x0 := X2.out.c0
    have X3 := Lib.hid (X2.out.alloc (.cells #[.int .u8 (c.toNat : Int)] 5))
    have x1 := X3.out.c1
    have B3 := Lib.hid (B2.out.alloc B2.out.size (.cells #[.int .u8 (c.toNat : Int)] 5))
    have hconv := A.to_string (N.own_byte w1 (base := w.heap.size) c B2.out.size) (w1.alloc (.cells #[.int .u8 (c.toNat : Int)] 5)) (fun _ => rfl)
    obtain ⟨C, hC⟩ : ∃ C : ByteArray, C = ⟨[c].toArray⟩ := ⟨_, rfl⟩
    have hCs : C.size = 1 := by rw [hC]; rfl
    rw [← hC] at hconv H0
    have hsz : ¬ 9223372036854775807 < C.size + t.size := by omega
    clear hC hCs hb X1 B1 B2 X2
    go_wp2
    clear hconv hsz x0 x1
    go_loopw [5, 6] (fun o j wr => ∃ (i : Nat) (O : ByteArray), i ≤ l.length ∧ o = .string O ∧ j = .int .i64 i ∧ Hid (O = ⟨(N.encU c t.data.toList l i).toArray⟩) ∧ Hid (N.Nb wr w.heap.size (c.toNat : Int) t (.slice ao l.length ca)) ∧ Hid (Below w.heap.size w wr)) (fun _ j _ => l.length - (intOf j).toNat)
    case atStart => exact ⟨0, C ++ t, Nat.zero_le _, rfl, rfl, H0, X3, B3⟩
    case round =>
      clear H0 X3 B3
      obtain ⟨i, O, hi, rfl, rfl, hO, hX, hw⟩ := hrel
      have x2 := hX.out.c2
      by_cases hlt : i < l.length
      · obtain ⟨p, hp, hpd⟩ := N.drop_cons hlt
        obtain ⟨b1, o, e, hbl, hcs⟩ := Hr.out i p hp
        subst e
        obtain ⟨c0, c1, c2, c3⟩ := N.cell4 hw.out hbl hcs
        have hpm := List.mem_of_getElem? hp
        have hKx : N.Kx w w.heap.size (c.toNat : Int) t (.slice (some ⟨b1, o, none⟩) l.length ca) wr.heap.size p (wr.alloc (.cells #[.int .u64 (p.at_ : Int), .int .i64 p.b, .int .i64 p.r, .int .i64 p.l] 52)) :=
          ⟨by simp, by simp [go_sem], by simp [go_sem], by simp [go_sem], by simp [go_sem], hX.out.alloc _, hw.out.alloc hw.out.size _⟩
        obtain ⟨z0, z1, z2⟩ := Hp.out p hpm
        have hfit := Hf.out p hpm
        have hA : Hid (∀ W, Calls Try.prog 56 #[.int .u64 (p.at_ : Int), .int .i64 6] W fun e w' => e = .returned (.string ⟨(N.be 6 p.at_).toArray⟩) ∧ Below W.heap.size W w') := fun W => refNumber12_any p.at_ 6 hfit.at_ (by decide) W
        have h2 : ∀ z : Int, 0 ≤ z → z ≤ 9223372036854775807 → Hid (∀ W, Calls Try.prog 56 #[.int .u64 z, .int .i64 2] W fun e w' => e = .returned (.string ⟨(N.be 2 z.toNat).toArray⟩) ∧ Below W.heap.size W w') := fun z hz0 hz1 W => by
          have := refNumber12_any z.toNat 2 (by omega) (by decide) W
          rwa [show ((z.toNat : Nat) : Int) = z by omega] at this
        have hB := h2 p.b z0 hfit.b1
        have hR := h2 p.r z1 hfit.r1
        have hL := h2 p.l z2 hfit.l1
        have hst : Hid (∀ A B R L : ByteArray, A = ⟨(N.be 6 p.at_).toArray⟩ → B = ⟨(N.be 2 p.b.toNat).toArray⟩ → R = ⟨(N.be 2 p.r.toNat).toArray⟩ → L = ⟨(N.be 2 p.l.toNat).toArray⟩ → O ++ A ++ B ++ R ++ L = ⟨(N.encU c t.data.toList l (i + 1)).toArray⟩) := by
          rintro A B R L rfl rfl rfl rfl
          rw [N.encU_step hp, hO.out, N.bytes_app, N.bytes_app, N.bytes_app, N.bytes_app]
          simp [N.encK]
        have hOs : O.size ≤ 65 := by rw [hO.out, D.size_l]; exact HU.out i
        obtain ⟨A, hA0⟩ : ∃ A : ByteArray, A = ⟨(N.be 6 p.at_).toArray⟩ := ⟨_, rfl⟩
        obtain ⟨B, hB0⟩ : ∃ B : ByteArray, B = ⟨(N.be 2 p.b.toNat).toArray⟩ := ⟨_, rfl⟩
        obtain ⟨R, hR0⟩ : ∃ R : ByteArray, R = ⟨(N.be 2 p.r.toNat).toArray⟩ := ⟨_, rfl⟩
        obtain ⟨L, hL0⟩ : ∃ L : ByteArray, L = ⟨(N.be 2 p.l.toNat).toArray⟩ := ⟨_, rfl⟩
        have sA : A.size = 6 := by rw [hA0, D.size_l, N.be_len]
        have sB : B.size = 2 := by rw [hB0, D.size_l, N.be_len]
        have sR : R.size = 2 := by rw [hR0, D.size_l, N.be_len]
        have sL : L.size = 2 := by rw [hL0, D.size_l, N.be_len]
        have hst := Lib.hid (hst.out A B R L hA0 hB0 hR0 hL0)
        rw [← hA0] at hA
        rw [← hB0] at hB
        rw [← hR0] at hR
        rw [← hL0] at hL
        have y0 : p.b ≤ 9223372036854775807 := hfit.b1
        have y1 : p.r ≤ 9223372036854775807 := hfit.r1
        have y2 : p.l ≤ 9223372036854775807 := hfit.l1
        have v0 : IntKind.u64.wrap p.b = p.b := IntWalk.u64_in _ (by omega)
        have v1 : IntKind.u64.wrap p.r = p.r := IntWalk.u64_in _ (by omega)
        have v2 : IntKind.u64.wrap p.l = p.l := IntWalk.u64_in _ (by omega)
        have t1 : ¬ 9223372036854775807 < O.size + A.size := by omega
        have t2 : ¬ 9223372036854775807 < O.size + A.size + B.size := by omega
        have t3 : ¬ 9223372036854775807 < O.size + A.size + B.size + R.size := by omega
        have t4 : ¬ 9223372036854775807 < O.size + A.size + B.size + R.size + L.size := by omega
        have hT := Lib.hid hKx
        have HK : Hid (∀ V, N.Kx w w.heap.size (c.toNat : Int) t (.slice (some ⟨b1, o, none⟩) l.length ca) wr.heap.size p V → V.cell? ⟨wr.heap.size, 0, none⟩ = some (.int .u64 (p.at_ : Int)) ∧ V.cell? ⟨wr.heap.size, 1, none⟩ = some (.int .i64 p.b) ∧ V.cell? ⟨wr.heap.size, 2, none⟩ = some (.int .i64 p.r) ∧ V.cell? ⟨wr.heap.size, 3, none⟩ = some (.int .i64 p.l)) := fun V x => ⟨x.c0, x.c1, x.c2, x.c3⟩
        clear hA0 hB0 hR0 hL0 h2 hp hpd hcs hpm hfit hKx hO sA sB sR sL hOs hX hw
        go_upto_region 9 with (fail)
        clear c0 c1 c2 c3 x2
        obtain ⟨bk, hbk⟩ : ∃ bk, Hid (wr.heap.size = bk) := ⟨_, rfl⟩
        rw [hbk.out] at hT HK ⊢
        generalize wr.alloc (.cells #[.int .u64 (p.at_ : Int), .int .i64 p.b, .int .i64 p.r, .int .i64 p.l] 52) = V0 at hT ⊢
        obtain ⟨d0, d1, d2, d3⟩ := HK.out _ hT.out
        go_region_held3 (fun V => V.cell? ⟨bk, 0, none⟩ = some (.int .u64 (p.at_ : Int)) ∧ V.cell? ⟨bk, 1, none⟩ = some (.int .i64 p.b) ∧ V.cell? ⟨bk, 2, none⟩ = some (.int .i64 p.r) ∧ V.cell? ⟨bk, 3, none⟩ = some (.int .i64 p.l) ∧ N.Kx w w.heap.size (c.toNat : Int) t (.slice (some ⟨b1, o, none⟩) l.length ca) bk p V)
          (first
            | exact ⟨(HK.out _ hT.out).1, (HK.out _ hT.out).2.1, (HK.out _ hT.out).2.2.1, (HK.out _ hT.out).2.2.2, hT.out⟩
            | exact ⟨(HK.out _ hT.out.drew).1, (HK.out _ hT.out.drew).2.1, (HK.out _ hT.out.drew).2.2.1, (HK.out _ hT.out.drew).2.2.2, hT.out.drew⟩
            | (go_split_ands; refine ⟨?_, ?_, ?_, ?_, ?_⟩ <;> with_reducible assumption))
          (first
            | (go_at_call 56; first
               | ((with_reducible refine (hA.out _).mono ?_); rintro e w2 ⟨rfl, hb2⟩; have hT2 := hT.out.drew.on hb2; have hc2 := HK.out _ hT2)
               | ((with_reducible refine (hB.out _).mono ?_); rintro e w3 ⟨rfl, hb3⟩; have hT3 := hT2.on hb3; have hc3 := HK.out _ hT3)
               | ((with_reducible refine (hR.out _).mono ?_); rintro e w4 ⟨rfl, hb4⟩; have hT4 := hT3.on hb4; have hc4 := HK.out _ hT4)
               | ((with_reducible refine (hL.out _).mono ?_); rintro e w5 ⟨rfl, hb5⟩; have hT5 := hT4.on hb5; have hc5 := HK.out _ hT5)))
        all_goals
          go_wp2_with fail
          go_roundw
          case rel =>
            refine ⟨i + 1, _, by omega, rfl, by go_num, hst, ?_, ?_⟩
            · show N.Nb _ _ _ _ _
              refine N.Kx.nb (w := w) (b := bk) (k := p) ?_
              with_reducible assumption
            · show Below _ _ _
              refine N.Kx.below (bn := w.heap.size) (h := (c.toNat : Int)) (t := t) (v := .slice (some ⟨b1, o, none⟩) l.length ca) (b := bk) (k := p) ?_
              with_reducible assumption
          case measure => simp [intOf]; omega
      · obtain rfl : i = l.length := by omega
        have R := Lib.hid (HE.out O wr hO.out hw.out)
        go_wp2
        go_ret2
        exact R.out
  · have HE : Hid (∀ W, Below w.heap.size w W → N.EnEnd (N.nd h t l) w (.returned (.tuple #[.string ⟨#[]⟩, .int .i64 (N.chk (N.nd h t l))])) W) := fun W hW => ⟨by rw [N.enc_bad hc], hW⟩
    have hc' : (N.chk (N.nd h t l) != 0) = true := by simpa using hc
    generalize N.chk (N.nd h t l) = d at HC hc' HE
    clear hc ht hn hr hf
    go_enter Try.func24, Try.ntmps24
    go_wp2_with fail
    refine (HC.out _ B1.out).mono ?_
    rintro e w1 ⟨rfl, hb⟩
    have B2 := Lib.hid (B1.out.trans (hb.mono B1.out.size))
    clear hb
    go_wp2
    go_ret2
    exact HE.out _ B2.out
end Go.Proofs.Ytdpaleldalplfaa
