/- The walk of ShiftOutside. -/
import Derived.Test.YtampekldlnlhdaaShiftLawKit
import Derived.Deep.QuietTactic
import Derived.BigQuiet
import Derived.BigRegion
import Derived.IntWalk
import Derived.WalkSmall
namespace Go.Proofs.Ytampekldlnlhdaa
open Go.RowKit

theorem L.cut_l (z : ByteArray) (n : Nat) (h : n ≤ z.size) : ∀ w, (Instr.slice 9 (.string z) none (some (.int .i64 (n : Int))) none).run Try.prog w = .ok (.string (z.extract 0 n)) w := fun w => run_slice_string_h w 9 z Try.underlying9 .i64 (n : Int) (by omega) (by omega)
theorem L.cut_r (z : ByteArray) (n : Nat) (h : n ≤ z.size) : ∀ w, (Instr.slice 9 (.string z) (some (.int .i64 (n : Int))) none none).run Try.prog w = .ok (.string (z.extract n z.size)) w := fun w => run_slice_string_l w 9 z Try.underlying9 .i64 (n : Int) (by omega) (by omega)
theorem S.ext_l (z : ByteArray) (n : Nat) : z.extract 0 n = ⟨(z.data.toList.take n).toArray⟩ := by
  apply ByteArray.ext
  apply Array.toList_inj.1
  simp
theorem S.ext_r (z : ByteArray) (n : Nat) : z.extract n z.size = ⟨(z.data.toList.drop n).toArray⟩ := by
  apply ByteArray.ext
  apply Array.toList_inj.1
  simp only [ByteArray.data_extract, Array.toList_extract, List.extract_eq_take_drop]
  exact List.take_of_length_le (by simp)
theorem L.idx (s : ByteArray) (n : Nat) (b : UInt8) (h : s.data.toList[n]? = some b) : ∀ w, (Instr.index 9 (.string s) (.int .i64 (n : Int))).run Try.prog w = .ok (.int .u8 (b.toNat : Int)) w := fun w => by
  obtain ⟨h1, h2⟩ := List.getElem?_eq_some_iff.1 h
  have h3 : n < s.size := by simpa using h1
  rw [run_index_string w 9 s .i64 (n : Int) Try.underlying9, dif_pos ⟨by omega, by omega⟩]
  have : s[n] = b := by rw [← h2]; rfl
  simp only [Int.toNat_natCast, this]
theorem L.kn_drew {w wr : World} {X : List (Option Addr × List D.P)} (h : D.Kn w wr X) (n : Nat) : D.Kn w (wr.drewN n) X := h.on ⟨rfl, rfl, rfl, Nat.le_refl _, fun _ _ => rfl⟩
set_option maxRecDepth 100000 in
set_option maxHeartbeats 8000000 in
theorem shiftOutside_walk (z : ByteArray) (s : D.Src) (p : Int) (w : World) (hz : z.size ≤ 140737488351232) (hs : D.ArgOk w s) (_ : -9223372036854775808 ≤ p) (_ : p < 9223372036854775808) :
    Calls Try.prog 12 #[.string z, .slice s.a s.x.length s.c, .int .i64 p] w fun e w' => e = .returned (.bool true) ∧ Below w.heap.size w w' := by
  rename_i hpl hpu
  clear hpl hpu
  have HO := L.hOwn s.x hs.fit
  have HK := L.hKnown
  have H1 := L.hApp z s.x hz (L.bd_arg hs)
  have K : Hid (D.Kn w w [(s.a, s.x)]) := ⟨Below.refl _ _, fun x hx => by simp at hx; subst hx; exact hs.src.row⟩
  have nS : Hid ((s.a = none → s.c = 0) ∧ s.x.length ≤ s.c) := ⟨hs.src.nil, hs.cap⟩
  by_cases h0 : D.fitE z.data.toList s.x = 0
  · have o := D.out6 h0
    have H2 := L.hExt s.x (L.bd_arg hs)
    have B1 := L.hBoth s.x hs.fit (L.bd_arg hs) p
    have T1 := L.hKep s.x (L.bd_arg hs) p
    have ob := (D.valid_qs o.chk).2.2.2.2
    rw [o.chk] at H2
    rw [h0] at H1
    obtain ⟨f, hf⟩ := Int.eq_ofNat_of_zero_le o.f0
    obtain ⟨t, ht⟩ := Int.eq_ofNat_of_zero_le (Int.le_trans o.f0 o.le1)
    obtain ⟨u, hu⟩ := Int.eq_ofNat_of_zero_le (Int.le_trans o.f0 o.le3)
    have O := Lib.hid o
    have a1 := o.le1
    have a2 := o.le2
    have a3 := o.le3
    have a4 := o.le4
    have a5 := o.rest
    have a6 := o.pre
    have a7 := o.suf
    have hzl : z.data.toList.length = z.size := by simp
    obtain ⟨T, hT⟩ : ∃ T : ByteArray, (⟨(D.resP z.data.toList s.x).toArray⟩ : ByteArray) = T := ⟨_, rfl⟩
    have hTl : T.data.toList = D.resP z.data.toList s.x := by rw [← hT]
    have hTs : T.size = (D.resP z.data.toList s.x).length := by rw [← hTl]; simp
    have hTb : T.size ≤ 1048576 := by rw [hTs, o.len]; omega
    have hzb : z.size ≤ 1048576 := by rw [← hzl, ← o.inn]; omega
    rw [hf, ht, hu] at H2
    rw [hf, ht] at a1
    rw [hzl, ht] at a2
    rw [hf, hu] at a3
    rw [← hTs, hu] at a4
    rw [← hTs, hzl, ht, hu] at a5
    rw [hf, ← hTl] at a6
    rw [ht, hu, ← hTl] at a7
    simp only [Int.toNat_natCast] at a6 a7
    rw [hT] at H1
    have c1 := L.cut_l z f (by omega)
    have c2 := L.cut_l T f (by omega)
    have c3 := L.cut_r z t (by omega)
    have c4 := L.cut_r T u (by omega)
    rw [S.ext_l, a6, ← S.ext_l] at c1
    rw [S.ext_r, a7, ← S.ext_r] at c3
    generalize T.extract 0 f = X1 at c1 c2
    generalize T.extract u T.size = X2 at c3 c4
    obtain ⟨g, hg⟩ : ∃ g : Nat, z.size - t = g := ⟨_, rfl⟩
    have a0' : decide ((f : Int) < 0) = false := by simp
    have a1' : decide ((t : Int) < (f : Int)) = false := by simp; omega
    have a2' : decide ((z.size : Int) < (t : Int)) = false := by simp; omega
    have a3' : decide ((u : Int) < (f : Int)) = false := by simp; omega
    have a4' : decide ((T.size : Int) < (u : Int)) = false := by simp; omega
    have b1' : decide (t < f) = false := by simp; omega
    have b2' : decide (z.size < t) = false := by simp; omega
    have b3' : decide (u < f) = false := by simp; omega
    have b4' : decide (T.size < u) = false := by simp; omega
    have a5' : IntKind.i64.wrap ((z.size : Int) - t) = (g : Int) := by rw [IntWalk.i64_in _ (by omega)]; omega
    have a6' : IntKind.i64.wrap ((T.size : Int) - u) = (g : Int) := by rw [IntWalk.i64_in _ (by omega)]; omega
    have hft : f ≤ t := by omega
    have htz : t ≤ z.size := by omega
    have hus : u ≤ T.size := by omega
    clear a1 a2 a3 a4 a5 a6 a7 hg
    obtain ⟨oS, cS, S⟩ := s
    dsimp only at *
    have hTl' : T.data.toList.length = T.size := by simp
    clear hT ob hs h0 o
    have HH := Lib.hid (And.intro hf (And.intro ht (And.intro hu (And.intro hTl (And.intro hTs (And.intro hzl hTl'))))))
    clear hf ht hu hTl hTs hzl hTl'
    go_enter Try.func12, Try.ntmps12
    go_wp2_with fail
    refine (HO.out _ _ _ K.out.r0 nS.out.1).mono ?_
    rintro e w1 ⟨v, rfl, hm⟩
    obtain ⟨ox1, cx1, hv, nx1, K1⟩ := L.made5 K.out hm
    subst hv
    clear hm K
    go_wp2_with fail
    refine (H1.out _ _ _ K1.out.r0).mono ?_
    rintro e w2 ⟨rfl, hb⟩
    have K2 := Lib.hid (K1.out.on hb)
    clear hb K1
    go_wp2_with fail
    refine (HO.out _ _ _ K2.out.tl.r0 nS.out.1).mono ?_
    rintro e w3 ⟨v, rfl, hm⟩
    obtain ⟨ox2, cx2, hv, nx2, K3⟩ := L.made5 K2.out hm
    subst hv
    clear hm K2
    go_wp2_with fail
    refine (H2.out _ _ _ K3.out.r0).mono ?_
    rintro e w4 ⟨rfl, hb⟩
    have K4 := Lib.hid (K3.out.on hb)
    clear hb K3
    go_wp2_with fail
    go_quiet (fail)
    have K5 := Lib.hid (L.kn_drew K4.out nq)
    clear K4 c1 c2 c3 c4 a0' a1' a2' a3' a4' b1' b2' b3' b4' a5' a6'
    obtain ⟨hf, ht, hu, hTl, hTs, hzl, hTl'⟩ := HH.out
    clear HH
    by_cases hp : 0 ≤ p ∧ p ≤ (z.size : Int)
    · obtain ⟨p0, p1⟩ := hp
      obtain ⟨k, rfl⟩ := Int.eq_ofNat_of_zero_le p0
      have p2 : ¬ (k : Int) < 0 := by omega
      have p3 : ¬ (z.size : Int) < (k : Int) := by omega
      have o := O.out
      have ep : D.posE S k 0 = 0 := (D.posE_iff (by decide)).2 ⟨o.chk, by decide, by omega, by rw [o.inn, hzl]; exact p1⟩
      rw [decide_eq_true ep] at B1
      by_cases hk : k < z.size
      · have ek : D.kepE S k = 0 := D.kepE_iff.2 ⟨o.chk, by omega, by rw [o.inn, hzl]; omega⟩
        rw [ek] at T1
        cases hi : D.kepI S k with
        | true =>
          rw [hi] at T1
          obtain ⟨v0, v1, v2⟩ := o.keptV k ek hi
          obtain ⟨n, hn⟩ := Int.eq_ofNat_of_zero_le v0
          rw [hn] at T1 v1 v2
          rw [← hTl, Int.toNat_natCast, Int.toNat_natCast] at v2
          have v3 : n < T.size := by rw [hTs]; omega
          obtain ⟨b, hb⟩ : ∃ b, z.data.toList[k]? = some b := ⟨_, List.getElem?_eq_getElem (by rw [hzl]; exact hk)⟩
          have x1 := L.idx z k b hb
          have x2 := L.idx T n b (v2.trans hb)
          have y0 : decide ((n : Int) < 0) = false := by simp
          have y1 : decide ((T.size : Int) ≤ (n : Int)) = false := by simp; omega
          have y2 : decide (T.size ≤ n) = false := by simp; omega
          have hk' : (k : Int) < (z.size : Int) := by omega
          have R1 := o.before k (by omega)
          have R2 := o.behind k
          rw [hf] at R1
          rw [ht, hu, hzl] at R2
          clear v0 v1 v2 hb hn ek ep hi o hf ht hu hTl hTs hTl'
          generalize D.posV S k 0 = m1 at *
          generalize D.posV S k 1 = m2 at *
          by_cases q1 : k < f
          · obtain ⟨rfl, rfl⟩ := R1 (by omega)
            have q1' : (k : Int) < (f : Int) := by omega
            have q2' : ¬ (t : Int) < (k : Int) := by omega
            clear R1 R2 p0 p1
            go_wp2_with fail
            refine (B1.out _ _ _ K5.out.tl.tl.r0 nS.out.1).mono ?_
            rintro e w6 ⟨rfl, hb⟩
            have K6 := Lib.hid (K5.out.on hb)
            clear hb K5
            go_wp2_with fail
            refine (HO.out _ _ _ K6.out.tl.tl.r0 nS.out.1).mono ?_
            rintro e w7 ⟨v, rfl, hm⟩
            obtain ⟨ox3, cx3, hv, nx3, K7⟩ := L.made5 K6.out hm
            subst hv
            clear hm K6
            go_wp2_with fail
            refine (T1.out _ _ _ K7.out.r0).mono ?_
            rintro e w8 ⟨rfl, hb⟩
            have K8 := Lib.hid (K7.out.on hb)
            clear hb K7
            go_wp2
            go_quiet (fail)
            have K9 := Lib.hid (L.kn_drew K8.out nq)
            clear K8
            have KB := Lib.hid K9.out.below
            clear K9
            go_wp2_with fail
            refine (HK.out _).mono ?_
            rintro e wk ⟨rfl, hb⟩
            have KC := Lib.hid (KB.out.trans (hb.mono KB.out.size))
            clear hb
            go_wp2
            go_ret
            exact ⟨rfl, KC.out⟩
          · have q1' : ¬ (k : Int) < (f : Int) := by omega
            by_cases q2 : t < k
            · obtain ⟨h1, h2⟩ := R2 (by omega) p1
              obtain rfl : m2 = m1 := by rw [h1, h2]
              obtain ⟨j, hj⟩ : ∃ j : Nat, (k : Int) - t = (j : Int) := ⟨k - t, by omega⟩
              obtain ⟨m3', hm3⟩ : ∃ m : Nat, m2 = (m : Int) := ⟨j + u, by rw [h1]; omega⟩
              have h3 : (j : Int) + u = m3' := by rw [← hj, ← h1, hm3]
              have hjb : j ≤ 1048576 := by omega
              have hub : j + u ≤ 2097152 := by omega
              subst hm3
              clear h1 h2
              have q2' : (t : Int) < (k : Int) := by omega
              clear R1 R2 p0 p1
              go_wp2_with fail
              refine (B1.out _ _ _ K5.out.tl.tl.r0 nS.out.1).mono ?_
              rintro e w6 ⟨rfl, hb⟩
              have K6 := Lib.hid (K5.out.on hb)
              clear hb K5
              go_wp2_with fail
              refine (HO.out _ _ _ K6.out.tl.tl.r0 nS.out.1).mono ?_
              rintro e w7 ⟨v, rfl, hm⟩
              obtain ⟨ox3, cx3, hv, nx3, K7⟩ := L.made5 K6.out hm
              subst hv
              clear hm K6
              go_wp2_with fail
              refine (T1.out _ _ _ K7.out.r0).mono ?_
              rintro e w8 ⟨rfl, hb⟩
              have K8 := Lib.hid (K7.out.on hb)
              clear hb K7
              go_wp2
              go_quiet (fail)
              have K9 := Lib.hid (L.kn_drew K8.out nq)
              clear K8
              have KB := Lib.hid K9.out.below
              clear K9
              go_wp2_with fail
              refine (HK.out _).mono ?_
              rintro e wk ⟨rfl, hb⟩
              have KC := Lib.hid (KB.out.trans (hb.mono KB.out.size))
              clear hb
              go_wp2
              go_ret
              exact ⟨rfl, KC.out⟩
            · have q2' : ¬ (t : Int) < (k : Int) := by omega
              clear R1 R2 p0 p1
              go_wp2_with fail
              refine (B1.out _ _ _ K5.out.tl.tl.r0 nS.out.1).mono ?_
              rintro e w6 ⟨rfl, hb⟩
              have K6 := Lib.hid (K5.out.on hb)
              clear hb K5
              go_wp2_with fail
              refine (HO.out _ _ _ K6.out.tl.tl.r0 nS.out.1).mono ?_
              rintro e w7 ⟨v, rfl, hm⟩
              obtain ⟨ox3, cx3, hv, nx3, K7⟩ := L.made5 K6.out hm
              subst hv
              clear hm K6
              go_wp2_with fail
              refine (T1.out _ _ _ K7.out.r0).mono ?_
              rintro e w8 ⟨rfl, hb⟩
              have K8 := Lib.hid (K7.out.on hb)
              clear hb K7
              go_wp2
              go_quiet (fail)
              have K9 := Lib.hid (L.kn_drew K8.out nq)
              clear K8
              have KB := Lib.hid K9.out.below
              clear K9
              go_wp2_with fail
              refine (HK.out _).mono ?_
              rintro e wk ⟨rfl, hb⟩
              have KC := Lib.hid (KB.out.trans (hb.mono KB.out.size))
              clear hb
              go_wp2
              go_ret
              exact ⟨rfl, KC.out⟩
        | false =>
          rw [hi] at T1
          obtain ⟨r1, r2⟩ := o.keptB k (by omega) (by rw [hzl]; omega) hi
          rw [hf] at r1
          rw [ht] at r2
          have q1' : ¬ (k : Int) < (f : Int) := by omega
          have q2' : ¬ (t : Int) < (k : Int) := by omega
          have y1 : decide ((k : Int) < (f : Int)) = false := by simp; omega
          have y2 : decide (k < f) = false := by simp; omega
          have y3 : decide ((t : Int) ≤ (k : Int)) = false := by simp; omega
          have y4 : decide (t ≤ k) = false := by simp; omega
          have hk' : (k : Int) < (z.size : Int) := by omega
          clear ek ep hi o hf ht hu hTl hTs hTl' r1 r2 p0 p1
          generalize D.posV S k 0 = m1 at *
          generalize D.posV S k 1 = m2 at *
          generalize D.kepV S k = m3 at *
          go_wp2_with fail
          refine (B1.out _ _ _ K5.out.tl.tl.r0 nS.out.1).mono ?_
          rintro e w6 ⟨rfl, hb⟩
          have K6 := Lib.hid (K5.out.on hb)
          clear hb K5
          go_wp2_with fail
          refine (HO.out _ _ _ K6.out.tl.tl.r0 nS.out.1).mono ?_
          rintro e w7 ⟨v, rfl, hm⟩
          obtain ⟨ox3, cx3, hv, nx3, K7⟩ := L.made5 K6.out hm
          subst hv
          clear hm K6
          go_wp2_with fail
          refine (T1.out _ _ _ K7.out.r0).mono ?_
          rintro e w8 ⟨rfl, hb⟩
          have K8 := Lib.hid (K7.out.on hb)
          clear hb K7
          go_wp2
          go_quiet (fail)
          have K9 := Lib.hid (L.kn_drew K8.out nq)
          clear K8
          have KB := Lib.hid K9.out.below
          clear K9
          go_wp2_with fail
          refine (HK.out _).mono ?_
          rintro e wk ⟨rfl, hb⟩
          have KC := Lib.hid (KB.out.trans (hb.mono KB.out.size))
          clear hb
          go_wp2
          go_ret
          exact ⟨rfl, KC.out⟩
      · have hk' : ¬ (k : Int) < (z.size : Int) := by omega
        have R2 := o.behind k
        rw [ht, hu, hzl] at R2
        have q1' : ¬ (k : Int) < (f : Int) := by omega
        clear ep o hf ht hu hTl hTs hTl'
        generalize D.posV S k 0 = m1 at *
        generalize D.posV S k 1 = m2 at *
        generalize D.kepV S k = m3 at *
        generalize D.kepI S k = m4 at *
        generalize D.kepE S k = m5 at *
        by_cases q2 : t < k
        · obtain ⟨h1, h2⟩ := R2 (by omega) p1
          obtain rfl : m2 = m1 := by rw [h1, h2]
          obtain ⟨j, hj⟩ : ∃ j : Nat, (k : Int) - t = (j : Int) := ⟨k - t, by omega⟩
          obtain ⟨m3', hm3⟩ : ∃ m : Nat, m2 = (m : Int) := ⟨j + u, by rw [h1]; omega⟩
          have h3 : (j : Int) + u = m3' := by rw [← hj, ← h1, hm3]
          have hjb : j ≤ 1048576 := by omega
          have hub : j + u ≤ 2097152 := by omega
          subst hm3
          clear h1 h2
          have q2' : (t : Int) < (k : Int) := by omega
          clear R2 p0 p1
          go_wp2_with fail
          refine (B1.out _ _ _ K5.out.tl.tl.r0 nS.out.1).mono ?_
          rintro e w6 ⟨rfl, hb⟩
          have K6 := Lib.hid (K5.out.on hb)
          clear hb K5
          go_wp2_with fail
          refine (HO.out _ _ _ K6.out.tl.tl.r0 nS.out.1).mono ?_
          rintro e w7 ⟨v, rfl, hm⟩
          obtain ⟨ox3, cx3, hv, nx3, K7⟩ := L.made5 K6.out hm
          subst hv
          clear hm K6
          go_wp2_with fail
          refine (T1.out _ _ _ K7.out.r0).mono ?_
          rintro e w8 ⟨rfl, hb⟩
          have K8 := Lib.hid (K7.out.on hb)
          clear hb K7
          have KB := Lib.hid K8.out.below
          clear K8
          go_wp2_with fail
          refine (HK.out _).mono ?_
          rintro e wk ⟨rfl, hb⟩
          have KC := Lib.hid (KB.out.trans (hb.mono KB.out.size))
          clear hb
          go_wp2
          go_ret
          exact ⟨rfl, KC.out⟩
        · have q2' : ¬ (t : Int) < (k : Int) := by omega
          clear R2 p0 p1
          go_wp2_with fail
          refine (B1.out _ _ _ K5.out.tl.tl.r0 nS.out.1).mono ?_
          rintro e w6 ⟨rfl, hb⟩
          have K6 := Lib.hid (K5.out.on hb)
          clear hb K5
          go_wp2_with fail
          refine (HO.out _ _ _ K6.out.tl.tl.r0 nS.out.1).mono ?_
          rintro e w7 ⟨v, rfl, hm⟩
          obtain ⟨ox3, cx3, hv, nx3, K7⟩ := L.made5 K6.out hm
          subst hv
          clear hm K6
          go_wp2_with fail
          refine (T1.out _ _ _ K7.out.r0).mono ?_
          rintro e w8 ⟨rfl, hb⟩
          have K8 := Lib.hid (K7.out.on hb)
          clear hb K7
          have KB := Lib.hid K8.out.below
          clear K8
          go_wp2_with fail
          refine (HK.out _).mono ?_
          rintro e wk ⟨rfl, hb⟩
          have KC := Lib.hid (KB.out.trans (hb.mono KB.out.size))
          clear hb
          go_wp2
          go_ret
          exact ⟨rfl, KC.out⟩
    · have hp2 : p < 0 ∨ (¬ p < 0 ∧ (z.size : Int) < p) := by omega
      clear hp B1 T1 O hf ht hu hTl hTs hTl'
      rcases hp2 with d1 | ⟨d1, d2⟩
      all_goals
        have KB := Lib.hid K5.out.below
        clear K5
        go_wp2_with fail
        refine (HK.out _).mono ?_
        rintro e wk ⟨rfl, hb⟩
        have KC := Lib.hid (KB.out.trans (hb.mono KB.out.size))
        clear hb
        go_wp2
        go_ret
        exact ⟨rfl, KC.out⟩
  · have q9 : (D.fitE z.data.toList s.x != 0) = true := by simpa using h0
    obtain ⟨oS, cS, S⟩ := s
    dsimp only at *
    generalize D.fitE z.data.toList S = k0 at *
    generalize (⟨(D.resP z.data.toList S).toArray⟩ : ByteArray) = T at *
    clear hs h0
    go_enter Try.func12, Try.ntmps12
    go_wp2_with fail
    refine (HO.out _ _ _ K.out.r0 nS.out.1).mono ?_
    rintro e w1 ⟨v, rfl, hm⟩
    obtain ⟨ox1, cx1, hv, nx1, K1⟩ := L.made5 K.out hm
    subst hv
    clear hm K
    go_wp2_with fail
    refine (H1.out _ _ _ K1.out.r0).mono ?_
    rintro e w2 ⟨rfl, hb⟩
    have K2 := Lib.hid (K1.out.on hb)
    clear hb K1
    have KB := Lib.hid K2.out.below
    clear K2
    go_wp2_with fail
    refine (HK.out _).mono ?_
    rintro e wk ⟨rfl, hb⟩
    have KC := Lib.hid (KB.out.trans (hb.mono KB.out.size))
    clear hb
    go_wp2
    go_ret
    exact ⟨rfl, KC.out⟩
end Go.Proofs.Ytampekldlnlhdaa
