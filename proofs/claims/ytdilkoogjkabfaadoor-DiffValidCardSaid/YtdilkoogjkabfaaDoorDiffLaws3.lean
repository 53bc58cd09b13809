/- The walk of DiffValid. -/
import Derived.Test.YtdilkoogjkabfaaDoorDiffKnown
import Derived.Test.YtdilkoogjkabfaaDoorDiffVal
import Derived.Test.YtdilkoogjkabfaaDoorRunesValid
namespace Go.Proofs.YtdilkoogjkabfaaDoor
open Go.RowKit

set_option maxRecDepth 100000 in
set_option maxHeartbeats 4000000 in
theorem diffValid_walk (a b : ByteArray) (w : World) (ha : a.size ≤ 140737488351232) (hb : b.size ≤ 140737488351232) (ht : U.Tab w) :
    Calls Tryd.prog 3 #[.string a, .string b] w fun e w' => e = .returned (.bool true) ∧ Below w.heap.size w w' := by
  have HK : Hid (∀ W, Calls Tryd.prog 6 #[] W (fun e w' => e = .returned (.bool true) ∧ Below W.heap.size W w')) := fun W => fknown_any W
  have H1 : Hid (∀ W, Calls Tryd.prog 4 #[.string a, .string b] W (fun e w' => ∃ v, e = .returned (.tuple #[v, .int .i64 (F.btE a.data.toList b.data.toList)]) ∧ D.Made (F.btP a.data.toList b.data.toList) W v w')) := fun W => between_any a b W ha hb
  have HV : Hid (∀ W (s : ByteArray), Below w.heap.size w W → s.size ≤ 140737488351232 → Calls Tryd.prog 5 #[.string s] W (fun e w' => e = .returned (.bool (U.valid s.data.toList)) ∧ Below W.heap.size W w')) := fun W s hb' hs => runesValid_any s W (by unfold maxLen; omega) (ht.below hb')
  have K : Hid (D.Kn w w []) := ⟨Below.refl _ _, fun x hx => by cases hx⟩
  have P1 : F.btE a.data.toList b.data.toList = 0 ∨ F.btE a.data.toList b.data.toList = 5 := by
    rw [F.btE_eq]; split <;> simp
  have VA : Hid (∀ W, Below w.heap.size w W → Calls Tryd.prog 5 #[.string a] W (fun e w' => e = .returned (.bool (U.valid a.data.toList)) ∧ Below W.heap.size W w')) := fun W h => HV.out W a h ha
  have VB : Hid (∀ W, Below w.heap.size w W → Calls Tryd.prog 5 #[.string b] W (fun e w' => e = .returned (.bool (U.valid b.data.toList)) ∧ Below W.heap.size W w')) := fun W h => HV.out W b h hb
  rcases P1 with e0 | e5
  · cases va : U.valid a.data.toList with
    | false =>
      rw [e0] at H1
      rw [va] at VA
      clear e0 va VB HV ht
      generalize F.btP a.data.toList b.data.toList = P at *
      go_enter Tryd.func3, Tryd.ntmps3
      go_wp2_with fail
      refine (H1.out _).mono ?_
      rintro e w1 ⟨v, rfl, hm⟩
      obtain ⟨ox, cx, hv, K1⟩ := K.out.made hm
      subst hv
      clear hm K
      have V1 := Lib.hid (VA.out w1 K1.out.below)
      go_wp2_with fail
      refine V1.out.mono ?_
      rintro e w2 ⟨rfl, hb2⟩
      have K2 := Lib.hid (K1.out.on hb2)
      clear hb2 K1 V1
      have KB := Lib.hid K2.out.below
      clear K2
      go_wp2_with fail
      refine (HK.out _).mono ?_
      rintro e wk ⟨rfl, hb3⟩
      have KC := Lib.hid (KB.out.trans (hb3.mono KB.out.size))
      clear hb3
      go_wp2
      go_ret
      exact ⟨rfl, KC.out⟩
    | true =>
      cases vb : U.valid b.data.toList with
      | false =>
        rw [e0] at H1
        rw [va] at VA
        rw [vb] at VB
        clear e0 va vb HV ht
        generalize F.btP a.data.toList b.data.toList = P at *
        go_enter Tryd.func3, Tryd.ntmps3
        go_wp2_with fail
        refine (H1.out _).mono ?_
        rintro e w1 ⟨v, rfl, hm⟩
        obtain ⟨ox, cx, hv, K1⟩ := K.out.made hm
        subst hv
        clear hm K
        have V1 := Lib.hid (VA.out w1 K1.out.below)
        go_wp2_with fail
        refine V1.out.mono ?_
        rintro e w2 ⟨rfl, hb2⟩
        have K2 := Lib.hid (K1.out.on hb2)
        clear hb2 K1 V1
        have V2 := Lib.hid (VB.out w2 K2.out.below)
        go_wp2_with fail
        refine V2.out.mono ?_
        rintro e w3 ⟨rfl, hb2⟩
        have K3 := Lib.hid (K2.out.on hb2)
        clear hb2 K2 V2
        have KB := Lib.hid K3.out.below
        clear K3
        go_wp2_with fail
        refine (HK.out _).mono ?_
        rintro e wk ⟨rfl, hb3⟩
        have KC := Lib.hid (KB.out.trans (hb3.mono KB.out.size))
        clear hb3
        go_wp2
        go_ret
        exact ⟨rfl, KC.out⟩
      | true =>
        obtain ⟨f1, f2⟩ := F.bt_leads e0
        have hck : D.chk (F.btP a.data.toList b.data.toList) = 0 := by
          unfold D.fitE at f1
          by_cases c : D.chk (F.btP a.data.toList b.data.toList) = 0
          · exact c
          · rw [if_neg c] at f1; exact absurd f1 c
        obtain ⟨hraw, pa, hl, hle, hiL, hoL⟩ := D.valid_qs hck
        have hin : D.inL (D.qs (F.btP a.data.toList b.data.toList)) = a.size := by rw [(D.fitE_zero f1).2, U.len]
        have VPx : Hid (∀ k q, (D.qs (F.btP a.data.toList b.data.toList))[k]? = some q → F.VP a.data.toList (D.qs (F.btP a.data.toList b.data.toList)) k q) := fun k q h => F.val_piece va vb e0 h
        rw [e0] at H1
        rw [va] at VA
        rw [vb] at VB
        have BD : Hid (∀ p ∈ (D.qs (F.btP a.data.toList b.data.toList)).map D.raw, p.t.size ≤ 140737488351232) := fun p hp => (D.bd_of hck).2 p (by rw [hraw] at hp; exact hp)
        have hq4 : (D.qs (F.btP a.data.toList b.data.toList)).length ≤ 4096 := by omega
        rw [← hraw] at H1
        clear e0 va vb ht f1 f2 hck hraw pa hl
        generalize D.qs (F.btP a.data.toList b.data.toList) = l at *
        obtain ⟨n, hn⟩ : ∃ n, Hid ((l.map D.raw).length = n) := ⟨_, rfl⟩
        have hnl : Hid (l.length = n) := by show _ = _; rw [← hn.out, List.length_map]
        have hn4 : n ≤ 4096 := by
          have := hnl.out
          omega
        have hsz : a.size ≤ 1048576 := by omega
        have HIN : Hid (D.inL (l.take n) = a.size) := by show _ = _; rw [← hnl.out, List.take_length]; exact hin
        clear hin hiL hoL hle
        go_enter Tryd.func3, Tryd.ntmps3
        go_wp2_with fail
        refine (H1.out _).mono ?_
        rintro e w1 ⟨v, rfl, hm⟩
        obtain ⟨ox, cx, hv, K1⟩ := K.out.made hm
        subst hv
        clear hm K H1
        rw [hn.out]
        have V1 := Lib.hid (VA.out w1 K1.out.below)
        go_wp2_with fail
        refine V1.out.mono ?_
        rintro e w2 ⟨rfl, hb2⟩
        have K2 := Lib.hid (K1.out.on hb2)
        clear hb2 K1 V1
        have V2 := Lib.hid (VB.out w2 K2.out.below)
        go_wp2_with fail
        refine V2.out.mono ?_
        rintro e w3 ⟨rfl, hb2⟩
        have K3 := Lib.hid (K2.out.on hb2)
        clear hb2 K2 V2 VA VB
        go_wp2
        go_loopw [7, 8] (fun c i wr => ∃ k : Nat, k ≤ n ∧ i = .int .i64 (k : Int) ∧ c = .int .i64 ((D.inL (l.take k) : Nat) : Int) ∧ Hid (D.Kn w wr [(ox, l.map D.raw)])) (fun _ i _ => n - (intOf i).toNat)
        case atStart => exact ⟨0, Nat.zero_le _, rfl, rfl, K3⟩
        case round =>
          obtain ⟨k, hk, rfl, rfl, hK⟩ := hrel
          obtain ⟨W0, rfl⟩ : ∃ W0 : World, W0 = wr := ⟨_, rfl⟩
          clear K3
          by_cases hlt : k < n
          · obtain ⟨q, hq⟩ : ∃ q, l[k]? = some q := ⟨_, List.getElem?_eq_getElem (by rw [hnl.out]; exact hlt)⟩
            obtain ⟨vf, vs, vt⟩ := VPx.out k q hq
            rw [U.len] at vf
            have hrw : (l.map D.raw)[k]? = some (D.raw q) := by rw [List.getElem?_map, hq]; rfl
            have tz0 := BD.out (D.raw q) (List.mem_of_getElem? hrw)
            obtain ⟨b1, o1, e1, hbl, c0, c1, c2⟩ := hK.out.r0 k (D.raw q) hrw
            have HRW := Lib.hid hrw
            clear hrw
            subst e1
            have r1 : (D.raw q).n = (D.in1 q : Int) := by cases q <;> rfl
            have r2 : (D.raw q).t = ⟨(D.txt1 q).toArray⟩ := by cases q <;> rfl
            rw [r1] at c1
            rw [r2] at c2
            have NX : Hid (D.inL (l.take (k + 1)) = D.inL (l.take k) + D.in1 q) := (D.inL_take_le l k q hq).1
            obtain ⟨t, hT⟩ : ∃ t : ByteArray, t = ⟨(D.txt1 q).toArray⟩ := ⟨_, rfl⟩
            rw [← hT] at c2
            have tl : t.data.toList = D.txt1 q := by rw [hT]
            have tz : t.size ≤ 140737488351232 := by rw [r2, ← hT] at tz0; exact tz0
            clear tz0
            rw [← tl] at vt
            obtain ⟨z, hz⟩ : ∃ z, Hid (D.inL (l.take k) = z) := ⟨_, rfl⟩
            obtain ⟨m, hm⟩ : ∃ m, Hid (D.in1 q = m) := ⟨_, rfl⟩
            rw [hz.out, hm.out] at vf vs NX
            rw [hm.out] at c1
            rw [hz.out]
            obtain ⟨r, hr⟩ : ∃ r : Nat, (a.size : Int) - (z : Int) = (r : Int) := ⟨a.size - z, by omega⟩
            have hrm : ¬ (r : Int) < (m : Int) := by omega
            obtain ⟨z2, hz2⟩ : ∃ z2 : Nat, (z : Int) + (m : Int) = (z2 : Int) := ⟨z + m, by omega⟩
            have NZ : Hid (z2 = D.inL (l.take (k + 1))) := by show _ = _; rw [NX.out]; omega
            obtain ⟨T1, hT1⟩ : ∃ T1 : ByteArray, T1 = a.extract z z2 := ⟨_, rfl⟩
            have hsl : ∀ W, (Instr.slice 9 (.string a) (some (.int .i64 (z : Int))) (some (.int .i64 (z2 : Int))) none).run Tryd.prog W = .ok (.string T1) W := fun W => by
              rw [hT1]; exact run_slice_string W 9 a .i64 .i64 (z : Int) (z2 : Int) Tryd.underlying9 (by omega) (by omega) (by omega)
            have t1l : T1.data.toList = (a.data.toList.drop z).take m := by
              rw [hT1, show z2 = z + m by omega]
              exact D.part_bytes a z m
            have t1z : T1.size ≤ 140737488351232 := by
              have := congrArg List.length t1l
              rw [U.len, List.length_take, List.length_drop, U.len] at this
              omega
            rw [← t1l] at vs
            have V1 : Hid (∀ W, Below w.heap.size w W → Calls Tryd.prog 5 #[.string T1] W (fun e w' => e = .returned (.bool true) ∧ Below W.heap.size W w')) := fun W h => by
              have := HV.out W T1 h t1z
              rwa [vs] at this
            have V2 : Hid (∀ W, Below w.heap.size w W → Calls Tryd.prog 5 #[.string t] W (fun e w' => e = .returned (.bool true) ∧ Below W.heap.size W w')) := fun W h => by
              have := HV.out W t h tz
              rwa [vt] at this
            have VW := Lib.hid (V1.out W0 hK.out.below)
            have hm5 : m ≤ 1048576 := by omega
            have hz5 : z2 ≤ 1048576 := by omega
            have hz6 : z ≤ 1048576 := by omega
            have EQ : Hid ((D.raw q).n = (m : Int) ∧ (D.raw q).t = t) := ⟨by rw [r1, hm.out], by rw [r2, hT]⟩
            clear vf vs vt hq r1 r2 NX hT tl tz hT1 t1l t1z hbl V1
            go_wp2_with fail
            refine VW.out.mono ?_
            rintro e w5 ⟨rfl, hb5⟩
            have K5 := Lib.hid (hK.out.on hb5)
            clear hb5 hK VW c0 c1 c2
            obtain ⟨b2, o2, e2, _, d0, d1, d2⟩ := K5.out.r0 k (D.raw q) HRW.out
            cases e2
            rw [EQ.out.1] at d1
            rw [EQ.out.2] at d2
            have VX := Lib.hid (V2.out w5 K5.out.below)
            go_wp2_with fail
            refine VX.out.mono ?_
            rintro e w6 ⟨rfl, hb6⟩
            have K6 := Lib.hid (K5.out.on hb6)
            clear hb6 K5 VX d0 d1 d2 V2
            obtain ⟨b3, o3, e3, _, x0, x1, x2⟩ := K6.out.r0 k (D.raw q) HRW.out
            cases e3
            rw [EQ.out.1] at x1
            clear x0 x2
            go_wp2
            go_roundw
            case rel => exact ⟨k + 1, by omega, by go_num, by rw [← NZ.out], K6⟩
            case measure => simp [intOf]; omega
          · obtain rfl : k = n := by omega
            have KB := Lib.hid hK.out.below
            have e := HIN.out
            clear hK
            rw [e]
            go_wp2_with fail
            refine (HK.out _).mono ?_
            rintro e wk ⟨rfl, hb3⟩
            have KC := Lib.hid (KB.out.trans (hb3.mono KB.out.size))
            clear hb3
            go_wp2
            go_ret
            exact ⟨rfl, KC.out⟩
  · rw [e5] at H1
    clear e5 VA VB HV ht
    generalize F.btP a.data.toList b.data.toList = P at *
    go_enter Tryd.func3, Tryd.ntmps3
    go_wp2_with fail
    refine (H1.out _).mono ?_
    rintro e w1 ⟨v, rfl, hm⟩
    obtain ⟨ox, cx, hv, K1⟩ := K.out.made hm
    subst hv
    clear hm K
    have KB := Lib.hid K1.out.below
    clear K1
    go_wp2_with fail
    refine (HK.out _).mono ?_
    rintro e wk ⟨rfl, hb3⟩
    have KC := Lib.hid (KB.out.trans (hb3.mono KB.out.size))
    clear hb3
    go_wp2
    go_ret
    exact ⟨rfl, KC.out⟩
end Go.Proofs.YtdilkoogjkabfaaDoor
