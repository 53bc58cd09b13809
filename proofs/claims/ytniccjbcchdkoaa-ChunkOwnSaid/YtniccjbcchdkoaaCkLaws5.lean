/- The walk of layer 14's law Own. -/
import Derived.Test.YtniccjbcchdkoaaCkCat
namespace Go.Proofs.Ytniccjbcchdkoaa
open Go.RowKit

theorem Ck.own_below {W W' : World} {base : Nat} {e : TypeId} {size : Nat} {v : Value} {n : Nat} {xs : List Value} (h : W.ownsRow base e size v n xs) (hb : Below W.heap.size W W') : W'.ownsRow base e size v n xs :=
  h.kept (row := none) ⟨hb.os, hb.tape, hb.output, hb.size, fun k hk _ => hb.block k hk⟩ (by cases v.ownBlock <;> simp)
/-- Two rows of the law's own that may be written over. -/
def Ck.Ow2 (w : World) (a1 : Option Addr) (c1 n1 : Nat) (a2 : Option Addr) (c2 n2 : Nat) (wx : World) : Prop := ∃ X Y : List Value, X.length = n1 ∧ Y.length = n2 ∧ V.Made 9 X w (.slice a1 n1 c1) wx ∧ V.Made 3 Y w (.slice a2 n2 c2) wx ∧
  (∀ g, (Value.slice a1 n1 c1).ownBlock = some g → (Value.slice a2 n2 c2).ownBlock ≠ some g)
theorem V.Made.kept {e : TypeId} {l : List Value} {w wx wy : World} {v : Value} (h : V.Made e l w v wx) (hb : Below wx.heap.size wx wy) : V.Made e l w v wy := ⟨Ck.own_below h.own hb, h.below.trans (hb.mono h.below.size)⟩
theorem Ck.Ow2.on {w wx wy : World} {a1 a2 : Option Addr} {c1 n1 c2 n2 : Nat} (h : Ck.Ow2 w a1 c1 n1 a2 c2 n2 wx) (hb : Below wx.heap.size wx wy) : Ck.Ow2 w a1 c1 n1 a2 c2 n2 wy := by
  obtain ⟨X, Y, e1, e2, h1, h2, h3⟩ := h
  exact ⟨X, Y, e1, e2, h1.kept hb, h2.kept hb, h3⟩
theorem Ck.Ow2.below {w wx : World} {a1 a2 : Option Addr} {c1 n1 c2 n2 : Nat} (h : Ck.Ow2 w a1 c1 n1 a2 c2 n2 wx) : Below w.heap.size w wx := by
  obtain ⟨X, Y, e1, e2, h1, h2, h3⟩ := h
  exact h1.below
theorem Ck.Ow2.of {w W1 W2 : World} {a1 a2 : Option Addr} {c1 n1 c2 n2 : Nat} {X Y : List Value} (e1 : X.length = n1) (e2 : Y.length = n2) (h1 : V.Made 9 X w (.slice a1 n1 c1) W1) (h2 : V.Made 3 Y W1 (.slice a2 n2 c2) W2) : Ck.Ow2 w a1 c1 n1 a2 c2 n2 W2 :=
  ⟨X, Y, e1, e2, h1.kept h2.below, h2.weak h1.below, fun g hg hg2 => by
    have k1 := (h1.own.lt g hg).2
    have k2 := (h2.own.lt g hg2).1
    omega⟩
theorem Ck.block_of {e : TypeId} {X : List Value} {w wx : World} {ao : Option Addr} {n c : Nat} (h : V.Made e X w (.slice ao n c) wx) (hn : 0 < X.length) : ∃ g, ao = some ⟨g, 0, none⟩ ∧ n = X.length := by
  obtain ⟨hl, ⟨e', h0⟩ | ⟨g, c', cur, e', _⟩⟩ := h.own
  · omega
  · simp only [Value.slice.injEq] at e'
    exact ⟨g, e'.1, e'.2.1⟩
theorem Ck.Ow2.one {w wx : World} {a1 a2 : Option Addr} {c1 n1 c2 n2 i : Nat} (h : Ck.Ow2 w a1 c1 n1 a2 c2 n2 wx) (hi : i < n1) : ∃ g, a1 = some ⟨g, 0, none⟩ ∧ (∃ u, wx.cell? ⟨g, i, none⟩ = some u) ∧ wx.frozen? ⟨g, i, none⟩ = false ∧ ∀ t, Ck.Ow2 w a1 c1 n1 a2 c2 n2 (wx.setCell ⟨g, i, none⟩ (.string t)) := by
  obtain ⟨X, Y, e1, e2, h1, h2, h3⟩ := h
  obtain ⟨g, rfl, _⟩ := Ck.block_of h1 (by omega)
  subst e1
  obtain ⟨u, hu⟩ : ∃ u, X[i]? = some u := ⟨_, List.getElem?_eq_getElem hi⟩
  obtain ⟨c0, f0, hg⟩ := V.own_cell h1.own hu
  exact ⟨g, rfl, ⟨u, c0⟩, f0, fun t => ⟨X.set i (.string t), Y, by simp, e2, ⟨by rw [List.length_set]; exact V.own_set h1.own i _, h1.below.setCell (p := ⟨g, i, none⟩) hg _⟩, ⟨ownsRow_setCell_other h2.own (h3 g rfl) _, h1.below.setCell (p := ⟨g, i, none⟩) hg _⟩, h3⟩⟩
theorem Ck.Ow2.two {w wx : World} {a1 a2 : Option Addr} {c1 n1 c2 n2 i : Nat} (h : Ck.Ow2 w a1 c1 n1 a2 c2 n2 wx) (hi : i < n2) : ∃ g, a2 = some ⟨g, 0, none⟩ ∧ (∃ u, wx.cell? ⟨g, i, none⟩ = some u) ∧ wx.frozen? ⟨g, i, none⟩ = false ∧ ∀ t, Ck.Ow2 w a1 c1 n1 a2 c2 n2 (wx.setCell ⟨g, i, none⟩ (.int .i64 t)) := by
  obtain ⟨X, Y, e1, e2, h1, h2, h3⟩ := h
  obtain ⟨g, rfl, _⟩ := Ck.block_of h2 (by omega)
  subst e2
  obtain ⟨u, hu⟩ : ∃ u, Y[i]? = some u := ⟨_, List.getElem?_eq_getElem hi⟩
  obtain ⟨c0, f0, hg⟩ := V.own_cell h2.own hu
  exact ⟨g, rfl, ⟨u, c0⟩, f0, fun t => ⟨X, Y.set i (.int .i64 t), e1, by simp, ⟨ownsRow_setCell_other h1.own (fun k => h3 g k rfl) _, h1.below.setCell (p := ⟨g, i, none⟩) hg _⟩, ⟨by rw [List.length_set]; exact V.own_set h2.own i _, h2.below.setCell (p := ⟨g, i, none⟩) hg _⟩, h3⟩⟩
theorem V.Made.cap {e : TypeId} {l : List Value} {w wx : World} {v : Value} (h : V.Made e l w v wx) : ∃ ao c, v = .slice ao l.length c ∧ l.length ≤ c ∧ V.Row wx ao l := by
  obtain ⟨ao, c, hv, hr⟩ := h.row
  refine ⟨ao, c, hv, ?_, hr⟩
  obtain ⟨_, ⟨_, h0⟩ | ⟨g, cap, cur, e', _, _, hnc, _⟩⟩ := h.own
  · omega
  · rw [hv] at e'
    simp only [Value.slice.injEq] at e'
    omega
set_option maxRecDepth 100000 in
set_option maxHeartbeats 4000000 in
theorem chunkOwn_walk (s : ByteArray) (n : Int) (w : World) (zs : s.size ≤ 140737488351232) (n0 : -9223372036854775808 ≤ n) (n1 : n < 9223372036854775808) :
    Calls Try.prog 11 #[.string s, .int .i64 n] w fun e w' => e = .returned (.bool true) ∧ Below w.heap.size w w' := by
  have HW := Ck.hW
  by_cases h1 : 1000 < s.size
  · skip
    go_enter Try.func11, Try.ntmps11
    go_wp2_with fail
    refine (HW.out _).mono ?_
    rintro e w1 ⟨rfl, hb⟩
    have B := Lib.hid hb
    clear hb HW
    go_wp2
    go_ret
    exact ⟨rfl, B.out⟩
  · by_cases h2 : n < 0
    · skip
      go_enter Try.func11, Try.ntmps11
      go_wp2_with fail
      refine (HW.out _).mono ?_
      rintro e w1 ⟨rfl, hb⟩
      have B := Lib.hid hb
      clear hb HW
      go_wp2
      go_ret
      exact ⟨rfl, B.out⟩
    · by_cases h3 : 1000 < n
      · skip
        go_enter Try.func11, Try.ntmps11
        go_wp2_with fail
        refine (HW.out _).mono ?_
        rintro e w1 ⟨rfl, hb⟩
        have B := Lib.hid hb
        clear hb HW
        go_wp2
        go_ret
        exact ⟨rfl, B.out⟩
      · obtain ⟨M, rfl⟩ : ∃ M : Nat, n = (M : Int) := ⟨n.toNat, by omega⟩
        have HC := Lib.hid (fun W => chunks14_any s W (by omega))
        unfold Ck.ChEnd at HC
        have HE := Lib.hid (fun W => even14_any (M : Int) 3 W (by omega) (by omega) (by decide) (by decide))
        unfold Ck.EvEnd at HE
        have HS := Lib.hid (fun W => refSizes14_any M 3 W (by omega) (by decide) (by decide))
        unfold Ck.SzEnd at HS
        have e0 : C14.evE (M : Int) 3 = 0 := (C14.evE_iff _ _).2 ⟨by omega, by omega, by omega⟩
        have eL : C14.evL (M : Int) 3 = C14.sizes M 3 := by unfold C14.evL; rw [if_pos e0]; rfl
        rw [e0, eL] at HE
        have bL := Ck.chunks_len (s := s) (by omega)
        have bZ : (C14.sizes M 3).length ≤ 1000 := by
          rw [C14.len_sizes _ (by decide)]
          have := C14.cnt_le M (m := 3) (by decide)
          omega
        obtain ⟨k, kL⟩ : ∃ k, (C14.chunks s.data.toList).length = k := ⟨_, rfl⟩
        obtain ⟨j, kZ⟩ : ∃ j, (C14.sizes M 3).length = j := ⟨_, rfl⟩
        have HJ : Hid (∀ ao ca W, V.Row W ao (Ck.strs (C14.chunks s.data.toList)) → k ≤ ca → Calls Try.prog 37 #[.slice ao k ca, .string ⟨#[]⟩] W fun e w' => e = .returned (.string s) ∧ Below W.heap.size W w') := fun ao ca W hr hca =>
          Ck.cat_any _ ao ca k s W (by rw [← Ck.strs_map]; exact hr) (by rw [List.length_map]; exact kL) hca (by rw [Ck.flat_map]; exact C14.chunks_flat _) (by omega) (by omega)
        have HI := Ck.hInts kZ (by unfold maxLen; omega)
        rw [kL] at bL
        rw [kZ] at bZ
        have hkL := Lib.hid ((Ck.strs_len _).trans kL)
        have hkZ := Lib.hid ((Ck.ints_len _).trans kZ)
        have hs1 : s.size ≤ 1000 := by omega
        have hM1 : M ≤ 1000 := by omega
        clear e0 eL kL kZ zs n0 n1 h1 h2 h3
        generalize C14.chunks s.data.toList = L at *
        generalize C14.sizes M 3 = Z at *
        have B0 : Hid (Below w.heap.size w w) := Below.refl _ _
        go_enter Try.func11, Try.ntmps11
        go_wp2
        go_loopw [5] (fun r wr => ∃ q : Nat, q ≤ 2 ∧ r = .int .i64 q ∧ Hid (Below w.heap.size w wr)) (fun r _ => 2 - (intOf r).toNat)
        case atStart => exact ⟨0, by omega, rfl, B0.out⟩
        case round =>
          clear B0
          obtain ⟨q, hq, rfl, hB⟩ := hrel
          obtain ⟨W0, rfl⟩ : ∃ W0 : World, W0 = wr := ⟨_, rfl⟩
          by_cases hlq : q < 2
          · have Hq : Hid (q < 2) := hlq
            have hqI : (q : Int) < 2 := by omega
            clear hq hlq
            go_wp2_with fail
            refine (HC.out _).mono ?_
            rintro e w1 ⟨v, rfl, hm⟩
            obtain ⟨a1, c1, hv, hcap, r1⟩ := hm.cap
            rw [hkL.out] at hv hcap
            subst hv
            have M1 := Lib.hid (And.intro hm r1)
            clear hm r1
            go_wp2_with fail
            refine (HE.out _).mono ?_
            rintro e w2 ⟨v, rfl, hm⟩
            obtain ⟨a2, c2, hv, _, r2⟩ := hm.cap
            rw [hkZ.out] at hv
            subst hv
            have O2 := Lib.hid (Ck.Ow2.of hkL.out hkZ.out M1.out.1 hm)
            have R2 := Lib.hid (And.intro (M1.out.2.below hm.below) r2)
            clear hm r2 M1
            go_wp2_with fail
            refine (HJ.out _ _ _ R2.out.1 hcap).mono ?_
            rintro e w3 ⟨rfl, hb⟩
            have O3 := Lib.hid (O2.out.on hb)
            have R3 := Lib.hid (R2.out.2.below hb)
            clear hb O2 R2
            go_wp2_with fail
            refine (HS.out _).mono ?_
            rintro e w4 ⟨v, rfl, hm⟩
            obtain ⟨a4, c4, hv, _, r4⟩ := hm.cap
            rw [hkZ.out] at hv
            subst hv
            have O4 := Lib.hid (O3.out.on hm.below)
            have R4 := Lib.hid (And.intro (R3.out.below hm.below) r4)
            clear hm r4 O3 R3
            go_wp2_with fail
            refine (HI.out _ _ _ _ _ R4.out.1 R4.out.2).mono ?_
            rintro e w5 ⟨rfl, hb⟩
            have O5 := Lib.hid (O4.out.on hb)
            clear hb O4 R4
            go_wp2
            go_loopw [9] (fun r wx => ∃ i : Nat, i ≤ k ∧ r = .int .i64 i ∧ Hid (Ck.Ow2 W0 a1 c1 k a2 c2 j wx)) (fun r _ => k - (intOf r).toNat)
            case atStart => exact ⟨0, Nat.zero_le _, rfl, O5⟩
            case round =>
              clear O5
              obtain ⟨i, hi, rfl, hx⟩ := hrel
              by_cases hlt : i < k
              · obtain ⟨g, rfl, ⟨u, c0⟩, f0, hs⟩ := hx.out.one hlt
                have R := Lib.hid (hs ⟨#[115, 112, 111, 105, 108, 116]⟩)
                clear hs hx
                go_wp2
                go_roundw
                case rel => exact ⟨i + 1, by omega, by go_num, R⟩
                case measure => simp [intOf]; omega
              · obtain rfl : k = i := by omega
                have O6 := hx
                clear hx
                go_wp2
                go_loopw [10] (fun r wx => ∃ i : Nat, i ≤ j ∧ r = .int .i64 i ∧ Hid (Ck.Ow2 W0 a1 c1 k a2 c2 j wx)) (fun r _ => j - (intOf r).toNat)
                case atStart => exact ⟨0, Nat.zero_le _, rfl, O6⟩
                case round =>
                  clear O6
                  obtain ⟨i, hi, rfl, hx⟩ := hrel
                  by_cases hlt : i < j
                  · obtain ⟨g, rfl, ⟨u, c0⟩, f0, hs⟩ := hx.out.two hlt
                    have R := Lib.hid (hs (-1))
                    clear hs hx
                    go_wp2
                    go_roundw
                    case rel => exact ⟨i + 1, by omega, by go_num, R⟩
                    case measure => simp [intOf]; omega
                  · obtain rfl : j = i := by omega
                    have B7 := Lib.hid (hB.out.trans (hx.out.below.mono hB.out.size))
                    clear hx hlt hi
                    go_wp2
                    go_roundw
                    case rel => exact ⟨q + 1, by have := Hq.out; omega, by go_num, B7⟩
                    case measure => have := Hq.out; simp [intOf]; omega
          · obtain rfl : q = 2 := by omega
            rw [show ((2 : Nat) : Int) = 2 from rfl]
            go_wp2_with fail
            refine (HW.out _).mono ?_
            rintro e w1 ⟨rfl, hb⟩
            have B := Lib.hid (hB.out.trans (hb.mono hB.out.size))
            clear hb HW
            go_wp2
            go_ret
            exact ⟨rfl, B.out⟩
end Go.Proofs.Ytniccjbcchdkoaa
