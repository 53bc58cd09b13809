/- The contracts of the reference of layer 14: Sizes, Even, Chunks, Join, Ints, Texts. -/
import Derived.Test.YtniccjbcchdkoaaCkPkg2
namespace Go.Proofs.Ytniccjbcchdkoaa
open Go.RowKit

theorem Ck.take_next {α : Type} {l : List α} {k : Nat} {x : α} (h : l[k]? = some x) : l.take (k + 1) = l.take k ++ [x] := by rw [List.take_add_one, h]; rfl
theorem Ck.ints_next {l : List Nat} {k x : Nat} (h : l[k]? = some x) : Ck.ints (l.take (k + 1)) = Ck.ints (l.take k) ++ [.int .i64 (x : Int)] := by rw [Ck.take_next h]; unfold Ck.ints; rw [List.map_append]; rfl
theorem Ck.strs_next {l : List (List UInt8)} {k : Nat} {x : List UInt8} (h : l[k]? = some x) : Ck.strs (l.take (k + 1)) = Ck.strs (l.take k) ++ [V.str x] := by rw [Ck.take_next h]; unfold Ck.strs; rw [List.map_append]; rfl
def Ck.SzEnd (n m : Nat) (w : World) (e : Ending) (w' : World) : Prop := ∃ v, e = .returned v ∧ V.Made 3 (Ck.ints (C14.sizes n m)) w v w'
set_option maxRecDepth 100000 in
set_option maxHeartbeats 2000000 in
theorem refSizes14_any (n m : Nat) (w : World) (hn : n ≤ 1000000) (hm : 1 ≤ m) (hm2 : m ≤ 9223372036854775807) :
    Calls Try.prog 38 #[.int .i64 (n : Int), .int .i64 (m : Int)] w (Ck.SzEnd n m w) := by
  by_cases h0 : n = 0
  · subst h0
    have R : Hid (Ck.SzEnd 0 m w (.returned (.slice none 0 0)) w) := ⟨_, rfl, by rw [C14.sizes_zero]; exact V.Made.nil _ _ (Below.refl _ _)⟩
    go_enter Try.func38, Try.ntmps38
    go_wp2
    go_ret
    exact R.out
  · obtain ⟨ii, i0, i1, i2, i3⟩ := info_parts Try.infoInt14
    have HI := Lib.hid (And.intro i0 (And.intro i1 (And.intro i2 i3)))
    have hlen := C14.len_sizes n hm
    have hat := fun i (hi : i < C14.cnt n m) => C14.at_sizes n hm hi
    have hcp := C14.cnt_pos (show 1 ≤ n by omega) hm
    have hcn := C14.cnt_le n hm
    have hd := Ck.tdiv (n - 1) m
    have hg : C14.groups n m = (n - 1) / m + 1 := rfl
    have hs : Hid (∀ i, C14.size n (C14.cnt n m) i = n / C14.cnt n m + (if i < n % C14.cnt n m then 1 else 0)) := fun i => rfl
    rw [← hcp] at hg
    have hn1 : (((n - 1 : Nat)) : Int) = (n : Int) - 1 := by omega
    rw [hn1] at hd
    unfold Ck.SzEnd
    generalize C14.sizes n m = L at hlen hat ⊢
    generalize C14.cnt n m = c at *
    generalize (n - 1) / m = Q at *
    have hc1 : 1 ≤ c := by omega
    have hd2 := Ck.tdiv n c
    have hr2 := Ck.tmod n c
    have hq2 : n / c ≤ n := Nat.div_le_self _ _
    have hrl : n % c < c := Nat.mod_lt _ hc1
    generalize n / c = D at *
    generalize n % c = E at *
    have HL := Lib.hid hlen
    have HA := Lib.hid hat
    have hn0 : ((n : Int) == 0) = false := by simp; omega
    have hm0 : ((m : Int) == 0) = false := by simp; omega
    have hc0 : ((c : Int) == 0) = false := by simp; omega
    have w3 : (Q : Int) + 1 = (c : Int) := by omega
    clear i0 i1 i2 i3 h0 hlen hat hcp hg hn1
    go_enter Try.func38, Try.ntmps38
    go_wp2
    go_loopw [6, 7] (fun v i wr => ∃ k : Nat, k ≤ c ∧ i = .int .i64 k ∧ Hid (V.Made 3 (Ck.ints (L.take k)) w v wr)) (fun _ i _ => c - (intOf i).toNat)
    case atStart => exact ⟨0, Nat.zero_le _, rfl, V.Made.nil _ _ (Below.refl _ _)⟩
    case round =>
      obtain ⟨k, hk, rfl, hx⟩ := hrel
      by_cases hlt : k < c
      · obtain ⟨X, hX⟩ : ∃ X, Hid (Ck.ints (L.take k) = X) := ⟨_, rfl⟩
        have hXl : Hid (X.length = k) := by show _ = _; rw [← hX.out, Ck.ints_len, List.length_take, HL.out]; omega
        have hnx := Ck.ints_next (HA.out k hlt)
        rw [hX.out] at hx hnx
        obtain ⟨z, hz⟩ : ∃ z, Hid (C14.size n c k = z) := ⟨_, rfl⟩
        rw [hz.out] at hnx
        obtain ⟨ao, ca, rfl⟩ := hx.out.slice
        have HX := Lib.hid (hx.out.below)
        have hXb : Hid (X.length ≤ 1000000000) := by show _ ≤ _; rw [hXl.out]; omega
        have R : Hid (∀ Z v' w', Hid (Z = X ++ [.int .i64 (z : Int)]) → w'.ownsRow w.heap.size 3 1 v' Z.length Z → wr.grownBy w' (Value.slice ao X.length ca).ownBlock → V.Made 3 (Ck.ints (L.take (k + 1))) w v' w') := fun Z v' w' hZ h1 h2 => by
          rw [hnx, ← hZ.out]
          exact hx.out.on h1 h2
        have HO := Lib.hid hx.out.own
        have hsk := hs.out k
        rw [hz.out] at hsk
        clear hnx hx hz
        by_cases hkE : k < E
        · rw [if_pos hkE] at hsk
          have w7 : (D : Int) + 1 = (z : Int) := by omega
          have w9 : (k : Int) < (E : Int) := by omega
          clear hsk hkE
          go_wp2_with (at_builtin; refine V.append_one Try.underlying33 HI.out.1 HI.out.2.1 HI.out.2.2.1 HI.out.2.2.2 rfl (by decide) rfl _ _ rfl w.heap.size _ X rfl HO.out (.int .i64 (z : Int)) rfl 1 rfl ?a1 ?a2 ?_)
          case a1 => exact hXb.out
          case a2 => exact HX.out.size
          intro Z v' w' hZ h1 h2
          have R := Lib.hid (R.out Z v' w' hZ h1 h2)
          clear h1 h2 hZ HO
          go_wp2
          go_roundw
          case rel => exact ⟨k + 1, by omega, by go_num, R⟩
          case measure => simp [intOf]; omega
        · rw [if_neg hkE] at hsk
          obtain rfl : z = D := hsk
          have w9 : ¬ (k : Int) < (E : Int) := by omega
          clear hkE
          go_wp2_with (at_builtin; refine V.append_one Try.underlying33 HI.out.1 HI.out.2.1 HI.out.2.2.1 HI.out.2.2.2 rfl (by decide) rfl _ _ rfl w.heap.size _ X rfl HO.out (.int .i64 (z : Int)) rfl 1 rfl ?b1 ?b2 ?_)
          case b1 => exact hXb.out
          case b2 => exact HX.out.size
          intro Z v' w' hZ h1 h2
          have R := Lib.hid (R.out Z v' w' hZ h1 h2)
          clear h1 h2 hZ HO
          go_wp2
          go_roundw
          case rel => exact ⟨k + 1, by omega, by go_num, R⟩
          case measure => simp [intOf]; omega
      · obtain rfl : c = k := by omega
        have R : Hid (∃ v, Ending.returned u6 = .returned v ∧ V.Made 3 (Ck.ints L) w v wr) := by
          have h := hx.out
          rw [List.take_of_length_le (by rw [HL.out]; exact Nat.le_refl _)] at h
          exact ⟨_, rfl, h⟩
        clear hx
        go_wp2
        go_ret
        exact R.out
end Go.Proofs.Ytniccjbcchdkoaa
