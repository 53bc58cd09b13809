/- The walks of layer 14's laws: Evens, Cuts, Back. -/
import Derived.Test.YtniccjbcchdkoaaCkRef3
namespace Go.Proofs.Ytniccjbcchdkoaa
open Go.RowKit

/-- What stands since w: rows. -/
structure Ck.Kn (w W : World) (rs : List (Option Addr × List Value)) : Prop where
  below : Below w.heap.size w W
  rows : ∀ p ∈ rs, V.Row W p.1 p.2
theorem Ck.Kn.on {w W W' : World} {rs : List (Option Addr × List Value)} (h : Ck.Kn w W rs) (hb : Below W.heap.size W W') : Ck.Kn w W' rs := ⟨h.below.trans (hb.mono h.below.size), fun p hp => (h.rows p hp).below hb⟩
theorem Ck.Kn.add {w W : World} {rs : List (Option Addr × List Value)} (h : Ck.Kn w W rs) {ao : Option Addr} {l : List Value} (hr : V.Row W ao l) : Ck.Kn w W ((ao, l) :: rs) := ⟨h.below, fun p hp => by
  rcases List.mem_cons.1 hp with rfl | hp
  · exact hr
  · exact h.rows p hp⟩
theorem Ck.Kn.r0 {w W : World} {p : Option Addr × List Value} {rs : List (Option Addr × List Value)} (h : Ck.Kn w W (p :: rs)) : V.Row W p.1 p.2 := h.rows p List.mem_cons_self
theorem Ck.Kn.tl {w W : World} {p : Option Addr × List Value} {rs : List (Option Addr × List Value)} (h : Ck.Kn w W (p :: rs)) : Ck.Kn w W rs := ⟨h.below, fun q hq => h.rows q (List.mem_cons_of_mem _ hq)⟩
theorem Ck.kn0 (w : World) : Ck.Kn w w [] := ⟨Below.refl _ _, fun p hp => by cases hp⟩
theorem Ck.Kn.made {w W W' : World} {rs : List (Option Addr × List Value)} (h : Ck.Kn w W rs) {e : TypeId} {l : List Value} {v : Value} (hm : V.Made e l W v W') {n : Nat} (hn : l.length = n) : ∃ ao c, v = .slice ao n c ∧ Hid (Ck.Kn w W' ((ao, l) :: rs)) := by
  subst hn
  obtain ⟨ao, c, e, hr⟩ := hm.row
  exact ⟨ao, c, e, (h.on hm.below).add hr⟩
theorem Ck.hW : Hid (∀ W, Calls Try.prog 26 #[] W fun e w' => e = .returned (.bool true) ∧ Below W.heap.size W w') := fun W => works14_any W
theorem Ck.hInts {L : List Nat} {k : Nat} (hk : L.length = k) (hm : k ≤ maxLen) : Hid (∀ ao bo ca cb W, V.Row W ao (Ck.ints L) → V.Row W bo (Ck.ints L) → Calls Try.prog 30 #[.slice ao k ca, .slice bo k cb] W fun e w' => e = .returned (.bool true) ∧ Below W.heap.size W w') := fun ao bo ca cb W ha hb => by
  subst hk
  have := ints14_any ao bo ca cb L L W ha hb hm
  rwa [decide_eq_true rfl] at this
theorem Ck.hTexts {L : List (List UInt8)} {k : Nat} (hk : L.length = k) (hm : k ≤ maxLen) : Hid (∀ ao bo ca cb W, V.Row W ao (Ck.strs L) → V.Row W bo (Ck.strs L) → Calls Try.prog 28 #[.slice ao k ca, .slice bo k cb] W fun e w' => e = .returned (.bool true) ∧ Below W.heap.size W w') := fun ao bo ca cb W ha hb => by
  subst hk
  have := texts14_any ao bo ca cb L L W ha hb hm
  rwa [decide_eq_true rfl] at this
theorem Ck.evL_len (n m : Int) : (C14.evL n m).length ≤ 65536 := by
  unfold C14.evL
  split
  · rename_i h
    have := (C14.evE_iff n m).1 h
    rw [C14.len_sizes _ (by omega)]
    have := C14.cnt_le n.toNat (m := m.toNat) (by omega)
    omega
  · exact Nat.zero_le _
set_option maxRecDepth 100000 in
set_option maxHeartbeats 2000000 in
theorem chunkEvens_walk (n m : Int) (w : World) (n0 : -9223372036854775808 ≤ n) (n1 : n < 9223372036854775808) (m0 : -9223372036854775808 ≤ m) (m1 : m < 9223372036854775808) :
    Calls Try.prog 5 #[.int .i64 n, .int .i64 m] w fun e w' => e = .returned (.bool true) ∧ Below w.heap.size w w' := by
  have HE := Lib.hid (fun W => even14_any n m W n0 (by omega) m0 (by omega))
  have HF := Lib.hid (fun W => refEven14_any n m W n0 (by omega) m0 (by omega))
  have HW := Ck.hW
  have hb := Ck.evL_len n m
  obtain ⟨k, hk⟩ : ∃ k, (C14.evL n m).length = k := ⟨_, rfl⟩
  have HI := Ck.hInts hk (by unfold maxLen; omega)
  have hk' := (Ck.ints_len (C14.evL n m)).trans hk
  unfold Ck.EvEnd at HE HF
  have hk := Lib.hid hk'
  clear hb hk' n0 n1 m0 m1
  generalize C14.evE n m = E at *
  generalize C14.evL n m = L at *
  have K0 := Lib.hid (Ck.kn0 w)
  go_enter Try.func5, Try.ntmps5
  go_wp2_with fail
  refine (HE.out _).mono ?_
  rintro e w1 ⟨v, rfl, hm⟩
  obtain ⟨a1, c1, rfl, K1⟩ := K0.out.made hm hk.out
  clear hm K0 HE
  go_wp2_with fail
  refine (HF.out _).mono ?_
  rintro e w2 ⟨v, rfl, hm⟩
  obtain ⟨a2, c2, rfl, K2⟩ := K1.out.made hm hk.out
  clear hm K1 HF
  go_wp2_with fail
  refine (HI.out _ _ _ _ _ K2.out.tl.r0 K2.out.r0).mono ?_
  rintro e w3 ⟨rfl, hb⟩
  have K3 := Lib.hid (K2.out.on hb)
  clear hb K2 HI
  go_wp2_with fail
  refine (HW.out _).mono ?_
  rintro e w4 ⟨rfl, hb⟩
  have K4 := Lib.hid (K3.out.on hb).below
  clear hb K3 HW
  go_wp2
  go_ret
  exact ⟨rfl, K4.out⟩
theorem Ck.jnL_len (a b : List UInt8) : (C14.jnL a b).length ≤ 2 := by
  unfold C14.jnL
  split
  · unfold C14.join
    split
    · simp
    · split <;> simp
  · exact Nat.zero_le _
theorem Ck.chunks_len {s : ByteArray} (h : s.size ≤ 3000) : (C14.chunks s.data.toList).length ≤ 3000 := by
  rw [C14.len_chunks, Ck.len]
  have := C14.cnt_le s.size (m := 16) (by decide)
  omega
set_option maxRecDepth 100000 in
set_option maxHeartbeats 4000000 in
theorem chunkCuts_walk (s a b : ByteArray) (at_ : Int) (w : World) (_ : s.size ≤ 140737488351232) (_ : a.size ≤ 140737488351232) (_ : b.size ≤ 140737488351232) (n0 : -9223372036854775808 ≤ at_) (n1 : at_ < 9223372036854775808) :
    Calls Try.prog 6 #[.string s, .string a, .string b, .int .i64 at_] w fun e w' => e = .returned (.bool true) ∧ Below w.heap.size w w' := by
  have HW := Ck.hW
  by_cases hs : 3000 < s.size
  · go_enter Try.func6, Try.ntmps6
    go_wp2_with fail
    refine (HW.out _).mono ?_
    rintro e w1 ⟨rfl, hb⟩
    have B := Lib.hid hb
    clear hb HW
    go_wp2
    go_ret
    exact ⟨rfl, B.out⟩
  · have hs3 : s.size ≤ 3000 := by omega
    have H1 := Lib.hid (fun W => chunks14_any s W (by omega))
    have H2 := Lib.hid (fun W => refChunks14_any s W (by omega))
    have H3 := Lib.hid (fun W => join14_any a b W)
    have H4 := Lib.hid (fun W => refJoin14_any a b W)
    have H5 := Lib.hid (fun W => cut14_any a at_ W n0 (by omega))
    have H6 := Lib.hid (fun W => refCut14_any a at_ W n0 (by omega))
    unfold Ck.ChEnd at H1 H2
    unfold Ck.JnEnd at H3 H4
    unfold Ck.CtEnd V.str at H5 H6
    have hcl := Ck.chunks_len hs3
    have hjl := Ck.jnL_len a.data.toList b.data.toList
    obtain ⟨k, hk⟩ : ∃ k, (C14.chunks s.data.toList).length = k := ⟨_, rfl⟩
    obtain ⟨j, hj⟩ : ∃ j, (C14.jnL a.data.toList b.data.toList).length = j := ⟨_, rfl⟩
    have T1 := Ck.hTexts hk (by unfold maxLen; omega)
    have T2 := Ck.hTexts hj (by unfold maxLen; omega)
    have hk := Lib.hid ((Ck.strs_len _).trans hk)
    have hj := Lib.hid ((Ck.strs_len _).trans hj)
    clear hcl hjl n0 n1
    generalize C14.chunks s.data.toList = L at *
    generalize C14.jnL a.data.toList b.data.toList = J at *
    generalize C14.jnE a.data.toList b.data.toList = E at *
    generalize C14.ctE a.data.toList at_ = F at *
    generalize (⟨(C14.ctL a.data.toList at_).toArray⟩ : ByteArray) = x at *
    generalize (⟨(C14.ctR a.data.toList at_).toArray⟩ : ByteArray) = y at *
    have K0 := Lib.hid (Ck.kn0 w)
    go_enter Try.func6, Try.ntmps6
    go_wp2_with fail
    refine (H1.out _).mono ?_
    rintro e w1 ⟨v, rfl, hm⟩
    obtain ⟨a1, c1, rfl, K1⟩ := K0.out.made hm hk.out
    clear hm K0 H1
    go_wp2_with fail
    refine (H2.out _).mono ?_
    rintro e w2 ⟨v, rfl, hm⟩
    obtain ⟨a2, c2, rfl, K2⟩ := K1.out.made hm hk.out
    clear hm K1 H2
    go_wp2_with fail
    refine (T1.out _ _ _ _ _ K2.out.tl.r0 K2.out.r0).mono ?_
    rintro e w3 ⟨rfl, hb⟩
    have K3 := Lib.hid ((K2.out.on hb).tl.tl)
    clear hb K2 T1
    go_wp2_with fail
    refine (H3.out _).mono ?_
    rintro e w4 ⟨v, rfl, hm⟩
    obtain ⟨a4, c4, rfl, K4⟩ := K3.out.made hm hj.out
    clear hm K3 H3
    go_wp2_with fail
    refine (H4.out _).mono ?_
    rintro e w5 ⟨v, rfl, hm⟩
    obtain ⟨a5, c5, rfl, K5⟩ := K4.out.made hm hj.out
    clear hm K4 H4
    go_wp2_with fail
    refine (T2.out _ _ _ _ _ K5.out.tl.r0 K5.out.r0).mono ?_
    rintro e w6 ⟨rfl, hb⟩
    have K6 := Lib.hid ((K5.out.on hb).tl.tl)
    clear hb K5 T2
    go_wp2_with fail
    refine (H5.out _).mono ?_
    rintro e w7 ⟨rfl, hb⟩
    have K7 := Lib.hid (K6.out.on hb)
    clear hb K6 H5
    go_wp2_with fail
    refine (H6.out _).mono ?_
    rintro e w8 ⟨rfl, hb⟩
    have K8 := Lib.hid (K7.out.on hb).below
    clear hb K7 H6
    go_wp2
    go_ret
    exact ⟨rfl, K8.out⟩
end Go.Proofs.Ytniccjbcchdkoaa
