/- The contracts of package chunk: Join, Cut; the reference's Leaf and Cut. -/
import Derived.Test.YtniccjbcchdkoaaCkPkg1
namespace Go.Proofs.Ytniccjbcchdkoaa
open Go.RowKit

theorem isLeaf14_any (s : ByteArray) (w : World) : Calls Try.prog 64 #[.string s] w fun e w' => e = .returned (.bool (C14.leaf s.data.toList)) ∧ w = w' := by
  have hl : C14.leaf s.data.toList = (decide (1 ≤ s.size) && decide (s.size ≤ 16)) := by unfold C14.leaf; rw [Ck.len]
  by_cases h1 : 1 ≤ s.size
  · have R : Hid (C14.leaf s.data.toList = decide ((s.size : Int) ≤ 16)) := by
      show _ = _
      rw [hl, decide_eq_true h1, Bool.true_and, decide_eq_decide]; omega
    clear hl
    go_enter Try.func64, Try.ntmps64
    go_wp2
    go_ret
    exact ⟨by rw [R.out]; rfl, rfl⟩
  · have R : Hid (C14.leaf s.data.toList = false) := by show _ = _; rw [hl, decide_eq_false h1, Bool.false_and]
    clear hl
    go_enter Try.func64, Try.ntmps64
    go_wp2
    go_ret
    exact ⟨by rw [R.out]; rfl, rfl⟩
theorem refLeaf14_any (s : ByteArray) (w : World) : Calls Try.prog 66 #[.string s] w fun e w' => e = .returned (.bool (C14.leaf s.data.toList)) ∧ w = w' := by
  have hl : C14.leaf s.data.toList = (decide (1 ≤ s.size) && decide (s.size ≤ 16)) := by unfold C14.leaf; rw [Ck.len]
  by_cases h1 : 1 ≤ s.size
  · have R : Hid (C14.leaf s.data.toList = decide ((s.size : Int) ≤ 16)) := by
      show _ = _
      rw [hl, decide_eq_true h1, Bool.true_and, decide_eq_decide]; omega
    clear hl
    go_enter Try.func66, Try.ntmps66
    go_wp2
    go_ret
    exact ⟨by rw [R.out]; rfl, rfl⟩
  · have R : Hid (C14.leaf s.data.toList = false) := by show _ = _; rw [hl, decide_eq_false h1, Bool.false_and]
    clear hl
    go_enter Try.func66, Try.ntmps66
    go_wp2
    go_ret
    exact ⟨by rw [R.out]; rfl, rfl⟩
theorem isShort14_any (s : ByteArray) (w : World) : Calls Try.prog 65 #[.string s] w fun e w' => e = .returned (.bool (decide (s.size < 8))) ∧ w = w' := by
  have R : Hid (decide (s.size < 8) = decide ((s.size : Int) < 8)) := by show _ = _; rw [decide_eq_decide]; omega
  go_enter Try.func65, Try.ntmps65
  go_wp2
  go_ret
  exact ⟨by rw [R.out]; rfl, rfl⟩
/-- What Cut answers. -/
def Ck.CtEnd (s : List UInt8) (k : Int) (w : World) (e : Ending) (w' : World) : Prop := e = .returned (.tuple #[V.str (C14.ctL s k), V.str (C14.ctR s k), .int .i64 (C14.ctE s k)]) ∧ Below w.heap.size w w'
theorem Ck.ct_bad {s : List UInt8} {k z : Int} (hz : C14.ctE s k = z) (h : z ≠ 0) (w : World) : Ck.CtEnd s k w (.returned (.tuple #[.string ⟨#[]⟩, .string ⟨#[]⟩, .int .i64 z])) w := by
  subst hz
  unfold Ck.CtEnd C14.ctL C14.ctR
  rw [if_neg h, if_neg h]
  exact ⟨rfl, Below.refl _ _⟩
/-- What Join answers. -/
def Ck.JnEnd (a b : List UInt8) (w : World) (e : Ending) (w' : World) : Prop := ∃ v, e = .returned (.tuple #[v, .int .i64 (C14.jnE a b)]) ∧ V.Made 9 (Ck.strs (C14.jnL a b)) w v w'
theorem Ck.jn_bad {a b : List UInt8} (h : ¬ (C14.leaf a = true ∧ C14.leaf b = true)) (w : World) : Ck.JnEnd a b w (.returned (.tuple #[.slice none 0 0, .int .i64 2])) w := by
  have e : C14.jnE a b = 2 := if_neg h
  refine ⟨_, by rw [e], ?_⟩
  unfold C14.jnL; rw [if_neg (by rw [e]; decide)]
  exact V.Made.nil _ _ (Below.refl _ _)
theorem Ck.jn_ok {a b : List UInt8} (ha : C14.leaf a = true) (hb : C14.leaf b = true) {w w' : World} {v : Value} (h : V.Made 9 (Ck.strs (C14.join a b)) w v w') : Ck.JnEnd a b w (.returned (.tuple #[v, .int .i64 0])) w' := by
  have e : C14.jnE a b = 0 := if_pos ⟨ha, hb⟩
  refine ⟨_, by rw [e], ?_⟩
  unfold C14.jnL; rw [if_pos e]
  exact h
theorem Ck.lit (w : World) (l : List Value) (e : TypeId) (n : Nat) (hn : l.length = n) (hm : n ≤ maxLen) : V.Made e l w (.slice (some ⟨w.heap.size, 0, none⟩) n n) (w.alloc (.cells l.toArray e)) := by
  subst hn
  exact ⟨⟨(Nat.mul_one _).symm, .inr ⟨w.heap.size, l.length, _, rfl, Nat.le_refl _, heap_alloc_new w _, Nat.le_refl _, hm, by simp, by simp⟩⟩, (Below.refl _ _).alloc (Nat.le_refl _) _⟩
set_option maxRecDepth 100000 in
set_option maxHeartbeats 1000000 in
theorem cut14_any (s : ByteArray) (k : Int) (w : World) (k0 : -9223372036854775808 ≤ k) (k1 : k ≤ 9223372036854775807) :
    Calls Try.prog 32 #[.string s, .int .i64 k] w (Ck.CtEnd s.data.toList k w) := by
  have HLf := Lib.hid (fun W => isLeaf14_any s W)
  have hlf := C14.leaf_iff s.data.toList
  rw [Ck.len] at hlf
  have hE : C14.ctE s.data.toList k = if C14.leaf s.data.toList = true then (if k < 0 ∨ (s.size : Int) < k then 3 else 0) else 2 := by unfold C14.ctE; rw [Ck.len]
  by_cases h : C14.leaf s.data.toList = true
  · rw [if_pos h] at hE
    obtain ⟨l1, l2⟩ := hlf.1 h
    rw [h] at HLf
    clear hlf h
    by_cases hk : k < 0 ∨ (s.size : Int) < k
    · have R := Lib.hid (Ck.ct_bad (hE.trans (if_pos hk)) (by decide) w)
      clear hE
      by_cases h0 : k < 0
      · clear hk
        go_enter Try.func32, Try.ntmps32
        go_wp2_with fail
        refine (HLf.out _).mono ?_
        rintro e w1 ⟨rfl, rfl⟩
        clear HLf
        go_wp2
        go_ret3
        exact R.out
      · have h2 : (s.size : Int) < k := by omega
        clear hk
        go_enter Try.func32, Try.ntmps32
        go_wp2_with fail
        refine (HLf.out _).mono ?_
        rintro e w1 ⟨rfl, rfl⟩
        clear HLf
        go_wp2
        go_ret3
        exact R.out
    · obtain ⟨K, rfl⟩ : ∃ K : Nat, k = (K : Int) := ⟨k.toNat, by omega⟩
      have e0 := hE.trans (if_neg hk)
      have hK : K ≤ s.size := by omega
      have R : Hid (Ck.CtEnd s.data.toList (K : Int) w (.returned (.tuple #[.string (s.extract 0 K), .string (s.extract K s.size), .int .i64 0])) w.drew) := by
        refine ⟨?_, (Below.refl _ _).drew⟩
        unfold C14.ctL C14.ctR
        rw [e0, if_pos rfl, if_pos rfl, Int.toNat_natCast, Ck.take_at rfl K, V.str_of, Ck.drop_at rfl K]
      clear hk hE e0
      have q1 : ¬ (K : Int) < 0 := by omega
      have q2 : ¬ (s.size : Int) < (K : Int) := by omega
      go_enter Try.func32, Try.ntmps32
      go_wp2_with fail
      refine (HLf.out _).mono ?_
      rintro e w1 ⟨rfl, rfl⟩
      clear HLf
      go_upto_region 5 with (fail)
      go_region
      all_goals
        go_wp2
        go_ret3
        exact R.out
  · have R := Lib.hid (Ck.ct_bad (hE.trans (if_neg h)) (by decide) w)
    rw [Bool.eq_false_iff.2 h] at HLf
    clear hE hlf h
    go_enter Try.func32, Try.ntmps32
    go_wp2_with fail
    refine (HLf.out _).mono ?_
    rintro e w1 ⟨rfl, rfl⟩
    clear HLf
    go_wp2
    go_ret3
    exact R.out
set_option maxRecDepth 100000 in
set_option maxHeartbeats 1000000 in
theorem refCut14_any (s : ByteArray) (k : Int) (w : World) (k0 : -9223372036854775808 ≤ k) (k1 : k ≤ 9223372036854775807) :
    Calls Try.prog 36 #[.string s, .int .i64 k] w (Ck.CtEnd s.data.toList k w) := by
  have HLf := Lib.hid (fun W => refLeaf14_any s W)
  have hlf := C14.leaf_iff s.data.toList
  rw [Ck.len] at hlf
  have hE : C14.ctE s.data.toList k = if C14.leaf s.data.toList = true then (if k < 0 ∨ (s.size : Int) < k then 3 else 0) else 2 := by unfold C14.ctE; rw [Ck.len]
  by_cases h : C14.leaf s.data.toList = true
  · rw [if_pos h] at hE
    obtain ⟨l1, l2⟩ := hlf.1 h
    rw [h] at HLf
    clear hlf h
    by_cases hk : k < 0 ∨ (s.size : Int) < k
    · have R := Lib.hid (Ck.ct_bad (hE.trans (if_pos hk)) (by decide) w)
      clear hE
      by_cases h0 : k < 0
      · clear hk
        go_enter Try.func36, Try.ntmps36
        go_wp2_with fail
        refine (HLf.out _).mono ?_
        rintro e w1 ⟨rfl, rfl⟩
        clear HLf
        go_wp2
        go_ret3
        exact R.out
      · have h2 : (s.size : Int) < k := by omega
        clear hk
        go_enter Try.func36, Try.ntmps36
        go_wp2_with fail
        refine (HLf.out _).mono ?_
        rintro e w1 ⟨rfl, rfl⟩
        clear HLf
        go_wp2
        go_ret3
        exact R.out
    · obtain ⟨K, rfl⟩ : ∃ K : Nat, k = (K : Int) := ⟨k.toNat, by omega⟩
      have e0 := hE.trans (if_neg hk)
      have hK : K ≤ s.size := by omega
      have R : Hid (Ck.CtEnd s.data.toList (K : Int) w (.returned (.tuple #[.string (s.extract 0 K), .string (s.extract K s.size), .int .i64 0])) w.drew) := by
        refine ⟨?_, (Below.refl _ _).drew⟩
        unfold C14.ctL C14.ctR
        rw [e0, if_pos rfl, if_pos rfl, Int.toNat_natCast, Ck.take_at rfl K, V.str_of, Ck.drop_at rfl K]
      clear hk hE e0
      have q1 : ¬ (K : Int) < 0 := by omega
      have q2 : ¬ (s.size : Int) < (K : Int) := by omega
      go_enter Try.func36, Try.ntmps36
      go_wp2_with fail
      refine (HLf.out _).mono ?_
      rintro e w1 ⟨rfl, rfl⟩
      clear HLf
      go_upto_region 5 with (fail)
      go_region
      all_goals
        go_wp2
        go_ret3
        exact R.out
  · have R := Lib.hid (Ck.ct_bad (hE.trans (if_neg h)) (by decide) w)
    rw [Bool.eq_false_iff.2 h] at HLf
    clear hE hlf h
    go_enter Try.func36, Try.ntmps36
    go_wp2_with fail
    refine (HLf.out _).mono ?_
    rintro e w1 ⟨rfl, rfl⟩
    clear HLf
    go_wp2
    go_ret3
    exact R.out
set_option maxRecDepth 100000 in
set_option maxHeartbeats 1000000 in
theorem join14_any (a b : ByteArray) (w : World) : Calls Try.prog 31 #[.string a, .string b] w (Ck.JnEnd a.data.toList b.data.toList w) := by
  have HA := Lib.hid (fun W => isLeaf14_any a W)
  have HB := Lib.hid (fun W => isLeaf14_any b W)
  by_cases ha : C14.leaf a.data.toList = true
  · by_cases hb : C14.leaf b.data.toList = true
    · obtain ⟨a1, a2⟩ := (C14.leaf_iff _).1 ha
      obtain ⟨b1, b2⟩ := (C14.leaf_iff _).1 hb
      have hap : (a ++ b).data.toList = a.data.toList ++ b.data.toList := by simp
      have hsz : (a ++ b).size = a.size + b.size := ByteArray.size_append
      have hno : ¬ 9223372036854775807 < a.size + b.size := by rw [Ck.len] at a2 b2; omega
      have HC := Lib.hid (chunks14_any (a ++ b) w (by rw [hsz]; rw [Ck.len] at a2 b2; omega))
      have SA := Lib.hid (fun W => isShort14_any a W)
      have SB := Lib.hid (fun W => isShort14_any b W)
      have OK : Hid (∀ v w', V.Made 9 (Ck.strs (C14.join a.data.toList b.data.toList)) w v w' → Ck.JnEnd a.data.toList b.data.toList w (.returned (.tuple #[v, .int .i64 0])) w') := fun v w' => Ck.jn_ok ha hb
      have CJ : Hid (¬ (16 < a.size + b.size ∧ 8 ≤ a.size ∧ 8 ≤ b.size) → C14.chunks (a ++ b).data.toList = C14.join a.data.toList b.data.toList) := fun h => by rw [hap]; exact C14.chunks_join ha hb (by rw [Ck.len, Ck.len]; exact h)
      have JT : Hid ((16 < a.size + b.size ∧ 8 ≤ a.size ∧ 8 ≤ b.size) → C14.join a.data.toList b.data.toList = [a.data.toList, b.data.toList]) := fun h => C14.join_two (by rw [Ck.len, Ck.len]; exact h)
      rw [ha] at HA
      rw [hb] at HB
      rw [Ck.len] at a1 a2 b1 b2
      unfold Ck.ChEnd at HC
      clear ha hb hap hsz
      have ws : IntKind.i64.wrap ((a.size : Int) + (b.size : Int)) = (a.size : Int) + (b.size : Int) := IntWalk.i64_in _ (by omega)
      by_cases h16 : 16 < a.size + b.size
      · have h17 : (16 : Int) < (a.size : Int) + (b.size : Int) := by omega
        by_cases h8 : a.size < 8
        · rw [decide_eq_true h8] at SA
          rw [CJ.out (by omega)] at HC
          clear CJ JT SB h8 h16
          go_enter Try.func31, Try.ntmps31
          go_wp2_with fail
          refine (HA.out _).mono ?_
          rintro e w1 ⟨rfl, rfl⟩
          go_wp2_with fail
          refine (HB.out _).mono ?_
          rintro e w1 ⟨rfl, rfl⟩
          clear HA HB
          go_wp2_with fail
          refine (SA.out _).mono ?_
          rintro e w1 ⟨rfl, rfl⟩
          clear SA
          go_wp2_with fail
          refine HC.out.mono ?_
          rintro e w1 ⟨v, rfl, hm⟩
          have R := Lib.hid (OK.out v w1 hm)
          clear hm HC OK
          go_wp2
          go_ret2
          exact R.out
        · rw [decide_eq_false h8] at SA
          by_cases h9 : b.size < 8
          · rw [decide_eq_true h9] at SB
            rw [CJ.out (by omega)] at HC
            clear CJ JT h8 h9 h16
            go_enter Try.func31, Try.ntmps31
            go_wp2_with fail
            refine (HA.out _).mono ?_
            rintro e w1 ⟨rfl, rfl⟩
            go_wp2_with fail
            refine (HB.out _).mono ?_
            rintro e w1 ⟨rfl, rfl⟩
            clear HA HB
            go_wp2_with fail
            refine (SA.out _).mono ?_
            rintro e w1 ⟨rfl, rfl⟩
            clear SA
            go_wp2_with fail
            refine (SB.out _).mono ?_
            rintro e w1 ⟨rfl, rfl⟩
            clear SB
            go_wp2_with fail
            refine HC.out.mono ?_
            rintro e w1 ⟨v, rfl, hm⟩
            have R := Lib.hid (OK.out v w1 hm)
            clear hm HC OK
            go_wp2
            go_ret2
            exact R.out
          · rw [decide_eq_false h9] at SB
            have hj := JT.out (by omega)
            have R := OK.out (.slice (some ⟨w.heap.size, 0, none⟩) 2 2) (w.alloc (.cells #[.string a, .string b] 9)) (by
              rw [hj, V.str_of a, V.str_of b]
              exact Ck.lit w (Ck.strs [a.data.toList, b.data.toList]) 9 2 rfl (by decide))
            have R := Lib.hid R
            clear CJ JT HC OK hj h8 h9 h16
            go_enter Try.func31, Try.ntmps31
            go_wp2_with fail
            refine (HA.out _).mono ?_
            rintro e w1 ⟨rfl, rfl⟩
            go_wp2_with fail
            refine (HB.out _).mono ?_
            rintro e w1 ⟨rfl, rfl⟩
            clear HA HB
            go_wp2_with fail
            refine (SA.out _).mono ?_
            rintro e w1 ⟨rfl, rfl⟩
            clear SA
            go_wp2_with fail
            refine (SB.out _).mono ?_
            rintro e w1 ⟨rfl, rfl⟩
            clear SB
            go_wp2
            go_ret2
            exact R.out
      · have h17 : ¬ (16 : Int) < (a.size : Int) + (b.size : Int) := by omega
        rw [CJ.out (by omega)] at HC
        clear CJ JT SA SB h16
        go_enter Try.func31, Try.ntmps31
        go_wp2_with fail
        refine (HA.out _).mono ?_
        rintro e w1 ⟨rfl, rfl⟩
        go_wp2_with fail
        refine (HB.out _).mono ?_
        rintro e w1 ⟨rfl, rfl⟩
        clear HA HB
        go_wp2_with fail
        refine HC.out.mono ?_
        rintro e w1 ⟨v, rfl, hm⟩
        have R := Lib.hid (OK.out v w1 hm)
        clear hm HC OK
        go_wp2
        go_ret2
        exact R.out
    · have R := Lib.hid (Ck.jn_bad (a := a.data.toList) (b := b.data.toList) (fun h => hb h.2) w)
      rw [ha] at HA
      rw [Bool.eq_false_iff.2 hb] at HB
      clear ha hb
      go_enter Try.func31, Try.ntmps31
      go_wp2_with fail
      refine (HA.out _).mono ?_
      rintro e w1 ⟨rfl, rfl⟩
      go_wp2_with fail
      refine (HB.out _).mono ?_
      rintro e w1 ⟨rfl, rfl⟩
      clear HA HB
      go_wp2
      go_ret2
      exact R.out
  · have R := Lib.hid (Ck.jn_bad (a := a.data.toList) (b := b.data.toList) (fun h => ha h.1) w)
    rw [Bool.eq_false_iff.2 ha] at HA
    clear ha HB
    go_enter Try.func31, Try.ntmps31
    go_wp2_with fail
    refine (HA.out _).mono ?_
    rintro e w1 ⟨rfl, rfl⟩
    clear HA
    go_wp2
    go_ret2
    exact R.out
end Go.Proofs.Ytniccjbcchdkoaa
