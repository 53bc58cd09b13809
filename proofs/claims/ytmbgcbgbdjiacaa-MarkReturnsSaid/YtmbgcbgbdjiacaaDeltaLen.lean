/- The contracts of package delta: valid, extent, Lengths, Check. -/
import Derived.Test.YtmbgcbgbdjiacaaDeltaRef1
namespace Go.Proofs.Ytmbgcbgbdjiacaa
open Go.RowKit

set_option maxHeartbeats 1000000 in
theorem valid_any (p : D.P) (w : World) : Calls Try.prog 48 #[.agg #[.int .u8 p.k, .int .i64 p.n, .string p.t]] w fun e w' => e = .returned (.bool (D.vP p)) ∧ Below w.heap.size w w' := by
  obtain ⟨k, n, t⟩ := p
  go_enter Try.func48, Try.ntmps48
  go_wp2
  all_goals
    go_ret
    refine ⟨D.ret_bool ?_, (Below.refl _ _).alloc (Nat.le_refl _) _⟩
    try rw [D.isEmpty_eq]
    first
      | (have h2 : k = 2 := by simpa using (by assumption : (k == 2) = true)
         subst h2
         rw [D.vP_two]
         first
           | (rw [decide_eq_true (by assumption : n = 0), Bool.true_and, decide_not])
           | (rw [decide_eq_false (by assumption : ¬ n = 0), Bool.false_and]))
      | (have h1 : k = 1 := by simpa using (by assumption : (k == 1) = true)
         subst h1
         rw [D.vP_else (by decide)]
         first
           | (rw [decide_eq_true (show 1 ≤ n by omega)]; rfl)
           | (rw [decide_eq_false (show ¬ 1 ≤ n by omega), Bool.and_false, Bool.false_and]))
      | (have h1 : k = 3 := by simpa using (by assumption : (k == 3) = true)
         subst h1
         rw [D.vP_else (by decide)]
         first
           | (rw [decide_eq_true (show 1 ≤ n by omega)]; rfl)
           | (rw [decide_eq_false (show ¬ 1 ≤ n by omega), Bool.and_false, Bool.false_and]))
      | (have e1 : k ≠ 1 := by simpa using (by assumption : (k == 1) = false)
         have e2 : k ≠ 2 := by simpa using (by assumption : (k == 2) = false)
         have e3 : k ≠ 3 := by simpa using (by assumption : (k == 3) = false)
         rw [D.vP_else e2, decide_eq_false e1, decide_eq_false e3]; rfl)
set_option maxHeartbeats 1000000 in
theorem extent_R (n : Nat) (w : World) : Calls Try.prog 49 #[.agg #[.int .u8 1, .int .i64 n, .string ⟨#[]⟩]] w fun e w' => e = .returned (.tuple #[.int .i64 n, .int .i64 n]) ∧ Below w.heap.size w w' := by
  go_enter Try.func49, Try.ntmps49
  go_wp2_with fail
  go_quiet (fail)
  go_wp2
  go_ret2
  exact ⟨rfl, below_drewN ((Below.refl _ _).alloc (Nat.le_refl _) _) _⟩
set_option maxHeartbeats 1000000 in
theorem extent_D (n : Nat) (w : World) : Calls Try.prog 49 #[.agg #[.int .u8 3, .int .i64 n, .string ⟨#[]⟩]] w fun e w' => e = .returned (.tuple #[.int .i64 n, .int .i64 0]) ∧ Below w.heap.size w w' := by
  go_enter Try.func49, Try.ntmps49
  go_wp2
  go_ret2
  exact ⟨rfl, ((Below.refl _ _).alloc (Nat.le_refl _) _)⟩
set_option maxHeartbeats 1000000 in
theorem extent_I (t : ByteArray) (w : World) : Calls Try.prog 49 #[.agg #[.int .u8 2, .int .i64 0, .string t]] w fun e w' => e = .returned (.tuple #[.int .i64 0, .int .i64 t.size]) ∧ Below w.heap.size w w' := by
  go_enter Try.func49, Try.ntmps49
  go_wp2_with fail
  go_quiet (fail)
  go_wp2
  go_ret2
  exact ⟨rfl, below_drewN ((Below.refl _ _).alloc (Nat.le_refl _) _) _⟩
/-- Between two rounds of Lengths. -/
structure D.LenAt (l : List D.P) (k : Nat) (i o : Int) (w wr : World) : Prop where
  same : D.chkF i o (l.drop k) = D.chkF 0 0 l
  inq : D.chkF 0 0 l = 0 → i + D.inP (l.drop k) = D.inP l ∧ o + D.outP (l.drop k) = D.outP l
  below : Below w.heap.size w wr
def D.lenI (l : List D.P) : Int := if D.chk l = 0 then D.inP l else 0
def D.lenO (l : List D.P) : Int := if D.chk l = 0 then D.outP l else 0
def D.LenEnd (l : List D.P) (w : World) (e : Ending) (w' : World) : Prop := e = .returned (.tuple #[.int .i64 (D.lenI l), .int .i64 (D.lenO l), .int .i64 (D.chk l)]) ∧ Below w.heap.size w w'
theorem D.len_bad {l : List D.P} {w w' : World} {c : Int} (h : D.chk l = c) (hc : c ≠ 0) (hb : Below w.heap.size w w') : D.LenEnd l w (.returned (.tuple #[.int .i64 0, .int .i64 0, .int .i64 c])) w' := by
  unfold D.LenEnd D.lenI D.lenO
  rw [h, if_neg hc, if_neg hc]
  exact ⟨rfl, hb⟩
set_option maxHeartbeats 4000000 in
theorem lengths_any (ao : Option Addr) (cap : Nat) (l : List D.P) (w : World) (hn : l.length ≤ maxLen) (hr : D.Row w ao l) (ht : ∀ p ∈ l, p.t.size ≤ 140737488351232) :
    Calls Try.prog 28 #[.slice ao l.length cap] w (D.LenEnd l w) := by
  have Hr := Lib.hid hr
  have Ht := Lib.hid ht
  clear hr ht
  unfold maxLen at hn
  have hB := Below.refl w.heap.size w
  by_cases hl : 4096 < l.length
  · have R : Hid (∀ w', Below w.heap.size w w' → D.LenEnd l w (.returned (.tuple #[.int .i64 0, .int .i64 0, .int .i64 5])) w') := fun w' hb => D.len_bad (by rw [D.chk, if_pos hl]) (by decide) hb
    go_enter Try.func28, Try.ntmps28
    go_wp2
    go_ret3
    exact R.out w hB
  · have hd : Hid (D.chk l = D.chkF 0 0 l) := by show _ = _; rw [D.chk, if_neg hl]
    have hl' : decide (4096 < l.length) = false := by simpa using hl
    go_enter Try.func28, Try.ntmps28
    go_wp2
    go_loopw [2, 3, 14] (fun a b j wr => ∃ (k : Nat) (i o : Int), k ≤ l.length ∧ j = .int .i64 k ∧ a = .int .i64 i ∧ b = .int .i64 o ∧ 0 ≤ i ∧ i ≤ 1048576 ∧ 0 ≤ o ∧ o ≤ 1048576 ∧ Hid (D.LenAt l k i o w wr)) (fun _ _ j _ => l.length - (intOf j).toNat)
    case atStart => exact ⟨0, 0, 0, Nat.zero_le _, rfl, rfl, rfl, by omega, by omega, by omega, by omega, ⟨rfl, fun _ => ⟨Int.zero_add _, Int.zero_add _⟩, hB⟩⟩
    case round =>
      obtain ⟨k, i, o, hk, rfl, rfl, rfl, hi0, hi1, ho0, ho1, hm⟩ := hrel
      clear hl' hB
      by_cases hlt : k < l.length
      · obtain ⟨p, hp, hdr⟩ := D.drop_cons hlt
        obtain ⟨b, q, e, hbl, hc⟩ := Hr.out k p hp
        subst e
        have htp := Ht.out p (List.mem_of_getElem? hp)
        have hc' := D.cell3 hm.out.below hbl hc
        obtain ⟨c0, c1, c2⟩ := hc'
        have hsame : Hid (D.chkF i o (p :: l.drop (k + 1)) = D.chkF 0 0 l) := by show _ = _; rw [← hdr]; exact hm.out.same
        have hinq : Hid (D.chkF 0 0 l = 0 → i + (p.n + D.inP (l.drop (k + 1))) = D.inP l ∧ o + (((if p.k = 1 then p.n else 0) + (p.t.size : Int)) + D.outP (l.drop (k + 1))) = D.outP l) := by
          intro hz
          have := hm.out.inq hz
          rw [hdr] at this
          exact this
        have hbw := Lib.hid hm.out.below
        clear hdr hp hc hm
        cases hv : D.vP p with
        | false =>
          have R : Hid (∀ w', Below w.heap.size w w' → D.LenEnd l w (.returned (.tuple #[.int .i64 0, .int .i64 0, .int .i64 2])) w') := fun w' hb => D.len_bad (by rw [hd.out, ← hsame.out, D.chkF_bad _ _ _ _ hv]) (by decide) hb
          have hpc : Hid (∀ V, Calls Try.prog 48 #[.agg #[.int .u8 p.k, .int .i64 p.n, .string p.t]] V fun e w' => e = .returned (.bool false) ∧ Below V.heap.size V w') := fun V => by
            have h := valid_any p V
            rwa [hv] at h
          clear hv hinq hsame
          go_wp2_with fail
          refine (hpc.out _).mono ?_
          rintro e w1 ⟨rfl, hb1⟩
          have R := Lib.hid (R.out w1 ((hbw.out.alloc hbw.out.size _).trans (hb1.mono (by have := hbw.out.size; simp only [World.size_alloc]; omega))))
          clear hb1
          go_wp2
          go_ret3
          exact R.out
        | true =>
          have hpc : Hid (∀ V, Calls Try.prog 48 #[.agg #[.int .u8 p.k, .int .i64 p.n, .string p.t]] V fun e w' => e = .returned (.bool true) ∧ Below V.heap.size V w') := fun V => by
            have h := valid_any p V
            rwa [hv] at h
          have hz := hbw.out.size
          rcases D.vP_forms hv with ⟨n, hn0, rfl⟩ | ⟨t, ht0, rfl⟩ | ⟨n, hn0, rfl⟩
          · have hst := D.chkF_R i o n (l.drop (k + 1)) hn0 (show o ≤ D.most from ho1)
            rw [hsame.out] at hst
            unfold D.most at hst
            have hst := Lib.hid hst
            have hex : Hid (∀ V, Calls Try.prog 49 #[.agg #[.int .u8 1, .int .i64 n, .string ⟨#[]⟩]] V fun e w' => e = .returned (.tuple #[.int .i64 n, .int .i64 n]) ∧ Below V.heap.size V w') := fun V => extent_R n V
            clear hv hsame
            go_wp2_with fail
            refine (hpc.out _).mono ?_
            rintro e w1 ⟨rfl, hb1⟩
            obtain ⟨b0, b1, b2⟩ := D.box ⟨1, n, ⟨#[]⟩⟩ _ hb1
            have hbn := Lib.hid ((hbw.out.alloc hz (.cells #[.int .u8 (⟨1, n, ⟨#[]⟩⟩ : D.P).k, .int .i64 (⟨1, n, ⟨#[]⟩⟩ : D.P).n, .string (⟨1, n, ⟨#[]⟩⟩ : D.P).t] 53)).trans (hb1.mono (by simp only [World.size_alloc]; omega)))
            clear hb1 hbw hpc
            go_wp2_with fail
            refine (hex.out _).mono ?_
            rintro e w2 ⟨rfl, hb2⟩
            have hbm := Lib.hid (hbn.out.trans (hb2.mono hbn.out.size))
            clear hb2 hbn hex b0 b1 b2
            by_cases c1 : 1048576 - i < (n : Int)
            · have R : Hid (D.LenEnd l w (.returned (.tuple #[.int .i64 0, .int .i64 0, .int .i64 5])) w2) := D.len_bad (by rw [hd.out, hst.out, if_pos c1]) (by decide) hbm.out
              clear hst
              go_wp2
              go_ret3
              exact R.out
            · by_cases c2 : 1048576 - o < (n : Int)
              · have R : Hid (D.LenEnd l w (.returned (.tuple #[.int .i64 0, .int .i64 0, .int .i64 5])) w2) := D.len_bad (by rw [hd.out, hst.out, if_neg c1, if_pos c2]) (by decide) hbm.out
                clear hst
                go_wp2
                go_ret3
                exact R.out
              · have hst : Hid (D.chkF (i + n) (o + n) (l.drop (k + 1)) = D.chkF 0 0 l) := by show _ = _; rw [hst.out, if_neg c1, if_neg c2]
                have hinq : Hid (D.chkF 0 0 l = 0 → (i + n) + D.inP (l.drop (k + 1)) = D.inP l ∧ (o + n) + D.outP (l.drop (k + 1)) = D.outP l) := fun hz => by
                  have := hinq.out hz
                  simp only [if_true, D.size_e] at this
                  omega
                go_wp2
                go_roundw
                case rel => exact ⟨k + 1, i + n, o + n, by omega, by go_num, by go_num, by go_num, by omega, by omega, by omega, by omega, ⟨hst.out, hinq.out, hbm.out⟩⟩
                case measure => simp [intOf]; omega
          · have hst := D.chkF_I i o t (l.drop (k + 1)) ht0
            rw [hsame.out] at hst
            unfold D.most at hst
            have hst := Lib.hid hst
            have hex : Hid (∀ V, Calls Try.prog 49 #[.agg #[.int .u8 2, .int .i64 0, .string t]] V fun e w' => e = .returned (.tuple #[.int .i64 0, .int .i64 t.size]) ∧ Below V.heap.size V w') := fun V => extent_I t V
            clear hv hsame
            go_wp2_with fail
            refine (hpc.out _).mono ?_
            rintro e w1 ⟨rfl, hb1⟩
            obtain ⟨b0, b1, b2⟩ := D.box ⟨2, 0, t⟩ _ hb1
            have hbn := Lib.hid ((hbw.out.alloc hz (.cells #[.int .u8 (⟨2, 0, t⟩ : D.P).k, .int .i64 (⟨2, 0, t⟩ : D.P).n, .string (⟨2, 0, t⟩ : D.P).t] 53)).trans (hb1.mono (by simp only [World.size_alloc]; omega)))
            clear hb1 hbw hpc
            go_wp2_with fail
            refine (hex.out _).mono ?_
            rintro e w2 ⟨rfl, hb2⟩
            have hbm := Lib.hid (hbn.out.trans (hb2.mono hbn.out.size))
            clear hb2 hbn hex b0 b1 b2
            have z1 : ¬ 1048576 - i < (0 : Int) := by omega
            by_cases c2 : 1048576 - o < (t.size : Int)
            · have R : Hid (D.LenEnd l w (.returned (.tuple #[.int .i64 0, .int .i64 0, .int .i64 5])) w2) := D.len_bad (by rw [hd.out, hst.out, if_pos c2]) (by decide) hbm.out
              clear hst
              go_wp2
              go_ret3
              exact R.out
            · have hst : Hid (D.chkF i (o + t.size) (l.drop (k + 1)) = D.chkF 0 0 l) := by show _ = _; rw [hst.out, if_neg c2]
              have hinq : Hid (D.chkF 0 0 l = 0 → i + D.inP (l.drop (k + 1)) = D.inP l ∧ (o + t.size) + D.outP (l.drop (k + 1)) = D.outP l) := fun hz => by
                have := hinq.out hz
                simp only [if_false, show ¬ (2 : Int) = 1 by decide] at this
                omega
              go_wp2
              go_roundw
              case rel => exact ⟨k + 1, i, o + t.size, by omega, by go_num, by go_num, by go_num, by omega, by omega, by omega, by omega, ⟨hst.out, hinq.out, hbm.out⟩⟩
              case measure => simp [intOf]; omega
          · have hst := D.chkF_D i o n (l.drop (k + 1)) hn0 (show o ≤ D.most from ho1)
            rw [hsame.out] at hst
            unfold D.most at hst
            have hst := Lib.hid hst
            have hex : Hid (∀ V, Calls Try.prog 49 #[.agg #[.int .u8 3, .int .i64 n, .string ⟨#[]⟩]] V fun e w' => e = .returned (.tuple #[.int .i64 n, .int .i64 0]) ∧ Below V.heap.size V w') := fun V => extent_D n V
            clear hv hsame
            go_wp2_with fail
            refine (hpc.out _).mono ?_
            rintro e w1 ⟨rfl, hb1⟩
            obtain ⟨b0, b1, b2⟩ := D.box ⟨3, n, ⟨#[]⟩⟩ _ hb1
            have hbn := Lib.hid ((hbw.out.alloc hz (.cells #[.int .u8 (⟨3, n, ⟨#[]⟩⟩ : D.P).k, .int .i64 (⟨3, n, ⟨#[]⟩⟩ : D.P).n, .string (⟨3, n, ⟨#[]⟩⟩ : D.P).t] 53)).trans (hb1.mono (by simp only [World.size_alloc]; omega)))
            clear hb1 hbw hpc
            go_wp2_with fail
            refine (hex.out _).mono ?_
            rintro e w2 ⟨rfl, hb2⟩
            have hbm := Lib.hid (hbn.out.trans (hb2.mono hbn.out.size))
            clear hb2 hbn hex b0 b1 b2
            have z1 : ¬ 1048576 - o < (0 : Int) := by omega
            by_cases c1 : 1048576 - i < (n : Int)
            · have R : Hid (D.LenEnd l w (.returned (.tuple #[.int .i64 0, .int .i64 0, .int .i64 5])) w2) := D.len_bad (by rw [hd.out, hst.out, if_pos c1]) (by decide) hbm.out
              clear hst
              go_wp2
              go_ret3
              exact R.out
            · have hst : Hid (D.chkF (i + n) o (l.drop (k + 1)) = D.chkF 0 0 l) := by show _ = _; rw [hst.out, if_neg c1]
              have hinq : Hid (D.chkF 0 0 l = 0 → (i + n) + D.inP (l.drop (k + 1)) = D.inP l ∧ o + D.outP (l.drop (k + 1)) = D.outP l) := fun hz => by
                have := hinq.out hz
                simp only [if_false, D.size_e, show ¬ (3 : Int) = 1 by decide] at this
                omega
              go_wp2
              go_roundw
              case rel => exact ⟨k + 1, i + n, o, by omega, by go_num, by go_num, by go_num, by omega, by omega, by omega, by omega, ⟨hst.out, hinq.out, hbm.out⟩⟩
              case measure => simp [intOf]; omega
      · obtain rfl : k = l.length := by omega
        have hres : D.chkF 0 0 l = 0 := by rw [← hm.out.same, List.drop_length]; rfl
        have hq := hm.out.inq hres
        rw [List.drop_length] at hq
        have R : Hid (D.LenEnd l w (.returned (.tuple #[.int .i64 i, .int .i64 o, .int .i64 0])) wr) := by
          have hz : D.chk l = 0 := by rw [hd.out, hres]
          have e1 : i = D.inP l := by have := hq.1; simp only [D.inP] at this; omega
          have e2 : o = D.outP l := by have := hq.2; simp only [D.outP] at this; omega
          show D.LenEnd _ _ _ _
          unfold D.LenEnd D.lenI D.lenO
          rw [hz, if_pos rfl, if_pos rfl, e1, e2]
          exact ⟨rfl, hm.out.below⟩
        clear hres hq
        go_wp2
        go_ret3
        exact R.out
theorem check_any (ao : Option Addr) (cap : Nat) (l : List D.P) (w : World) (hn : l.length ≤ maxLen) (hr : D.Row w ao l) (ht : ∀ p ∈ l, p.t.size ≤ 140737488351232) :
    Calls Try.prog 74 #[.slice ao l.length cap] w fun e w' => e = .returned (.int .i64 (D.chk l)) ∧ Below w.heap.size w w' := by
  have hc := lengths_any ao cap l w hn hr ht
  unfold D.LenEnd at hc
  generalize D.chk l = c at hc
  generalize D.lenI l = i at hc
  generalize D.lenO l = o at hc
  have Hc := Lib.hid hc
  clear hc hr ht hn
  go_enter Try.func74, Try.ntmps74
  go_wp2_with fail
  refine Hc.out.mono ?_
  rintro e w1 ⟨rfl, hb⟩
  go_wp2
  go_ret
  exact ⟨rfl, hb⟩
end Go.Proofs.Ytmbgcbgbdjiacaa
