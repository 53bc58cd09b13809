/- The contracts of the reference of layer 3: Piece, Check, Sizes, Same. -/
import Derived.Test.YtmbgcbgbdjiacaaProg
import Derived.Test.YtmbgcbgbdjiacaaPackMath
import Derived.WalkKit
import Derived.WalkSpells
import Derived.WalkLawsBesides
import Derived.LoopTactic
import Derived.Lib.Hide
import Derived.BigQuiet
import Derived.Deep.QuietTactic
import Derived.Outline
namespace Go.Proofs.Ytmbgcbgbdjiacaa
open Go.RowKit

theorem D.ret_bool {a b : Bool} (h : a = b) : Ending.returned (.bool a) = .returned (.bool b) := by rw [h]
theorem D.bcell {W w1 : World} (hb : Below W.heap.size W w1) : (∀ b o, b < W.heap.size → w1.cell? ⟨b, o, none⟩ = W.cell? ⟨b, o, none⟩) ∧ (∀ b o, b < W.heap.size → w1.frozen? ⟨b, o, none⟩ = W.frozen? ⟨b, o, none⟩) :=
  ⟨fun b o h => hb.cell (p := ⟨b, o, none⟩) h, fun b o h => hb.frozen (p := ⟨b, o, none⟩) h⟩
/-- A piece, as a value. -/
def D.val (p : D.P) : Value := .agg #[.int .u8 p.k, .int .i64 p.n, .string p.t]
/-- Pieces lie in a row. -/
def D.Row (W : World) (ao : Option Addr) (l : List D.P) : Prop :=
  ∀ (i : Nat) (p : D.P), l[i]? = some p → ∃ b o, ao = some ⟨b, o, none⟩ ∧ b < W.heap.size ∧
    W.cell? ⟨b, o + i * 3, none⟩ = some (.int .u8 p.k) ∧ W.cell? ⟨b, o + i * 3 + 1, none⟩ = some (.int .i64 p.n) ∧ W.cell? ⟨b, o + i * 3 + 2, none⟩ = some (.string p.t)
theorem D.Row.below {W W' : World} {ao : Option Addr} {l : List D.P} (h : D.Row W ao l) (hb : Below W.heap.size W W') : D.Row W' ao l := fun i p hp => by
  obtain ⟨b, o, e, hlt, h0, h1, h2⟩ := h i p hp
  have hc := (D.bcell hb).1
  exact ⟨b, o, e, Nat.lt_of_lt_of_le hlt hb.size, (hc _ _ hlt).trans h0, (hc _ _ hlt).trans h1, (hc _ _ hlt).trans h2⟩
theorem D.drop_cons {l : List D.P} {k : Nat} (h : k < l.length) : ∃ p, l[k]? = some p ∧ l.drop k = p :: l.drop (k + 1) :=
  ⟨l[k], List.getElem?_eq_getElem h, (List.drop_eq_getElem_cons h)⟩
theorem D.txt_empty {t : ByteArray} : (t.toList == ([] : List UInt8)) = decide (t.size = 0) := by
  rw [ByteArray.toList_eq, Bool.eq_iff_iff]
  simp only [beq_iff_eq, decide_eq_true_eq]
  constructor
  · intro h; have : t.data.toList.length = t.size := by simp
    rw [h] at this; exact this.symm
  · intro h; rw [D.empty_of_size h]
theorem D.isEmpty_eq {t : ByteArray} : t.toList.isEmpty = decide (t.size = 0) := by
  rw [← D.txt_empty, Bool.eq_iff_iff]
  cases t.toList <;> simp
set_option maxHeartbeats 1000000 in
theorem refPiece_any (p : D.P) (w : World) : Calls Try.prog 96 #[.agg #[.int .u8 p.k, .int .i64 p.n, .string p.t]] w fun e w' => e = .returned (.bool (D.vP p)) ∧ Below w.heap.size w w' := by
  obtain ⟨k, n, t⟩ := p
  go_enter Try.func96, Try.ntmps96
  go_wp2
  all_goals
    go_ret
    refine ⟨D.ret_bool ?_, (Below.refl _ _).alloc (Nat.le_refl _) _⟩
    try rw [D.isEmpty_eq]
    first
      | (obtain rfl : k = 2 := by simpa using (by assumption : (k == 2) = true)
         rw [D.vP_two]
         first
           | (rw [decide_eq_true (by assumption : n = 0), Bool.true_and, decide_not])
           | (rw [decide_eq_false (by assumption : ¬ n = 0), Bool.false_and]))
      | (have hk2 : k ≠ 2 := by simpa using (by assumption : (k == 2) = false)
         rw [D.vP_else (by omega)]
         first
           | (rw [decide_eq_true (show 1 ≤ n by omega)]; subst_vars; rfl)
           | (rw [decide_eq_false (show ¬ 1 ≤ n by omega), Bool.and_false, Bool.false_and])
           | (rw [decide_eq_false (show ¬ k = 1 by omega), decide_eq_false (show ¬ k = 3 by omega)]; rfl))
/-- Between two rounds of a check: what is left has the error of the whole. -/
structure D.Chk (l : List D.P) (k : Nat) (i o : Int) (w wr : World) : Prop where
  same : D.chkF i o (l.drop k) = D.chkF 0 0 l
  below : Below w.heap.size w wr
theorem D.cell3 {W V : World} {b o : Nat} {p : D.P} (hb : Below W.heap.size W V) (hlt : b < W.heap.size)
    (h : W.cell? ⟨b, o, none⟩ = some (.int .u8 p.k) ∧ W.cell? ⟨b, o + 1, none⟩ = some (.int .i64 p.n) ∧ W.cell? ⟨b, o + 2, none⟩ = some (.string p.t)) :
    V.cell? ⟨b, o, none⟩ = some (.int .u8 p.k) ∧ V.cell? ⟨b, o + 1, none⟩ = some (.int .i64 p.n) ∧ V.cell? ⟨b, o + 2, none⟩ = some (.string p.t) :=
  ⟨((D.bcell hb).1 _ _ hlt).trans h.1, ((D.bcell hb).1 _ _ hlt).trans h.2.1, ((D.bcell hb).1 _ _ hlt).trans h.2.2⟩
theorem D.box {W V : World} (p : D.P) (t : TypeId) (hb : Below (W.alloc (.cells #[.int .u8 p.k, .int .i64 p.n, .string p.t] t)).heap.size (W.alloc (.cells #[.int .u8 p.k, .int .i64 p.n, .string p.t] t)) V) :
    V.cell? ⟨W.heap.size, 0, none⟩ = some (.int .u8 p.k) ∧ V.cell? ⟨W.heap.size, 1, none⟩ = some (.int .i64 p.n) ∧ V.cell? ⟨W.heap.size, 2, none⟩ = some (.string p.t) := by
  have hc := (D.bcell hb).1
  refine ⟨(hc _ _ (by simp)).trans ?_, (hc _ _ (by simp)).trans ?_, (hc _ _ (by simp)).trans ?_⟩ <;> simp [go_sem]
set_option maxHeartbeats 4000000 in
theorem refCheck_any (ao : Option Addr) (cap : Nat) (l : List D.P) (w : World) (hn : l.length ≤ maxLen) (hr : D.Row w ao l) (ht : ∀ p ∈ l, p.t.size ≤ 140737488351232) :
    Calls Try.prog 66 #[.slice ao l.length cap] w fun e w' => e = .returned (.int .i64 (D.chk l)) ∧ Below w.heap.size w w' := by
  have Hr := Lib.hid hr
  have Ht := Lib.hid ht
  clear hr ht
  unfold maxLen at hn
  have hB := Below.refl w.heap.size w
  by_cases hl : 4096 < l.length
  · have hd : Hid (D.chk l = 5) := by show _ = _; rw [D.chk, if_pos hl]
    go_enter Try.func66, Try.ntmps66
    go_wp2
    go_ret
    exact ⟨by rw [hd.out]; rfl, hB⟩
  · have hd : Hid (D.chk l = D.chkF 0 0 l) := by show _ = _; rw [D.chk, if_neg hl]
    have hl' : decide (4096 < l.length) = false := by simpa using hl
    go_enter Try.func66, Try.ntmps66
    go_wp2
    go_loopw [3, 4, 5] (fun a b j wr => ∃ (k : Nat) (i o : Int), k ≤ l.length ∧ j = .int .i64 k ∧ a = .int .i64 i ∧ b = .int .i64 o ∧ 0 ≤ i ∧ i ≤ 1048576 ∧ 0 ≤ o ∧ o ≤ 1048576 ∧ Hid (D.Chk l k i o w wr)) (fun _ _ j _ => l.length - (intOf j).toNat)
    case atStart => exact ⟨0, 0, 0, Nat.zero_le _, rfl, rfl, rfl, by omega, by omega, by omega, by omega, ⟨rfl, hB⟩⟩
    case round =>
      obtain ⟨k, i, o, hk, rfl, rfl, rfl, hi0, hi1, ho0, ho1, hm⟩ := hrel
      clear hl' hB
      by_cases hlt : k < l.length
      · obtain ⟨p, hp, hdr⟩ := D.drop_cons hlt
        obtain ⟨b, q, e, hbl, hc⟩ := Hr.out k p hp
        subst e
        have htp := Ht.out p (List.mem_of_getElem? hp)
        have hc' := D.cell3 hm.out.below hbl hc
        obtain ⟨c0, c1, c2⟩ := hc'
        have hsame : Hid (D.chkF i o (p :: l.drop (k + 1)) = D.chkF 0 0 l) := by show _ = _; rw [← hdr]; exact hm.out.same
        have hbw := Lib.hid hm.out.below
        clear hdr hp hc hm
        cases hv : D.vP p with
        | false =>
          have hres : Hid (D.chkF 0 0 l = 2) := by show _ = _; rw [← hsame.out, D.chkF_bad _ _ _ _ hv]
          have hpc := refPiece_any p (wr.alloc (.cells #[.int .u8 p.k, .int .i64 p.n, .string p.t] 53))
          rw [hv] at hpc
          have Hpc := Lib.hid hpc
          clear hpc hv
          go_wp2_with fail
          refine Hpc.out.mono ?_
          rintro e w1 ⟨rfl, hb1⟩
          go_wp2
          go_ret
          exact ⟨by rw [hd.out, hres.out]; rfl, (hbw.out.alloc hbw.out.size _).trans (hb1.mono (by have := hbw.out.size; simp only [World.size_alloc]; omega))⟩
        | true =>
          have hpc : Hid (∀ V, Calls Try.prog 96 #[.agg #[.int .u8 p.k, .int .i64 p.n, .string p.t]] V fun e w' => e = .returned (.bool true) ∧ Below V.heap.size V w') := fun V => by
            have h := refPiece_any p V
            rwa [hv] at h
          have hz := hbw.out.size
          rcases D.vP_forms hv with ⟨n, hn0, rfl⟩ | ⟨t, ht0, rfl⟩ | ⟨n, hn0, rfl⟩
          · have hst := D.chkF_R i o n (l.drop (k + 1)) hn0 (show o ≤ D.most from ho1)
            rw [hsame.out] at hst
            unfold D.most at hst
            have hst := Lib.hid hst
            by_cases c1 : 1048576 - i < (n : Int)
            · have hres : Hid (D.chkF 0 0 l = 5) := by show _ = _; rw [hst.out, if_pos c1]
              clear hst
              clear hv hsame
              go_wp2_with fail
              refine (hpc.out _).mono ?_
              rintro e w1 ⟨rfl, hb1⟩
              obtain ⟨b0, b1, b2⟩ := D.box ⟨1, n, ⟨#[]⟩⟩ _ hb1
              have hbn := Lib.hid ((hbw.out.alloc hz (.cells #[.int .u8 (⟨1, n, ⟨#[]⟩⟩ : D.P).k, .int .i64 (⟨1, n, ⟨#[]⟩⟩ : D.P).n, .string (⟨1, n, ⟨#[]⟩⟩ : D.P).t] 53)).trans (hb1.mono (by simp only [World.size_alloc]; omega)))
              clear hb1 hbw hpc
              go_wp2
              go_ret
              exact ⟨by rw [hd.out, hres.out]; rfl, hbn.out⟩
            · by_cases c2 : 1048576 - o < (n : Int)
              · have hres : Hid (D.chkF 0 0 l = 5) := by show _ = _; rw [hst.out, if_neg c1, if_pos c2]
                clear hst
                clear hv hsame
                go_wp2_with fail
                refine (hpc.out _).mono ?_
                rintro e w1 ⟨rfl, hb1⟩
                obtain ⟨b0, b1, b2⟩ := D.box ⟨1, n, ⟨#[]⟩⟩ _ hb1
                have hbn := Lib.hid ((hbw.out.alloc hz (.cells #[.int .u8 (⟨1, n, ⟨#[]⟩⟩ : D.P).k, .int .i64 (⟨1, n, ⟨#[]⟩⟩ : D.P).n, .string (⟨1, n, ⟨#[]⟩⟩ : D.P).t] 53)).trans (hb1.mono (by simp only [World.size_alloc]; omega)))
                clear hb1 hbw hpc
                go_wp2
                go_ret
                exact ⟨by rw [hd.out, hres.out]; rfl, hbn.out⟩
              · have hst : Hid (D.chkF (i + n) (o + n) (l.drop (k + 1)) = D.chkF 0 0 l) := by show _ = _; rw [hst.out, if_neg c1, if_neg c2]
                have z1 : ¬ 1048576 - o < (0 : Int) := by omega
                clear hv hsame
                go_wp2_with fail
                refine (hpc.out _).mono ?_
                rintro e w1 ⟨rfl, hb1⟩
                obtain ⟨b0, b1, b2⟩ := D.box ⟨1, n, ⟨#[]⟩⟩ _ hb1
                have hbn := Lib.hid ((hbw.out.alloc hz (.cells #[.int .u8 (⟨1, n, ⟨#[]⟩⟩ : D.P).k, .int .i64 (⟨1, n, ⟨#[]⟩⟩ : D.P).n, .string (⟨1, n, ⟨#[]⟩⟩ : D.P).t] 53)).trans (hb1.mono (by simp only [World.size_alloc]; omega)))
                clear hb1 hbw hpc
                go_wp2
                go_roundw
                case rel => exact ⟨k + 1, i + n, o + n, by omega, by go_num, by go_num, by go_num, by omega, by omega, by omega, by omega, ⟨hst.out, hbn.out⟩⟩
                case measure => simp [intOf]; omega
          · have hst := D.chkF_I i o t (l.drop (k + 1)) ht0
            rw [hsame.out] at hst
            unfold D.most at hst
            have hst := Lib.hid hst
            by_cases c2 : 1048576 - o < (t.size : Int)
            · have hres : Hid (D.chkF 0 0 l = 5) := by show _ = _; rw [hst.out, if_pos c2]
              clear hst
              clear hv hsame
              go_wp2_with fail
              refine (hpc.out _).mono ?_
              rintro e w1 ⟨rfl, hb1⟩
              obtain ⟨b0, b1, b2⟩ := D.box ⟨2, 0, t⟩ _ hb1
              have hbn := Lib.hid ((hbw.out.alloc hz (.cells #[.int .u8 (⟨2, 0, t⟩ : D.P).k, .int .i64 (⟨2, 0, t⟩ : D.P).n, .string (⟨2, 0, t⟩ : D.P).t] 53)).trans (hb1.mono (by simp only [World.size_alloc]; omega)))
              clear hb1 hbw hpc
              go_wp2
              go_ret
              exact ⟨by rw [hd.out, hres.out]; rfl, hbn.out⟩
            · have hst : Hid (D.chkF i (o + t.size) (l.drop (k + 1)) = D.chkF 0 0 l) := by show _ = _; rw [hst.out, if_neg c2]
              clear hv hsame
              go_wp2_with fail
              refine (hpc.out _).mono ?_
              rintro e w1 ⟨rfl, hb1⟩
              obtain ⟨b0, b1, b2⟩ := D.box ⟨2, 0, t⟩ _ hb1
              have hbn := Lib.hid ((hbw.out.alloc hz (.cells #[.int .u8 (⟨2, 0, t⟩ : D.P).k, .int .i64 (⟨2, 0, t⟩ : D.P).n, .string (⟨2, 0, t⟩ : D.P).t] 53)).trans (hb1.mono (by simp only [World.size_alloc]; omega)))
              clear hb1 hbw hpc
              go_wp2
              go_roundw
              case rel => exact ⟨k + 1, i, o + t.size, by omega, by go_num, by go_num, by go_num, by omega, by omega, by omega, by omega, ⟨hst.out, hbn.out⟩⟩
              case measure => simp [intOf]; omega
          · have hst := D.chkF_D i o n (l.drop (k + 1)) hn0 (show o ≤ D.most from ho1)
            rw [hsame.out] at hst
            unfold D.most at hst
            have hst := Lib.hid hst
            by_cases c1 : 1048576 - i < (n : Int)
            · have hres : Hid (D.chkF 0 0 l = 5) := by show _ = _; rw [hst.out, if_pos c1]
              clear hst
              clear hv hsame
              go_wp2_with fail
              refine (hpc.out _).mono ?_
              rintro e w1 ⟨rfl, hb1⟩
              obtain ⟨b0, b1, b2⟩ := D.box ⟨3, n, ⟨#[]⟩⟩ _ hb1
              have hbn := Lib.hid ((hbw.out.alloc hz (.cells #[.int .u8 (⟨3, n, ⟨#[]⟩⟩ : D.P).k, .int .i64 (⟨3, n, ⟨#[]⟩⟩ : D.P).n, .string (⟨3, n, ⟨#[]⟩⟩ : D.P).t] 53)).trans (hb1.mono (by simp only [World.size_alloc]; omega)))
              clear hb1 hbw hpc
              go_wp2
              go_ret
              exact ⟨by rw [hd.out, hres.out]; rfl, hbn.out⟩
            · have hst : Hid (D.chkF (i + n) o (l.drop (k + 1)) = D.chkF 0 0 l) := by show _ = _; rw [hst.out, if_neg c1]
              have z1 : ¬ 1048576 - o < (0 : Int) := by omega
              clear hv hsame
              go_wp2_with fail
              refine (hpc.out _).mono ?_
              rintro e w1 ⟨rfl, hb1⟩
              obtain ⟨b0, b1, b2⟩ := D.box ⟨3, n, ⟨#[]⟩⟩ _ hb1
              have hbn := Lib.hid ((hbw.out.alloc hz (.cells #[.int .u8 (⟨3, n, ⟨#[]⟩⟩ : D.P).k, .int .i64 (⟨3, n, ⟨#[]⟩⟩ : D.P).n, .string (⟨3, n, ⟨#[]⟩⟩ : D.P).t] 53)).trans (hb1.mono (by simp only [World.size_alloc]; omega)))
              clear hb1 hbw hpc
              go_wp2
              go_roundw
              case rel => exact ⟨k + 1, i + n, o, by omega, by go_num, by go_num, by go_num, by omega, by omega, by omega, by omega, ⟨hst.out, hbn.out⟩⟩
              case measure => simp [intOf]; omega
      · obtain rfl : k = l.length := by omega
        have hres : Hid (D.chkF 0 0 l = 0) := by show _ = _; rw [← hm.out.same, List.drop_length]; rfl
        go_wp2
        go_ret
        exact ⟨by rw [hd.out, hres.out]; rfl, hm.out.below⟩
end Go.Proofs.Ytmbgcbgbdjiacaa
