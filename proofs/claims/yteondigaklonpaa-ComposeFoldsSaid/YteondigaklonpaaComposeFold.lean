/- The walk of ComposeFolds. -/
import Derived.Test.YteondigaklonpaaComposeLawKit
import Derived.Test.YteondigaklonpaaDeltaList
namespace Go.Proofs.Yteondigaklonpaa
open Go.RowKit

theorem C.rows_take {W : World} {lo : Option Addr} {L : List D.Src} (h : D.Rows W lo L) (k : Nat) : D.Rows W lo (L.take k) := fun i s hs => by
  rw [List.getElem?_take] at hs
  split at hs
  · exact h i s hs
  · cases hs
theorem C.rows_drop {W : World} {b o : Nat} {L : List D.Src} (h : D.Rows W (some ⟨b, o, none⟩) L) (k : Nat) : D.Rows W (some ⟨b, o + k, none⟩) (L.drop k) := fun i s hs => by
  rw [List.getElem?_drop] at hs
  obtain ⟨b', o', e, hl, hc, hk⟩ := h (k + i) s hs
  cases e
  exact ⟨b, o + k, rfl, hl, by rw [show o + k + i = o + (k + i) by omega]; exact hc, hk⟩
set_option maxRecDepth 100000 in
theorem C.slice_to (lo : Option Addr) (n c k : Nat) (hk : k ≤ c) (W : World) : (Instr.slice 32 (.slice lo n c) none (some (.int .i64 (k : Int))) none).run Try.prog W = .ok (.slice lo k c) W := by
  have h := run_slice_h (P := Try.prog) (w := W) 32 lo n c Try.underlying32 .i64 (k : Int) (by omega) (by omega)
  rw [h]
  obtain ⟨i0, hi, hz0, hz1, hz2⟩ := info_parts Try.infoRow
  have hs : (sizeOf (Try.prog.elem 32)).run Try.prog W = .ok 1 W := by kernel_rfl
  rw [hs]
  simp only [Result.andThen, sliced, Int.toNat_natCast, Nat.sub_zero]
  cases lo <;> simp [Addr.add]
set_option maxRecDepth 100000 in
theorem C.slice_from (W0 : World) (lo : Option Addr) (L : List D.Src) (c k : Nat) (hl : L.length ≤ c) (hk : k ≤ L.length) (hn : lo = none → c = 0) (hr : D.Rows W0 lo L) : ∃ lo' c', (∀ W, (Instr.slice 32 (.slice lo L.length c) (some (.int .i64 (k : Int))) none none).run Try.prog W = .ok (.slice lo' (L.drop k).length c') W) ∧ D.Rows W0 lo' (L.drop k) := by
  have h := fun W => run_slice_l (P := Try.prog) (w := W) 32 lo L.length c Try.underlying32 .i64 (k : Int) (by omega) (by omega)
  have hs : ∀ W, (sizeOf (Try.prog.elem 32)).run Try.prog W = .ok 1 W := fun W => by kernel_rfl
  have e : ∀ W, (Instr.slice 32 (.slice lo L.length c) (some (.int .i64 (k : Int))) none none).run Try.prog W = .ok (sliced lo k L.length c 1) W := fun W => by
    rw [h, hs]; simp only [Result.andThen, Int.toNat_natCast]
  have hld : (L.drop k).length = L.length - k := List.length_drop
  by_cases hck : c = k
  · have hd : L.drop k = [] := List.drop_eq_nil_of_le (by omega)
    refine ⟨lo, c - k, fun W => ?_, by rw [hd]; exact fun i s hs => by simp at hs⟩
    rw [e W, hld]
    simp [sliced, hck]
  · cases lo with
    | none => have := hn rfl; omega
    | some a =>
      by_cases hL : L = []
      · subst hL
        refine ⟨some (a.add (k * 1)), c - k, fun W => ?_, by simp; exact fun i s hs => by simp at hs⟩
        rw [e W]
        simp [sliced]; omega
      · obtain ⟨b, o, ea, _⟩ := hr 0 (L.head hL) (by cases L with
          | nil => exact absurd rfl hL
          | cons x r => rfl)
        cases ea
        refine ⟨some ⟨b, o + k, none⟩, c - k, fun W => ?_, C.rows_drop hr k⟩
        rw [e W, hld]
        have hadd : (⟨b, o, none⟩ : Addr).add k = ⟨b, o + k, none⟩ := by unfold Addr.add; split <;> simp_all
        simp [sliced, hadd]; omega
/-- A list of deltas as a law's argument, whose rows may be cut. -/
structure C.ListOk (w : World) (lo : Option Addr) (c : Nat) (L : List D.Src) : Prop where
  ok : D.ListOk w lo L
  cap : L.length ≤ c
  nil : lo = none → c = 0
theorem C.caps_of {w : World} {L : List D.Src} (h : ∀ s ∈ L, D.ArgOk w s) : C.Caps L := fun s hs => (h s hs).cap
set_option maxRecDepth 100000 in
set_option maxHeartbeats 4000000 in
theorem composeFolds_walk (n : Int) (lo : Option Addr) (c : Nat) (L : List D.Src) (a : Int) (w : World) (n0 : -9223372036854775808 ≤ n) (n1 : n < 9223372036854775808) (h : C.ListOk w lo c L) (a0 : -9223372036854775808 ≤ a) (a1 : a < 9223372036854775808) :
    Calls Try.prog 11 #[.int .i64 n, .slice lo L.length c, .int .i64 a] w fun e w' => e = .returned (.bool true) ∧ Below w.heap.size w w' := by
  have HK := C.hKnown
  have K : Hid (D.Kn w w []) := ⟨Below.refl _ _, fun x hx => by simp at hx⟩
  by_cases hb : L.length ≤ 12 ∧ 0 ≤ a ∧ a ≤ L.length
  · obtain ⟨hl, ha0, ha1⟩ := hb
    obtain ⟨k, rfl⟩ := Int.eq_ofNat_of_zero_le ha0
    have hkl : k ≤ L.length := by omega
    have hml : L.length ≤ maxLen := by unfold maxLen; omega
    have cL := C.caps_of h.ok.ok
    have F1 := C.slice_to lo L.length c k (Nat.le_trans hkl h.cap)
    obtain ⟨lo', c', F2, hrd⟩ := C.slice_from w lo L c k h.cap hkl h.nil h.ok.rows
    have ht : (L.take k).map D.Src.x = (L.map D.Src.x).take k := List.map_take
    have hd : (L.drop k).map D.Src.x = (L.map D.Src.x).drop k := List.map_drop
    have hlt : (L.take k).length = k := by rw [List.length_take]; omega
    have HR := Lib.hid h.ok.rows
    have HRD := Lib.hid hrd
    have H1 : Hid (∀ W, Below w.heap.size w W → Calls Try.prog 21 #[.int .i64 n, .slice lo L.length c] W (fun e w' => ∃ v, e = .returned (.tuple #[v, .int .i64 (D.allS n (L.map D.Src.x)).1]) ∧ D.Made (D.allS n (L.map D.Src.x)).2 W v w')) := fun W hb => all_any n n0 n1 lo c L W hml (HR.out.below hb) cL
    have H2 : Hid (∀ W, Below w.heap.size w W → Calls Try.prog 21 #[.int .i64 n, .slice lo k c] W (fun e w' => ∃ v, e = .returned (.tuple #[v, .int .i64 (D.allS n ((L.map D.Src.x).take k)).1]) ∧ D.Made (D.allS n ((L.map D.Src.x).take k)).2 W v w')) := fun W hb => by
      have := all_any n n0 n1 lo c (L.take k) W (by rw [hlt]; omega) (C.rows_take (HR.out.below hb) k) (fun s hs => cL s (List.mem_of_mem_take hs))
      unfold C.AllEnd at this
      rw [ht, hlt] at this
      exact this
    by_cases he : (D.allS n (L.map D.Src.x)).1 = 0
    · obtain ⟨m, fo⟩ := D.folds k he
      have H3 := C.hLen (D.allS n ((L.map D.Src.x).take k)).2 (D.bd_of fo.ok)
      have H4 : Hid (∀ W, Below w.heap.size w W → Calls Try.prog 21 #[.int .i64 m, .slice lo' (L.drop k).length c'] W (fun e w' => ∃ v, e = .returned (.tuple #[v, .int .i64 (D.allS m ((L.map D.Src.x).drop k)).1]) ∧ D.Made (D.allS m ((L.map D.Src.x).drop k)).2 W v w')) := fun W hb => by
        have := all_any m (by omega) (by have := fo.bd; omega) lo' c' (L.drop k) W (by rw [List.length_drop]; omega) (HRD.out.below hb) (fun s hs => cL s (List.mem_of_mem_drop hs))
        unfold C.AllEnd at this
        rwa [hd] at this
      rw [he] at H1
      rw [fo.fst] at H2
      rw [fo.ok, fo.len] at H3
      have hq1 : ¬ (12 : Int) < (L.length : Int) := by omega
      have hq2 : ¬ (k : Int) < 0 := by omega
      have hq3 : ¬ (L.length : Int) < (k : Int) := by omega
      by_cases hz : (D.allS m ((L.map D.Src.x).drop k)).1 = 0
      · have H5 := C.hCmp (D.allS n ((L.map D.Src.x).take k)).2 (D.allS m ((L.map D.Src.x).drop k)).2 C.made_bd C.made_bd
        have S1 := C.hSame (D.allS n (L.map D.Src.x)).2 C.made_bd.1
        rw [fo.e hz, fo.p hz] at H5
        rw [hz] at H4
        generalize (D.allS n (L.map D.Src.x)).2 = D0 at *
        generalize (D.allS n ((L.map D.Src.x).take k)).2 = A0 at *
        generalize (D.allS m ((L.map D.Src.x).drop k)).2 = B0 at *
        generalize D.lenI A0 = p1 at *
        generalize (L.drop k).length = m2 at *
        clear fo he hz hd ht hlt hrd h cL hml HR HRD n0 n1 a0 a1
        go_enter Try.func11, Try.ntmps11
        go_wp2_with fail
        refine (H1.out _ K.out.below).mono ?_
        rintro e w1 ⟨v, rfl, hm⟩
        obtain ⟨od, cd, hv, nd, K1⟩ := C.made5 K.out hm
        subst hv
        clear hm K
        go_wp2_with fail
        refine (H2.out _ K1.out.below).mono ?_
        rintro e w2 ⟨v, rfl, hm⟩
        obtain ⟨oa, ca, hv, na, K2⟩ := C.made5 K1.out hm
        subst hv
        clear hm K1
        go_wp2_with fail
        refine (H3.out _ _ _ K2.out.r0).mono ?_
        rintro e w3 ⟨rfl, hb⟩
        have K3 := Lib.hid (K2.out.on hb)
        clear hb K2
        go_wp2_with fail
        refine (H4.out _ K3.out.below).mono ?_
        rintro e w4 ⟨v, rfl, hm⟩
        obtain ⟨ob, cb, hv, nb, K4⟩ := C.made5 K3.out hm
        subst hv
        clear hm K3
        go_wp2_with fail
        refine (H5.out _ _ _ _ _ K4.out.tl.r0 K4.out.r0 na.out.2 nb.out.2).mono ?_
        rintro e w5 ⟨v, rfl, hm⟩
        obtain ⟨oc, cc, hv, nc, K5⟩ := C.made5 K4.out hm
        subst hv
        clear hm K4
        go_wp2_with fail
        refine (S1.out _ _ _ _ _ K5.out.r0 K5.out.tl.tl.tl.r0).mono ?_
        rintro e w6 ⟨rfl, hb⟩
        have KB := Lib.hid (K5.out.on hb).below
        clear hb K5
        go_wp2_with fail
        refine (HK.out _).mono ?_
        rintro e wk ⟨rfl, hb⟩
        have KC := Lib.hid (KB.out.trans (hb.mono KB.out.size))
        clear hb
        go_wp2
        go_ret
        exact ⟨rfl, KC.out⟩
      · rw [fo.two.resolve_left hz] at H4
        generalize (D.allS n (L.map D.Src.x)).2 = D0 at *
        generalize (D.allS n ((L.map D.Src.x).take k)).2 = A0 at *
        generalize (D.allS m ((L.map D.Src.x).drop k)).2 = B0 at *
        generalize D.lenI A0 = p1 at *
        generalize (L.drop k).length = m2 at *
        clear fo he hz hd ht hlt hrd h cL hml HR HRD n0 n1 a0 a1
        go_enter Try.func11, Try.ntmps11
        go_wp2_with fail
        refine (H1.out _ K.out.below).mono ?_
        rintro e w1 ⟨v, rfl, hm⟩
        obtain ⟨od, cd, hv, nd, K1⟩ := C.made5 K.out hm
        subst hv
        clear hm K
        go_wp2_with fail
        refine (H2.out _ K1.out.below).mono ?_
        rintro e w2 ⟨v, rfl, hm⟩
        obtain ⟨oa, ca, hv, na, K2⟩ := C.made5 K1.out hm
        subst hv
        clear hm K1
        go_wp2_with fail
        refine (H3.out _ _ _ K2.out.r0).mono ?_
        rintro e w3 ⟨rfl, hb⟩
        have K3 := Lib.hid (K2.out.on hb)
        clear hb K2
        go_wp2_with fail
        refine (H4.out _ K3.out.below).mono ?_
        rintro e w4 ⟨v, rfl, hm⟩
        obtain ⟨ob, cb, hv, nb, K4⟩ := C.made5 K3.out hm
        subst hv
        have KB := Lib.hid K4.out.below
        clear hm K3 K4
        go_wp2_with fail
        refine (HK.out _).mono ?_
        rintro e wk ⟨rfl, hb⟩
        have KC := Lib.hid (KB.out.trans (hb.mono KB.out.size))
        clear hb
        go_wp2
        go_ret
        exact ⟨rfl, KC.out⟩
    · have q1 : ((D.allS n (L.map D.Src.x)).1 != 0) = true := by simpa using he
      have hq1 : ¬ (12 : Int) < (L.length : Int) := by omega
      have hq2 : ¬ (k : Int) < 0 := by omega
      have hq3 : ¬ (L.length : Int) < (k : Int) := by omega
      generalize (D.allS n (L.map D.Src.x)).2 = D0 at *
      generalize (D.allS n (L.map D.Src.x)).1 = E0 at *
      generalize (D.allS n ((L.map D.Src.x).take k)).2 = A0 at *
      generalize (D.allS n ((L.map D.Src.x).take k)).1 = E1 at *
      clear he hd ht hlt hrd h cL hml HR HRD n0 n1 a0 a1
      go_enter Try.func11, Try.ntmps11
      go_wp2_with fail
      refine (H1.out _ K.out.below).mono ?_
      rintro e w1 ⟨v, rfl, hm⟩
      obtain ⟨od, cd, hv, nd, K1⟩ := C.made5 K.out hm
      subst hv
      clear hm K
      go_wp2_with fail
      refine (H2.out _ K1.out.below).mono ?_
      rintro e w2 ⟨v, rfl, hm⟩
      obtain ⟨oa, ca, hv, na, K2⟩ := C.made5 K1.out hm
      subst hv
      have KB := Lib.hid K2.out.below
      clear hm K1 K2
      go_wp2_with fail
      refine (HK.out _).mono ?_
      rintro e wk ⟨rfl, hb⟩
      have KC := Lib.hid (KB.out.trans (hb.mono KB.out.size))
      clear hb
      go_wp2
      go_ret
      exact ⟨rfl, KC.out⟩
  · have hc : 12 < L.length ∨ (L.length ≤ 12 ∧ a < 0) ∨ (L.length ≤ 12 ∧ 0 ≤ a ∧ (L.length : Int) < a) := by omega
    have KB := Lib.hid K.out.below
    have hml := h.ok.len
    unfold maxLen at hml
    clear hb K h
    rcases hc with hc | ⟨hc1, hc2⟩ | ⟨hc1, hc2, hc3⟩
    · have hq1 : (12 : Int) < (L.length : Int) := by omega
      go_enter Try.func11, Try.ntmps11
      go_wp2_with fail
      refine (HK.out _).mono ?_
      rintro e wk ⟨rfl, hb⟩
      have KC := Lib.hid (KB.out.trans (hb.mono KB.out.size))
      clear hb
      go_wp2
      go_ret
      exact ⟨rfl, KC.out⟩
    · have hq1 : ¬ (12 : Int) < (L.length : Int) := by omega
      go_enter Try.func11, Try.ntmps11
      go_wp2_with fail
      refine (HK.out _).mono ?_
      rintro e wk ⟨rfl, hb⟩
      have KC := Lib.hid (KB.out.trans (hb.mono KB.out.size))
      clear hb
      go_wp2
      go_ret
      exact ⟨rfl, KC.out⟩
    · have hq1 : ¬ (12 : Int) < (L.length : Int) := by omega
      have hq2 : ¬ a < 0 := by omega
      go_enter Try.func11, Try.ntmps11
      go_wp2_with fail
      refine (HK.out _).mono ?_
      rintro e wk ⟨rfl, hb⟩
      have KC := Lib.hid (KB.out.trans (hb.mono KB.out.size))
      clear hb
      go_wp2
      go_ret
      exact ⟨rfl, KC.out⟩
end Go.Proofs.Yteondigaklonpaa
