/- The contracts of diff's empty, and of slices.IndexFunc and slices.DeleteFunc at pieces with it (as of apply's, in another text). -/
import Derived.Test.YtdilkoogjkabfaaDoorApplyDel
namespace Go.Proofs.YtdilkoogjkabfaaDoor
open Go.RowKit

set_option maxHeartbeats 1000000 in
theorem empty8_any (p : D.P) (w : World) : Calls Tryd.prog 11 #[.agg #[.int .u8 p.k, .int .i64 p.n, .string p.t]] w fun e w' => e = .returned (.bool (D.emptyP p)) ∧ Below w.heap.size w w' := by
  obtain ⟨k, n, t⟩ := p
  have hE : Hid (D.emptyP ⟨k, n, t⟩ = (n == 0 && t.toList.isEmpty)) := by show _ = _; rw [D.isEmpty_eq]; unfold D.emptyP; congr 1
  cases h1 : (n == 0) with
  | true =>
    rw [h1] at hE
    cases h2 : t.toList.isEmpty with
    | true =>
      rw [h2] at hE
      go_enter Tryd.func11, Tryd.ntmps11
      go_wp2
      go_ret
      exact ⟨by rw [hE.out]; rfl, (Below.refl _ _).alloc (Nat.le_refl _) _⟩
    | false =>
      rw [h2] at hE
      go_enter Tryd.func11, Tryd.ntmps11
      go_wp2
      go_ret
      exact ⟨by rw [hE.out]; rfl, (Below.refl _ _).alloc (Nat.le_refl _) _⟩
  | false =>
    rw [h1] at hE
    go_enter Tryd.func11, Tryd.ntmps11
    go_wp2
    go_ret
    exact ⟨by rw [hE.out]; rfl, (Below.refl _ _).alloc (Nat.le_refl _) _⟩
set_option maxHeartbeats 2000000 in
theorem indexFunc8_any (ao : Option Addr) (cap : Nat) (l : List D.P) (w : World) (hn : l.length ≤ 1000) (hr : D.Row w ao l) :
    Calls Tryd.prog 23 #[.slice ao l.length cap, .func (.func 11) #[] #[]] w fun e w' => e = .returned (.int .i64 (A.idx l 0)) ∧ Below w.heap.size w w' := by
  have Hr := Lib.hid hr
  clear hr
  go_enter Tryd.func23, Tryd.ntmps23
  go_wp2
  go_loopw [8] (fun i wr => ∃ k : Nat, k ≤ l.length ∧ i = .int .i64 k ∧ Hid (A.idx (l.drop k) k = A.idx l 0) ∧ Hid (Below w.heap.size w wr)) (fun i _ => l.length - (intOf i).toNat)
  case atStart => exact ⟨0, Nat.zero_le _, rfl, rfl, Below.refl _ _⟩
  case round =>
    obtain ⟨k, hk, rfl, hi, hw⟩ := hrel
    by_cases hlt : k < l.length
    · obtain ⟨p, hp, hpd⟩ := D.drop_cons hlt
      obtain ⟨b, o, e, hbl, hc⟩ := Hr.out k p hp
      subst e
      obtain ⟨c0, c1, c2⟩ := D.cell3 hw.out hbl hc
      have HE := Lib.hid (empty8_any p wr)
      have e1 : Hid (A.idx l 0 = if D.emptyP p = true then (k : Int) else A.idx (l.drop (k + 1)) (k + 1)) := by show _ = _; rw [← hi.out, hpd]; rfl
      clear hc hp hpd
      cases hv : D.emptyP p with
      | true =>
        have R : Hid (A.idx l 0 = (k : Int)) := by show _ = _; rw [e1.out, if_pos hv]
        rw [hv] at HE
        clear hv e1
        go_wp2_with (go_at_call 11; refine HE.out.mono ?_; rintro e w1 ⟨rfl, hb1⟩; have R2 := Lib.hid (hw.out.trans (hb1.mono hw.out.size)); clear hb1)
        go_ret
        exact ⟨by rw [R.out]; rfl, R2.out⟩
      | false =>
        have R : Hid (A.idx (l.drop (k + 1)) (k + 1) = A.idx l 0) := by show _ = _; rw [e1.out, if_neg (by rw [hv]; decide)]
        rw [hv] at HE
        clear hv e1
        go_wp2_with (go_at_call 11; refine HE.out.mono ?_; rintro e w1 ⟨rfl, hb1⟩; have R2 := Lib.hid (hw.out.trans (hb1.mono hw.out.size)); clear hb1)
        go_roundw
        case rel => exact ⟨k + 1, by omega, by go_num, R, R2⟩
        case measure => simp [intOf]; omega
    · obtain rfl : k = l.length := by omega
      have R : Hid (A.idx l 0 = -1) := by show _ = _; rw [← hi.out, List.drop_length]; rfl
      go_wp2
      go_ret
      exact ⟨by rw [R.out]; rfl, hw.out⟩
set_option maxRecDepth 100000 in
set_option maxHeartbeats 2000000 in
theorem deleteFunc8_any (b : Nat) (l : List D.P) (base : Nat) (w W : World) (hl : l.length ≤ 1000) (h : A.Blk b l W) (hb : base ≤ b) (hbw : Below base w W) :
    Calls Tryd.prog 10 #[.slice (some ⟨b, 0, none⟩) l.length l.length, .func (.func 11) #[] #[]] W (A.DfEnd b l base w) := by
  have HI := indexFunc8_any (some ⟨b, 0, none⟩) l.length l W hl h.row
  have hlt := h.lt
  rcases A.idx_spec l 0 with ⟨e1, e2⟩ | ⟨k, hk, e1, e2⟩
  · rw [e1] at HI
    have R : Hid (∀ w', Below W.heap.size W w' → A.DfEnd b l base w (.returned (.slice (some ⟨b, 0, none⟩) l.length l.length)) w') := fun w' hb' => ⟨by rw [e2], by rw [e2]; exact (h.on hb').row, hbw.trans (hb'.mono (by omega))⟩
    have HI := Lib.hid HI
    clear h e1 e2 hbw hlt
    go_enter Tryd.func10, Tryd.ntmps10
    go_wp2_with fail
    refine HI.out.mono ?_
    rintro e w1 ⟨rfl, hb1⟩
    have R2 := Lib.hid (R.out w1 hb1)
    clear hb1
    go_wp2
    go_ret
    exact R2.out
  · rw [e1, Nat.zero_add] at HI
    have h0 : Hid (∀ w', Below W.heap.size W w' → A.DelAt l base b k (k + 1) w w') := fun w' hb' => ⟨⟨l, h.on hb', rfl, e2.symm, rfl⟩, hbw.trans (hb'.mono (by omega))⟩
    have hk1 : ((k : Int) == -1) = false := beq_eq_false_iff_ne.2 (by omega)
    have HI := Lib.hid HI
    clear h e1 e2 hbw hlt
    go_enter Tryd.func10, Tryd.ntmps10
    go_wp2_with fail
    refine HI.out.mono ?_
    rintro e w1 ⟨rfl, hb1⟩
    have h1 := Lib.hid (h0.out w1 hb1)
    clear hb1 h0
    go_wp2
    go_loopw [5, 6] (fun iv jv wr => ∃ i j : Nat, i < j ∧ j ≤ l.length ∧ iv = .int .i64 i ∧ jv = .int .i64 j ∧ Hid (A.DelAt l base b i j w wr)) (fun _ jv _ => l.length - (intOf jv).toNat)
    case atStart => exact ⟨k, k + 1, by omega, by omega, rfl, by go_num, h1⟩
    case round =>
      obtain ⟨i, j, hij, hj, rfl, rfl, hx⟩ := hrel
      by_cases hlt : j < l.length
      · obtain ⟨p, hp, _⟩ := D.drop_cons hlt
        obtain ⟨c0, c1, c2⟩ := hx.out.read hp
        have hbz : base ≤ wr.heap.size := by
          obtain ⟨m, hm, _⟩ := hx.out.row
          have := hm.lt
          omega
        have hx1 := Lib.hid (hx.out.on ((Below.refl _ _).alloc (Nat.le_refl _) (.cells #[.int .u8 p.k, .int .i64 p.n, .string p.t] 29)) hbz)
        have HE := Lib.hid (empty8_any p (wr.alloc (.cells #[.int .u8 p.k, .int .i64 p.n, .string p.t] 29)))
        have Hp := Lib.hid hp
        clear hp
        cases hv : D.emptyP p with
        | true =>
          rw [hv] at HE
          have Hv := Lib.hid hv
          clear hv
          go_wp2_with fail
          refine HE.out.mono ?_
          rintro e w2 ⟨rfl, hb2⟩
          have hx2 := Lib.hid ((hx1.out.on hb2 (by simp only [World.size_alloc]; omega)).strike Hp.out Hv.out)
          clear hb2
          go_wp2
          go_roundw
          case rel => exact ⟨i, j + 1, by omega, by omega, rfl, by go_num, hx2⟩
          case measure => simp [intOf]; omega
        | false =>
          rw [hv] at HE
          have Hv := Lib.hid hv
          clear hv
          go_wp2_with fail
          refine HE.out.mono ?_
          rintro e w2 ⟨rfl, hb2⟩
          obtain ⟨b0, b1, b2⟩ := D.box p _ hb2
          have hx2 := hx1.out.on hb2 (by simp only [World.size_alloc]; omega)
          obtain ⟨⟨u0, d0⟩, ⟨u1, d1⟩, ⟨u2, d2⟩, hfz⟩ := hx2.cells i (by omega)
          have f0 := hfz (i * 3)
          have f1 := hfz (i * 3 + 1)
          have f2 := hfz (i * 3 + 2)
          have hx3 := Lib.hid (hx2.keep Hp.out Hv.out (by omega) hb)
          clear hb2 hx2 hfz
          go_wp2
          go_roundw
          case rel => exact ⟨i + 1, j + 1, by omega, by omega, by go_num, by go_num, hx3⟩
          case measure => simp [intOf]; omega
      · obtain rfl : j = l.length := by omega
        obtain ⟨⟨m, h1, h2, h3, _⟩, hbl⟩ := hx.out
        rw [List.take_length] at h3
        obtain ⟨W', hcl, hrow, hbe⟩ := A.clear_tail (i := i) 0 (l.length - i) h1 (by omega) (by omega)
        have hkl : (A.keep l).length = i := by rw [← h3, List.length_take]; omega
        have R : Hid (A.DfEnd b l base w (.returned (.slice (some ⟨b, 0, none⟩) i l.length)) W') := ⟨by rw [hkl], by rw [← h3]; exact hrow, hbe base w hb hbl⟩
        rw [h2] at hcl
        have hci : ¬ l.length = i := by omega
        clear h1 h2 h3 hrow hbe hkl hbl hx
        go_wp2
        go_ret
        exact R.out
end Go.Proofs.YtdilkoogjkabfaaDoor
