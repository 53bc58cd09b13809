/- The contract of package delta's reader: number. -/
import Derived.Test.YtmjoijloflinnaaDoorDeltaDig
import Derived.Test.YtmjoijloflinnaaDoorDeltaRef1
namespace Go.Proofs.YtmjoijloflinnaaDoor
open Go.RowKit

def D.endB : List UInt8 → Bool
  | [] => true
  | c :: _ => c == 32
theorem ended_any (b : Nat) (t : List UInt8) (k : Nat) (w : World) (hk : k ≤ t.length) (h : D.Rd b t k w) : Calls Tryd.prog 68 #[.pointer (some ⟨b, 0, none⟩)] w (D.EndedEnd (D.endB (t.drop k)) b t k w) := by
  cases hd : t.drop k with
  | nil =>
    have e : k = t.length := by have := List.drop_eq_nil_iff.1 hd; omega
    subst e
    exact ended_end b t w h
  | cons c r => exact ended_some b t k c r w hd h
/-- Where the reader at block b stands. -/
def D.posOf (b : Nat) (w : World) : Nat := (intOf ((w.cell? ⟨b, 1, none⟩).getD (.int .i64 0))).toNat
theorem D.Rd.pos {b t k w} (h : D.Rd b t k w) : D.posOf b w = k := by unfold D.posOf; rw [h.cells.2.1]; simp [intOf]
theorem D.rdNum_end {n : Nat} {s : List UInt8} (h : D.endB s = true) : D.rdNum n s = if n = 0 then none else some (n, s) := by
  cases s with
  | nil => rw [D.rdNum]
  | cons c r =>
    have : c = 32 := by simpa [D.endB] using h
    subst this
    rw [D.rdNum, if_pos rfl]
theorem D.half_dig (c : UInt8) : D.half c.toNat < 10 ↔ ¬ (c.toNat < 48 ∨ 57 < c.toNat) := by
  unfold D.half
  split
  · omega
  · split <;> omega
theorem D.half_val {c : UInt8} (h : D.half c.toNat < 10) : D.half c.toNat = c.toNat - 48 := by
  have := (D.half_dig c).1 h
  unfold D.half
  rw [if_pos (by omega)]
theorem D.rdNum_bad {n : Nat} {c : UInt8} {r : List UInt8} (h : (c == 32) = false) (hv : ¬ D.half c.toNat < 10) : D.rdNum n (c :: r) = none := by
  have h32 : c ≠ 32 := by simpa using h
  rw [D.rdNum, if_neg h32, if_pos (by rw [D.half_dig] at hv; omega)]
theorem D.rdNum_next {n : Nat} {c : UInt8} {r : List UInt8} (h : (c == 32) = false) (hv : D.half c.toNat < 10) : D.rdNum n (c :: r) = if 10 * n + D.half c.toNat < 1 ∨ 1048576 < 10 * n + D.half c.toNat then none else D.rdNum (10 * n + D.half c.toNat) r := by
  have h32 : c ≠ 32 := by simpa using h
  rw [D.rdNum, if_neg h32, if_neg ((D.half_dig c).1 hv), D.half_val hv]
/-- What reading a part ends in. -/
def D.ReadEnd {α : Type} (val : α → Value) (res : Option (α × List UInt8)) (b : Nat) (t : List UInt8) (w : World) (e : Ending) (w' : World) : Prop :=
  match res with
  | none => e = .panicked [{ v := .iface 24 (.int .i64 4), recovered := false }] ∧ w.grownBy w' (some b)
  | some x => e = .returned (val x.1) ∧ (∃ k, k ≤ t.length ∧ t.drop k = x.2 ∧ D.Rd b t k w') ∧ w.grownBy w' (some b)
structure D.NumAt (res : Option (Nat × List UInt8)) (b : Nat) (t : List UInt8) (n j : Nat) (w wr : World) : Prop where
  rd : D.Rd b t j wr
  gb : w.grownBy wr (some b)
  eq : D.rdNum n (t.drop j) = res
def D.numV (n : Nat) : Value := .int .i64 n
set_option maxHeartbeats 2000000 in
theorem number_any (b : Nat) (t : List UInt8) (k : Nat) (w : World) (hk : k ≤ t.length) (h : D.Rd b t k w) (hl : t.length ≤ 1000000000000000) :
    Calls Tryd.prog 61 #[.pointer (some ⟨b, 0, none⟩)] w (D.ReadEnd D.numV (D.rdNum 0 (t.drop k)) b t w) := by
  obtain ⟨res, hres⟩ : ∃ res, D.rdNum 0 (t.drop k) = res := ⟨_, rfl⟩
  have R0 : Hid (D.NumAt res b t 0 k w w) := ⟨h, D.gb_refl _ _, hres⟩
  rw [hres]
  clear hres h
  go_enter Tryd.func61, Tryd.ntmps61
  go_wp2
  go_loopw [3] (fun v wr => ∃ n j : Nat, n ≤ 1048576 ∧ j ≤ t.length ∧ v = .int .i64 n ∧ Hid (D.NumAt res b t n j w wr)) (fun _ wr => t.length - D.posOf b wr)
  case atStart => exact ⟨0, k, by omega, hk, rfl, R0.out⟩
  case round =>
    obtain ⟨n, j, hn, hj, rfl, hm⟩ := hrel
    clear R0
    have He := Lib.hid (ended_any b t j wr hj hm.out.rd)
    cases hend : D.endB (t.drop j) with
    | true =>
      rw [hend] at He
      have heq := hm.out.eq
      rw [D.rdNum_end hend] at heq
      go_wp2_with fail
      refine He.out.mono ?_
      rintro e w2 ⟨rfl, hr2, hg2⟩
      have hgg := Lib.hid (D.gb_trans hm.out.gb hg2)
      by_cases hz : n = 0
      · subst hz
        rw [if_pos rfl] at heq
        have R : Hid (D.ReadEnd D.numV res b t w (.panicked [{ v := .iface 24 (.int .i64 4), recovered := false }]) w2) := by
          show D.ReadEnd _ _ _ _ _ _ _
          rw [← heq]; exact ⟨rfl, hgg.out⟩
        clear heq hr2 hg2 hend
        go_wp2_with (go_at_call 63; refine (fail_any _ _).mono ?_; rintro e w' ⟨rfl, rfl⟩)
        exact ⟨rfl, R.out⟩
      · rw [if_neg hz] at heq
        have R : Hid (D.ReadEnd D.numV res b t w (.returned (.int .i64 n)) w2) := by
          show D.ReadEnd _ _ _ _ _ _ _
          rw [← heq]; exact ⟨rfl, ⟨j, hj, rfl, hr2⟩, hgg.out⟩
        have hz' : ((n : Int) == 0) = false := by simpa using hz
        clear heq hr2 hg2 hend
        go_wp2
        go_ret
        exact R.out
    | false =>
      rw [hend] at He
      cases hd : t.drop j with
      | nil => rw [hd] at hend; cases hend
      | cons c r =>
        rw [hd] at hend
        have hc : (c == 32) = false := hend
        obtain ⟨hjl, _, hr⟩ := D.at_drop hd
        have heq := hm.out.eq
        rw [hd] at heq
        by_cases hv : D.half c.toNat < 10
        · rw [D.rdNum_next hc hv] at heq
          have Hd : Hid (∀ V, D.Rd b t j V → Calls Tryd.prog 69 #[.pointer (some ⟨b, 0, none⟩), .int .i64 10] V (D.DigEnd2 (D.half c.toNat) b t j V)) := fun V hV => digit10_ok b t j c r V hd hV hl hv
          obtain ⟨d, hdv⟩ : ∃ d, D.half c.toNat = d := ⟨_, rfl⟩
          rw [hdv] at heq Hd hv
          have hrd := Lib.hid hr
          have heq := Lib.hid heq
          clear hdv hr hc hend hd
          go_wp2_with fail
          refine He.out.mono ?_
          rintro e w2 ⟨rfl, hr2, hg2⟩
          have hgg := Lib.hid (D.gb_trans hm.out.gb hg2)
          have Hd := Lib.hid (Hd.out w2 hr2)
          clear hr2 hg2
          go_wp2_with fail
          refine Hd.out.mono ?_
          rintro e w3 ⟨rfl, hr3, hg3⟩
          have hg3 := Lib.hid (D.gb_trans hgg.out hg3)
          have hr3 := Lib.hid hr3
          by_cases hbad : 10 * n + d < 1 ∨ 1048576 < 10 * n + d
          · have R : Hid (D.ReadEnd D.numV res b t w (.panicked [{ v := .iface 24 (.int .i64 4), recovered := false }]) w3) := by
              show D.ReadEnd _ _ _ _ _ _ _
              rw [← heq.out, if_pos hbad]; exact ⟨rfl, hg3.out⟩
            clear heq
            rcases hbad with hb1 | hb1
            · have g1 : 10 * (n : Int) + d < 1 := by omega
              go_wp2_with (go_at_call 63; refine (fail_any _ _).mono ?_; rintro e w' ⟨rfl, rfl⟩)
              exact ⟨rfl, R.out⟩
            · have g1 : ¬ 10 * (n : Int) + d < 1 := by omega
              have g2 : (1048576 : Int) < 10 * (n : Int) + d := by omega
              go_wp2_with (go_at_call 63; refine (fail_any _ _).mono ?_; rintro e w' ⟨rfl, rfl⟩)
              exact ⟨rfl, R.out⟩
          · have heq2 : Hid (D.rdNum (10 * n + d) r = res) := by show _ = _; rw [← heq.out, if_neg hbad]
            have R : Hid (D.NumAt res b t (10 * n + d) (j + 1) w w3) := ⟨hr3.out, hg3.out, by rw [hrd.out, heq2.out]⟩
            have hpos := Lib.hid (And.intro hr3.out.pos hm.out.rd.pos)
            have g1 : ¬ 10 * (n : Int) + d < 1 := by omega
            have g2 : ¬ (1048576 : Int) < 10 * (n : Int) + d := by omega
            go_wp2
            go_roundw
            case rel => exact ⟨10 * n + d, j + 1, by omega, by omega, by go_num, R⟩
            case measure => rw [hpos.out.1, hpos.out.2]; omega
        · rw [D.rdNum_bad hc hv] at heq
          have Hd : Hid (∀ V, D.Rd b t j V → Calls Tryd.prog 69 #[.pointer (some ⟨b, 0, none⟩), .int .i64 10] V (fun e w' => e = .panicked [{ v := .iface 24 (.int .i64 4), recovered := false }] ∧ V.grownBy w' (some b))) := fun V hV => digit10_bad b t j c r V hd hV hl hv
          have R : Hid (∀ w3, w.grownBy w3 (some b) → D.ReadEnd D.numV res b t w (.panicked [{ v := .iface 24 (.int .i64 4), recovered := false }]) w3) := fun w3 hg => by
            rw [← heq]; exact ⟨rfl, hg⟩
          clear heq hr hc hend hd
          go_wp2_with fail
          refine He.out.mono ?_
          rintro e w2 ⟨rfl, hr2, hg2⟩
          have hgg := Lib.hid (D.gb_trans hm.out.gb hg2)
          have Hd := Lib.hid (Hd.out w2 hr2)
          clear hr2 hg2
          go_wp2_with fail
          refine Hd.out.mono ?_
          rintro e w3 ⟨rfl, hg3⟩
          exact ⟨rfl, R.out w3 (D.gb_trans hgg.out hg3)⟩
end Go.Proofs.YtmjoijloflinnaaDoor
