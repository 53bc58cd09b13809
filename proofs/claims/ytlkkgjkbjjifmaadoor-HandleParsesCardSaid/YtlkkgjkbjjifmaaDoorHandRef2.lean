/- The contracts of the reference of layer 10: Slot, Gen, Next, digits, Text. -/
import Derived.Test.YtlkkgjkbjjifmaaDoorHandRef1
import Derived.Test.YtlkkgjkbjjifmaaDoorDeltaSrc
namespace Go.Proofs.YtlkkgjkbjjifmaaDoor
open Go.RowKit

theorem H.gen_le {h : Nat} (h1 : h ≤ 18446744073709551615) : H.gen h ≤ 281474976710655 := by unfold H.gen; omega
theorem H.slot_lt (h : Nat) : H.slot h < 65536 := by unfold H.slot; omega
theorem H.ck_ok {h : Nat} (k : H.Ok h) : H.ckE h = 0 ∧ H.slotV h = (H.slot h : Nat) ∧ H.genV h = (H.gen h : Nat) := ⟨if_pos k, if_pos k, if_pos k⟩
theorem H.ck_bad {h : Nat} (k : ¬ H.Ok h) : H.ckE h = 2 ∧ H.slotV h = 0 ∧ H.genV h = 0 := ⟨if_neg k, if_neg k, if_neg k⟩
theorem refSlot10_any (h : Nat) (h1 : h ≤ 18446744073709551615) (w : World) :
    Calls Tryd.prog 15 #[.int .u64 (h : Int)] w fun e w' => e = .returned (.tuple #[.int .i64 (H.slotV h), .int .i64 (H.ckE h)]) ∧ w = w' := by
  have HC := Lib.hid (refCheck10_any h h1 w)
  have m := H.tmod h
  have hs := H.slot_lt h
  by_cases k : H.Ok h
  · obtain ⟨e1, e2, _⟩ := H.ck_ok k
    rw [e1] at HC ⊢
    rw [e2]
    clear e1 e2 k
    generalize H.slot h = s at *
    go_enter Tryd.func15, Tryd.ntmps15
    go_wp2_with fail
    refine HC.out.mono ?_
    rintro e w1 ⟨rfl, rfl⟩
    go_wp2
    go_ret2
    exact ⟨rfl, rfl⟩
  · obtain ⟨e1, e2, _⟩ := H.ck_bad k
    rw [e1] at HC ⊢
    rw [e2]
    clear e1 e2 k
    go_enter Tryd.func15, Tryd.ntmps15
    go_wp2_with fail
    refine HC.out.mono ?_
    rintro e w1 ⟨rfl, rfl⟩
    go_wp2
    go_ret2
    exact ⟨rfl, rfl⟩
theorem refGen10_any (h : Nat) (h1 : h ≤ 18446744073709551615) (w : World) :
    Calls Tryd.prog 16 #[.int .u64 (h : Int)] w fun e w' => e = .returned (.tuple #[.int .u64 (H.genV h), .int .i64 (H.ckE h)]) ∧ w = w' := by
  have HC := Lib.hid (refCheck10_any h h1 w)
  have m := H.tdiv h
  have hs := H.gen_le h1
  by_cases k : H.Ok h
  · obtain ⟨e1, _, e2⟩ := H.ck_ok k
    rw [e1] at HC ⊢
    rw [e2]
    clear e1 e2 k
    generalize H.gen h = s at *
    go_enter Tryd.func16, Tryd.ntmps16
    go_wp2_with fail
    refine HC.out.mono ?_
    rintro e w1 ⟨rfl, rfl⟩
    go_wp2
    go_ret2
    exact ⟨rfl, rfl⟩
  · obtain ⟨e1, _, e2⟩ := H.ck_bad k
    rw [e1] at HC ⊢
    rw [e2]
    clear e1 e2 k
    go_enter Tryd.func16, Tryd.ntmps16
    go_wp2_with fail
    refine HC.out.mono ?_
    rintro e w1 ⟨rfl, rfl⟩
    go_wp2
    go_ret2
    exact ⟨rfl, rfl⟩
theorem refNext10_any (h : Nat) (h1 : h ≤ 18446744073709551615) (w : World) :
    Calls Tryd.prog 17 #[.int .u64 (h : Int)] w fun e w' => e = .returned (.tuple #[.int .u64 (H.nxV h), .int .i64 (H.nxE h)]) ∧ w = w' := by
  have HC := Lib.hid (refSlot10_any h h1 w)
  have m := H.tdiv h
  have hs := H.gen_le h1
  have hl := H.slot_lt h
  by_cases k : H.Ok h
  · obtain ⟨e1, e2, _⟩ := H.ck_ok k
    rw [e1, e2] at HC
    obtain ⟨n1, n2⟩ := H.nx_mk k
    have HM := Lib.hid (refMake10_any (H.slot h : Nat) ((H.gen h + 1 : Nat) : Int) (by omega) (by omega) (by omega) (by omega) w)
    rw [n1, n2]
    have e3 : ((H.gen h : Nat) : Int) + 1 = ((H.gen h + 1 : Nat) : Int) := by omega
    have hs2 : H.gen h + 1 ≤ 281474976710656 := by omega
    generalize H.mkV (H.slot h : Nat) ((H.gen h + 1 : Nat) : Int) = mv at *
    generalize H.mkE (H.slot h : Nat) ((H.gen h + 1 : Nat) : Int) = me at *
    rw [← e3] at HM
    clear e1 e2 k n1 n2 e3
    generalize H.gen h = g at *
    generalize H.slot h = s at *
    go_enter Tryd.func17, Tryd.ntmps17
    go_wp2_with fail
    refine HC.out.mono ?_
    rintro e w1 ⟨rfl, rfl⟩
    go_wp2_with fail
    refine HM.out.mono ?_
    rintro e w1 ⟨rfl, rfl⟩
    go_wp2
    go_ret2
    exact ⟨rfl, rfl⟩
  · obtain ⟨e1, e2, _⟩ := H.ck_bad k
    rw [e1, e2] at HC
    have n1 : H.nxE h = 2 := if_neg k
    have n2 : H.nxV h = 0 := if_neg (by rw [n1]; decide)
    rw [n1, n2]
    clear e1 e2 k n1 n2
    go_enter Tryd.func17, Tryd.ntmps17
    go_wp2_with fail
    refine HC.out.mono ?_
    rintro e w1 ⟨rfl, rfl⟩
    go_wp2
    go_ret2
    exact ⟨rfl, rfl⟩
/-! ### digits, Text -/
def H.DigEnd (n : Nat) (w : World) (e : Ending) (w' : World) : Prop := e = .returned (.string ⟨(D.digs n).toArray⟩) ∧ Below w.heap.size w w'
set_option maxRecDepth 100000 in
set_option maxHeartbeats 1000000 in
theorem refDigits10_any (n : Nat) : n ≤ 18446744073709551615 → ∀ w : World, Calls Tryd.prog 29 #[.int .u64 (n : Int)] w (H.DigEnd n w) := by
  induction n using Nat.strongRecOn with
  | _ n ih =>
    intro hn w
    have ih := Lib.hid ih
    by_cases h : n < 10
    · have hz : 48 + (n : Int) < 256 := by omega
      have hconv : ∀ W : World, (Sem.run Tryd.prog (convert 62 9 (.slice (some ⟨W.heap.size, 0, none⟩) 1 1)) (W.alloc (.cells #[.int .u8 (48 + (n : Int))] 5))) = .ok (.string ⟨#[UInt8.ofNat (48 + n)]⟩) (W.alloc (.cells #[.int .u8 (48 + (n : Int))] 5)) := fun W => by
        have hby : Lib.Bytes (W.alloc (.cells #[.int .u8 (48 + (n : Int))] 5)) W.heap.size 0 ⟨#[UInt8.ofNat (48 + n)]⟩ := by
          intro i hi
          have : i = 0 := by have : (⟨#[UInt8.ofNat (48 + n)]⟩ : ByteArray).size = 1 := rfl; omega
          subst this
          rw [World.cell?_alloc_new]
          have : (⟨#[UInt8.ofNat (48 + n)]⟩ : ByteArray)[0] = UInt8.ofNat (48 + n) := rfl
          rw [this]
          simp; omega
        exact Lib.run_convert_whole (P := Tryd.prog) _ 62 5 9 Tryd.underlying62 Tryd.underlying5 Tryd.underlying9 W.heap.size 0 ⟨#[UInt8.ofNat (48 + n)]⟩ hby 1
      have R : Hid (∀ w', Below w.heap.size w w' → H.DigEnd n w (.returned (.string ⟨#[UInt8.ofNat (48 + n)]⟩)) w') := fun w' hb => ⟨by rw [D.digs_lt h], hb⟩
      generalize UInt8.ofNat (48 + n) = c at hconv R
      go_enter Tryd.func29, Tryd.ntmps29
      go_wp2
      go_ret
      exact R.out _ ((Below.refl _ _).alloc (Nat.le_refl _) _)
    · have R : Hid (∀ w', Below w.heap.size w w' → H.DigEnd n w (.returned (.string (⟨(D.digs (n / 10)).toArray⟩ ++ ⟨(D.digs (n % 10)).toArray⟩))) w') := fun w' hb => ⟨by rw [D.digs_ge h, D.digs_lt (show n % 10 < 10 by omega)]; congr 1, hb⟩
      have hl := D.digs_len 19 (n / 10) (by omega)
      have hl2 := D.digs_len 19 (n % 10) (by omega)
      have hs : ¬ 9223372036854775807 < (⟨(D.digs (n / 10)).toArray⟩ : ByteArray).size + (⟨(D.digs (n % 10)).toArray⟩ : ByteArray).size := by rw [D.size_l, D.size_l]; omega
      have hq : ((n : Int).tdiv 10) = ((n / 10 : Nat) : Int) := by rw [Int.tdiv_eq_ediv_of_nonneg (by omega)]; omega
      have hr : ((n : Int).tmod 10) = ((n % 10 : Nat) : Int) := by rw [Int.tmod_eq_emod_of_nonneg (by omega)]; omega
      have hb1 := Lib.hid (And.intro (show n / 10 < n by omega) (show n / 10 ≤ 18446744073709551615 by omega))
      have hb2 := Lib.hid (And.intro (show n % 10 < n by omega) (show n % 10 ≤ 18446744073709551615 by omega))
      generalize n / 10 = a at hl hs hq hb1 R
      generalize n % 10 = b at hl2 hs hr hb2 R
      have H1 : Hid (∀ W, Calls Tryd.prog 29 #[.int .u64 (a : Int)] W (H.DigEnd a W)) := fun W => ih.out a hb1.out.1 hb1.out.2 W
      have H2 : Hid (∀ W, Calls Tryd.prog 29 #[.int .u64 (b : Int)] W (H.DigEnd b W)) := fun W => ih.out b hb2.out.1 hb2.out.2 W
      unfold H.DigEnd at H1 H2
      have ha := hb1.out.2
      have hb := hb2.out.2
      generalize D.digs a = da at hl hs R H1
      generalize D.digs b = db at hl2 hs R H2
      go_enter Tryd.func29, Tryd.ntmps29
      go_wp2_with fail
      refine (H1.out _).mono ?_
      rintro e w1 ⟨rfl, hb⟩
      have B1 := Lib.hid hb
      clear hb
      go_wp2_with fail
      refine (H2.out _).mono ?_
      rintro e w2 ⟨rfl, hb⟩
      have R := Lib.hid (R.out w2 (B1.out.trans (hb.mono B1.out.size)))
      clear hb
      go_wp2
      go_ret
      exact R.out
set_option maxHeartbeats 1000000 in
theorem refText10_any (h : Nat) (h1 : h ≤ 18446744073709551615) (w : World) :
    Calls Tryd.prog 18 #[.int .u64 (h : Int)] w fun e w' => e = .returned (.tuple #[.string ⟨(H.textL h).toArray⟩, .int .i64 (H.ckE h)]) ∧ Below w.heap.size w w' := by
  have HC := Lib.hid (refSlot10_any h h1 w)
  have m := H.tdiv h
  have hs := H.gen_le h1
  have hl := H.slot_lt h
  by_cases k : H.Ok h
  · obtain ⟨e1, e2, _⟩ := H.ck_ok k
    rw [e1, e2] at HC
    have et : H.textL h = D.digs (H.slot h) ++ 46 :: D.digs (H.gen h) := if_pos k
    have R : Hid (∀ w', Below w.heap.size w w' → Ending.returned (.tuple #[.string ((⟨(D.digs (H.slot h)).toArray⟩ ++ ⟨#[46]⟩) ++ ⟨(D.digs (H.gen h)).toArray⟩), .int .i64 0]) = .returned (.tuple #[.string ⟨(H.textL h).toArray⟩, .int .i64 0]) ∧ Below w.heap.size w w') := fun w' hb => by
      refine ⟨?_, hb⟩
      have e : ((⟨(D.digs (H.slot h)).toArray⟩ ++ ⟨#[46]⟩) ++ ⟨(D.digs (H.gen h)).toArray⟩ : ByteArray) = ⟨(H.textL h).toArray⟩ := by
        rw [et]
        apply ByteArray.ext
        simp
      rw [e]
    have d1 := refDigits10_any (H.slot h) (by omega)
    have d2 := refDigits10_any (H.gen h) (by omega)
    have z1 := D.digs_len 19 (H.slot h) (by omega)
    have z2 := D.digs_len 19 (H.gen h) (by omega)
    have D1 := Lib.hid d1
    have D2 := Lib.hid d2
    unfold H.DigEnd at D1 D2
    have hz1 : ¬ 9223372036854775807 < (⟨(D.digs (H.slot h)).toArray⟩ : ByteArray).size + (⟨#[46]⟩ : ByteArray).size := by rw [D.size_l]; show ¬ _ < _ + 1; omega
    have hz2 : ¬ 9223372036854775807 < ((⟨(D.digs (H.slot h)).toArray⟩ : ByteArray) ++ (⟨#[46]⟩ : ByteArray)).size + (⟨(D.digs (H.gen h)).toArray⟩ : ByteArray).size := by rw [ByteArray.size_append]; have a1 := D.size_l (D.digs (H.slot h)); have a2 := D.size_l (D.digs (H.gen h)); have a3 : (⟨#[46]⟩ : ByteArray).size = 1 := rfl; omega
    rw [e1]
    clear e1 e2 k et d1 d2 z1 z2
    generalize H.textL h = tt at *
    generalize D.digs (H.slot h) = ds at *
    generalize D.digs (H.gen h) = dg at *
    generalize H.gen h = g at *
    generalize H.slot h = s at *
    go_enter Tryd.func18, Tryd.ntmps18
    go_wp2_with fail
    refine HC.out.mono ?_
    rintro e w1 ⟨rfl, rfl⟩
    go_wp2_with fail
    refine (D1.out _).mono ?_
    rintro e w1 ⟨rfl, hb⟩
    have B1 := Lib.hid hb
    clear hb
    go_wp2_with fail
    refine (D2.out _).mono ?_
    rintro e w2 ⟨rfl, hb⟩
    have R := Lib.hid (R.out w2 (B1.out.trans (hb.mono B1.out.size)))
    clear hb
    go_wp2
    go_ret2
    exact R.out
  · obtain ⟨e1, e2, _⟩ := H.ck_bad k
    rw [e1, e2] at HC
    have et : H.textL h = [] := if_neg k
    rw [e1, et]
    clear e1 e2 k et
    go_enter Tryd.func18, Tryd.ntmps18
    go_wp2_with fail
    refine HC.out.mono ?_
    rintro e w1 ⟨rfl, rfl⟩
    go_wp2
    go_ret2
    exact ⟨rfl, Below.refl _ _⟩
end Go.Proofs.YtlkkgjkbjjifmaaDoor
