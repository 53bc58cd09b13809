/- The contracts of strconv.FormatUint and strconv.Itoa at base 10, and of package handle's Text. -/
import Derived.Test.YtndpknkdmaojaaaDoorHandPkg1
import Derived.Test.YtndpknkdmaojaaaDoorHandLib
import Derived.Test.YtndpknkdmaojaaaDoorHandRow
import Derived.Lib.AppendIntMem
import Derived.Lib.ItoaLen
import Derived.BigQuiet
namespace Go.Proofs.YtndpknkdmaojaaaDoor
open Go.RowKit

theorem H.digs_dec (n : Nat) : Lib.decDigits n = D.digs n := by
  induction n using Nat.strongRecOn with
  | _ n ih =>
    by_cases h : n < 10
    · rw [Lib.decDigits, dif_pos h, D.digs_lt h]
    · rw [Lib.decDigits, dif_neg h, D.digs_ge h, ih (n / 10) (by omega)]
/-- The library's table of powers of ten lies as its text lays it, whatever is done from block B on. -/
def H.Pow (B : Nat) (w : World) : Prop := Lib.TabBelow Tryd.prog B w H.tab .u64 Lib.pow10Tab
theorem H.Pow.on {B : Nat} {w w' : World} (h : H.Pow B w) (hb : Below B w w') : H.Pow B w' := Lib.TabBelow.on h hb
theorem H.Pow.mono {B B' : Nat} {w : World} (h : H.Pow B w) (hB : B ≤ B') : H.Pow B' w := fun w' hb => h w' (hb.mono hB)
theorem H.Pow.go {w w' : World} (h : H.Pow w.heap.size w) (hb : Below w.heap.size w w') : H.Pow w'.heap.size w' := (h.on hb).mono hb.size
def H.StrEnd (l : List UInt8) (w : World) (e : Ending) (w' : World) : Prop := e = .returned (.string ⟨l.toArray⟩) ∧ Below w.heap.size w w'
theorem itoa10_any (n : Nat) (h : n ≤ 9223372036854775807) (w : World) (hp : H.Pow w.heap.size w) : Calls Tryd.prog 48 #[.int .i64 (n : Int)] w (H.StrEnd (D.digs n) w) := by
  refine (Any.strconv_Itoa H.laysItoa (n : Int) (by omega) (by omega) w (Lib.TabBelow.here hp)).mono ?_
  rintro e w' ⟨rfl, k, os, rfl⟩
  refine ⟨?_, Lib.below_grow _ w (Nat.le_refl _) k os⟩
  rw [Lib.itoa_nonneg, H.digs_dec]
set_option maxRecDepth 100000 in
set_option maxHeartbeats 4000000 in
theorem innerUint10_any (u : Nat) (h : u ≤ 18446744073709551615) (w : World) (hp : H.Pow w.heap.size w) : Calls Tryd.prog 51 #[.int .u64 (u : Int), .int .i64 10] w (H.StrEnd (D.digs u) w) := by
  by_cases hs : u < 100
  · have HS : Hid (Calls Tryd.prog 53 #[.int .i64 (u : Int)] w (H.StrEnd (D.digs u) w)) := by
      refine (Any.internal_strconv_small H.laysSmall u hs w).mono ?_
      rintro e w' ⟨rfl, rfl⟩
      exact ⟨by rw [H.digs_dec], Below.refl _ _⟩
    unfold H.StrEnd at HS ⊢
    generalize D.digs u = dg at *
    go_enter Tryd.func51, Tryd.ntmps51
    go_wp2_with (go_at_call 53; refine HS.out.mono ?_; rintro e w' ⟨rfl, hb⟩; have hb := Lib.hid hb)
    go_ret
    exact ⟨rfl, hb.out⟩
  · have hu1 : 1 ≤ u := by omega
    have hu64 : u < 18446744073709551616 := by omega
    have hnd20 : Lib.nDigits u ≤ 20 := Lib.nDigits_le20 u hu64
    have HD : Hid (∀ o, Calls Tryd.prog 54 #[.int .u64 (u : Int)] (w.alloc o) fun e w' => e = .returned (.int .i64 (Lib.nDigits u : Int)) ∧ w.alloc o = w') := fun o =>
      (Any.internal_strconv_numDigits H.laysDigits u hu1 hu64 (w.alloc o) (Lib.TabBelow.here (hp.on ((Below.refl _ _).alloc (Nat.le_refl _) o)))).mono fun _ _ h => ⟨h.1, h.2.symm⟩
    have hal : Tryd.prog.arrayLen 80 = 24 := by simp [Program.arrayLen, Tryd.underlying80]
    have hsl : ∀ W, (Instr.sliceAt 80 (.pointer (some ⟨w.heap.size, 0, none⟩)) none (some (.int .i64 (Lib.nDigits u : Int))) none).run Tryd.prog W = .ok (.slice (some ⟨w.heap.size, 0, none⟩) (Lib.nDigits u) 24) W := fun W => by
      rw [run_sliceAt_array_h W 80 ⟨w.heap.size, 0, none⟩ (by simp [Program.arrayLen, Program.elem, Tryd.underlying80]) .i64 (Lib.nDigits u : Int) (by omega) (by rw [hal]; omega)]
      go_simp
      try omega
    have hH0 := Lib.holds_zero0 w 80 (Lib.nDigits u) (by omega)
    have hfmt := Any.internal_strconv_formatBase10 H.laysBase w.heap.size 0 24 u (Array.replicate (Lib.nDigits u) 0) (w.alloc (.cells Lib.zeros24 80)) hH0 (by rw [Array.size_replicate]; exact Lib.lt_pow_nDigits u) hu64 (by rw [Array.size_replicate]; omega)
    rw [Array.size_replicate] at hfmt
    change Calls Tryd.prog 55 _ _ _ at hfmt
    have HF := Lib.hid hfmt
    have HH0 := Lib.hid hH0
    have hz : ∀ W, (zeroValue 80).run Tryd.prog W = .ok (.agg Lib.zeros24) W := fun W => by kernel_rfl
    clear hfmt hH0 hal hp
    go_enter Tryd.func51, Tryd.ntmps51
    go_wp2_with fail
    refine (HD.out _).mono ?_
    rintro e w' ⟨rfl, rfl⟩
    go_wp2_with fail
    refine HF.out.mono ?_
    rintro e w' ⟨rfl, k, v', dk, rfl, hF⟩
    have hcv : (convert 83 9 (.slice (some ⟨w.heap.size, 0, none⟩) (Lib.nDigits u) 24)).run Tryd.prog ((Go.Sort.putRow (fun (b : UInt8) => Value.int .u8 (b.toNat : Int)) (w.alloc (.cells Lib.zeros24 80)) w.heap.size 0 dk).drewN k) = .ok (.string ⟨(Lib.decDigits u).toArray⟩) ((Go.Sort.putRow (fun (b : UInt8) => Value.int .u8 (b.toNat : Int)) (w.alloc (.cells Lib.zeros24 80)) w.heap.size 0 dk).drewN k) := by
      have h := run_convert_bytes_back (P := Tryd.prog) ((Go.Sort.putRow (fun (b : UInt8) => Value.int .u8 (b.toNat : Int)) (w.alloc (.cells Lib.zeros24 80)) w.heap.size 0 dk).drewN k) 83 9 5 ⟨w.heap.size, 0, none⟩ 24 (Lib.decDigits u) Tryd.underlying83 Tryd.underlying5 Tryd.underlying9 (fun j hj => by
        rw [Lib.row_is_numeral hF j hj, Lib.add_plain, World.cell?_drewN]
        exact Go.Sort.cell?_putRow (fun (b : UInt8) => Value.int .u8 (b.toNat : Int)) _ w.heap.size 0 _ dk HH0.out (by rw [hF.size, Array.size_replicate]) j (by rw [hF.size]; rw [Lib.decDigits_length] at hj; exact hj))
      rw [Lib.decDigits_length] at h
      exact h
    have R : Hid (H.StrEnd (D.digs u) w (.returned (.string ⟨(Lib.decDigits u).toArray⟩)) ((Go.Sort.putRow (fun (b : UInt8) => Value.int .u8 (b.toNat : Int)) (w.alloc (.cells Lib.zeros24 80)) w.heap.size 0 dk).drewN k)) := by
      refine ⟨by rw [H.digs_dec], ?_⟩
      rw [Go.Sort.alloc_eq_grow]
      obtain ⟨os', _, e⟩ := Go.Sort.putRow_grow_new (fun (b : UInt8) => Value.int .u8 (b.toNat : Int)) w #[.cells Lib.zeros24 80] w.heap.size 0 dk (Nat.le_refl _)
      rw [e]
      exact Lib.below_grow _ w (Nat.le_refl _) k os'
    clear hF
    generalize (Go.Sort.putRow (fun (b : UInt8) => Value.int .u8 (b.toNat : Int)) (w.alloc (.cells Lib.zeros24 80)) w.heap.size 0 dk).drewN k = wf at *
    go_wp2
    go_ret
    exact R.out
theorem fmtUint10_any (u : Nat) (h : u ≤ 18446744073709551615) (w : World) (hp : H.Pow w.heap.size w) : Calls Tryd.prog 49 #[.int .u64 (u : Int), .int .i64 10] w (H.StrEnd (D.digs u) w) := by
  have HI := Lib.hid (innerUint10_any u h w hp)
  unfold H.StrEnd at HI ⊢
  generalize D.digs u = dg at *
  obtain ⟨ui, hui⟩ : ∃ ui : Int, (u : Int) = ui := ⟨_, rfl⟩
  rw [hui] at HI ⊢
  clear hui
  go_enter Tryd.func49, Tryd.ntmps49
  go_wp2_with (go_at_call 51; refine HI.out.mono ?_; rintro e w' ⟨rfl, hb⟩; have hb := Lib.hid hb)
  go_ret
  exact ⟨rfl, hb.out⟩
/-! ### Text -/
set_option maxRecDepth 100000 in
set_option maxHeartbeats 2000000 in
theorem text10_any (h : Nat) (h1 : h ≤ 18446744073709551615) (w : World) (hp : H.Pow w.heap.size w) :
    Calls Tryd.prog 47 #[.int .u64 (h : Int)] w fun e w' => e = .returned (.tuple #[.string ⟨(H.textL h).toArray⟩, .int .i64 (H.ckE h)]) ∧ Below w.heap.size w w' := by
  have HC := Lib.hid (check10_any h h1 w)
  have HU := Lib.hid (unpack10_any h h1 w)
  have hs := H.gen_le h1
  have hl := H.slot_lt h
  by_cases k : H.Ok h
  · obtain ⟨e1, e2, _⟩ := H.ck_ok k
    rw [e1] at HC
    have et : H.textL h = D.digs (H.slot h) ++ 46 :: D.digs (H.gen h) := if_pos k
    have R : Hid (∀ w', Below w.heap.size w w' → Ending.returned (.tuple #[.string ((⟨(D.digs (H.slot h)).toArray⟩ ++ ⟨#[46]⟩) ++ ⟨(D.digs (H.gen h)).toArray⟩), .int .i64 0]) = .returned (.tuple #[.string ⟨(H.textL h).toArray⟩, .int .i64 0]) ∧ Below w.heap.size w w') := fun w' hb => by
      refine ⟨?_, hb⟩
      have e : ((⟨(D.digs (H.slot h)).toArray⟩ ++ ⟨#[46]⟩) ++ ⟨(D.digs (H.gen h)).toArray⟩ : ByteArray) = ⟨(H.textL h).toArray⟩ := by
        rw [et]
        apply ByteArray.ext
        simp
      rw [e]
    have HP := Lib.hid hp
    have D1 : Hid (∀ W, Below w.heap.size w W → Calls Tryd.prog 48 #[.int .i64 (H.slot h : Nat)] W (H.StrEnd (D.digs (H.slot h)) W)) := fun W hb => itoa10_any (H.slot h) (by omega) W (H.Pow.go hp hb)
    have D2 : Hid (∀ W, Below w.heap.size w W → Calls Tryd.prog 49 #[.int .u64 (H.gen h : Nat), .int .i64 10] W (H.StrEnd (D.digs (H.gen h)) W)) := fun W hb => fmtUint10_any (H.gen h) (by omega) W (H.Pow.go hp hb)
    unfold H.StrEnd at D1 D2
    have z1 := D.digs_len 19 (H.slot h) (by omega)
    have z2 := D.digs_len 19 (H.gen h) (by omega)
    have hz1 : ¬ 9223372036854775807 < (⟨(D.digs (H.slot h)).toArray⟩ : ByteArray).size + (⟨#[46]⟩ : ByteArray).size := by rw [D.size_l]; show ¬ _ < _ + 1; omega
    have hz2 : ¬ 9223372036854775807 < ((⟨(D.digs (H.slot h)).toArray⟩ : ByteArray) ++ (⟨#[46]⟩ : ByteArray)).size + (⟨(D.digs (H.gen h)).toArray⟩ : ByteArray).size := by rw [ByteArray.size_append]; have a1 := D.size_l (D.digs (H.slot h)); have a2 := D.size_l (D.digs (H.gen h)); have a3 : (⟨#[46]⟩ : ByteArray).size = 1 := rfl; omega
    rw [e1]
    clear e1 e2 k et z1 z2 hp
    generalize H.textL h = tt at *
    generalize D.digs (H.slot h) = ds at *
    generalize D.digs (H.gen h) = dg at *
    generalize H.gen h = g at *
    generalize H.slot h = s at *
    go_enter Tryd.func47, Tryd.ntmps47
    go_wp2_with fail
    refine HC.out.mono ?_
    rintro e w1 ⟨rfl, rfl⟩
    go_wp2_with fail
    refine HU.out.mono ?_
    rintro e w1 ⟨rfl, rfl⟩
    go_wp2_with fail
    refine (D1.out _ (Below.refl _ _)).mono ?_
    rintro e w1 ⟨rfl, hb⟩
    have B1 := Lib.hid hb
    clear hb
    go_wp2_with fail
    refine (D2.out _ B1.out).mono ?_
    rintro e w2 ⟨rfl, hb⟩
    have R := Lib.hid (R.out w2 (B1.out.trans (hb.mono B1.out.size)))
    clear hb
    go_wp2
    go_ret2
    exact R.out
  · obtain ⟨e1, e2, _⟩ := H.ck_bad k
    rw [e1] at HC
    have et : H.textL h = [] := if_neg k
    rw [e1, et]
    clear e1 e2 k et
    go_enter Tryd.func47, Tryd.ntmps47
    go_wp2_with fail
    refine HC.out.mono ?_
    rintro e w1 ⟨rfl, rfl⟩
    go_wp2
    go_ret2
    exact ⟨rfl, Below.refl _ _⟩
end Go.Proofs.YtndpknkdmaojaaaDoor
