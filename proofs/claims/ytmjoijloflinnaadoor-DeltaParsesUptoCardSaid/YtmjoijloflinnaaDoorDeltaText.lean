/- The contracts of the reference's hex and digits. -/
import Derived.Test.YtmjoijloflinnaaDoorDeltaSrc
import Derived.Test.YtmjoijloflinnaaDoorDeltaTxt
namespace Go.Proofs.YtmjoijloflinnaaDoor
open Go.RowKit

set_option maxHeartbeats 1000000 in
theorem refHex_any (n : Nat) (hn : n < 16) (w : World) : Calls Tryd.prog 47 #[.int .u8 n] w (fun e w' => e = .returned (.int .u8 (D.hexN n).toNat) ∧ w = w') := by
  by_cases h : n < 10
  · have e : ((D.hexN n).toNat : Int) = 48 + n := by unfold D.hexN; rw [if_pos h]; simp; omega
    rw [e]
    go_enter Tryd.func47, Tryd.ntmps47
    go_wp2
    go_ret
    exact ⟨rfl, rfl⟩
  · have e : ((D.hexN n).toNat : Int) = 87 + n := by unfold D.hexN; rw [if_neg h]; simp; omega
    rw [e]
    go_enter Tryd.func47, Tryd.ntmps47
    go_wp2
    go_ret
    exact ⟨rfl, rfl⟩
def D.DigEnd (n : Nat) (w : World) (e : Ending) (w' : World) : Prop := e = .returned (.string ⟨(D.digs n).toArray⟩) ∧ Below w.heap.size w w'
set_option maxRecDepth 100000 in
set_option maxHeartbeats 1000000 in
theorem refDigits_any (n : Nat) : n ≤ 1000000000000000000 → ∀ w : World, Calls Tryd.prog 46 #[.int .i64 n] w (D.DigEnd n w) := by
  induction n using Nat.strongRecOn with
  | _ n ih =>
    intro hn w
    have ih := Lib.hid ih
    have hz : 48 + (n : Int) % 10 < 256 := by omega
    have hconv : ∀ W : World, (Sem.run Tryd.prog (convert 62 9 (.slice (some ⟨W.heap.size, 0, none⟩) 1 1)) (W.alloc (.cells #[.int .u8 (48 + (n : Int) % 10)] 5))) = .ok (.string ⟨#[UInt8.ofNat (48 + n % 10)]⟩) (W.alloc (.cells #[.int .u8 (48 + (n : Int) % 10)] 5)) := fun W => by
      have hby : Lib.Bytes (W.alloc (.cells #[.int .u8 (48 + (n : Int) % 10)] 5)) W.heap.size 0 ⟨#[UInt8.ofNat (48 + n % 10)]⟩ := by
        intro i hi
        have : i = 0 := by have : (⟨#[UInt8.ofNat (48 + n % 10)]⟩ : ByteArray).size = 1 := rfl; omega
        subst this
        rw [World.cell?_alloc_new]
        have : (⟨#[UInt8.ofNat (48 + n % 10)]⟩ : ByteArray)[0] = UInt8.ofNat (48 + n % 10) := rfl
        rw [this]
        simp; omega
      exact Lib.run_convert_whole (P := Tryd.prog) _ 62 5 9 Tryd.underlying62 Tryd.underlying5 Tryd.underlying9 W.heap.size 0 ⟨#[UInt8.ofNat (48 + n % 10)]⟩ hby 1
    by_cases h : n < 10
    · have R : Hid (∀ w', Below w.heap.size w w' → D.DigEnd n w (.returned (.string ⟨#[UInt8.ofNat (48 + n % 10)]⟩)) w') := fun w' hb => ⟨by rw [D.digs_lt h, Nat.mod_eq_of_lt h], hb⟩
      generalize UInt8.ofNat (48 + n % 10) = c at hconv R
      go_enter Tryd.func46, Tryd.ntmps46
      go_wp2
      go_ret
      exact R.out _ ((Below.refl _ _).alloc (Nat.le_refl _) _)
    · have R : Hid (∀ w', Below w.heap.size w w' → D.DigEnd n w (.returned (.string (⟨(D.digs (n / 10)).toArray⟩ ++ ⟨#[UInt8.ofNat (48 + n % 10)]⟩))) w') := fun w' hb => ⟨by rw [D.digs_ge h]; congr 1, hb⟩
      have hl := D.digs_len 18 (n / 10) (by omega)
      have hs : ¬ 9223372036854775807 < (⟨(D.digs (n / 10)).toArray⟩ : ByteArray).size + (⟨#[UInt8.ofNat (48 + n % 10)]⟩ : ByteArray).size := by rw [D.size_l]; show ¬ _ < _ + 1; omega
      have hq : ((n : Int).tdiv 10) = ((n / 10 : Nat) : Int) := by rw [Int.tdiv_eq_ediv_of_nonneg (by omega)]; omega
      have hn10 := Lib.hid (And.intro (show n / 10 < n by omega) (show n / 10 ≤ 1000000000000000000 by omega))
      generalize UInt8.ofNat (48 + n % 10) = c at hconv R hs
      generalize n / 10 = m at hl hs hq hn10 R
      have hcall : Hid (∀ W, Calls Tryd.prog 46 #[.int .i64 m] W (D.DigEnd m W)) := fun W => ih.out m hn10.out.1 hn10.out.2 W
      unfold D.DigEnd at hcall
      generalize D.digs m = ds at hl hs R hcall
      have hm := hn10.out.2
      go_enter Tryd.func46, Tryd.ntmps46
      go_wp2_with fail
      refine (hcall.out _).mono ?_
      rintro e w1 ⟨rfl, hb⟩
      have R := Lib.hid (R.out w1 (((Below.refl _ _).alloc (Nat.le_refl _) _).trans (hb.mono (by simp))))
      clear hb
      go_wp2
      go_ret
      exact R.out
end Go.Proofs.YtmjoijloflinnaaDoor
