/- The contracts of layer 10 as its laws meet them; the law package's valid, is, awake. -/
import Derived.Test.YtlkkgjkbjjifmaaDoorHandPkg3
import Derived.Test.YtlkkgjkbjjifmaaDoorHandPkg4
import Derived.Test.YtlkkgjkbjjifmaaDoorHandPkg6
import Derived.Test.YtlkkgjkbjjifmaaDoorHandNum
namespace Go.Proofs.YtlkkgjkbjjifmaaDoor
open Go.RowKit

theorem M10.hMk (s g : Int) (s0 : -9223372036854775808 ≤ s) (s1 : s ≤ 9223372036854775807) (g0 : 0 ≤ g) (g1 : g ≤ 18446744073709551615) : Hid (∀ W, Calls Tryd.prog 9 #[.int .i64 s, .int .u64 g] W fun e w' => e = .returned (.tuple #[.int .u64 (H.mkV s g), .int .i64 (H.mkE s g)]) ∧ Below W.heap.size W w') := fun W => (make10_any s g s0 s1 g0 g1 W).mono fun _ _ h => ⟨h.1, h.2 ▸ Below.refl _ _⟩
theorem M10.hCk (h : Nat) (h1 : h ≤ 18446744073709551615) : Hid (∀ W, Calls Tryd.prog 19 #[.int .u64 (h : Int)] W fun e w' => e = .returned (.int .i64 (H.ckE h)) ∧ Below W.heap.size W w') := fun W => (check10_any h h1 W).mono fun _ _ h => ⟨h.1, h.2 ▸ Below.refl _ _⟩
theorem M10.hSl (h : Nat) (h1 : h ≤ 18446744073709551615) : Hid (∀ W, Calls Tryd.prog 11 #[.int .u64 (h : Int)] W fun e w' => e = .returned (.tuple #[.int .i64 (H.slotV h), .int .i64 (H.ckE h)]) ∧ Below W.heap.size W w') := fun W => (slot10_any h h1 W).mono fun _ _ h => ⟨h.1, h.2 ▸ Below.refl _ _⟩
theorem M10.hGn (h : Nat) (h1 : h ≤ 18446744073709551615) : Hid (∀ W, Calls Tryd.prog 12 #[.int .u64 (h : Int)] W fun e w' => e = .returned (.tuple #[.int .u64 (H.genV h), .int .i64 (H.ckE h)]) ∧ Below W.heap.size W w') := fun W => (gen10_any h h1 W).mono fun _ _ h => ⟨h.1, h.2 ▸ Below.refl _ _⟩
theorem M10.hNx (h : Nat) (h1 : h ≤ 18446744073709551615) : Hid (∀ W, Calls Tryd.prog 13 #[.int .u64 (h : Int)] W fun e w' => e = .returned (.tuple #[.int .u64 (H.nxV h), .int .i64 (H.nxE h)]) ∧ Below W.heap.size W w') := fun W => (next10_any h h1 W).mono fun _ _ h => ⟨h.1, h.2 ▸ Below.refl _ _⟩
theorem M10.hTx (h : Nat) (h1 : h ≤ 18446744073709551615) : Hid (∀ W, H.Pow W.heap.size W → Calls Tryd.prog 14 #[.int .u64 (h : Int)] W fun e w' => e = .returned (.tuple #[.string ⟨(H.textL h).toArray⟩, .int .i64 (H.ckE h)]) ∧ Below W.heap.size W w') := fun W hp => text10_any h h1 W hp
theorem M10.hPa (z : ByteArray) (hz : z.size ≤ 140737488351232) : Hid (∀ W, Calls Tryd.prog 22 #[.string z] W fun e w' => e = .returned (.tuple #[.int .u64 (H.parse z.data.toList).1, .int .i64 (H.parse z.data.toList).2]) ∧ Below W.heap.size W w') := fun W => by
  have := parse10_any z.data.toList (by rw [Array.length_toList]; exact hz) W
  rwa [D.bytes_eq] at this
theorem M10.hMk' (s g : Int) (s0 : -9223372036854775808 ≤ s) (s1 : s ≤ 9223372036854775807) (g0 : 0 ≤ g) (g1 : g ≤ 18446744073709551615) : Hid (∀ W, Calls Tryd.prog 10 #[.int .i64 s, .int .u64 g] W fun e w' => e = .returned (.tuple #[.int .u64 (H.mkV s g), .int .i64 (H.mkE s g)]) ∧ Below W.heap.size W w') := fun W => (refMake10_any s g s0 s1 g0 g1 W).mono fun _ _ h => ⟨h.1, h.2 ▸ Below.refl _ _⟩
theorem M10.hCk' (h : Nat) (h1 : h ≤ 18446744073709551615) : Hid (∀ W, Calls Tryd.prog 20 #[.int .u64 (h : Int)] W fun e w' => e = .returned (.int .i64 (H.ckE h)) ∧ Below W.heap.size W w') := fun W => (refCheck10_any h h1 W).mono fun _ _ h => ⟨h.1, h.2 ▸ Below.refl _ _⟩
theorem M10.hSl' (h : Nat) (h1 : h ≤ 18446744073709551615) : Hid (∀ W, Calls Tryd.prog 15 #[.int .u64 (h : Int)] W fun e w' => e = .returned (.tuple #[.int .i64 (H.slotV h), .int .i64 (H.ckE h)]) ∧ Below W.heap.size W w') := fun W => (refSlot10_any h h1 W).mono fun _ _ h => ⟨h.1, h.2 ▸ Below.refl _ _⟩
theorem M10.hGn' (h : Nat) (h1 : h ≤ 18446744073709551615) : Hid (∀ W, Calls Tryd.prog 16 #[.int .u64 (h : Int)] W fun e w' => e = .returned (.tuple #[.int .u64 (H.genV h), .int .i64 (H.ckE h)]) ∧ Below W.heap.size W w') := fun W => (refGen10_any h h1 W).mono fun _ _ h => ⟨h.1, h.2 ▸ Below.refl _ _⟩
theorem M10.hNx' (h : Nat) (h1 : h ≤ 18446744073709551615) : Hid (∀ W, Calls Tryd.prog 17 #[.int .u64 (h : Int)] W fun e w' => e = .returned (.tuple #[.int .u64 (H.nxV h), .int .i64 (H.nxE h)]) ∧ Below W.heap.size W w') := fun W => (refNext10_any h h1 W).mono fun _ _ h => ⟨h.1, h.2 ▸ Below.refl _ _⟩
theorem M10.hTx' (h : Nat) (h1 : h ≤ 18446744073709551615) : Hid (∀ W, Calls Tryd.prog 18 #[.int .u64 (h : Int)] W fun e w' => e = .returned (.tuple #[.string ⟨(H.textL h).toArray⟩, .int .i64 (H.ckE h)]) ∧ Below W.heap.size W w') := fun W => refText10_any h h1 W
theorem M10.hPa' (z : ByteArray) (hz : z.size ≤ 140737488351232) : Hid (∀ W, Calls Tryd.prog 23 #[.string z] W fun e w' => e = .returned (.tuple #[.int .u64 (H.parse z.data.toList).1, .int .i64 (H.parse z.data.toList).2]) ∧ Below W.heap.size W w') := fun W => by
  have := refParse10_any z.data.toList W (by rw [Array.length_toList]; exact hz)
  rw [D.bytes_eq] at this
  exact this.mono fun _ _ h => ⟨h.1, h.2 ▸ Below.refl _ _⟩
/-! ### The law package's own -/
set_option maxRecDepth 100000 in
theorem M10.is_any (h e want wantE : Int) (w : World) : Calls Tryd.prog 30 #[.int .u64 h, .int .i64 e, .int .u64 want, .int .i64 wantE] w fun x w' => x = .returned (.bool (h == want && e == wantE)) ∧ w = w' := by
  by_cases h1 : h = want
  · have q1 : (h == want) = true := by simpa using h1
    rw [q1]
    clear h1
    go_enter Tryd.func30, Tryd.ntmps30
    go_wp2
    go_ret
    exact ⟨by rw [Bool.true_and]; rfl, rfl⟩
  · have q1 : (h == want) = false := by simpa using h1
    rw [q1]
    clear h1
    go_enter Tryd.func30, Tryd.ntmps30
    go_wp2
    go_ret
    exact ⟨by rw [Bool.false_and]; rfl, rfl⟩
def H.vs (s : Int) : Int := s % 16384
def H.vg (g : Int) : Int := 1 + g % 4294967295
theorem H.vs_bd (s : Int) : 0 ≤ H.vs s ∧ H.vs s < 16384 := by unfold H.vs; omega
theorem H.vg_bd (g : Int) : 1 ≤ H.vg g ∧ H.vg g ≤ 4294967295 := by unfold H.vg; omega
theorem H.vs_of (s : Int) : (s.tmod 16384 + 16384).tmod 16384 = H.vs s := by
  unfold H.vs
  rcases Int.lt_or_le s 0 with h | h
  · have e : s.tmod 16384 = -((-s) % 16384) := by
      rw [← Int.tmod_eq_emod_of_nonneg (by omega), Int.neg_tmod, Int.neg_neg]
    rw [e, Int.tmod_eq_emod_of_nonneg (by omega)]
    omega
  · rw [Int.tmod_eq_emod_of_nonneg h, Int.tmod_eq_emod_of_nonneg (by omega)]
    omega
theorem H.tmod_bd (s : Int) : -16384 < s.tmod 16384 ∧ s.tmod 16384 < 16384 := by
  rcases Int.lt_or_le s 0 with h | h
  · have e : s.tmod 16384 = -((-s) % 16384) := by
      rw [← Int.tmod_eq_emod_of_nonneg (by omega), Int.neg_tmod, Int.neg_neg]
    omega
  · rw [Int.tmod_eq_emod_of_nonneg h]; omega
set_option maxRecDepth 100000 in
theorem M10.valid_any (s g : Int) (g0 : 0 ≤ g) (_ : g ≤ 18446744073709551615) (w : World) : Calls Tryd.prog 25 #[.int .i64 s, .int .u64 g] w fun x w' => x = .returned (.tuple #[.int .i64 (H.vs s), .int .u64 (H.vg g)]) ∧ w = w' := by
  have e1 := H.vs_of s
  have b1 := H.tmod_bd s
  have e2 : g.tmod 4294967295 = g % 4294967295 := Int.tmod_eq_emod_of_nonneg g0
  have e3 : 1 + g % 4294967295 = H.vg g := rfl
  have b2 : 0 ≤ g % 4294967295 ∧ g % 4294967295 < 4294967295 := by omega
  have b3 := H.vs_bd s
  generalize H.vs s = vs at *
  generalize H.vg g = vg at *
  obtain ⟨m, hm⟩ : ∃ m, s.tmod 16384 = m := ⟨_, rfl⟩
  rw [hm] at e1 b1
  have w1 : IntKind.i64.wrap (m + 16384) = m + 16384 := IntWalk.i64_in _ (by omega)
  generalize g % 4294967295 = n at *
  have b4 := b1.1
  have b5 := b1.2
  have b6 := b2.1
  have b7 := b2.2
  clear b1 b2
  go_enter Tryd.func25, Tryd.ntmps25
  go_wp2
  go_ret2
  exact ⟨rfl, rfl⟩
end Go.Proofs.YtlkkgjkbjjifmaaDoor
