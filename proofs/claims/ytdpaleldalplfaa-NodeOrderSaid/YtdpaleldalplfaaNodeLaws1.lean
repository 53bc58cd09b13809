/- The walk of NodeOrder. -/
import Derived.Test.YtdpaleldalplfaaNodeLaws0
namespace Go.Proofs.Ytdpaleldalplfaa
open Go.RowKit

theorem N.fd_mono {f : N.K → Int} {first : Int} {x : N.Nd} {a b : Int} (h : a ≤ b) (ha : N.fdE f first x a = 0) (hb : N.fdE f first x b = 0) : N.fdI f first x a ≤ N.fdI f first x b := by
  rw [N.fdI, N.fdI, if_pos ha, if_pos hb]
  have := N.fnd_mono (f := f) (l := x.ks) (n := a - first) (m := b - first) (by omega)
  omega
set_option maxRecDepth 100000 in
set_option maxHeartbeats 4000000 in
theorem nodeOrder_walk (x : N.NArg) (n k : Int) (w : World) (hx : N.NOk w x) (n0 : -9223372036854775808 ≤ n) (n1 : n < 9223372036854775808) (k0 : -9223372036854775808 ≤ k) (k1 : k < 9223372036854775808) :
    Calls Try.prog 11 #[x.v, .int .i64 n, .int .i64 k] w fun e w' => e = .returned (.bool true) ∧ Below w.heap.size w w' := by
  have cd := hx.cd
  have hrow := hx.s.row
  obtain ⟨h, t, ao, ca, l⟩ := x
  dsimp only at cd hrow
  clear hx
  have HF : Hid (∀ (i : Nat) (m : Int) W, i < 3 → -9223372036854775808 ≤ m → m ≤ 9223372036854775807 → N.Row W ao l → Calls Try.prog 42 #[.agg #[.int .i64 h, .string t, .slice ao l.length ca], .int .i64 (i : Int), .int .i64 m] W fun e w' => e = .returned (.tuple #[.int .i64 (N.fdI (N.wh i) (N.wf i) (N.nd h t l) m), .int .i64 (N.fdR (N.wh i) (N.wf i) (N.nd h t l) m), .int .i64 (N.fdE (N.wh i) (N.wf i) (N.nd h t l) m)]) ∧ Below W.heap.size W w') := fun i m W hi m0 m1 hr => lawFind12_any i hi h t ao ca l m m0 m1 W cd.ts cd.len hr cd.ft
  have HM : Hid (∀ (i : Nat) (a b : Int), a ≤ b → N.fdE (N.wh i) (N.wf i) (N.nd h t l) a = 0 → N.fdE (N.wh i) (N.wf i) (N.nd h t l) b = 0 → N.fdI (N.wh i) (N.wf i) (N.nd h t l) a ≤ N.fdI (N.wh i) (N.wf i) (N.nd h t l) b) := fun i a b hab h1 h2 => N.fd_mono hab h1 h2
  have hkey : ∃ a b : Int, min n k = a ∧ max n k = b ∧ a ≤ b ∧ -9223372036854775808 ≤ a ∧ b ≤ 9223372036854775807 := ⟨min n k, max n k, rfl, rfl, by omega, by omega, by omega⟩
  obtain ⟨a, b, ha, hb, hab, ha0, hb1⟩ := hkey
  have KK : Hid (a ≤ b ∧ -9223372036854775808 ≤ a ∧ b ≤ 9223372036854775807) := ⟨hab, ha0, hb1⟩
  have X1 := Lib.hid (N.Nb.new w h t (.slice ao l.length ca) 24)
  have Z1 : Hid (N.Kn w (w.alloc (.cells #[.int .i64 h, .string t, .slice ao l.length ca] 24)) [(ao, l)]) := ((N.Kn0 w).add hrow).on ((Below.refl _ _).alloc (Nat.le_refl _) _)
  have HK := N.hAw
  unfold N.NArg.v N.nv
  dsimp only
  clear cd hrow hab ha0 hb1 n0 n1 k0 k1
  go_enter Try.func11, Try.ntmps11
  go_wp2
  go_loopw [7] (fun j wr => ∃ i : Nat, i ≤ 3 ∧ j = .int .i64 i ∧ Hid (N.Kn w wr [(ao, l)]) ∧ Hid (N.Nb wr w.heap.size h t (.slice ao l.length ca))) (fun j _ => 3 - (intOf j).toNat)
  case atStart => exact ⟨0, by decide, rfl, Z1, X1⟩
  case round =>
    clear Z1 X1
    obtain ⟨i, hi, rfl, hZ, hX⟩ := hrel
    have x0 := hX.out.c0
    have x1 := hX.out.c1
    have x2 := hX.out.c2
    by_cases hlt : i < 3
    · have H1 := Lib.hid (HF.out i a wr hlt KK.out.2.1 (by have := KK.out; omega) hZ.out.r0)
      have H2 : Hid (∀ W, N.Row W ao l → Calls Try.prog 42 #[.agg #[.int .i64 h, .string t, .slice ao l.length ca], .int .i64 (i : Int), .int .i64 b] W fun e w' => e = .returned (.tuple #[.int .i64 (N.fdI (N.wh i) (N.wf i) (N.nd h t l) b), .int .i64 (N.fdR (N.wh i) (N.wf i) (N.nd h t l) b), .int .i64 (N.fdE (N.wh i) (N.wf i) (N.nd h t l) b)]) ∧ Below W.heap.size W w') := fun W hr => HF.out i b W hlt (by have := KK.out; omega) KK.out.2.2 hr
      have hm := Lib.hid (HM.out i a b KK.out.1)
      generalize N.fdI (N.wh i) (N.wf i) (N.nd h t l) a = ia at H1 hm
      generalize N.fdR (N.wh i) (N.wf i) (N.nd h t l) a = ra at H1
      generalize N.fdE (N.wh i) (N.wf i) (N.nd h t l) a = ea at H1 hm
      generalize N.fdI (N.wh i) (N.wf i) (N.nd h t l) b = ib at H2 hm
      generalize N.fdR (N.wh i) (N.wf i) (N.nd h t l) b = rb at H2
      generalize N.fdE (N.wh i) (N.wf i) (N.nd h t l) b = eb at H2 hm
      have hcase : ((ea == 0) = false) ∨ ((ea == 0) = true ∧ (eb == 0) = false) ∨ ((ea == 0) = true ∧ (eb == 0) = true ∧ ¬ ib < ia) := by
        by_cases h1 : ea = 0
        · by_cases h2 : eb = 0
          · exact .inr (.inr ⟨by simpa using h1, by simpa using h2, by have := hm.out h1 h2; omega⟩)
          · exact .inr (.inl ⟨by simpa using h1, by simpa using h2⟩)
        · exact .inl (by simpa using h1)
      clear hm
      rcases hcase with q1 | ⟨q1, q2⟩ | ⟨q1, q2, q3⟩
      all_goals
        go_wp2_with fail
        refine H1.out.mono ?_
        rintro e w1 ⟨rfl, hb⟩
        have Z2 := Lib.hid (hZ.out.on hb)
        have X2 := Lib.hid (hX.out.below hb)
        clear hb x0 x1 x2
        have x0 := X2.out.c0
        have x1 := X2.out.c1
        have x2 := X2.out.c2
        go_wp2_with fail
        refine (H2.out _ Z2.out.r0).mono ?_
        rintro e w2 ⟨rfl, hb⟩
        have Z3 := Lib.hid (Z2.out.on hb)
        have X3 := Lib.hid (X2.out.below hb)
        clear hb x0 x1 x2
        go_wp2
        go_roundw
        case rel => exact ⟨i + 1, by omega, by go_num, Z3, X3⟩
        case measure => simp [intOf]; omega
    · obtain rfl : i = 3 := by omega
      go_wp2_with fail
      refine (HK.out _).mono ?_
      rintro e w3 ⟨rfl, hb⟩
      have KC := Lib.hid (hZ.out.below.trans (hb.mono hZ.out.below.size))
      clear hb
      go_wp2
      go_ret
      exact ⟨rfl, KC.out⟩
end Go.Proofs.Ytdpaleldalplfaa
