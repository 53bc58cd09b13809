/- The laws' own functions x3, is, spoil, part, find; CopyNode. -/
import Derived.Test.YtdpaleldalplfaaNodeEx
import Derived.Test.YtdpaleldalplfaaNodeEqual
import Derived.Test.YtdpaleldalplfaaPackNEnc
import Derived.Test.YtdpaleldalplfaaPackNDec
namespace Go.Proofs.Ytdpaleldalplfaa
open Go.RowKit

theorem N.xcells : (#[.int .u64 65536, .int .i64 9, .int .i64 8, .int .i64 1, .int .u64 65537, .int .i64 8, .int .i64 0, .int .i64 0, .int .u64 65538, .int .i64 10, .int .i64 10, .int .i64 2] : Array Value) = (N.cells N.xK).toArray := rfl
def N.X3End (w : World) (e : Ending) (w' : World) : Prop := ∃ g, e = .returned (.agg #[.int .i64 1, .string ⟨#[]⟩, .slice (some ⟨g, 0, none⟩) 3 3]) ∧ N.Row w' (some ⟨g, 0, none⟩) N.xK ∧ Below w.heap.size w w'
set_option maxRecDepth 100000 in
theorem x3_any (w : World) : Calls Try.prog 57 #[] w (N.X3End w) := by
  have B1 : Hid (Below w.heap.size w ((w.alloc (.cells #[.int .i64 1, .string ⟨#[]⟩, .slice (some ⟨w.heap.size + 1, 0, none⟩) 3 3] 24)).alloc (.cells (N.cells N.xK).toArray 52))) := ((Below.refl _ _).alloc (Nat.le_refl _) _).alloc (by simp) _
  have R1 := N.row_lit (w.alloc (.cells #[.int .i64 1, .string ⟨#[]⟩, .slice (some ⟨w.heap.size + 1, 0, none⟩) 3 3] 24)) N.xK
  rw [World.size_alloc] at R1
  rw [← N.xcells] at B1 R1
  have R1 := Lib.hid R1
  go_enter Try.func57, Try.ntmps57
  go_wp2
  refine bodyPost_ret (v := .agg #[.int .i64 1, .string ⟨#[]⟩, .slice (some ⟨w.heap.size + 1, 0, none⟩) 3 3]) ?_ rfl ⟨w.heap.size + 1, rfl, R1.out, B1.out⟩
  simp [results, Try.results57, go_sem]
set_option maxRecDepth 100000 in
theorem is12_any (a b c : Int) (w : World) : Calls Try.prog 58 #[.int .i64 a, .int .i64 b, .int .i64 c, .agg #[.int .i64 a, .int .i64 b], .int .i64 c] w fun e w' => e = .returned (.bool true) ∧ Below w.heap.size w w' := by
  have q1 : (a == a) = true := by simp
  have q2 : (b == b) = true := by simp
  have q3 : (c == c) = true := by simp
  go_enter Try.func58, Try.ntmps58
  go_wp2
  go_ret
  exact ⟨rfl, (Below.refl _ _).alloc (Nat.le_refl _) _⟩
/-- Which component. -/
def N.wh : Nat → N.K → Int
  | 0 => N.K.b
  | 1 => N.K.r
  | _ => N.K.l
def N.wf : Nat → Int
  | 0 => 0
  | 1 => 0
  | _ => 1
set_option maxRecDepth 100000 in
theorem part12_any (b r l : Int) (i : Nat) (hi : i < 3) (w : World) : Calls Try.prog 43 #[.agg #[.int .i64 b, .int .i64 r, .int .i64 l], .int .i64 (i : Int)] w fun e w' => e = .returned (.int .i64 (N.wh i ⟨0, b, r, l⟩)) ∧ Below w.heap.size w w' := by
  rcases (show i = 0 ∨ i = 1 ∨ i = 2 by omega) with rfl | rfl | rfl
  · go_enter Try.func43, Try.ntmps43
    go_wp2
    go_ret
    exact ⟨rfl, (Below.refl _ _).alloc (Nat.le_refl _) _⟩
  · go_enter Try.func43, Try.ntmps43
    go_wp2
    go_ret
    exact ⟨rfl, (Below.refl _ _).alloc (Nat.le_refl _) _⟩
  · go_enter Try.func43, Try.ntmps43
    go_wp2
    go_ret
    exact ⟨rfl, (Below.refl _ _).alloc (Nat.le_refl _) _⟩
set_option maxRecDepth 100000 in
set_option maxHeartbeats 1000000 in
theorem lawFind12_any (i : Nat) (hi : i < 3) (h : Int) (t : ByteArray) (ao : Option Addr) (ca : Nat) (l : List N.K) (n : Int) (n0 : -9223372036854775808 ≤ n) (n1 : n ≤ 9223372036854775807) (w : World) (ht : t.size ≤ maxLen) (hn : l.length ≤ maxLen) (hr : N.Row w ao l) (hf : ∀ p ∈ l, N.Fit p) :
    Calls Try.prog 42 #[N.nv h t (.slice ao l.length ca), .int .i64 (i : Int), .int .i64 n] w (N.FdEnd (N.wh i) (N.wf i) (N.nd h t l) n w) := by
  have B1 : Hid (Below w.heap.size w (w.alloc (.cells #[.int .i64 h, .string t, .slice ao l.length ca] 24))) := (Below.refl _ _).alloc (Nat.le_refl _) _
  rcases (show i = 0 ∨ i = 1 ∨ i = 2 by omega) with rfl | rfl | rfl
  · have HF : Hid (∀ W, Below w.heap.size w W → Calls Try.prog 17 #[.agg #[.int .i64 h, .string t, .slice ao l.length ca], .int .i64 n] W (N.FdEnd N.K.b 0 (N.nd h t l) n W)) := fun W hW => child12_any h t ao ca l n n0 n1 W ht hn (hr.below hW) hf
    unfold N.FdEnd N.wh N.wf at *
    unfold N.nv
    generalize N.fdI N.K.b 0 (N.nd h t l) n = a at *
    generalize N.fdR N.K.b 0 (N.nd h t l) n = b at *
    generalize N.fdE N.K.b 0 (N.nd h t l) n = c at *
    clear ht hn hr hf
    go_enter Try.func42, Try.ntmps42
    go_wp2_with (go_at_call 17; refine (HF.out _ B1.out).mono ?_; rintro e w1 ⟨rfl, hb⟩; have B2 := Lib.hid (B1.out.trans (hb.mono B1.out.size)); clear hb)
    go_ret3
    exact ⟨rfl, B2.out⟩
  · have HF : Hid (∀ W, Below w.heap.size w W → Calls Try.prog 19 #[.agg #[.int .i64 h, .string t, .slice ao l.length ca], .int .i64 n] W (N.FdEnd N.K.r 0 (N.nd h t l) n W)) := fun W hW => rune12_any h t ao ca l n n0 n1 W ht hn (hr.below hW) hf
    unfold N.FdEnd N.wh N.wf at *
    unfold N.nv
    generalize N.fdI N.K.r 0 (N.nd h t l) n = a at *
    generalize N.fdR N.K.r 0 (N.nd h t l) n = b at *
    generalize N.fdE N.K.r 0 (N.nd h t l) n = c at *
    clear ht hn hr hf
    go_enter Try.func42, Try.ntmps42
    go_wp2_with (go_at_call 19; refine (HF.out _ B1.out).mono ?_; rintro e w1 ⟨rfl, hb⟩; have B2 := Lib.hid (B1.out.trans (hb.mono B1.out.size)); clear hb)
    go_ret3
    exact ⟨rfl, B2.out⟩
  · have HF : Hid (∀ W, Below w.heap.size w W → Calls Try.prog 21 #[.agg #[.int .i64 h, .string t, .slice ao l.length ca], .int .i64 n] W (N.FdEnd N.K.l 1 (N.nd h t l) n W)) := fun W hW => line12_any h t ao ca l n n0 n1 W ht hn (hr.below hW) hf
    unfold N.FdEnd N.wh N.wf at *
    unfold N.nv
    generalize N.fdI N.K.l 1 (N.nd h t l) n = a at *
    generalize N.fdR N.K.l 1 (N.nd h t l) n = b at *
    generalize N.fdE N.K.l 1 (N.nd h t l) n = c at *
    clear ht hn hr hf
    go_enter Try.func42, Try.ntmps42
    go_wp2_with (go_at_call 21; refine (HF.out _ B1.out).mono ?_; rintro e w1 ⟨rfl, hb⟩; have B2 := Lib.hid (B1.out.trans (hb.mono B1.out.size)); clear hb)
    go_ret3
    exact ⟨rfl, B2.out⟩
end Go.Proofs.Ytdpaleldalplfaa
