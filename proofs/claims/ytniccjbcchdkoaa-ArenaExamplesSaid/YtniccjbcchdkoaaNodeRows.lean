/- The contract of CopyNode; the contracts of layer 12 as its laws meet them. -/
import Derived.Test.YtniccjbcchdkoaaNodeAwake
import Derived.Test.YtniccjbcchdkoaaPackNFind
namespace Go.Proofs.Ytniccjbcchdkoaa
open Go.RowKit

def N.CpEnd (h : Int) (t : ByteArray) (l : List N.K) (w : World) (e : Ending) (w' : World) : Prop := ∃ v, e = .returned (.agg #[.int .i64 h, .string t, v]) ∧ N.Made l w v w'
set_option maxRecDepth 100000 in
set_option maxHeartbeats 2000000 in
theorem copyNode12_any (h : Int) (t : ByteArray) (ao : Option Addr) (ca : Nat) (l : List N.K) (w : World) (hn : l.length * 32 ≤ 140737488351232) (hr : N.Row w ao l) :
    Calls Try.prog 54 #[N.nv h t (.slice ao l.length ca)] w (N.CpEnd h t l w) := by
  have B1 : Hid (Below w.heap.size w ((w.alloc (.cells #[.int .i64 h, .string t, .slice ao l.length ca] 30)).alloc (.cells #[.int .i64 0, .string ⟨#[]⟩, .slice none 0 0] 30))) := ((Below.refl _ _).alloc (Nat.le_refl _) _).alloc (by simp) _
  have X1 := Lib.hid ((N.Nb.new w h t (.slice ao l.length ca) 30).alloc (.cells #[.int .i64 0, .string ⟨#[]⟩, .slice none 0 0] 30))
  have O1 := N.Own.new (w.alloc (.cells #[.int .i64 h, .string t, .slice ao l.length ca] 30)) (.int .i64 0) (.string ⟨#[]⟩) (.slice none 0 0) 30
  rw [World.size_alloc] at O1
  have O1 := Lib.hid O1
  have HK : Hid (∀ W, Below w.heap.size w W → Calls Try.prog 79 #[.slice ao l.length ca] W fun e w' => ∃ v, e = .returned v ∧ N.Made l W v w') := fun W hW => copyKids_any ao ca l W (hr.below hW) hn
  have L1 : Hid (w.heap.size + 2 ≤ ((w.alloc (.cells #[.int .i64 h, .string t, .slice ao l.length ca] 30)).alloc (.cells #[.int .i64 0, .string ⟨#[]⟩, .slice none 0 0] 30)).heap.size) := by show _ ≤ _; simp
  unfold N.nv
  clear hn hr
  go_enter Try.func54, Try.ntmps54
  go_upto_region 1 with (fail)
  generalize (w.alloc (.cells #[.int .i64 h, .string t, .slice ao l.length ca] 30)).alloc (.cells #[.int .i64 0, .string ⟨#[]⟩, .slice none 0 0] 30) = V at B1 X1 O1 L1 ⊢
  have x0 := X1.out.c0
  have x1 := X1.out.c1
  have x2 := X1.out.c2
  go_region_with (first
    | (go_at_call 79; refine (HK.out _ B1.out.drew).mono ?_; rintro e w5 ⟨v, rfl, hm⟩
       obtain ⟨vo, vc, hv, _, _⟩ := hm.src
       have A3 := hm.ab B1.out.drew
       have hb := hm.below
       have X5 := (X1.out.below ((Below.refl _ _).drew)).below hb
       have O5 := O1.out.drew.below hb
       have y0 := X5.c0
       have y1 := X5.c1
       have r0 := O5.c0
       have r1 := O5.c1
       have r2 := O5.c2
       have s0 := O5.f0
       have s1 := O5.f1
       have s2 := O5.f2
       have hP := O5.put (.int .i64 h) (.string t) v
       have hL := L1.out
       have A5 := ((A3.set (b := w.heap.size + 1) (by omega) (by simp; omega) 0 (.int .i64 h)).set (b := w.heap.size + 1) (by omega) (by simp; omega) 1 (.string t)).set (b := w.heap.size + 1) (by omega) (by simp; omega) 2 v
       have M5 := Lib.hid A5.made
       subst hv
       clear A3 A5 hm hb X5 O5 hL))
  all_goals
    go_wp2
    have p0 := hP.c0
    have p1 := hP.c1
    have p2 := hP.c2
    refine bodyPost_ret (v := .agg #[.int .i64 h, .string t, .slice vo l.length vc]) ?_ rfl ⟨_, rfl, M5.out⟩
    unfold N.put3 at p0 p1 p2
    simp [results, Try.results54, go_sem, p0, p1, p2]
end Go.Proofs.Ytniccjbcchdkoaa
