/- The contracts of layer 12 as its laws meet them; rows of children that outlive calls. -/
import Derived.Test.YtniccjbcchdkoaaNodeArgs
import Derived.Test.YtniccjbcchdkoaaNodeRows
namespace Go.Proofs.Ytniccjbcchdkoaa
open Go.RowKit

/-- What stands since w: rows of children. -/
structure N.Kn (w W : World) (rs : List (Option Addr × List N.K)) : Prop where
  below : Below w.heap.size w W
  rows : ∀ p ∈ rs, N.Row W p.1 p.2
theorem N.Kn.on {w W W' : World} {rs : List (Option Addr × List N.K)} (h : N.Kn w W rs) (hb : Below W.heap.size W W') : N.Kn w W' rs := ⟨h.below.trans (hb.mono h.below.size), fun p hp => (h.rows p hp).below hb⟩
theorem N.Kn.add {w W : World} {rs : List (Option Addr × List N.K)} (h : N.Kn w W rs) {ao : Option Addr} {l : List N.K} (hr : N.Row W ao l) : N.Kn w W ((ao, l) :: rs) := ⟨h.below, fun p hp => by
  rcases List.mem_cons.1 hp with rfl | hp
  · exact hr
  · exact h.rows p hp⟩
theorem N.Kn.r0 {w W : World} {p : Option Addr × List N.K} {rs : List (Option Addr × List N.K)} (h : N.Kn w W (p :: rs)) : N.Row W p.1 p.2 := h.rows p List.mem_cons_self
theorem N.Kn.tl {w W : World} {p : Option Addr × List N.K} {rs : List (Option Addr × List N.K)} (h : N.Kn w W (p :: rs)) : N.Kn w W rs := ⟨h.below, fun q hq => h.rows q (List.mem_cons_of_mem _ hq)⟩
theorem N.Kn0 (w : World) : N.Kn w w [] := ⟨Below.refl _ _, fun p hp => by cases hp⟩
/-- A row that has just been made. -/
theorem N.Kn.made {w W W' : World} {rs : List (Option Addr × List N.K)} (h : N.Kn w W rs) {l : List N.K} {v : Value} (hm : N.Made l W v W') : ∃ ao c, v = .slice ao l.length c ∧ Hid (N.Kn w W' ((ao, l) :: rs)) := by
  obtain ⟨ao, c, e, hr, _⟩ := hm.src
  exact ⟨ao, c, e, (h.on hm.below).add hr⟩
/-- What a law knows of a node. -/
structure N.Cd (h : Int) (t : ByteArray) (l : List N.K) : Prop where
  ts : t.size ≤ maxLen
  lb : l.length * 32 ≤ 140737488351232
  ft : ∀ p ∈ l, N.Fit p
theorem N.Cd.len {h : Int} {t : ByteArray} {l : List N.K} (c : N.Cd h t l) : l.length ≤ maxLen := by have := c.lb; unfold maxLen; omega
theorem N.NOk.cd {W : World} {x : N.NArg} (h : N.NOk W x) : N.Cd x.h x.t x.s.x := ⟨by have := h.t; unfold maxLen; omega, h.s.fit, h.s.fits⟩
theorem N.hMs {h : Int} {t : ByteArray} {l : List N.K} (c : N.Cd h t l) : Hid (∀ ao ca W, N.Row W ao l → Calls Try.prog 70 #[.agg #[.int .i64 h, .string t, .slice ao l.length ca]] W fun e w' => e = .returned (.tuple #[.agg #[.int .i64 (N.mB (N.nd h t l)), .int .i64 (N.mR (N.nd h t l)), .int .i64 (N.mL (N.nd h t l))], .int .i64 (N.chk (N.nd h t l))]) ∧ Below W.heap.size W w') := fun ao ca W hr => measure12_any h t ao ca l W c.ts c.len hr c.ft
theorem N.hMs' {h : Int} {t : ByteArray} {l : List N.K} (c : N.Cd h t l) : Hid (∀ ao ca W, N.Row W ao l → Calls Try.prog 78 #[.agg #[.int .i64 h, .string t, .slice ao l.length ca]] W fun e w' => e = .returned (.tuple #[.agg #[.int .i64 (N.mB (N.nd h t l)), .int .i64 (N.mR (N.nd h t l)), .int .i64 (N.mL (N.nd h t l))], .int .i64 (N.chk (N.nd h t l))]) ∧ Below W.heap.size W w') := fun ao ca W hr => refMeasure12_any h t ao ca l W c.ts c.len hr c.ft
theorem N.hCk {h : Int} {t : ByteArray} {l : List N.K} (c : N.Cd h t l) : Hid (∀ ao ca W, N.Row W ao l → Calls Try.prog 39 #[.agg #[.int .i64 h, .string t, .slice ao l.length ca]] W fun e w' => e = .returned (.int .i64 (N.chk (N.nd h t l))) ∧ Below W.heap.size W w') := fun ao ca W hr => check12_any h t ao ca l W c.ts c.len hr c.ft
theorem N.hCk' {h : Int} {t : ByteArray} {l : List N.K} (c : N.Cd h t l) : Hid (∀ ao ca W, N.Row W ao l → Calls Try.prog 80 #[.agg #[.int .i64 h, .string t, .slice ao l.length ca]] W fun e w' => e = .returned (.int .i64 (N.chk (N.nd h t l))) ∧ Below W.heap.size W w') := fun ao ca W hr => refCheck12_any h t ao ca l W c.ts c.len hr c.ft
theorem N.hCp {h : Int} {t : ByteArray} {l : List N.K} (c : N.Cd h t l) : Hid (∀ ao ca W, N.Row W ao l → Calls Try.prog 54 #[.agg #[.int .i64 h, .string t, .slice ao l.length ca]] W fun e w' => ∃ v, e = .returned (.agg #[.int .i64 h, .string t, v]) ∧ N.Made l W v w') := fun ao ca W hr => copyNode12_any h t ao ca l W c.lb hr
/-- The laws' kit's comparison: the result is a letter with an equation. -/
theorem N.hEq {h k : Int} {s t : ByteArray} {a b : List N.K} (c : a.length ≤ maxLen) (u : Bool) (hu : decide (N.nd h s a = N.nd k t b) = u) : Hid (∀ ao ca bo cb W, N.Row W ao a → N.Row W bo b → Calls Try.prog 15 #[.agg #[.int .i64 h, .string s, .slice ao a.length ca], .agg #[.int .i64 k, .string t, .slice bo b.length cb]] W fun e w' => e = .returned (.bool u) ∧ Below W.heap.size W w') := fun ao ca bo cb W ha hb => by
  have := equalNode_any h k s t ao bo ca cb a b W ha hb c
  rwa [hu] at this
end Go.Proofs.Ytniccjbcchdkoaa
