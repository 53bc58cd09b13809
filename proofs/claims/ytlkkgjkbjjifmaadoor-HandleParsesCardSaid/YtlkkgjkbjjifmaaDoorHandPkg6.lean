/- The contract of package handle's Sort. -/
import Derived.Test.YtlkkgjkbjjifmaaDoorHandPkg5
import Derived.BigQuiet
namespace Go.Proofs.YtlkkgjkbjjifmaaDoor
open Go.RowKit Go.Sort

theorem H.guard_enc (T : TypeId) : GuardAt Tryd.prog T H.enc := fun op a b _ _ w => GuardAt.int Tryd.prog T .u64 op a b _ _ w
theorem H.eq_enc (x y : UInt64) : (((H.un x : Nat) : Int) == ((H.un y : Nat) : Int)) = decide (x = y) := by
  by_cases h : x = y
  · subst h; simp
  · have : ¬ H.un x = H.un y := fun e => h (H.un_inj e)
    simp [h]; omega
theorem H.eql_enc (T : TypeId) : EqlAt Tryd.prog T H.enc (fun x y => decide (x = y)) := ⟨fun x y w => by
  have := (EqlAt.int Tryd.prog T .u64).1 ((H.un x : Nat) : Int) ((H.un y : Nat) : Int) w
  dsimp only at this; rw [H.eq_enc] at this; exact this, H.guard_enc T⟩
theorem H.neq_enc (T : TypeId) : NeqAt Tryd.prog T H.enc (fun x y => decide (x = y)) := ⟨fun x y w => by
  have := (NeqAt.int Tryd.prog T .u64).1 ((H.un x : Nat) : Int) ((H.un y : Nat) : Int) w
  dsimp only at this; rw [H.eq_enc] at this; exact this, H.guard_enc T⟩
structure H.SortedAt (l : List Nat) (w : World) (g cap : Nat) (W : World) : Prop where
  lo : w.heap.size ≤ g
  le : l.length ≤ cap
  max : cap ≤ maxLen
  below : Below w.heap.size w W
  at_ : ∃ (d : Array UInt64) (cur : Array Value), W.heap[g]? = some (.cells cur 23 (0, 0)) ∧ cur.size = cap * 1 ∧ d.size = l.length ∧ cur.toList.take l.length = d.toList.map H.enc ∧ (Lib.compactUpTo d d.size).map H.un = H.srt l ∧ (Lib.compactUpTo d d.size).length ≤ d.size
theorem sortFunc10_any (l : List Nat) (w W : World) (g cap : Nat) (hm : H.Made l w (.slice (some ⟨g, 0, none⟩) l.length cap) W) (hn : l.length ≤ 1000000) (hb : ∀ x ∈ l, x ≤ 18446744073709551615) :
    Calls Tryd.prog 41 #[.slice (some ⟨g, 0, none⟩) l.length cap, .func (.func 42) #[] #[]] W fun e w' => e = .returned (.tuple #[]) ∧ H.SortedAt l w g cap w' := by
  have hown : W.ownsRow w.heap.size 23 1 (.slice (some ⟨g, 0, none⟩) l.length cap) (H.row l).length (H.row l) := hm.own
  have hB : Below w.heap.size w W := V.Made.below hm
  obtain ⟨hl, ⟨e', _⟩ | ⟨g', cap', cur, e', hlo, hg, hnc, hcm, hcs, ht⟩⟩ := hown
  · cases e'
  simp only [Value.slice.injEq, Option.some.injEq, Addr.mk.injEq, and_true] at e'
  obtain ⟨rfl, hll, rfl⟩ := e'
  rw [H.row_len, Nat.mul_one] at ht
  rw [H.row_len] at hnc
  rw [H.of_row hb] at ht
  have hlo2 : (H.of l).length = l.length := by simp [H.of]
  rw [← hlo2] at ht
  have hH := H.holds_of_block H.enc hg ht
  have hgl : g < W.heap.size := (Array.getElem?_eq_some_iff.1 hg).1
  have eg : ∀ args w, (callFunc 42 args).run Tryd.prog w = .ok (.enter 42 args) w := enters_of Tryd.func42 (by kernel_rfl) rfl
  have hcmp : CmpLays1 Tryd.prog 42 #[] H.enc H.cf g 0 (H.of l).toArray.size W := fun m os dk _ x y => by
    exact sortFn10_any (H.un x) (H.un y) (H.un_le x) (H.un_le y) _
  have hcon := Any.slices_SortFunc H.laysSort H.enc (fun _ => rfl) H.cf H.swo 42 #[] g 0 cap (H.of l).toArray W eg hcmp hH hgl (by simp; omega)
  have hsz : (H.of l).toArray.size = l.length := by simp [H.of]
  rw [hsz] at hcon
  change Calls Tryd.prog 41 _ _ _ at hcon
  refine hcon.mono ?_
  rintro e w' ⟨rfl, d, n, os, hp, hs, rfl⟩
  obtain ⟨h1, h2, h3⟩ := H.compact_srt l hb d (by rw [hsz]; exact hp) (by rw [hsz]; exact hs)
  refine ⟨rfl, hlo, hnc, hcm, ?_, d, _, H.heap_put H.enc d hg, by simp [putCells, hcs], h1, ?_, h2, h3⟩
  · exact hB.grown (H.grownBy_put H.enc d) hB.size (fun k hk => by cases hk; exact hlo)
  · have hdl : d.toList.length = l.length := by rw [Array.length_toList]; exact h1
    have := H.take_putCells H.enc cur d.toList l.length (by omega) (by rw [hdl, hcs]; omega)
    rw [Array.toArray_toList] at this
    rw [this, List.take_of_length_le (by omega)]
theorem compact10_any (l : List Nat) (w W : World) (g cap : Nat) (h : H.SortedAt l w g cap W) (hn : l.length ≤ 1000000) :
    Calls Tryd.prog 45 #[.slice (some ⟨g, 0, none⟩) l.length cap] W fun e w' => ∃ v, e = .returned v ∧ H.Made (H.srt l) w v w' := by
  obtain ⟨d, cur, hg, hcs, hd, ht, hu, hc⟩ := h.at_
  have hdl : d.toList.length = l.length := by rw [Array.length_toList]; exact hd
  rw [← hdl] at ht
  have hH := H.holds_of_block H.enc hg ht
  rw [Array.toArray_toList] at hH
  have hcon := AnyE.slices_Compact H.laysCompact H.enc (fun _ => rfl) (H.eql_enc _) (H.neq_enc _) 0 Tryd.zeroValue23 g 0 cap d W hH (by omega) (by have := h.le; omega)
  rw [hd] at hcon
  change Calls Tryd.prog 45 _ _ _ at hcon
  refine hcon.mono ?_
  rintro e w' ⟨rfl, q, rfl⟩
  rw [hd] at hc hu
  have hk : ((Lib.compactUpTo d l.length ++ List.replicate (l.length - (Lib.compactUpTo d l.length).length) (0 : UInt64)).take (Lib.compactUpTo d l.length).length) = Lib.compactUpTo d l.length := by simp
  have hlen : (Lib.compactUpTo d l.length ++ List.replicate (l.length - (Lib.compactUpTo d l.length).length) (0 : UInt64)).length = l.length := by simp; omega
  have hO := H.ownsRow_put (n := q) (os := #[]) (base := w.heap.size) H.enc (ts := Lib.compactUpTo d l.length ++ List.replicate (l.length - (Lib.compactUpTo d l.length).length) (0 : UInt64)) (k := (Lib.compactUpTo d l.length).length) (by omega) h.lo hg (by have := h.le; omega) h.max hcs
  have hG := H.grownBy_put (w := W) (g := g) (n := q) (os := #[]) H.enc (Lib.compactUpTo d l.length ++ List.replicate (l.length - (Lib.compactUpTo d l.length).length) (0 : UInt64)).toArray
  rw [hk, ← H.row_un, hu] at hO
  rw [grow_empty] at hO hG
  have hul : (Lib.compactUpTo d l.length).length = (H.srt l).length := by rw [← hu, List.length_map]
  have hBl := h.below.grown hG h.below.size (fun k hk => by cases hk; exact h.lo)
  refine ⟨_, rfl, ?_, hBl⟩
  rw [H.row_len, ← hul]; exact hO
set_option maxRecDepth 100000 in
set_option maxHeartbeats 1000000 in
theorem sort10_any (ao : Option Addr) (ca : Nat) (l : List Nat) (w : World) (hr : V.Row w ao (H.row l)) (hc : ao = none → ca = 0) (hn : l.length ≤ 1000000) (hb : ∀ x ∈ l, x ≤ 18446744073709551615) :
    Calls Tryd.prog 32 #[.slice ao l.length ca] w fun e w' => ∃ v, e = .returned v ∧ H.Made (H.srt l) w v w' := by
  have HC := Lib.hid (clone10_any ao ca l w hr hc hn)
  unfold H.OwnEnd at HC
  have HF : Hid (∀ g cap W, H.Made l w (.slice (some ⟨g, 0, none⟩) l.length cap) W → Calls Tryd.prog 41 #[.slice (some ⟨g, 0, none⟩) l.length cap, .func (.func 42) #[] #[]] W fun e w' => e = .returned (.tuple #[]) ∧ H.SortedAt l w g cap w') := fun g cap W h => sortFunc10_any l w W g cap h hn hb
  have HK : Hid (∀ g cap W, H.SortedAt l w g cap W → Calls Tryd.prog 45 #[.slice (some ⟨g, 0, none⟩) l.length cap] W fun e w' => ∃ v, e = .returned v ∧ H.Made (H.srt l) w v w') := fun g cap W h => compact10_any l w W g cap h hn
  have H0 : Hid (∀ W, Calls Tryd.prog 41 #[.slice none 0 0, .func (.func 42) #[] #[]] W fun e w' => e = .returned (.tuple #[]) ∧ w' = W) := fun W => AnyF.slices_SortFunc_none { H.laysSort with } none 0 _ W
  have K0 : Hid (∀ W, Calls Tryd.prog 45 #[.slice none 0 0] W fun e w' => e = .returned (.slice none 0 0) ∧ W = w') := fun W => compact10_short none 0 0 (by omega) W
  have Z : Hid (l.length = 0 → H.srt l = []) := fun h => by rw [List.length_eq_zero_iff.1 h]; rfl
  clear hr hc hn hb
  go_enter Tryd.func32, Tryd.ntmps32
  go_wp2_with fail
  refine HC.out.mono ?_
  rintro e w1 ⟨v, rfl, hm⟩
  have hform : v = .slice none 0 0 ∧ l.length = 0 ∨ ∃ g cap, v = .slice (some ⟨g, 0, none⟩) l.length cap := by
    have hown : w1.ownsRow w.heap.size 23 1 v (H.row l).length (H.row l) := hm.own
    obtain ⟨hl, ⟨e', h0⟩ | ⟨g', cap', cur, e', _⟩⟩ := hown
    · rw [H.row_len] at h0; exact .inl ⟨e', h0⟩
    · rw [H.row_len] at e'; exact .inr ⟨g', cap', e'⟩
  have HM := Lib.hid hm
  clear hm
  rcases hform with ⟨rfl, h0⟩ | ⟨g, cap, rfl⟩
  · have hz := Lib.hid (Z.out h0)
    have hB := Lib.hid (V.Made.below HM.out)
    clear h0
    go_wp2_with fail
    refine (H0.out _).mono ?_
    rintro e w2 ⟨rfl, hw⟩
    subst hw
    go_wp2_with fail
    refine (K0.out _).mono ?_
    rintro e w3 ⟨rfl, rfl⟩
    go_wp2
    go_ret
    exact ⟨_, rfl, by rw [hz.out]; exact H.Made.nil _ hB.out⟩
  · go_wp2_with fail
    refine (HF.out g cap _ HM.out).mono ?_
    rintro e w2 ⟨rfl, hs⟩
    have HS := Lib.hid hs
    clear hs
    go_wp2_with fail
    refine (HK.out g cap _ HS.out).mono ?_
    rintro e w3 ⟨v, rfl, hm⟩
    have hm := Lib.hid hm
    obtain ⟨ao, c, hv, _⟩ := hm.out.row
    subst hv
    go_wp2
    go_ret
    exact ⟨_, rfl, hm.out⟩
end Go.Proofs.YtlkkgjkbjjifmaaDoor
