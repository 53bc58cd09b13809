/- The functions of package runes that range over its iterators: first, Count, Next, Prev, Clip: their contracts. -/
import Derived.Test.YtnbijhmkhdjkiaaDoorRunesIter
import Derived.RangeFuncFrom
namespace Go.Proofs.YtnbijhmkhdjkiaaDoor
open Go.RowKit Go.Shelf
attribute [local go_sem] Oper.semAt_some

theorem U.cell_of_box {W : World} {B : Nat} {v : Value} {t : TypeId} (h : W.heap[B]? = some (.cells #[v] t (0, 0))) : W.cell? ⟨B, 0, none⟩ = some v ∧ W.frozen? ⟨B, 0, none⟩ = false := by
  constructor <;> simp [World.cell?, World.frozen?, h]
theorem U.cell_new (W : World) (v : Value) (t : TypeId) : (W.alloc (.cells #[v] t)).cell? ⟨W.heap.size, 0, none⟩ = some v ∧ (W.alloc (.cells #[v] t)).frozen? ⟨W.heap.size, 0, none⟩ = false :=
  U.cell_of_box (World.alloc_heap_new W _)
theorem U.cell_alloc {W : World} {a : Addr} {v : Value} (o : Obj) (h : W.cell? a = some v) : (W.alloc o).cell? a = some v := cell_kept h (World.grownBy_alloc W o none) (fun r e => by cases e)
theorem U.frozen_alloc {W : World} {a : Addr} {v : Value} (o : Obj) (h : W.cell? a = some v) (hf : W.frozen? a = false) : (W.alloc o).frozen? a = false := (frozen_kept h (World.grownBy_alloc W o none) (fun r e => by cases e)).trans hf
theorem U.kept_b {B : Nat} {w : World} (hB : B < w.heap.size) (W : World) (l : Nat) (o o' : Obj) (hl : w.heap.size ≤ l) (h : W.heap[l]? = some o) (_ : o.isCells = false) (_ : o.isWalk = false) : U.Kept B W (W.putObj l o') :=
  (grownBy_putObj' W l o').block B (by have := (Array.getElem?_eq_some_iff.1 h).1; omega) (by simp; omega)
theorem U.kept_set {B : Nat} (W : World) (a : Addr) (v : Value) (h : B ≠ a.block) : U.Kept B W (W.setCell a v) := Below.heap_setCell W a v B h

set_option maxRecDepth 100000 in
set_option maxHeartbeats 2000000 in
theorem first_in (n : Nat) (hn : 3 ≤ n) (gf : Nat) (lb : Array Value) (heg : ∀ args w, (callFunc gf args).run Tryd.prog w = .ok (.enter gf args) w) (L : List Int) (N B : Nat) (w : World) (hB : B < w.heap.size)
    (hseq : SeqStopsK Fence.wide (n - 1) Tryd.prog gf lb (fun x : Int => #[Value.int .i64 x]) (U.Kept B) (fun ys => ys = L) (fun pre => pre <+: L) N w) :
    CallsIn Fence.wide n Tryd.prog 36 #[.func (.func gf) #[] lb] w fun e W' => e = .returned (.tuple #[.int .i64 (L.head?.getD 0), .bool L.head?.isSome]) ∧ Below w.heap.size w W' := by
  have h1 : 1 ≤ n := by omega
  refine callsIn_of_wp_marks Tryd.func36 rfl trivial ?_ rfl
  simp only [Tryd.ntmps36, List.size_toArray, List.length_cons, List.length_nil, Nat.reduceAdd, Nat.reduceSub, Array.replicate_succ, Array.replicate_zero, List.push_toArray, List.append_toArray, List.nil_append, List.cons_append]
  gi_wp2
  have c0 := U.cell_new w (.int .i64 0) 3
  have c1 := U.cell_new (w.alloc (.cells #[.int .i64 0] 3)) (.bool false) 4
  rw [World.size_alloc] at c1
  have hB0 : Below w.heap.size w ((w.alloc (.cells #[.int .i64 0] 3)).alloc (.cells #[.bool false] 4)) := ((Below.refl _ w).alloc (Nat.le_refl _) _).alloc (by simp) _
  refine wpIn_rangeFunc_ownF rfl h1 (gf := gf) (lb := lb) rfl trivial heg hseq U.Kept.trans (U.kept_b (by simp; omega)) hB0 (fun _ => rfl)
    (fun pre W => (pre = [] ∧ W.cell? ⟨w.heap.size, 0, none⟩ = some (.int .i64 0) ∧ W.frozen? ⟨w.heap.size, 0, none⟩ = false ∧ W.cell? ⟨w.heap.size + 1, 0, none⟩ = some (.bool false) ∧ W.frozen? ⟨w.heap.size + 1, 0, none⟩ = false) ∧ Below w.heap.size w W)
    (fun c pre W => (c = .ret ∧ ∃ x, pre = [x] ∧ W.cell? ⟨w.heap.size, 0, none⟩ = some (.int .i64 x) ∧ W.cell? ⟨w.heap.size + 1, 0, none⟩ = some (.bool true)) ∧ Below w.heap.size w W)
    (OwnFrom.and (Own.from (fun s A B row hs hg hr => ⟨hs.1, cell_kept hs.2.1 hg hr, (frozen_kept hs.2.1 hg hr).trans hs.2.2.1, cell_kept hs.2.2.2.1 hg hr, (frozen_kept hs.2.2.2.1 hg hr).trans hs.2.2.2.2⟩) _) (ownFrom_below (Nat.le_refl _) (by simp; omega)))
    (fun c => OwnFrom.and (Own.from (fun s A B row hs hg hr => by obtain ⟨e, x, ex, ha, hb⟩ := hs; exact ⟨e, x, ex, cell_kept ha hg hr, cell_kept hb hg hr⟩) _) (ownFrom_below (Nat.le_refl _) (by simp; omega)))
    ⟨⟨rfl, U.cell_alloc _ c0.1, U.frozen_alloc _ c0.1 c0.2, c1.1, c1.2⟩, hB0⟩
    (fun x => { tmps := #[.func (.func gf) #[] lb, undef, .pointer (some ⟨w.heap.size, 0, none⟩), .pointer (some ⟨w.heap.size + 1, 0, none⟩), .int .i64 x, .func (.func gf) #[] lb, .int .i64 x, undef], defers := [] }) ?assign ?body ?done ?stop
  case assign =>
    intro l x W K hK
    gi_wp2
    exact hK
  case body =>
    rintro l pre x W ⟨⟨rfl, hc0, hf0, hc1, hf1⟩, hBW⟩ _
    gi_wp2
    refine ⟨(KeepsOthers.setCell _ _ _).trans (KeepsOthers.setCell _ _ _), ⟨rfl, x, rfl, ?_, ?_⟩, (hBW.setCell (p := ⟨w.heap.size, 0, none⟩) (Nat.le_refl _) _).setCell (p := ⟨w.heap.size + 1, 0, none⟩) (by simp) _⟩
    · rw [World.cell?_setCell_other _ _ _ _ (by simp)]
      exact World.cell?_setCell_same' _ _ _ (by rw [hc0]; rfl)
    · refine World.cell?_setCell_same' _ _ _ ?_
      rw [World.cell?_setCell_other _ _ _ _ (by simp), hc1]; rfl
  case done =>
    rintro D ys W hD rfl ⟨⟨hnil, hc0, hf0, hc1, hf1⟩, hBW⟩ hK
    subst hnil
    clear hseq
    gi_wp2
    have hK1 := (KeepsOthers.setCell W ⟨w.heap.size, 0, none⟩ (.int .i64 0)).same D _ hK rfl
    have hK2 := (KeepsOthers.setCell (W.setCell ⟨w.heap.size, 0, none⟩ (.int .i64 0)) ⟨w.heap.size + 1, 0, none⟩ (.bool false)).same D _ hK1 rfl
    have d0 : ((W.setCell ⟨w.heap.size, 0, none⟩ (.int .i64 0)).setCell ⟨w.heap.size + 1, 0, none⟩ (.bool false)).cell? ⟨w.heap.size, 0, none⟩ = some (.int .i64 0) := by
      rw [World.cell?_setCell_other _ _ _ _ (by simp)]
      exact World.cell?_setCell_same' _ _ _ (by rw [hc0]; rfl)
    have d1 : ((W.setCell ⟨w.heap.size, 0, none⟩ (.int .i64 0)).setCell ⟨w.heap.size + 1, 0, none⟩ (.bool false)).cell? ⟨w.heap.size + 1, 0, none⟩ = some (.bool false) := by
      refine World.cell?_setCell_same' _ _ _ ?_
      rw [World.cell?_setCell_other _ _ _ _ (by simp), hc1]; rfl
    refine ⟨by simp, .inl ⟨_, _, rfl, run_takeDeferred hK2, ?_⟩⟩
    have g0 := cell_kept d0 (grownBy_putObj' _ D (.deferred none)) (fun r e => by cases e; exact ⟨_, hK2, rfl⟩)
    have g1 := cell_kept d1 (grownBy_putObj' _ D (.deferred none)) (fun r e => by cases e; exact ⟨_, hK2, rfl⟩)
    refine ⟨.tuple #[.int .i64 0, .bool false], ?_, rfl, ((hBW.setCell (p := ⟨w.heap.size, 0, none⟩) (Nat.le_refl _) _).setCell (p := ⟨w.heap.size + 1, 0, none⟩) (by simp) _).trans (belowK_b (w := w) (Nat.le_refl _) _ D _ _ (by simp at hD; omega) hK2 rfl rfl)⟩
    simp [results, Tryd.f36, go_sem, g0, g1]
  case stop =>
    rintro D c pre W hD hpre ⟨⟨rfl, x, rfl, hc0, hc1⟩, hBW⟩ hK
    obtain ⟨t, rfl⟩ := hpre
    clear hseq
    gi_wp2
    refine ⟨by simp, .inl ⟨_, _, rfl, run_takeDeferred hK, ?_⟩⟩
    have g0 := cell_kept hc0 (grownBy_putObj' _ D (.deferred none)) (fun r e => by cases e; exact ⟨_, hK, rfl⟩)
    have g1 := cell_kept hc1 (grownBy_putObj' _ D (.deferred none)) (fun r e => by cases e; exact ⟨_, hK, rfl⟩)
    refine ⟨.tuple #[.int .i64 x, .bool true], ?_, rfl, hBW.trans (belowK_b (w := w) (Nat.le_refl _) W D _ _ (by simp at hD; omega) hK rfl rfl)⟩
    simp [results, Tryd.f36, go_sem, g0, g1]

theorem U.head_ints (l : List Nat) : (U.ints l).head? = l.head?.map fun k => (k : Int) := by
  cases l <;> rfl
theorem U.head_asc (l : List Nat) : ((U.ints l).head?.getD 0) = ((l.head?.getD 0 : Nat) : Int) ∧ (U.ints l).head?.isSome = l.head?.isSome := by
  cases l <;> exact ⟨rfl, rfl⟩
theorem U.two_boxes (w : World) (u v : Value) (t t' : TypeId) :
    ((w.alloc (.cells #[u] t)).alloc (.cells #[v] t')).cell? ⟨w.heap.size, 0, none⟩ = some u ∧ ((w.alloc (.cells #[u] t)).alloc (.cells #[v] t')).cell? ⟨w.heap.size + 1, 0, none⟩ = some v ∧
      Below w.heap.size w ((w.alloc (.cells #[u] t)).alloc (.cells #[v] t')) ∧ ((w.alloc (.cells #[u] t)).alloc (.cells #[v] t')).heap.size = w.heap.size + 2 := by
  have c0 := U.cell_new w u t
  have c1 := U.cell_new (w.alloc (.cells #[u] t)) v t'
  rw [World.size_alloc] at c1
  exact ⟨U.cell_alloc _ c0.1, c1.1, ((Below.refl _ w).alloc (Nat.le_refl _) _).alloc (by simp) _, by simp⟩
theorem first_asc (s : ByteArray) (x : Int) (w : World) (hs : s.size < 4611686018427387904) (h0 : 0 ≤ x) (h1 : x ≤ s.size + 1) :
    Calls Tryd.prog 36 #[.func (.func 38) #[] #[.pointer (some ⟨w.heap.size + 1, 0, none⟩), .pointer (some ⟨w.heap.size, 0, none⟩)]] ((w.alloc (.cells #[.string s] 9)).alloc (.cells #[.int .i64 x] 3)) fun e w' =>
      e = .returned (.tuple #[.int .i64 ((U.ups s.data.toList x.toNat (s.size + 1)).head?.getD 0 : Nat), .bool (U.ups s.data.toList x.toNat (s.size + 1)).head?.isSome]) ∧ Below w.heap.size w w' := by
  obtain ⟨c0, c1, hB, hz⟩ := U.two_boxes w (.string s) (.int .i64 x) 9 3
  have hx : ((x.toNat : Nat) : Int) = x := by omega
  refine Calls.mono (callsIn_wide.1 (first_in 3 (Nat.le_refl _) 38 _ (enters_of Tryd.func38 (by kernel_rfl) rfl) _ (s.size + 1) w.heap.size _ (by rw [hz]; omega)
    (asc_stops 2 (by omega) (w.heap.size + 1) w.heap.size s x.toNat hs (by omega) _ (by rw [hz]; omega) (by rw [hz]; omega) (by rw [hx]; exact c1) c0))) ?_
  rintro e w' ⟨rfl, hb⟩
  have hh := U.head_asc (U.ups s.data.toList x.toNat (s.size + 1))
  rw [hh.1, hh.2]
  exact ⟨rfl, hB.trans (hb.mono (by rw [hz]; omega))⟩
theorem first_dsc (s : ByteArray) (x : Int) (w : World) (hs : s.size < 4611686018427387904) (h1 : x ≤ s.size) :
    Calls Tryd.prog 36 #[.func (.func 39) #[] #[.pointer (some ⟨w.heap.size + 1, 0, none⟩), .pointer (some ⟨w.heap.size, 0, none⟩)]] ((w.alloc (.cells #[.string s] 9)).alloc (.cells #[.int .i64 x] 3)) fun e w' =>
      e = .returned (.tuple #[.int .i64 ((U.dns s.data.toList (x + 1).toNat).head?.getD 0 : Nat), .bool (U.dns s.data.toList (x + 1).toNat).head?.isSome]) ∧ Below w.heap.size w w' := by
  obtain ⟨c0, c1, hB, hz⟩ := U.two_boxes w (.string s) (.int .i64 x) 9 3
  refine Calls.mono (callsIn_wide.1 (first_in 3 (Nat.le_refl _) 39 _ (enters_of Tryd.func39 (by kernel_rfl) rfl) _ (s.size + 1) w.heap.size _ (by rw [hz]; omega)
    (dsc_stops 2 (by omega) (w.heap.size + 1) w.heap.size s x hs h1 _ (by rw [hz]; omega) (by rw [hz]; omega) c1 c0))) ?_
  rintro e w' ⟨rfl, hb⟩
  have hh := U.head_asc (U.dns s.data.toList (x + 1).toNat)
  rw [hh.1, hh.2]
  exact ⟨rfl, hB.trans (hb.mono (by rw [hz]; omega))⟩

theorem U.ret_opt {o o' : Option Nat} (h : o = o') : Ending.returned (.tuple #[.int .i64 (o.getD 0 : Nat), .bool o.isSome]) = .returned (.tuple #[.int .i64 (o'.getD 0 : Nat), .bool o'.isSome]) := by rw [h]
theorem U.nxt_key (s : ByteArray) (i : Int) (a : Nat) (h : (i < -1 ∧ a = 0) ∨ (-1 ≤ i ∧ i ≤ s.size ∧ (a : Int) = i + 1) ∨ ((s.size : Int) < i ∧ a = s.size + 1)) :
    (U.ups s.data.toList a (s.size + 1)).head? = U.nxt s.data.toList i := by
  have := U.nxt_of_ups s.data.toList i a (by rw [U.len]; omega)
  rwa [U.len] at this
theorem U.prv_key (s : ByteArray) (i : Int) (a : Nat) (h : (i ≤ 0 ∧ a = 0) ∨ (0 < i ∧ i ≤ s.size + 1 ∧ (a : Int) = i) ∨ ((s.size : Int) + 1 < i ∧ a = s.size + 1)) :
    (U.dns s.data.toList a).head? = U.prv s.data.toList i := U.prv_of_dns s.data.toList i a (by rw [U.len]; omega)
set_option maxHeartbeats 1000000 in
theorem next_any (s : ByteArray) (i : Int) (w : World) (hs : s.size < 4611686018427387904) :
    Calls Tryd.prog 23 #[.string s, .int .i64 i] w fun e w' => e = .returned (.tuple #[.int .i64 ((U.nxt s.data.toList i).getD 0 : Nat), .bool (U.nxt s.data.toList i).isSome]) ∧ Below w.heap.size w w' := by
  have hc : i < -1 ∨ (-1 ≤ i ∧ i ≤ s.size) ∨ (s.size : Int) < i := by omega
  rcases hc with hc | ⟨hc1, hc2⟩ | hc
  all_goals
    go_enter Tryd.func23, Tryd.ntmps23
    go_wp2_with (first | (go_at_call 29; refine (ascending_any _ _ _).mono ?_; rintro e w' ⟨rfl, rfl⟩) | (go_at_call 36; refine (first_asc _ _ _ ‹_› (by omega) (by omega)).mono ?_; rintro e w' ⟨rfl, hb⟩))
    go_ret2
    exact ⟨U.ret_opt (U.nxt_key s i _ (by omega)), ‹_›⟩
set_option maxHeartbeats 1000000 in
theorem prev_any (s : ByteArray) (i : Int) (w : World) (hs : s.size < 4611686018427387904) :
    Calls Tryd.prog 25 #[.string s, .int .i64 i] w fun e w' => e = .returned (.tuple #[.int .i64 ((U.prv s.data.toList i).getD 0 : Nat), .bool (U.prv s.data.toList i).isSome]) ∧ Below w.heap.size w w' := by
  have hc : i < 0 ∨ (0 ≤ i ∧ i ≤ s.size + 1) ∨ (s.size : Int) + 1 < i := by omega
  rcases hc with hc | ⟨hc1, hc2⟩ | hc
  all_goals
    go_enter Tryd.func25, Tryd.ntmps25
    go_wp2_with (first | (go_at_call 37; refine (descending_any _ _ _).mono ?_; rintro e w' ⟨rfl, rfl⟩) | (go_at_call 36; refine (first_dsc _ _ _ ‹_› (by omega)).mono ?_; rintro e w' ⟨rfl, hb⟩))
    go_ret2
    exact ⟨U.ret_opt (U.prv_key s i _ (by omega)), ‹_›⟩
theorem U.dns_bd (l : List UInt8) (k : Nat) : (U.dns l k).head?.getD 0 ≤ k - 1 := by
  cases h : (U.dns l k).head? with
  | none => exact Nat.zero_le _
  | some x =>
    have hx : x ∈ U.dns l k := List.mem_of_head? h
    unfold U.dns at hx
    have := (List.mem_filter.1 hx).1
    simp at this
    simp; omega
set_option maxHeartbeats 1000000 in
theorem clip_any (s : ByteArray) (i : Int) (w : World) (hs : s.size < 4611686018427387904) :
    Calls Tryd.prog 27 #[.string s, .int .i64 i] w fun e w' => e = .returned (.string (s.extract 0 (U.clipN s.data.toList i))) ∧ Below w.heap.size w w' := by
  have hc : i ≤ s.size ∨ (s.size : Int) < i := by omega
  rcases hc with hc | hc
  · have hb1 : (U.dns s.data.toList (i + 1).toNat).head?.getD 0 ≤ s.size := by have := U.dns_bd s.data.toList (i + 1).toNat; omega
    go_enter Tryd.func27, Tryd.ntmps27
    go_wp2_with (first | (go_at_call 37; refine (descending_any _ _ _).mono ?_; rintro e w' ⟨rfl, rfl⟩) | (go_at_call 36; refine (first_dsc _ _ _ ‹_› (by omega)).mono ?_; rintro e w' ⟨rfl, hb⟩))
    go_ret
    exact ⟨U.ret_str (by rw [U.clipN, U.prv_key s (i + 1) _ (by omega)]), ‹_›⟩
  · have hb1 : (U.dns s.data.toList (s.size + 1)).head?.getD 0 ≤ s.size := U.dns_bd s.data.toList (s.size + 1)
    go_enter Tryd.func27, Tryd.ntmps27
    go_wp2_with (first | (go_at_call 37; refine (descending_any _ _ _).mono ?_; rintro e w' ⟨rfl, rfl⟩) | (go_at_call 36; refine (first_dsc _ _ _ ‹_› (by omega)).mono ?_; rintro e w' ⟨rfl, hb⟩))
    go_ret
    exact ⟨U.ret_str (by rw [U.clipN, U.prv_key s (i + 1) _ (by omega)]), ‹_›⟩

set_option maxRecDepth 100000 in
set_option maxHeartbeats 2000000 in
theorem count_in (n : Nat) (hn : 3 ≤ n) (s : ByteArray) (w : World) (hs : s.size < 4611686018427387904) :
    CallsIn Fence.wide n Tryd.prog 15 #[.string s] w fun e W' => e = .returned (.int .i64 (U.cnt s.data.toList)) ∧ Below w.heap.size w W' := by
  have h1 : 1 ≤ n := by omega
  have hcnt := U.cnt_of_ups s.data.toList
  rw [U.len] at hcnt
  have Hcnt := Lib.hid hcnt
  clear hcnt
  refine callsIn_of_wp_marks Tryd.func15 rfl trivial ?_ rfl
  simp only [Tryd.ntmps15, List.size_toArray, List.length_cons, List.length_nil, Nat.reduceAdd, Nat.reduceSub, Array.replicate_succ, Array.replicate_zero, List.push_toArray, List.append_toArray, List.nil_append, List.cons_append]
  gi_wp2_with (refine ⟨trivial, ?_⟩; gi_at_call 29; refine (callsIn_wide.2 (ascending_any _ _ _)).mono ?_; rintro e w' ⟨rfl, rfl⟩)
  obtain ⟨c0, c1, hB0, _⟩ := U.two_boxes (w.alloc (.cells #[.int .i64 0] 3)) (.string s) (.int .i64 0) 9 3
  rw [World.size_alloc] at c0 c1 hB0
  have hz0 : (((w.alloc (.cells #[.int .i64 0] 3)).alloc (.cells #[.string s] 9)).alloc (.cells #[.int .i64 0] 3)).heap.size = w.heap.size + 3 := by simp
  have cn := U.cell_new w (.int .i64 0) 3
  have hB1 : Below w.heap.size w (((w.alloc (.cells #[.int .i64 0] 3)).alloc (.cells #[.string s] 9)).alloc (.cells #[.int .i64 0] 3)) := ((Below.refl _ w).alloc (Nat.le_refl _) _).trans (hB0.mono (by omega))
  refine wpIn_rangeFunc_ownF rfl h1 (gf := 38) (lb := #[.pointer (some ⟨w.heap.size + 1 + 1, 0, none⟩), .pointer (some ⟨w.heap.size + 1, 0, none⟩)]) rfl trivial (enters_of Tryd.func38 (by kernel_rfl) rfl)
    (asc_stops (n - 1) (by omega) (w.heap.size + 1 + 1) (w.heap.size + 1) s 0 hs (by omega) _ (by rw [hz0]; omega) (by rw [hz0]; omega) c1 c0) U.Kept.trans (U.kept_b (by rw [hz0]; omega)) (Below.refl _ _) (fun _ => rfl)
    (fun pre W => (W.cell? ⟨w.heap.size, 0, none⟩ = some (.int .i64 pre.length) ∧ W.frozen? ⟨w.heap.size, 0, none⟩ = false) ∧ Below w.heap.size w W)
    (fun _ _ _ => False)
    (OwnFrom.and (Own.from (fun s A B row hs hg hr => ⟨cell_kept hs.1 hg hr, (frozen_kept hs.1 hg hr).trans hs.2⟩) _) (ownFrom_below (Nat.le_refl _) (by rw [hz0]; omega)))
    (fun _ _ _ _ _ hs _ _ => hs)
    ⟨⟨U.cell_alloc _ (U.cell_alloc _ cn.1), U.frozen_alloc _ (U.cell_alloc _ cn.1) (U.frozen_alloc _ cn.1 cn.2)⟩, hB1⟩
    (fun x => { tmps := #[.string s, undef, .int .i64 0, .pointer (some ⟨w.heap.size, 0, none⟩), .string s, .func (.func 38) #[] #[.pointer (some ⟨w.heap.size + 1 + 1, 0, none⟩), .pointer (some ⟨w.heap.size + 1, 0, none⟩)], .int .i64 x, undef, undef, undef, undef], defers := [] }) ?assign ?body ?done ?stop
  case assign =>
    intro l x W K hK
    gi_wp2
    simpa using hK
  case body =>
    rintro l pre x W ⟨⟨hc, hf⟩, hBW⟩ hlt
    clear c0 c1 cn hB0 hB1 hz0
    gi_wp2
    refine ⟨KeepsOthers.setCell _ _ _, U.kept_set _ _ _ (by simp), ⟨?_, by rw [World.frozen?_setCell]; exact hf⟩, hBW.setCell (p := ⟨w.heap.size, 0, none⟩) (Nat.le_refl _) _⟩
    rw [World.cell?_setCell_same' _ _ _ (by rw [hc]; rfl)]
    simp
  case done =>
    rintro D ys W hD rfl ⟨⟨hc, _⟩, hBW⟩ hK
    rw [hz0] at hD
    clear c0 c1 cn hB0 hB1 hz0
    have hl : (U.ints (U.ups s.data.toList 0 (s.size + 1))).length = U.cnt s.data.toList + 1 := by rw [U.ints, List.length_map]; exact Hcnt.out
    rw [hl] at hc
    clear hl
    have hle : U.cnt s.data.toList ≤ s.size := by
      have := U.cntTo_le s.data.toList s.data.toList.length
      rw [U.len] at this; unfold U.cnt; rw [U.len]; exact this
    gi_wp2
    refine ⟨by simp, .inl ⟨_, _, rfl, run_takeDeferred hK, ?_⟩⟩
    exact ⟨_, results_tmp rfl _ _ _, by simp, hBW.trans (belowK_b (w := w) (Nat.le_refl _) W D _ _ (by omega) hK rfl rfl)⟩
  case stop =>
    rintro D c pre W _ _ h _
    exact h.elim
theorem count_any (s : ByteArray) (w : World) (hs : s.size < 4611686018427387904) :
    Calls Tryd.prog 15 #[.string s] w fun e W' => e = .returned (.int .i64 (U.cnt s.data.toList)) ∧ Below w.heap.size w W' :=
  callsIn_wide.1 (count_in 3 (Nat.le_refl _) s w hs)
end Go.Proofs.YtnbijhmkhdjkiaaDoor
