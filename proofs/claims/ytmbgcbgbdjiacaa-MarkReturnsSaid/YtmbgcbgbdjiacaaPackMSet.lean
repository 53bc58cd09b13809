/- Texts joined: MarkCopy MarkClone MarkInsert MarkDelete MarkChk MarkFind MarkSearch MarkSet -/
import Derived.Test.YtmbgcbgbdjiacaaPackMSort
import Derived.Laws.IdiomCopy
import Derived.Laws.CopyRow
import Derived.Lib.Overlaps
import Derived.Lib.AppendZerosOnto
import Derived.Test.YtmbgcbgbdjiacaaPackMRow
import Derived.Lib.SliceRun
import Derived.Shelf.Spec.SlicesInsert
import Derived.Deep.RegionLaw
import Derived.BigQuiet
/- MarkCopy -/
namespace Go.Proofs.Ytmbgcbgbdjiacaa
open Go.RowKit

theorem K.infoM : ∃ ip : TypeInfo, Try.prog.info? 32 = some ip ∧ ip.zero = some (.agg #[.int .u32 0, .int .i64 0, .int .u8 0]) ∧ ip.size = 3 ∧ ip.bytes = 24 := by
  obtain ⟨ip, h, h0, h1, h2⟩ := info_parts Try.infoMark
  exact ⟨ip, h, h0, h1, h2⟩
/-- copy at marks: all is read before anything is written. -/
theorem K.run_copy (w : World) (ty : TypeId) (b o dLen dCap : Nat) (a : Addr) (sLen sCap : Nat) (cs : List K.M) (hn : cs.length = Nat.min sLen dLen)
    (hsrc : ∀ j v, (K.cellsM cs)[j]? = some v → w.cell? (a.add j) = some v) (hc : ∀ j, j < cs.length * 3 → (w.cell? ⟨b, o + j, none⟩).isSome = true) (hf : ∀ j, w.frozen? ⟨b, j, none⟩ = false) :
    (Builtin.copy_ #[22, 22] ty #[.slice (some ⟨b, o, none⟩) dLen dCap, .slice (some a) sLen sCap]).run Try.prog w = .ok (goInt cs.length) (w.setCells b o (K.cellsM cs)) := by
  obtain ⟨ip, hq, _, hi, _⟩ := K.infoM
  have hlen := K.cellsM_len cs
  have hl := run_loadCells_list (P := Try.prog) w a (K.cellsM cs) hsrc
  have hst := run_storeCells_cells (P := Try.prog) b o (K.cellsM cs) 0 w (by rw [hlen]; simpa using hc) (fun j _ => hf _) (K.cells_one cs)
  rw [hlen] at hl
  simp [Builtin.copy_, run_underlying Try.underlying22, Builtin.lenOf, Builtin.firstCells, sizeOf, typeInfo, hq, hi, ← hn, hl, hst]
theorem K.below_setCells {B : Nat} {a : World} {b : Nat} (hb : B ≤ b) : ∀ (vs : List Value) (o : Nat) (w : World), Below B a w → Below B a (w.setCells b o vs)
  | [], _, _, h => h
  | v :: r, o, _, h => K.below_setCells hb r (o + 1) _ (h.setCell (p := ⟨b, o, none⟩) hb v)
theorem K.heap_setCells (g : Nat) (t : TypeId) : ∀ (vs : List Value) (o : Nat) (cur : Array Value) (W : World), W.heap[g]? = some (.cells cur t (0, 0)) → o + vs.length ≤ cur.size →
    (W.setCells g o vs).heap[g]? = some (.cells (cur.toList.take o ++ vs ++ cur.toList.drop (o + vs.length)).toArray t (0, 0))
  | [], o, cur, W, h, _ => by
    rw [World.setCells, h]; simp
  | v :: r, o, cur, W, h, hl => by
    rw [World.setCells]
    have h1 := heap_setCell_same W g o cur t v h
    have := K.heap_setCells g t r (o + 1) _ _ h1 (by simp at hl ⊢; omega)
    rw [this]
    have e := list_seg_step cur.toList o v r (by simp at hl ⊢; omega)
    congr 3
    simpa [Array.toList_setIfInBounds, Nat.add_assoc] using e
theorem K.cellsM_take (l : List K.M) (k : Nat) : K.cellsM (l.take k) = (K.cellsM l).take (k * 3) := by
  have e : K.cellsM l = K.cellsM (l.take k) ++ K.cellsM (l.drop k) := by rw [← K.cellsM_append, List.take_append_drop]
  by_cases h : k ≤ l.length
  · rw [e, List.take_left' (by rw [K.cellsM_len, List.length_take, Nat.min_eq_left h])]
  · rw [List.take_of_length_le (by omega), List.take_of_length_le (by rw [K.cellsM_len]; omega)]
/-- A run of marks laid into a row, which may grow by it into its spare room. -/
theorem K.Made.lay {L : List K.M} {w W : World} {g n c : Nat} (h : K.Made L w (.slice (some ⟨g, 0, none⟩) n c) W) (i : Nat) (cs : List K.M) (hi : i ≤ n) (hc : i + cs.length ≤ c) :
    K.Made (L.take i ++ cs) w (.slice (some ⟨g, 0, none⟩) (i + cs.length) c) (W.setCells g (i * 3) (K.cellsM cs)) := by
  obtain ⟨rfl, hb, hlt, cur, hg, hnc, hcm, hcs, ht⟩ := h.block
  have hl := K.cellsM_len cs
  have hh := K.heap_setCells g 32 (K.cellsM cs) (i * 3) cur W hg (by rw [hl, hcs, ← Nat.add_mul]; exact Nat.mul_le_mul_right 3 hc)
  have hlen : (L.take i ++ cs).length = i + cs.length := by rw [List.length_append, List.length_take]; omega
  refine ⟨⟨by rw [K.cellsM_len], Or.inr ⟨g, c, _, by rw [hlen], hb, hh, by rw [hlen]; exact hc, hcm, ?_, ?_⟩⟩, K.below_setCells hb _ _ _ h.below⟩
  · simp only [List.size_toArray, List.length_append, List.length_take, List.length_drop, Array.length_toList, hl, hcs]
    omega
  · rw [hlen, K.cellsM_append, K.cellsM_take, ← ht, List.take_take, Nat.min_eq_left (Nat.mul_le_mul_right 3 hi)]
    simp only []
    rw [List.take_left' (by simp only [List.length_append, List.length_take, Array.length_toList, hl, hcs]; omega)]
end Go.Proofs.Ytmbgcbgbdjiacaa
/- MarkClone -/
namespace Go.Proofs.Ytmbgcbgbdjiacaa
open Go.RowKit

def K.OwnEnd (l : List K.M) (w : World) (e : Ending) (w' : World) : Prop := ∃ v, e = .returned v ∧ K.Made l w v w'
set_option maxRecDepth 100000 in
theorem clone9_any (ao : Option Addr) (ca : Nat) (l : List K.M) (w : World) (hr : K.Row w ao l) (hc : ao = none → ca = 0) (hn : l.length ≤ 1000000) :
    Calls Try.prog 35 #[.slice ao l.length ca] w (K.OwnEnd l w) := by
  have hr1 := Lib.hid (hr.below ((Below.refl w.heap.size w).alloc (Nat.le_refl _) (.cells #[] 32)))
  have ho := Lib.hid (World.ownsRow_made (w := w) (base := w.heap.size) (e := 32) (size := 3) #[] 0 (Nat.le_refl _) (Nat.zero_le _) rfl)
  have hb := Lib.hid ((Below.refl w.heap.size w).alloc (Nat.le_refl _) (.cells #[] 32))
  have q22 : ∀ (w : World) (a : Option Addr) (n c n' c' : Nat), (binOp .eql 22 (.slice a n c) (.slice none n' c')).run Try.prog w = .ok (.bool a.isNone) w := fun w a n c n' c' => Lib.run_eql_slice_nil w 22 32 a n c n' c' Try.underlying22
  cases ao with
  | none =>
    have hl : l = [] := by
      cases l with
      | nil => rfl
      | cons p r => obtain ⟨_, _, e, _⟩ := hr 0 p rfl; cases e
    obtain rfl := hc rfl
    subst hl
    clear hr hr1 ho hb hc hn
    go_enter Try.func35, Try.ntmps35
    go_wp2
    go_ret
    exact ⟨_, rfl, K.Made.nil _ (Below.refl _ _)⟩
  | some ad =>
    clear hr hc
    go_enter Try.func35, Try.ntmps35
    go_wp2_with (at_builtin; refine K.append_src' (w0 := w) rfl _ _ rfl _ _ _ rfl ho.out hb.out (some ad) ca l rfl (fun h => nomatch h) hr1.out ?q1 ?_)
    case q1 => omega
    intro v' w3 hown' hb3
    have R : Hid (K.OwnEnd l w (.returned v') w3) := ⟨v', rfl, hown', hb3⟩
    clear hown' hb3
    go_wp2
    go_ret
    exact R.out
theorem own9_any (ao : Option Addr) (cap : Nat) (l : List K.M) (w : World) (hr : K.Row w ao l) (hc : ao = none → cap = 0) (hn : l.length * 24 ≤ 140737488351232) :
    Calls Try.prog 11 #[.slice ao l.length cap] w (K.OwnEnd l w) := by
  have hr1 := Lib.hid (hr.below ((Below.refl w.heap.size w).alloc (Nat.le_refl _) (.cells #[] 32)))
  have ho := Lib.hid (World.ownsRow_made (w := w) (base := w.heap.size) (e := 32) (size := 3) #[] 0 (Nat.le_refl _) (Nat.zero_le _) rfl)
  have hb := Lib.hid ((Below.refl w.heap.size w).alloc (Nat.le_refl _) (.cells #[] 32))
  have Hc := Lib.hid hc
  clear hr hc
  go_enter Try.func11, Try.ntmps11
  go_wp2_with (at_builtin; refine K.append_src' (w0 := w) rfl _ _ rfl _ _ _ rfl ho.out hb.out ao cap l rfl Hc.out hr1.out ?q1 ?_)
  case q1 => omega
  intro v' w3 hown' hb3
  have R : Hid (K.OwnEnd l w (.returned v') w3) := ⟨v', rfl, hown', hb3⟩
  clear hown' hb3
  go_wp2
  go_ret
  exact R.out
end Go.Proofs.Ytmbgcbgbdjiacaa
/- MarkInsert -/
namespace Go.Proofs.Ytmbgcbgbdjiacaa
open Go.RowKit

set_option maxRecDepth 100000 in
theorem K.slice_at (g n c k : Nat) (z : Int) (hz : z = (k : Int)) (hk : k ≤ n) (hkc : k < c) (W : World) : (Instr.slice 22 (.slice (some ⟨g, 0, none⟩) n c) (some (.int .i64 z)) none none).run Try.prog W = .ok (.slice (some ⟨g, k * 3, none⟩) (n - k) (c - k)) W := by
  subst hz
  have h := run_slice_l (P := Try.prog) (w := W) 22 (some ⟨g, 0, none⟩) n c Try.underlying22 .i64 (k : Int) (by omega) (by omega)
  have hs : (sizeOf (Try.prog.elem 22)).run Try.prog W = .ok 3 W := by kernel_rfl
  rw [h, hs]
  have hadd : (⟨g, 0, none⟩ : Addr).add (k * 3) = ⟨g, k * 3, none⟩ := by rw [Addr.add_lit, Nat.zero_add]
  have : ¬ c = k := by omega
  simp [Result.andThen, sliced, hadd, this]
theorem K.put_set (W : World) (g i : Nat) (m : K.M) : W.setCells g (i * 3) (K.cellsM [m]) = K.putAt W g i m := by
  rw [K.cellsM_one]; rfl
theorem K.mid_list (L : List K.M) (i : Nat) (m : K.M) (hi : i < L.length) : (L.take (i + 1) ++ L.drop i).set i m = L.take i ++ m :: L.drop i := by
  rw [List.take_add_one, List.getElem?_eq_getElem hi]
  have hl : (L.take i).length = i := by rw [List.length_take]; omega
  simp only [Option.toList, List.append_assoc]
  rw [List.set_append_right _ _ (by omega), hl, Nat.sub_self]
  rfl
theorem K.Made.shape {L : List K.M} {w W : World} {g n c : Nat} (h : K.Made L w (.slice (some ⟨g, 0, none⟩) n c) W) : W.shape? g = some (32, c * 3) := by
  obtain ⟨_, _, _, cur, hg, _, _, hcs, _⟩ := h.block
  simp [World.shape?, hg, hcs]
theorem K.Made.there {L : List K.M} {w W : World} {g n c : Nat} (h : K.Made L w (.slice (some ⟨g, 0, none⟩) n c) W) (j : Nat) (hj : j < c * 3) : (W.cell? ⟨g, j, none⟩).isSome = true ∧ W.frozen? ⟨g, j, none⟩ = false := by
  obtain ⟨_, _, _, cur, hg, _, _, hcs, _⟩ := h.block
  constructor
  · rw [Lib.cell_of_heap hg, Array.getElem?_eq_getElem (by omega)]; rfl
  · simp [World.frozen?, hg]
theorem K.Made.froz {L : List K.M} {w W : World} {g n c : Nat} (h : K.Made L w (.slice (some ⟨g, 0, none⟩) n c) W) (j : Nat) : W.frozen? ⟨g, j, none⟩ = false := by
  obtain ⟨_, _, _, cur, hg, _⟩ := h.block
  simp [World.frozen?, hg]
/-- A block that a literal has laid holds one mark. -/
def K.Lit (W : World) (b : Nat) (m : K.M) : Prop := W.heap[b]? = some (.cells #[.int .u32 m.id, .int .i64 m.at_, .int .u8 m.g] 32 (0, 0))
theorem K.Lit.row {W : World} {b : Nat} {m : K.M} (h : K.Lit W b m) : K.Row W (some ⟨b, 0, none⟩) [m] := fun i p hp => by
  cases i with
  | succ i => simp at hp
  | zero =>
    simp at hp; subst hp
    have hc : ∀ j, W.cell? ⟨b, j, none⟩ = (#[.int .u32 m.id, .int .i64 m.at_, .int .u8 m.g] : Array Value)[j]? := Lib.cell_of_heap h
    refine ⟨b, 0, rfl, (Array.getElem?_eq_some_iff.1 h).1, ?_, ?_, ?_⟩ <;> rw [hc] <;> rfl
theorem K.Lit.cells {W : World} {b : Nat} {m : K.M} (h : K.Lit W b m) : ∀ j v, (K.cellsM [m])[j]? = some v → W.cell? ⟨b, j, none⟩ = some v := fun j v hv => by
  rw [Lib.cell_of_heap h]
  rw [K.cellsM_one] at hv
  simpa using hv
set_option maxRecDepth 100000 in
set_option maxHeartbeats 4000000 in
theorem insert9_room (g c i vb n : Nat) (L : List K.M) (m : K.M) (w W : World) (hn0 : n = L.length) (h : K.Made L w (.slice (some ⟨g, 0, none⟩) n c) W) (hv : K.Lit W vb m) (hne : vb ≠ g) (hi : i < n) (hroom : n + 1 ≤ c) (hl : n ≤ 1000) :
    Calls Try.prog 36 #[.slice (some ⟨g, 0, none⟩) n c, .int .i64 i, .slice (some ⟨vb, 0, none⟩) 1 1] W
      fun e w' => ∃ v', e = .returned v' ∧ K.Made (L.take i ++ m :: L.drop i) w v' w' := by
  have hcm : c ≤ 9223372036854775807 := by
    obtain ⟨_, _, _, cur, hg, _, hcm, _⟩ := h.block
    unfold maxLen at hcm; exact hcm
  have hdl : (L.drop i).length = n - i := by rw [List.length_drop, hn0]
  obtain ⟨W1, hW1⟩ : ∃ W1, W1 = W.drew.setCells g ((i + 1) * 3) (K.cellsM (L.drop i)) := ⟨_, rfl⟩
  have hD : K.Made L w (.slice (some ⟨g, 0, none⟩) n c) W.drew := h.kept (Below.refl _ _).drew
  have hM1 : K.Made (L.take (i + 1) ++ L.drop i) w (.slice (some ⟨g, 0, none⟩) (n + 1) c) W1 := by
    rw [hW1]
    have := hD.lay (i + 1) (L.drop i) (by omega) (by omega)
    rw [show i + 1 + (L.drop i).length = n + 1 by omega] at this
    exact this
  have hM2 : Hid (K.Made (L.take i ++ m :: L.drop i) w (.slice (some ⟨g, 0, none⟩) (n + 1) c) (W1.setCells g (i * 3) (K.cellsM [m]))) := by
    show K.Made _ _ _ _
    rw [K.put_set]
    have := hM1.put (i := i) (by omega) m
    rw [K.mid_list L i m (by omega)] at this
    exact this
  have hov : ∀ lb cb, (callFunc 62 #[.slice (some ⟨vb, 0, none⟩) 1 1, .slice (some ⟨g, (i + 1) * 3, none⟩) lb cb]).run Try.prog W = .ok (.value (.bool false)) W := fun lb cb => by
    rw [run_callFunc_extern Try.func62 (by kernel_rfl) (by kernel_rfl) (by kernel_rfl) (e := Extern.SlicesOverlaps.overlaps #[22, 22] #[4]) (by kernel_rfl),
      Lib.run_overlaps_apart W 22 4 32 Try.underlying22 3 (fun w => by kernel_rfl) ⟨vb, 0, none⟩ ⟨g, (i + 1) * 3, none⟩ 1 1 lb cb hne 32 32 3 (c * 3) (by simp [World.shape?, show W.heap[vb]? = _ from hv]) h.shape (by omega) (by simp [World.frozen?, show W.heap[vb]? = _ from hv]) (by simp [World.frozen?, show W.heap[vb]? = _ from hv])]
    rfl
  have hcp1 : ∀ ty dc sc, (Builtin.copy_ #[22, 22] ty #[.slice (some ⟨g, (i + 1) * 3, none⟩) (n - i) dc, .slice (some ⟨g, i * 3, none⟩) (n + 1 - i) sc]).run Try.prog W.drew = .ok (goInt (L.drop i).length) W1 := fun ty dc sc => by
    rw [hW1]
    refine K.run_copy W.drew ty g ((i + 1) * 3) _ dc ⟨g, i * 3, none⟩ _ sc (L.drop i) (by rw [hdl]; simp only [Nat.min_def]; split <;> omega) (fun j v hj => ?_) (fun j hj => (hD.there _ (by rw [hdl] at hj; omega)).1) hD.froz
    have hr := K.cells_of_row (b := g) (o := i * 3) (x := L.drop i) (by have := hD.row.drop i; rwa [Nat.zero_add] at this) j v hj
    exact hr
  have hcp2 : ∀ ty dc, (Builtin.copy_ #[22, 22] ty #[.slice (some ⟨g, i * 3, none⟩) (n + 1 - i) dc, .slice (some ⟨vb, 0, none⟩) 1 1]).run Try.prog W1 = .ok (goInt [m].length) (W1.setCells g (i * 3) (K.cellsM [m])) := fun ty dc => by
    refine K.run_copy W1 ty g (i * 3) _ dc ⟨vb, 0, none⟩ 1 1 [m] (by simp only [Nat.min_def, List.length_singleton]; split <;> omega) (fun j v hj => ?_) (fun j hj => (hM1.there _ (by simp at hj; omega)).1) hM1.froz
    rw [Addr.add_lit, Nat.zero_add, hW1, World.cell?_setCells_out _ _ _ _ _ (fun e _ => absurd e hne)]
    exact hv.cells j v hj
  have s0 := fun V => K.slice_at g n c i i rfl (by omega) (by omega) V
  have s1 := fun V => K.slice_to (some ⟨g, 0, none⟩) n c (n + 1) hroom V
  have s2 := fun V => K.slice_at g (n + 1) c (i + 1) ((i : Int) + 1) (by omega) (by omega) (by omega) V
  have s3 := fun V => K.slice_at g (n + 1) c i i rfl (by omega) (by omega) V
  rw [show ((n + 1 : Nat) : Int) = (n : Int) + 1 by omega] at s1
  have w1 : IntKind.i64.wrap ((i : Int) + 1) = (i : Int) + 1 := IntWalk.i64_in _ (by omega)
  have w2 : IntKind.i64.wrap ((n : Int) + 1) = (n : Int) + 1 := IntWalk.i64_in _ (by omega)
  have q1 : ((i : Int) == (n : Int)) = false := by simp; omega
  have q2 : decide ((c : Int) < (n : Int) + 1) = false := by simp; omega
  clear hM1 hD h hv hn0 hW1
  go_enter Try.func36, Try.ntmps36
  go_wp2_with (simp only [hov])
  go_region_law (refine step_copy_runI rfl _ _ 22 22 rfl _ _ (by simp [Act.eval, Act.put]) (by simp [Act.eval, Act.put]) (hcp1 _ _ _) ?_)
  go_wp2_with (at_builtin; refine wpList_copy_runI _ rfl _ _ 22 22 rfl _ _ rfl rfl (hcp2 _ _) ?_)
  go_ret
  exact ⟨_, rfl, hM2.out⟩
theorem K.cells_zero (k : Nat) : (Builtin.zeroCells (Value.agg #[.int .u32 0, .int .i64 0, .int .u8 0]).cells k).toList = K.cellsM (List.replicate k K.zero) := by
  have hs : (Value.agg #[.int .u32 0, .int .i64 0, .int .u8 0]).cells = #[.int .u32 0, .int .i64 0, .int .u8 0] := by kernel_rfl
  rw [hs]
  apply List.ext_getElem?
  intro j
  by_cases hj : j < k * 3
  · have hl : (Builtin.zeroCells #[.int .u32 0, .int .i64 0, .int .u8 0] k).toList[j]? = some ((#[.int .u32 0, .int .i64 0, .int .u8 0] : Array Value)[j % 3]!) := by
      simp [Builtin.zeroCells, hj]
    rw [hl]
    have hr : (List.replicate k K.zero)[j / 3]? = some K.zero := by rw [List.getElem?_replicate, if_pos (by omega)]
    obtain ⟨c0, c1, c2⟩ := K.cellsM_at _ _ _ hr
    have hm : j = j / 3 * 3 ∨ j = j / 3 * 3 + 1 ∨ j = j / 3 * 3 + 2 := by omega
    rcases hm with hm | hm | hm
    · rw [show j % 3 = 0 by omega, hm, c0]; rfl
    · rw [show j % 3 = 1 by omega, hm, c1]; rfl
    · rw [show j % 3 = 2 by omega, hm, c2]; rfl
  · rw [List.getElem?_eq_none (by simp [Builtin.zeroCells]; omega), List.getElem?_eq_none (by rw [K.cellsM_len, List.length_replicate]; omega)]
set_option maxRecDepth 100000 in
set_option maxHeartbeats 4000000 in
theorem insert9_grow (g c i vb n : Nat) (L : List K.M) (m : K.M) (w W : World) (hn0 : n = L.length) (h : K.Made L w (.slice (some ⟨g, 0, none⟩) n c) W) (hv : K.Lit W vb m) (hi : i < n) (hroom : c < n + 1) (hl : n ≤ 1000) :
    Calls Try.prog 36 #[.slice (some ⟨g, 0, none⟩) n c, .int .i64 i, .slice (some ⟨vb, 0, none⟩) 1 1] W
      fun e w' => ∃ v', e = .returned v' ∧ K.Made (L.take i ++ m :: L.drop i) w v' w' := by
  obtain ⟨hnl, hgb, hgW, cu0, hcu0, hnc, hcm, hcu1⟩ := h.block
  clear hnl hcu0 hcu1 cu0
  obtain ⟨ip, hq, hz, hsz, hby⟩ := K.infoM
  have hcm : c ≤ 9223372036854775807 := by unfold maxLen at hcm; exact hcm
  have hdl : (L.drop i).length = n - i := by rw [List.length_drop, hn0]
  have hvW : vb < W.heap.size := (Array.getElem?_eq_some_iff.1 hv).1
  have hD : K.Made L w (.slice (some ⟨g, 0, none⟩) n c) W.drew := h.kept (Below.refl _ _).drew
  have hold : (Builtin.firstCells ip.size i (.slice (some ⟨g, 0, none⟩) i c)).run Try.prog W.drew = .ok (K.cellsM (L.take i)).toArray W.drew := by
    rw [hsz]
    exact run_firstCells_some W.drew 3 i ⟨g, 0, none⟩ i c (K.cellsM (L.take i)) (by rw [K.cellsM_len, List.length_take]; omega) (K.cells_of_row (hD.row.take i))
  obtain ⟨G, hG⟩ : ∃ G, G = grownCap W (n + 1) c 32 := ⟨_, rfl⟩
  have hGn : n + 1 ≤ G := by rw [hG]; exact grownCap_ge W _ _ _
  have hG63 : G ≤ maxLen := by
    have := grownCap_le_maxLen W (n + 1) c 32 (by unfold maxLen; omega)
    rw [← hG] at this; exact this
  obtain ⟨W1, hW1⟩ : ∃ W1, W1 = W.drew.alloc (.cells ((K.cellsM (L.take i)).toArray ++ Builtin.zeroCells (Value.agg #[.int .u32 0, .int .i64 0, .int .u8 0]).cells (n + 1 - i) ++ Builtin.zeroCells (Value.agg #[.int .u32 0, .int .i64 0, .int .u8 0]).cells (G - (n + 1))) 32) := ⟨_, rfl⟩
  have hrz : ∀ ty, (Builtin.append_ #[22, 3] ty #[.slice (some ⟨g, 0, none⟩) i c, .int .i64 ((n : Int) + 1 - (i : Int))]).run Try.prog W = .ok (.slice (some ⟨W.heap.size, 0, none⟩) (n + 1) G) W1 := fun ty => by
    have h1 := Lib.run_append_grow_zeros W 22 3 ty 32 ip _ .i64 .i64 Try.underlying22 Try.underlying3 hq hz (some ⟨g, 0, none⟩) i c (K.cellsM (L.take i)) hold (n + 1 - i) (by omega) (by omega) (by omega) (by omega) (by rw [hby]; omega) (by rw [hby, show i + (n + 1 - i) = n + 1 by omega]; exact growslice_fits hroom (by omega))
    rw [show i + (n + 1 - i) = n + 1 by omega, ← hG, ← hW1, show ((n + 1 - i : Nat) : Int) = (n : Int) + 1 - (i : Int) by omega] at h1
    exact h1
  have hM1 : K.Made (L.take i ++ List.replicate (n + 1 - i) K.zero) w (.slice (some ⟨W.heap.size, 0, none⟩) (n + 1) G) W1 := by
    have hlen : (L.take i ++ List.replicate (n + 1 - i) K.zero).length = n + 1 := by rw [List.length_append, List.length_take, List.length_replicate]; omega
    have hz3 : ∀ k, (Builtin.zeroCells (Value.agg #[.int .u32 0, .int .i64 0, .int .u8 0]).cells k).size = k * 3 := fun k => by rw [← Array.length_toList, K.cells_zero, K.cellsM_len, List.length_replicate]
    have hblk : W1.heap[W.heap.size]? = some (.cells ((K.cellsM (L.take i)).toArray ++ Builtin.zeroCells (Value.agg #[.int .u32 0, .int .i64 0, .int .u8 0]).cells (n + 1 - i) ++ Builtin.zeroCells (Value.agg #[.int .u32 0, .int .i64 0, .int .u8 0]).cells (G - (n + 1))) 32 (0, 0)) := by rw [hW1]; exact heap_alloc_new W.drew _
    refine ⟨⟨by rw [K.cellsM_len], Or.inr ⟨W.heap.size, G, _, by rw [hlen], h.below.size, hblk, by rw [hlen]; exact hGn, hG63, ?_, ?_⟩⟩, ?_⟩
    · simp only [Array.size_append, List.size_toArray, K.cellsM_len, hz3, List.length_take]; omega
    · simp only [Array.toList_append, K.cells_zero, hlen]
      rw [List.take_left' (by simp only [List.length_append, K.cellsM_len, List.length_take, List.length_replicate]; omega), K.cellsM_append]
    · rw [hW1]; exact hD.below.alloc hD.below.size _
  have hM2 : K.Made ((L.take i ++ List.replicate (n + 1 - i) K.zero).set i m) w (.slice (some ⟨W.heap.size, 0, none⟩) (n + 1) G) (W1.setCells W.heap.size (i * 3) (K.cellsM [m])) := by
    rw [K.put_set]; exact hM1.put (by omega) m
  have hM2d : K.Made ((L.take i ++ List.replicate (n + 1 - i) K.zero).set i m) w (.slice (some ⟨W.heap.size, 0, none⟩) (n + 1) G) (W1.setCells W.heap.size (i * 3) (K.cellsM [m])).drew := hM2.kept (Below.refl _ _).drew
  have hM3 : Hid (K.Made (L.take i ++ m :: L.drop i) w (.slice (some ⟨W.heap.size, 0, none⟩) (n + 1) G) (((W1.setCells W.heap.size (i * 3) (K.cellsM [m])).drew).setCells W.heap.size ((i + 1) * 3) (K.cellsM (L.drop i)))) := by
    show K.Made _ _ _ _
    have := hM2d.lay (i + 1) (L.drop i) (by omega) (by omega)
    rw [show i + 1 + (L.drop i).length = n + 1 by omega] at this
    have e : ((L.take i ++ List.replicate (n + 1 - i) K.zero).set i m).take (i + 1) ++ L.drop i = L.take i ++ m :: L.drop i := by
      have hl2 : (L.take i).length = i := by rw [List.length_take]; omega
      rw [List.set_append_right _ _ (by omega), hl2, Nat.sub_self, show n + 1 - i = (n - i) + 1 by omega, List.replicate_succ, List.set_cons_zero, List.take_append, hl2, List.take_of_length_le (by omega), show i + 1 - i = 1 by omega]
      simp
    rw [e] at this
    exact this
  have hcpA : ∀ ty dc, (Builtin.copy_ #[22, 22] ty #[.slice (some ⟨W.heap.size, i * 3, none⟩) (n + 1 - i) dc, .slice (some ⟨vb, 0, none⟩) 1 1]).run Try.prog W1 = .ok (goInt [m].length) (W1.setCells W.heap.size (i * 3) (K.cellsM [m])) := fun ty dc => by
    refine K.run_copy W1 ty W.heap.size (i * 3) _ dc ⟨vb, 0, none⟩ 1 1 [m] (by simp only [Nat.min_def, List.length_singleton]; split <;> omega) (fun j v hj => ?_) (fun j hj => (hM1.there _ (by simp at hj; omega)).1) hM1.froz
    rw [Addr.add_lit, Nat.zero_add, hW1, World.cell?_alloc_past (w := W.drew) _ vb j hvW]
    exact hv.cells j v hj
  have hcpB : ∀ ty dc sc, (Builtin.copy_ #[22, 22] ty #[.slice (some ⟨W.heap.size, (i + 1) * 3, none⟩) (n - i) dc, .slice (some ⟨g, i * 3, none⟩) (n - i) sc]).run Try.prog (W1.setCells W.heap.size (i * 3) (K.cellsM [m])).drew = .ok (goInt (L.drop i).length) (((W1.setCells W.heap.size (i * 3) (K.cellsM [m])).drew).setCells W.heap.size ((i + 1) * 3) (K.cellsM (L.drop i))) := fun ty dc sc => by
    refine K.run_copy _ ty W.heap.size ((i + 1) * 3) _ dc ⟨g, i * 3, none⟩ _ sc (L.drop i) (by rw [hdl]; simp) (fun j v hj => ?_) (fun j hj => (hM2d.there _ (by rw [hdl] at hj; omega)).1) hM2d.froz
    have hr := K.cells_of_row (b := g) (o := i * 3) (x := L.drop i) (by have := h.row.drop i; rwa [Nat.zero_add] at this) j v hj
    rw [Addr.add_lit] at hr ⊢
    show (W1.setCells W.heap.size (i * 3) (K.cellsM [m])).cell? _ = _
    rw [World.cell?_setCells_out _ _ _ _ _ (fun e _ => absurd (show g = W.heap.size from e) (by omega)), hW1, World.cell?_alloc_past (w := W.drew) _ g _ hgW]
    exact hr
  have s0 : ∀ V, ∃ v, (Instr.slice 22 (.slice (some ⟨g, 0, none⟩) n c) (some (.int .i64 (i : Int))) none none).run Try.prog V = .ok v V := fun V => ⟨_, K.slice_at g n c i i rfl (by omega) (by omega) V⟩
  have s0 := fun V => K.slice_at g n c i i rfl (by omega) (by omega) V
  have s1 := fun V => K.slice_to (some ⟨g, 0, none⟩) n c i (by omega) V
  have s2 := fun V => K.slice_at W.heap.size (n + 1) G i i rfl (by omega) (by omega) V
  have s3 := fun V => K.slice_at W.heap.size (n + 1) G (i + 1) ((i : Int) + 1) (by omega) (by omega) (by omega) V
  have w1 : IntKind.i64.wrap ((i : Int) + 1) = (i : Int) + 1 := IntWalk.i64_in _ (by omega)
  have w2 : IntKind.i64.wrap ((n : Int) + 1) = (n : Int) + 1 := IntWalk.i64_in _ (by omega)
  have w3 : IntKind.i64.wrap ((n : Int) + 1 - (i : Int)) = (n : Int) + 1 - (i : Int) := IntWalk.i64_in _ (by omega)
  have q1 : ((i : Int) == (n : Int)) = false := by simp; omega
  have q2 : decide ((c : Int) < (n : Int) + 1) = true := by simp; omega
  clear hM1 hM2 hM2d hD h hv hn0 hW1 hold hq hz hsz hby hG
  go_enter Try.func36, Try.ntmps36
  go_wp2_with (first
    | (at_builtin; refine Lib.wpList_append_run _ rfl _ _ _ _ rfl _ _ rfl rfl _ _ (hrz _) ?_)
    | (at_builtin; refine wpList_copy_runI _ rfl _ _ 22 22 rfl _ _ rfl rfl (hcpA _ _) ?_))
  go_region_law (refine step_copy_runI rfl _ _ 22 22 rfl _ _ (by simp [Act.eval, Act.put]) (by simp [Act.eval, Act.put]) (hcpB _ _ _) ?_)
  go_wp2
  go_ret
  exact ⟨_, rfl, hM3.out⟩
set_option maxRecDepth 100000 in
set_option maxHeartbeats 4000000 in
theorem insert9_end (v : Value) (vb n : Nat) (L : List K.M) (m : K.M) (w W : World) (hn0 : n = L.length) (h : K.Made L w v W) (hv : K.Lit W vb m) (hl : n ≤ 1000) :
    Calls Try.prog 36 #[v, .int .i64 n, .slice (some ⟨vb, 0, none⟩) 1 1] W
      fun e w' => ∃ v', e = .returned v' ∧ K.Made (L ++ [m]) w v' w' := by
  obtain ⟨ao, c, rfl, hcap, hnil, hrow⟩ := h.form2
  obtain ⟨lo', c', hs, _, _⟩ := K.slice_from W ao L c n hcap (by omega) hnil hrow
  have hr := Lib.hid hv.row
  have HM := Lib.hid h
  rw [← hn0] at hs
  have hdl : (L.drop n).length = 0 := by rw [List.length_drop]; omega
  rw [hdl] at hs
  rw [← hn0]
  have q1 : ((n : Int) == (n : Int)) = true := by simp
  have e1 : Hid (L.length = n) := hn0.symm
  clear h hv hrow hn0 hnil hcap hdl
  go_enter Try.func36, Try.ntmps36
  go_wp2_with (at_builtin; refine K.append_src' (w0 := w) rfl _ _ rfl _ L.length (K.cellsM L) (by rw [e1.out]; rfl) HM.out.own HM.out.below (some ⟨vb, 0, none⟩) 1 [m] rfl (fun h => nomatch h) hr.out ?q1 ?_)
  case q1 => rw [e1.out]; simp; omega
  intro v' w3 hown' hb3
  have R : Hid (K.Made (L ++ [m]) w v' w3) := by
    show K.Made _ _ _ _
    rw [← K.cellsM_append] at hown'
    exact ⟨by rw [List.length_append]; exact hown', hb3⟩
  clear hown' hb3
  go_wp2
  go_ret
  exact ⟨_, rfl, R.out⟩
theorem insert9_any (v : Value) (i vb : Nat) (L : List K.M) (m : K.M) (w W : World) (h : K.Made L w v W) (hv : K.Lit W vb m) (hne : v.ownBlock ≠ some vb) (hi : i ≤ L.length) (hl : L.length ≤ 1000) :
    Calls Try.prog 36 #[v, .int .i64 i, .slice (some ⟨vb, 0, none⟩) 1 1] W
      fun e w' => ∃ v', e = .returned v' ∧ K.Made (L.take i ++ m :: L.drop i) w v' w' := by
  by_cases hil : i = L.length
  · subst hil
    have := insert9_end v vb L.length L m w W rfl h hv hl
    rw [List.take_length, List.drop_length]
    exact this
  · obtain ⟨hll, ⟨rfl, h0⟩ | ⟨g, c, cur, rfl, _⟩⟩ := h.own
    · omega
    · have hg : vb ≠ g := fun e => hne (by subst e; rfl)
      by_cases hc : L.length + 1 ≤ c
      · exact insert9_room g c i vb L.length L m w W rfl h hv hg (by omega) hc hl
      · exact insert9_grow g c i vb L.length L m w W rfl h hv (by omega) (by omega) hl
end Go.Proofs.Ytmbgcbgbdjiacaa
/- MarkDelete -/
namespace Go.Proofs.Ytmbgcbgbdjiacaa
open Go.RowKit

theorem K.Made.cut {L : List K.M} {w W : World} {g n c : Nat} (h : K.Made L w (.slice (some ⟨g, 0, none⟩) n c) W) (k : Nat) (hk : k ≤ n) : K.Made (L.take k) w (.slice (some ⟨g, 0, none⟩) k c) W := by
  obtain ⟨rfl, hb, hlt, cur, hg, hnc, hcm, hcs, ht⟩ := h.block
  have hl : (L.take k).length = k := by rw [List.length_take]; omega
  refine ⟨⟨K.cellsM_len _, Or.inr ⟨g, c, cur, by rw [hl], hb, hg, by omega, hcm, hcs, ?_⟩⟩, h.below⟩
  rw [hl, K.cellsM_take, ← ht, List.take_take, Nat.min_eq_left (Nat.mul_le_mul_right 3 hk)]
theorem K.run_clear1 (W : World) (ty : TypeId) (g o cc : Nat) (hc : ∀ j, j < 3 → (W.cell? ⟨g, o + j, none⟩).isSome = true) (hf : ∀ j, W.frozen? ⟨g, j, none⟩ = false) :
    (Builtin.clear_ #[22] ty #[.slice (some ⟨g, o, none⟩) 1 cc]).run Try.prog W = .ok (.tuple #[]) (W.setCells g o (K.cellsM [K.zero])) := by
  have hz : ∀ w, (zeroValue 32).run Try.prog w = .ok (.agg #[.int .u32 0, .int .i64 0, .int .u8 0]) w := Try.zeroValue32
  have hst := run_storeCells_cells (P := Try.prog) g o (K.cellsM [K.zero]) 0 W (by rw [K.cellsM_len]; simpa using hc) (fun j _ => hf _) (K.cells_one _)
  have e := K.cells_zero 1
  simp only [Builtin.clear_]
  simp [run_underlying Try.underlying22, hz, e, hst]
set_option maxRecDepth 100000 in
set_option maxHeartbeats 4000000 in
theorem delete9_any (g c i r n : Nat) (L : List K.M) (w W : World) (hn0 : n = L.length) (h : K.Made L w (.slice (some ⟨g, 0, none⟩) n c) W) (hr : i + 1 + r = n) (hl : n ≤ 1000) :
    Calls Try.prog 37 #[.slice (some ⟨g, 0, none⟩) n c, .int .i64 i, .int .i64 ((i : Int) + 1)] W
      fun e w' => ∃ v', e = .returned v' ∧ K.Made (L.take i ++ L.drop (i + 1)) w v' w' := by
  obtain ⟨hnl, _, _, cu0, hcu0, hnc, hcm, hcu1⟩ := h.block
  clear hnl hcu0 hcu1 cu0
  have hcm : c ≤ 9223372036854775807 := by unfold maxLen at hcm; exact hcm
  have hD : K.Made L w (.slice (some ⟨g, 0, none⟩) n c) W.drew := h.kept (Below.refl _ _).drew
  have hdl : (L.drop (i + 1)).length = r := by rw [List.length_drop]; omega
  obtain ⟨W1, hW1⟩ : ∃ W1, W1 = W.drew.setCells g (i * 3) (K.cellsM (L.drop (i + 1))) := ⟨_, rfl⟩
  have hM1 : K.Made (L.take i ++ L.drop (i + 1)) w (.slice (some ⟨g, 0, none⟩) (i + r) c) W1 := by
    rw [hW1]
    have := hD.lay i (L.drop (i + 1)) (by omega) (by omega)
    rw [hdl] at this; exact this
  have hM2 : Hid (K.Made (L.take i ++ L.drop (i + 1)) w (.slice (some ⟨g, 0, none⟩) (i + r) c) (W1.setCells g ((i + r) * 3) (K.cellsM [K.zero]))) := by
    show K.Made _ _ _ _
    have h2 := hM1.lay (i + r) [K.zero] (Nat.le_refl _) (by simp; omega)
    have h3 := h2.cut (i + r) (by simp)
    have hlt : (L.take i ++ L.drop (i + 1)).length = i + r := by rw [List.length_append, List.length_take, hdl]; omega
    have e : ((L.take i ++ L.drop (i + 1)).take (i + r) ++ [K.zero]).take (i + r) = L.take i ++ L.drop (i + 1) := by
      rw [List.take_of_length_le (show (L.take i ++ L.drop (i + 1)).length ≤ i + r by omega)]
      exact List.take_left' hlt
    rw [e] at h3
    exact h3
  have hclr : ∀ ty cc, (Builtin.clear_ #[22] ty #[.slice (some ⟨g, (i + r) * 3, none⟩) 1 cc]).run Try.prog W1 = .ok (.tuple #[]) (W1.setCells g ((i + r) * 3) (K.cellsM [K.zero])) := fun ty cc =>
    K.run_clear1 W1 ty g _ cc (fun j hj => (hM1.there _ (by omega)).1) hM1.froz
  obtain ⟨ad, s2, hsrc⟩ : ∃ ad : Addr, (∀ V, (Instr.slice 22 (.slice (some ⟨g, 0, none⟩) n c) (some (.int .i64 ((i : Int) + 1))) none none).run Try.prog V = .ok (.slice (some ad) r (c - (i + 1))) V) ∧ Hid (∀ j u, (K.cellsM (L.drop (i + 1)))[j]? = some u → W.drew.cell? (ad.add j) = some u) := by
    by_cases hc : c = i + 1
    · refine ⟨⟨g, 0, none⟩, fun V => ?_, fun j u hu => ?_⟩
      · have h1 := run_slice_l (P := Try.prog) (w := V) 22 (some ⟨g, 0, none⟩) n c Try.underlying22 .i64 ((i : Int) + 1) (by omega) (by omega)
        have hs : (sizeOf (Try.prog.elem 22)).run Try.prog V = .ok 3 V := by kernel_rfl
        rw [h1, hs]
        have e1 : ((i : Int) + 1).toNat = i + 1 := by omega
        have e2 : n - (i + 1) = r := by omega
        simp [Result.andThen, sliced, e1, e2, hc]
      · have : r = 0 := by omega
        rw [List.eq_nil_of_length_eq_zero (hdl.trans this)] at hu
        simp [K.cellsM] at hu
    · refine ⟨⟨g, (i + 1) * 3, none⟩, fun V => ?_, fun j u hu => ?_⟩
      · have h1 := K.slice_at g n c (i + 1) ((i : Int) + 1) (by omega) (by omega) (by omega) V
        rw [show n - (i + 1) = r by omega] at h1; exact h1
      · exact K.cells_of_row (b := g) (o := (i + 1) * 3) (x := L.drop (i + 1)) (by have := hD.row.drop (i + 1); rwa [Nat.zero_add] at this) j u hu
  have s1 := fun V => K.slice_to (some ⟨g, 0, none⟩) n c i (by omega) V
  have s0 : ∃ x, ∀ V, (Instr.slice 22 (.slice (some ⟨g, 0, none⟩) n c) (some (.int .i64 (i : Int))) (some (.int .i64 ((i : Int) + 1))) (some (.int .i64 (n : Int)))).run Try.prog V = .ok x V := by
    refine ⟨sliced (some ⟨g, 0, none⟩) (i : Int).toNat ((i : Int) + 1).toNat (n : Int).toNat 3, fun V => ?_⟩
    have h1 := run_slice_lhm (P := Try.prog) (w := V) 22 (some ⟨g, 0, none⟩) n c Try.underlying22 .i64 .i64 .i64 (i : Int) ((i : Int) + 1) (n : Int) (by omega) (by omega) (by omega) (by omega)
    have hs : (sizeOf (Try.prog.elem 22)).run Try.prog V = .ok 3 V := by kernel_rfl
    rw [h1, hs]; rfl
  obtain ⟨x0, s0⟩ := s0
  have s3 : ∀ V, (Instr.slice 22 (.slice (some ⟨g, 0, none⟩) (i + r) c) (some (.int .i64 ((i : Int) + (r : Int)))) (some (.int .i64 (n : Int))) none).run Try.prog V = .ok (.slice (some ⟨g, (i + r) * 3, none⟩) 1 (c - (i + r))) V := fun V => by
    have h1 := run_slice_lh (P := Try.prog) (w := V) 22 (some ⟨g, 0, none⟩) (i + r) c Try.underlying22 .i64 .i64 ((i : Int) + (r : Int)) (n : Int) (by omega) (by omega) (by omega)
    have hs : (sizeOf (Try.prog.elem 22)).run Try.prog V = .ok 3 V := by kernel_rfl
    rw [h1, hs]
    have e1 : ((i : Int) + (r : Int)).toNat = i + r := by omega
    have e2 : n - (i + r) = 1 := by omega
    have e3 : ¬ c = i + r := by omega
    have hadd : (⟨g, 0, none⟩ : Addr).add ((i + r) * 3) = ⟨g, (i + r) * 3, none⟩ := by rw [Addr.add_lit, Nat.zero_add]
    simp [Result.andThen, sliced, e1, e2, e3, hadd]
  have q1 : ((i : Int) == (i : Int) + 1) = false := by simp; omega
  obtain ⟨ip, hq, hz, hsz, hby⟩ := K.infoM
  have HI := Lib.hid (And.intro hq hsz)
  have HD := Lib.hid hD
  have hrc : i + r ≤ c := by omega
  have Hdl := Lib.hid hdl
  have hW1' : Hid (W.drew.setCells g (0 + i * 3) (K.cellsM (L.drop (i + 1))) = W1) := by show _ = _; rw [Nat.zero_add, hW1]
  have hni : i < n := by omega
  clear hM1 hD h hn0 hW1 hq hz hsz hby hdl hr
  go_enter Try.func37, Try.ntmps37
  go_wp2
  go_region_law (refine step_append_room rfl _ _ 22 rfl 32 ip 3 Try.underlying22 HI.out.1 HI.out.2 g 0 i c (by simp [Act.eval, Act.put]) ad r (c - (i + 1)) (K.cellsM (L.drop (i + 1))) (by simp [Act.eval, Act.put]) (by rw [K.cellsM_len, Hdl.out]) hsrc.out (K.cells_one _) hrc (fun j hj => by rw [Nat.zero_add]; exact HD.out.there _ (by rw [K.cellsM_len, Hdl.out] at hj; omega)) ?_; rw [hW1'.out])
  go_wp2
  go_ret
  exact ⟨_, rfl, hM2.out⟩
end Go.Proofs.Ytmbgcbgbdjiacaa
/- MarkChk -/
namespace Go.Proofs.Ytmbgcbgbdjiacaa
open Go.RowKit

/-- Between two rounds of Check: the last ID, and what is left has the error of the whole. -/
structure K.Chk2 (n : Int) (l : List K.M) (k : Nat) (last : Int) (w wr : World) : Prop where
  same : K.chkF n last (l.drop k) = K.chkF n 0 l
  below : Below w.heap.size w wr
set_option maxHeartbeats 4000000 in
theorem check9_any (n : Int) (ao : Option Addr) (ca : Nat) (l : List K.M) (w : World) (hr : K.Row w ao l) (la : l.length ≤ maxLen) (hf : ∀ m ∈ l, K.Fit m) :
    Calls Try.prog 12 #[.int .i64 n, .slice ao l.length ca] w fun e w' => e = .returned (.int .i64 (K.chk n l)) ∧ Below w.heap.size w w' := by
  have Hr := Lib.hid hr
  have Hf := Lib.hid hf
  clear hr hf
  unfold maxLen at la
  have hB := Below.refl w.heap.size w
  by_cases h0 : n < 0
  · have hd : Hid (K.chk n l = 2) := by show _ = _; rw [K.chk, if_pos h0]
    go_enter Try.func12, Try.ntmps12
    go_wp2
    go_ret
    exact ⟨by rw [hd.out]; rfl, hB⟩
  · by_cases h1 : 64 < l.length
    · have hd : Hid (K.chk n l = 20) := by show _ = _; rw [K.chk, if_neg h0, if_pos h1]
      go_enter Try.func12, Try.ntmps12
      go_wp2
      go_ret
      exact ⟨by rw [hd.out]; rfl, hB⟩
    · have hd : Hid (K.chk n l = K.chkF n 0 l) := by show _ = _; rw [K.chk, if_neg h0, if_neg h1]
      go_enter Try.func12, Try.ntmps12
      go_wp2
      go_loopw [15, 5] (fun j v wr => ∃ (k : Nat) (last : Int), k ≤ l.length ∧ j = .int .i64 k ∧ v = .int .u32 last ∧ 0 ≤ last ∧ last ≤ 4294967295 ∧ Hid (K.Chk2 n l k last w wr)) (fun j _ _ => l.length - (intOf j).toNat)
      case atStart => exact ⟨0, 0, Nat.zero_le _, rfl, rfl, by omega, by omega, rfl, hB⟩
      case round =>
        obtain ⟨k, last, hk, rfl, rfl, l0, l1, hL⟩ := hrel
        have hb := Lib.hid hL.out.below
        clear hB
        by_cases hlt : k < l.length
        · obtain ⟨p, hp, hpd⟩ := K.drop_cons hlt
          obtain ⟨b1, o1, e1, lb, hc⟩ := Hr.out k p hp
          obtain ⟨c0, c1, c2⟩ := K.cell3 hb.out lb hc
          subst e1
          have fp := Lib.hid (Hf.out p (List.mem_of_getElem? hp))
          have hst : Hid (K.chkF n last (p :: l.drop (k + 1)) = K.chkF n 0 l) := by show _ = _; rw [← hpd]; exact hL.out.same
          obtain ⟨_, i1, _, _, _, _⟩ := (⟨fp.out.id0, fp.out.id1, fp.out.at0, fp.out.at1, fp.out.g0, fp.out.g1⟩ : _ ∧ _ ∧ _ ∧ _ ∧ _ ∧ _)
          clear hpd hp hL hc
          by_cases i0 : p.id ≤ last
          · have q1 : decide (p.id ≤ last) = true := by simpa using i0
            have hF : Hid (K.chkF n 0 l = 2) := by show _ = _; rw [← hst.out, K.chkF_cons, if_pos (Or.inl i0)]
            clear hst
            go_wp2
            go_ret
            exact ⟨by rw [hd.out, hF.out]; rfl, hb.out.alloc hb.out.size _⟩
          · have q1 : decide (p.id ≤ last) = false := by simpa using i0
            by_cases g1 : 1 < p.g
            · have q2 : (p.g != 0) = true := by simp; omega
              have q3 : (p.g != 1) = true := by simp; omega
              have hF : Hid (K.chkF n 0 l = 2) := by show _ = _; rw [← hst.out, K.chkF_cons, if_pos (Or.inr g1)]
              clear hst
              go_wp2
              go_ret
              exact ⟨by rw [hd.out, hF.out]; rfl, hb.out.alloc hb.out.size _⟩
            · have hgg : Hid ((p.g != 0) = false ∧ True ∨ (p.g != 0) = true ∧ (p.g != 1) = false) := by
                have := fp.out.g0
                by_cases e : p.g = 0
                · exact Or.inl ⟨by simpa using e, trivial⟩
                · exact Or.inr ⟨by simpa using e, by simp; omega⟩
              rcases hgg.out with ⟨q2, q3⟩ | ⟨q2, q3⟩
              all_goals
                clear hgg
                by_cases a0 : p.at_ < 0
                · have hF : Hid (K.chkF n 0 l = 3) := by show _ = _; rw [← hst.out, K.chkF_cons, if_neg (by omega), if_pos (Or.inl a0)]
                  have q4 : decide (p.at_ < 0) = true := by simpa using a0
                  clear hst g1
                  go_wp2
                  go_ret
                  exact ⟨by rw [hd.out, hF.out]; rfl, hb.out.alloc hb.out.size _⟩
                · have q4 : decide (p.at_ < 0) = false := by simpa using a0
                  by_cases a1 : n < p.at_
                  · have hF : Hid (K.chkF n 0 l = 3) := by show _ = _; rw [← hst.out, K.chkF_cons, if_neg (by omega), if_pos (Or.inr a1)]
                    have q5 : decide (n < p.at_) = true := by simpa using a1
                    clear hst g1
                    go_wp2
                    go_ret
                    exact ⟨by rw [hd.out, hF.out]; rfl, hb.out.alloc hb.out.size _⟩
                  · have hF : Hid (K.chkF n p.id (l.drop (k + 1)) = K.chkF n 0 l) := by show _ = _; rw [← hst.out, K.chkF_cons, if_neg (by omega), if_neg (by omega)]
                    have q5 : decide (n < p.at_) = false := by simpa using a1
                    clear hst g1
                    go_wp2
                    go_roundw
                    case rel => exact ⟨k + 1, p.id, by omega, by go_num, rfl, by omega, by omega, hF, hb.out.alloc hb.out.size _⟩
                    case measure => simp [intOf]; omega
        · obtain rfl : k = l.length := by omega
          have hF : Hid (K.chkF n 0 l = 0) := by show _ = _; rw [← hL.out.same, List.drop_length]; rfl
          clear hL
          go_wp2
          go_ret
          exact ⟨by rw [hd.out, hF.out]; rfl, hb.out⟩
theorem isSet_any (ao : Option Addr) (ca : Nat) (l : List K.M) (w : World) (hr : K.Row w ao l) (la : l.length ≤ maxLen) (hf : ∀ m ∈ l, K.Fit m) :
    Calls Try.prog 33 #[.slice ao l.length ca] w fun e w' => e = .returned (.bool (K.isB l)) ∧ Below w.heap.size w w' := by
  have hc := Lib.hid (check9_any 9223372036854775807 ao ca l w hr la hf)
  have hd : Hid (K.isB l = (K.chk 9223372036854775807 l == 0)) := rfl
  clear hr hf
  go_enter Try.func33, Try.ntmps33
  go_wp2_with fail
  refine hc.out.mono ?_
  rintro e w1 ⟨rfl, hb⟩
  have hB := Lib.hid hb
  clear hb
  go_wp2
  go_ret
  exact ⟨by rw [hd.out]; rfl, hB.out⟩
end Go.Proofs.Ytmbgcbgbdjiacaa
/- MarkFind -/
namespace Go.Proofs.Ytmbgcbgbdjiacaa
open Go.RowKit

/-- A box holds an ID. -/
structure K.Idb (W : World) (b : Nat) (i : Int) : Prop where
  lt : b < W.heap.size
  c0 : W.cell? ⟨b, 0, none⟩ = some (.int .u32 i)
theorem K.Idb.below {W W' : World} {b : Nat} {i : Int} (h : K.Idb W b i) (hb : Below W.heap.size W W') : K.Idb W' b i := ⟨Nat.lt_of_lt_of_le h.lt hb.size, ((D.bcell hb).1 _ _ h.lt).trans h.c0⟩
theorem findPred_any (p : K.M) (b : Nat) (i : Int) (w : World) (h : K.Idb w b i) : Calls Try.prog 39 #[.agg #[.int .u32 p.id, .int .i64 p.at_, .int .u8 p.g], .pointer (some ⟨b, 0, none⟩)] w fun e w' => e = .returned (.bool (p.id == i)) ∧ Below w.heap.size w w' := by
  have hX := K.Box.new w p 32
  have b1 := (Below.refl w.heap.size w).alloc (Nat.le_refl _) (.cells #[.int .u32 p.id, .int .i64 p.at_, .int .u8 p.g] 32)
  obtain ⟨_, c0⟩ := h.below b1
  go_enter Try.func39, Try.ntmps39
  go_wp2
  go_ret
  exact ⟨rfl, b1⟩
/-- Where the first mark with an ID stands. -/
def K.idx : List K.M → Int → Nat → Int
  | [], _, _ => -1
  | p :: r, i, k => if p.id = i then (k : Int) else K.idx r i (k + 1)
theorem K.idx_spec (l : List K.M) (i : Int) : ∀ k, (K.idx l i k = -1 ∧ K.find l i = none) ∨ ∃ j p, K.idx l i k = ((k + j : Nat) : Int) ∧ l[j]? = some p ∧ K.find l i = some p := by
  induction l with
  | nil => intro k; exact .inl ⟨rfl, rfl⟩
  | cons p r ih =>
    intro k
    rw [K.find_cons, K.idx]
    by_cases h : p.id = i
    · rw [if_pos h, if_pos h]; exact .inr ⟨0, p, rfl, rfl, rfl⟩
    · rw [if_neg h, if_neg h]
      rcases ih (k + 1) with ⟨e1, e2⟩ | ⟨j, q, e1, e2, e3⟩
      · exact .inl ⟨e1, e2⟩
      · exact .inr ⟨j + 1, q, by rw [e1]; congr 1; omega, by simpa using e2, e3⟩
set_option maxHeartbeats 2000000 in
theorem indexMark_any (ao : Option Addr) (cap b : Nat) (l : List K.M) (i : Int) (w : World) (hn : l.length ≤ maxLen) (hr : K.Row w ao l) (hb : K.Idb w b i) :
    Calls Try.prog 38 #[.slice ao l.length cap, .func (.func 39) #[] #[.pointer (some ⟨b, 0, none⟩)]] w fun e w' => e = .returned (.int .i64 (K.idx l i 0)) ∧ Below w.heap.size w w' := by
  have Hr := Lib.hid hr
  have Hb := Lib.hid hb
  unfold maxLen at hn
  clear hr hb
  go_enter Try.func38, Try.ntmps38
  go_wp2
  go_loopw [8] (fun v wr => ∃ k : Nat, k ≤ l.length ∧ v = .int .i64 k ∧ Hid (K.idx (l.drop k) i k = K.idx l i 0) ∧ Hid (Below w.heap.size w wr)) (fun v _ => l.length - (intOf v).toNat)
  case atStart => exact ⟨0, Nat.zero_le _, rfl, rfl, Below.refl _ _⟩
  case round =>
    obtain ⟨k, hk, rfl, hi, hw⟩ := hrel
    by_cases hlt : k < l.length
    · obtain ⟨p, hp, hpd⟩ := K.drop_cons hlt
      obtain ⟨b1, o, e, hbl, hc⟩ := Hr.out k p hp
      subst e
      obtain ⟨c0, c1, c2⟩ := K.cell3 hw.out hbl hc
      have HE := Lib.hid (findPred_any p b i wr (Hb.out.below hw.out))
      have e1 : Hid (K.idx l i 0 = if p.id = i then (k : Int) else K.idx (l.drop (k + 1)) i (k + 1)) := by show _ = _; rw [← hi.out, hpd]; rfl
      clear hc hp hpd
      by_cases hv : p.id = i
      · have R : Hid (K.idx l i 0 = (k : Int)) := by show _ = _; rw [e1.out, if_pos hv]
        rw [show (p.id == i) = true by simpa using hv] at HE
        clear hv e1
        go_wp2_with (go_at_call 39; refine HE.out.mono ?_; rintro e w1 ⟨rfl, hb1⟩; have R2 := Lib.hid (hw.out.trans (hb1.mono hw.out.size)); clear hb1)
        go_ret
        exact ⟨by rw [R.out]; rfl, R2.out⟩
      · have R : Hid (K.idx (l.drop (k + 1)) i (k + 1) = K.idx l i 0) := by show _ = _; rw [e1.out, if_neg hv]
        rw [show (p.id == i) = false by simpa using hv] at HE
        clear hv e1
        go_wp2_with (go_at_call 39; refine HE.out.mono ?_; rintro e w1 ⟨rfl, hb1⟩; have R2 := Lib.hid (hw.out.trans (hb1.mono hw.out.size)); clear hb1)
        go_roundw
        case rel => exact ⟨k + 1, by omega, by go_num, R, R2⟩
        case measure => simp [intOf]; omega
    · obtain rfl : k = l.length := by omega
      have R : Hid (K.idx l i 0 = -1) := by show _ = _; rw [← hi.out, List.drop_length]; rfl
      go_wp2
      go_ret
      exact ⟨by rw [R.out]; rfl, hw.out⟩
def K.FindEnd (l : List K.M) (i : Int) (w : World) (e : Ending) (w' : World) : Prop := e = .returned (.tuple #[.agg #[.int .u32 (K.fnd l i).id, .int .i64 (K.fnd l i).at_, .int .u8 (K.fnd l i).g], .bool (K.find l i).isSome]) ∧ Below w.heap.size w w'
set_option maxHeartbeats 1000000 in
theorem find9_any (ao : Option Addr) (ca : Nat) (l : List K.M) (i : Int) (w : World) (hr : K.Row w ao l) (la : l.length ≤ maxLen) :
    Calls Try.prog 20 #[.slice ao l.length ca, .int .u32 i] w (K.FindEnd l i w) := by
  have b1 := (Below.refl w.heap.size w).alloc (Nat.le_refl _) (.cells #[.int .u32 i] 30)
  have b2 := b1.alloc b1.size (.cells #[.int .u32 0, .int .i64 0, .int .u8 0] 32)
  have hI : K.Idb (w.alloc (.cells #[.int .u32 i] 30)) w.heap.size i := ⟨by simp, by simp [go_sem]⟩
  have hI2 := hI.below ((Below.refl _ _).alloc (Nat.le_refl _) (.cells #[.int .u32 0, .int .i64 0, .int .u8 0] 32))
  have hX := K.Box.new (w.alloc (.cells #[.int .u32 i] 30)) K.zero 32
  have hz : (w.alloc (.cells #[.int .u32 i] 30)).heap.size = w.heap.size + 1 := by simp
  rw [hz] at hX
  have HC := Lib.hid (indexMark_any ao ca w.heap.size l i _ la (hr.below b2) hI2)
  have Hr := Lib.hid hr
  have Hx := Lib.hid hX
  have Hb := Lib.hid b2
  have hsp := K.idx_spec l i 0
  clear hr hX b1 b2 hI hI2 hz
  unfold maxLen at la
  rcases hsp with ⟨e1, e2⟩ | ⟨j, p, e1, e2, e3⟩
  · rw [e1] at HC
    have hd : Hid (K.fnd l i = K.zero ∧ K.find l i = none) := by exact ⟨by rw [K.fnd, e2]; rfl, e2⟩
    clear e1 e2
    go_enter Try.func20, Try.ntmps20
    go_wp2_with (go_at_call 38; refine HC.out.mono ?_; rintro e w1 ⟨rfl, hb⟩; have hbx := Lib.hid (Hx.out.below hb); have hB := Lib.hid (Hb.out.trans (hb.mono Hb.out.size)); clear hb; obtain ⟨lt, x0, x1, x2, f0, f1, f2⟩ := hbx.out; simp only [K.zero] at x0 x1 x2)
    have hP := hbx.out.put K.zero
    have p0 := hP.c0
    have p1 := hP.c1
    have p2 := hP.c2
    refine bodyPost_ret (v := .tuple #[.agg #[.int .u32 0, .int .i64 0, .int .u8 0], .bool false]) ?_ rfl ⟨by rw [hd.out.1, hd.out.2]; rfl, K.put3_below hB.out (by omega) K.zero⟩
    unfold K.put3 at p0 p1 p2
    simp only [K.zero] at p0 p1 p2
    simp [results, Try.results20, go_sem, p0, p1, p2]
  · rw [e1] at HC
    have hd : Hid (K.fnd l i = p ∧ K.find l i = some p) := by exact ⟨by rw [K.fnd, e3]; rfl, e3⟩
    have hj := (List.getElem?_eq_some_iff.1 e2).1
    obtain ⟨b0, o, e, hbl, hc⟩ := Hr.out j p e2
    subst e
    obtain ⟨c0, c1, c2⟩ := hc
    have hcc := Lib.hid (And.intro c0 (And.intro c1 c2))
    rw [Nat.zero_add] at HC
    clear e1 e2 e3 c0 c1 c2
    go_enter Try.func20, Try.ntmps20
    go_wp2_with (go_at_call 38; refine HC.out.mono ?_; rintro e w1 ⟨rfl, hb⟩; have hbx := Lib.hid (Hx.out.below hb); have hB := Lib.hid (Hb.out.trans (hb.mono Hb.out.size)); clear hb; obtain ⟨lt, x0, x1, x2, f0, f1, f2⟩ := hbx.out; simp only [K.zero] at x0 x1 x2; obtain ⟨c0, c1, c2⟩ := K.cell3 hB.out hbl hcc.out)
    have hP := hbx.out.put p
    have p0 := hP.c0
    have p1 := hP.c1
    have p2 := hP.c2
    refine bodyPost_ret (v := .tuple #[.agg #[.int .u32 p.id, .int .i64 p.at_, .int .u8 p.g], .bool true]) ?_ rfl ⟨by rw [hd.out.1, hd.out.2]; rfl, K.put3_below hB.out (by omega) p⟩
    unfold K.put3 at p0 p1 p2
    simp [results, Try.results20, go_sem, p0, p1, p2]
end Go.Proofs.Ytmbgcbgbdjiacaa
/- MarkSearch -/
namespace Go.Proofs.Ytmbgcbgbdjiacaa
open Go.RowKit

/-- What search's closure finds in memory: the box of a slice, the box of an ID, and the row. -/
structure K.Sx (W : World) (sb ib : Nat) (ao : Option Addr) (ca : Nat) (l : List K.M) (i : Int) : Prop where
  s0 : W.cell? ⟨sb, 0, none⟩ = some (.slice ao l.length ca)
  i0 : W.cell? ⟨ib, 0, none⟩ = some (.int .u32 i)
  row : K.Row W ao l
theorem K.Sx.drewN {W : World} {sb ib : Nat} {ao : Option Addr} {ca : Nat} {l : List K.M} {i : Int} (h : K.Sx W sb ib ao ca l i) (n : Nat) : K.Sx (W.drewN n) sb ib ao ca l i := ⟨h.s0, h.i0, h.row.below (below_drewN (Below.refl _ _) _)⟩
theorem searchLook_any (sb ib k : Nat) (ao : Option Addr) (ca : Nat) (l : List K.M) (i : Int) (p : K.M) (w : World) (h : K.Sx w sb ib ao ca l i) (hp : l[k]? = some p) :
    Calls Try.prog 61 #[.int .i64 k, .pointer (some ⟨sb, 0, none⟩), .pointer (some ⟨ib, 0, none⟩)] w fun e w' => e = .returned (.bool (decide (i ≤ p.id))) ∧ ∃ n, w' = w.drewN n := by
  obtain ⟨b, o, e, hlt, c0, c1, c2⟩ := h.row k p hp
  subst e
  have s0 := h.s0
  have i0 := h.i0
  have hk := (List.getElem?_eq_some_iff.1 hp).1
  clear h hp
  go_enter Try.func61, Try.ntmps61
  go_wp2
  go_quiet (fail)
  go_wp2
  go_ret
  exact ⟨rfl, _, rfl⟩
/-- Where an ID stands, or would stand. -/
def K.posI (l : List K.M) (i : Int) : Nat := K.pos l ⟨i, 0, 0⟩
/-- Between two rounds of the search. -/
structure K.Bs (l : List K.M) (i : Int) (a b : Nat) : Prop where
  lo : ∀ k p, k < a → l[k]? = some p → p.id < i
  hi : ∀ k p, b ≤ k → l[k]? = some p → i ≤ p.id
theorem K.Bs.fin : ∀ {l : List K.M} {i : Int} {a : Nat}, K.Bs l i a a → a ≤ l.length → K.posI l i = a
  | [], i, a, _, h => by simp at h; subst h; rfl
  | x :: l, i, 0, B, _ => by
    have := B.hi 0 x (Nat.le_refl _) rfl
    unfold K.posI; rw [K.pos_cons, if_neg (by simp only; omega)]
  | x :: l, i, a + 1, B, h => by
    have h0 := B.lo 0 x (by omega) rfl
    unfold K.posI
    rw [K.pos_cons, if_pos (by simp only; omega)]
    have : K.posI l i = a := K.Bs.fin ⟨fun k p hk hp => B.lo (k + 1) p (by omega) (by simpa using hp), fun k p hk hp => B.hi (k + 1) p (by omega) (by simpa using hp)⟩ (by simpa using h)
    unfold K.posI at this
    rw [this]
def K.asc (l : List K.M) : Prop := l.Pairwise (fun x y => x.id < y.id)
theorem K.asc_le {l : List K.M} (h : K.asc l) {a b : Nat} {x y : K.M} (hab : a ≤ b) (hx : l[a]? = some x) (hy : l[b]? = some y) : x.id ≤ y.id := by
  by_cases e : a = b
  · subst e; rw [hx] at hy; cases hy; exact Int.le_refl _
  · have ha := (List.getElem?_eq_some_iff.1 hx)
    have hb := (List.getElem?_eq_some_iff.1 hy)
    obtain ⟨ha, rfl⟩ := ha
    obtain ⟨hb, rfl⟩ := hb
    exact Int.le_of_lt (List.pairwise_iff_getElem.1 h a b ha hb (by omega))
set_option maxHeartbeats 2000000 in
theorem sortSearch_any (sb ib : Nat) (ao : Option Addr) (ca : Nat) (l : List K.M) (i : Int) (w : World) (h : K.Sx w sb ib ao ca l i) (ha : K.asc l) (hl : l.length ≤ 1000000) :
    Calls Try.prog 60 #[.int .i64 l.length, .func (.func 61) #[] #[.pointer (some ⟨sb, 0, none⟩), .pointer (some ⟨ib, 0, none⟩)]] w fun e w' => e = .returned (.int .i64 (K.posI l i)) ∧ ∃ n, w' = w.drewN n := by
  have HH := Lib.hid h
  have HA := Lib.hid ha
  have HB : Hid (K.Bs l i 0 l.length) := ⟨fun k p hk => by omega, fun k p hk hp => by have := (List.getElem?_eq_some_iff.1 hp).1; omega⟩
  clear h ha
  go_enter Try.func60, Try.ntmps60
  go_wp2
  go_loopw [5, 6] (fun va vb wr => ∃ a b : Nat, va = .int .i64 a ∧ vb = .int .i64 b ∧ a ≤ b ∧ b ≤ l.length ∧ Hid (K.Bs l i a b) ∧ Hid (∃ n, wr = w.drewN n)) (fun va vb _ => (intOf vb).toNat - (intOf va).toNat)
  case atStart => exact ⟨0, l.length, rfl, rfl, by omega, by omega, HB, 0, rfl⟩
  case round =>
    obtain ⟨a, b, rfl, rfl, hab, hbl, hB, hw⟩ := hrel
    clear HB
    by_cases hlt : a < b
    · have q0 : decide ((a : Int) < (b : Int)) = true := by simp; omega
      obtain ⟨d, hd⟩ : ∃ d, d = (a + b) / 2 := ⟨_, rfl⟩
      have e1 : ((a : Int) + (b : Int)) / 2 = (d : Int) := by omega
      have had : a ≤ d := by omega
      have hdb : d < b := by omega
      clear hd
      obtain ⟨p, hp⟩ : ∃ p, l[d]? = some p := ⟨l[d]'(by omega), List.getElem?_eq_getElem _⟩
      have HC : Hid (Calls Try.prog 61 #[.int .i64 d, .pointer (some ⟨sb, 0, none⟩), .pointer (some ⟨ib, 0, none⟩)] wr fun e w' => e = .returned (.bool (decide (i ≤ p.id))) ∧ ∃ n, w' = wr.drewN n) := by
        obtain ⟨n, hn⟩ := hw.out
        exact searchLook_any sb ib d ao ca l i p wr (by rw [hn]; exact HH.out.drewN n) hp
      have hw2 : Hid (∀ n, ∃ m, wr.drewN n = w.drewN m) := fun n => by
        obtain ⟨m, hm⟩ := hw.out
        exact ⟨m + n, by rw [hm]; simp [World.drewN, Nat.add_assoc]⟩
      by_cases hc : i ≤ p.id
      · have R : Hid (K.Bs l i a d) := ⟨hB.out.lo, fun k q hk hq => Int.le_trans hc (K.asc_le HA.out hk hp hq)⟩
        rw [decide_eq_true hc] at HC
        clear hB hp hc hw
        go_wp2_with (go_at_call 61; refine HC.out.mono ?_; rintro e w1 ⟨rfl, n, rfl⟩)
        go_roundw
        case rel => exact ⟨a, d, rfl, rfl, had, by omega, R, hw2.out n⟩
        case measure => simp [intOf]; omega
      · have R : Hid (K.Bs l i (d + 1) b) := ⟨fun k q hk hq => by have := K.asc_le HA.out (show k ≤ d by omega) hq hp; omega, hB.out.hi⟩
        rw [decide_eq_false hc] at HC
        clear hB hp hc hw
        go_wp2_with (go_at_call 61; refine HC.out.mono ?_; rintro e w1 ⟨rfl, n, rfl⟩)
        go_roundw
        case rel => exact ⟨d + 1, b, by go_num, rfl, by omega, hbl, R, hw2.out n⟩
        case measure => simp [intOf]; omega
    · obtain rfl : a = b := by omega
      have q0 : decide ((a : Int) < (a : Int)) = false := by simp
      have R := Lib.hid (hB.out.fin hbl)
      go_wp2
      go_ret
      exact ⟨by rw [R.out]; rfl, hw.out⟩
/-- Whether the mark that search finds has the ID. -/
theorem K.posI_find {l : List K.M} {i : Int} (h : K.asc l) : (∃ p, l[K.posI l i]? = some p ∧ p.id = i ∧ K.find l i = some p) ∨ (K.find l i = none ∧ (K.posI l i = l.length ∨ ∃ p, l[K.posI l i]? = some p ∧ p.id ≠ i)) := by
  have hle : K.posI l i ≤ l.length := K.pos_le l _
  have lo : ∀ (k : Nat) (q : K.M), l[k]? = some q → q.id = i → k = K.posI l i := by
    intro k q hq e
    unfold K.posI
    rcases Nat.lt_or_ge (K.pos l ⟨i, 0, 0⟩) k with c | c
    · obtain ⟨r, hr⟩ : ∃ r, l[K.pos l ⟨i, 0, 0⟩]? = some r := ⟨l[K.pos l ⟨i, 0, 0⟩]'(by have := (List.getElem?_eq_some_iff.1 hq).1; omega), List.getElem?_eq_getElem _⟩
      by_cases c2 : r.id < i
      · have := K.pos_step l ⟨i, 0, 0⟩ r _ hr (Nat.le_refl _) c2; omega
      · obtain ⟨h1, rfl⟩ := List.getElem?_eq_some_iff.1 hr
        obtain ⟨h2, rfl⟩ := List.getElem?_eq_some_iff.1 hq
        have := List.pairwise_iff_getElem.1 h _ _ h1 h2 c
        omega
    · exact (K.pos_stop l ⟨i, 0, 0⟩ q k hq c (by simp only; omega)).symm
  by_cases hlt : K.posI l i < l.length
  · have hp : l[K.posI l i]? = some l[K.posI l i] := List.getElem?_eq_getElem hlt
    by_cases e : (l[K.posI l i]).id = i
    · exact .inl ⟨_, hp, e, by have := K.find_mem h (List.getElem_mem hlt); rw [e] at this; exact this⟩
    · refine .inr ⟨K.find_none.2 fun m hm c => ?_, .inr ⟨_, hp, e⟩⟩
      obtain ⟨k, hk⟩ := List.getElem?_of_mem hm
      have := lo k m hk c
      subst this
      rw [hp] at hk; cases hk; exact e c
  · refine .inr ⟨K.find_none.2 fun m hm c => ?_, .inl (by omega)⟩
    obtain ⟨k, hk⟩ := List.getElem?_of_mem hm
    have := lo k m hk c
    have := (List.getElem?_eq_some_iff.1 hk).1
    omega
def K.SrEnd (l : List K.M) (i : Int) (w : World) (e : Ending) (w' : World) : Prop := e = .returned (.tuple #[.int .i64 (K.posI l i), .bool (K.find l i).isSome]) ∧ Below w.heap.size w w'
set_option maxHeartbeats 2000000 in
theorem search_any (ao : Option Addr) (ca : Nat) (l : List K.M) (i : Int) (w : World) (hr : K.Row w ao l) (ha : K.asc l) (hl : l.length ≤ 1000000) :
    Calls Try.prog 34 #[.slice ao l.length ca, .int .u32 i] w (K.SrEnd l i w) := by
  have b1 := (Below.refl w.heap.size w).alloc (Nat.le_refl _) (.cells #[.slice ao l.length ca] 22)
  have b2 := b1.alloc b1.size (.cells #[.int .u32 i] 30)
  have hz : (w.alloc (.cells #[.slice ao l.length ca] 22)).heap.size = w.heap.size + 1 := by simp
  have hX : K.Sx ((w.alloc (.cells #[.slice ao l.length ca] 22)).alloc (.cells #[.int .u32 i] 30)) w.heap.size (w.heap.size + 1) ao ca l i :=
    ⟨by simp [go_sem], by rw [← hz]; simp [go_sem], hr.below b2⟩
  have HX0 := Lib.hid hX
  have HB0 := Lib.hid b2
  obtain ⟨k, hk0⟩ : ∃ k, Hid (K.posI l i = k) := ⟨_, rfl⟩
  have HC := Lib.hid (sortSearch_any _ _ ao ca l i _ hX ha hl)
  have hsp := K.posI_find (i := i) ha
  rw [hk0.out] at HC hsp
  clear hr ha hX b1 b2 hz
  go_enter Try.func34, Try.ntmps34
  go_wp2_with (go_at_call 60; refine HC.out.mono ?_; rintro e w1 ⟨rfl, n, hw⟩; have HX : Hid (K.Sx w1 w.heap.size (w.heap.size + 1) ao ca l i) := (by show K.Sx _ _ _ _ _ _ _; rw [hw]; exact HX0.out.drewN n); have HB : Hid (Below w.heap.size w w1) := (by show Below _ _ _; rw [hw]; exact below_drewN HB0.out n); clear HC HX0 HB0 hw)
  obtain ⟨s0, i0, hrow⟩ := HX.out
  clear HX
  rcases hsp with ⟨p, hp, e1, e2⟩ | ⟨e2, e1 | ⟨p, hp, e1⟩⟩
  · have hd : Hid ((K.find l i).isSome = true) := by show _ = _; rw [e2]; rfl
    obtain ⟨b, o, e, _, c0, c1, c2⟩ := hrow _ p hp
    subst e
    have hk := (List.getElem?_eq_some_iff.1 hp).1
    have q1 : decide (k < l.length) = true := by simpa using hk
    have q2 : (p.id == i) = true := by simpa using e1
    clear hp e1 e2 hrow
    go_quiet (fail)
    go_wp2
    go_ret2
    exact ⟨by rw [hd.out, hk0.out]; rfl, below_drewN HB.out _⟩
  · have hd : Hid ((K.find l i).isSome = false) := by show _ = _; rw [e2]; rfl
    have q1 : decide (k < l.length) = false := by simp; omega
    clear e1 e2 hrow
    go_quiet (fail)
    go_wp2
    go_ret2
    exact ⟨by rw [hd.out, hk0.out]; rfl, below_drewN HB.out _⟩
  · have hd : Hid ((K.find l i).isSome = false) := by show _ = _; rw [e2]; rfl
    obtain ⟨b, o, e, _, c0, c1, c2⟩ := hrow _ p hp
    subst e
    have hk := (List.getElem?_eq_some_iff.1 hp).1
    have q1 : decide (k < l.length) = true := by simpa using hk
    have q2 : (p.id == i) = false := by simpa using e1
    clear hp e1 e2 hrow
    go_quiet (fail)
    go_wp2
    go_ret2
    exact ⟨by rw [hd.out, hk0.out]; rfl, below_drewN HB.out _⟩
end Go.Proofs.Ytmbgcbgbdjiacaa
/- MarkSet -/
namespace Go.Proofs.Ytmbgcbgbdjiacaa
open Go.RowKit

theorem K.asc_cut {A B : List K.M} {p : K.M} (h : K.asc (A ++ p :: B)) : (∀ x ∈ A, x.id < p.id) ∧ (∀ x ∈ B, p.id < x.id) := by
  have h1 := List.pairwise_append.1 h
  exact ⟨fun x hx => h1.2.2 x hx p List.mem_cons_self, (List.pairwise_cons.1 h1.2.1).1⟩
theorem K.cut_at {l : List K.M} {k : Nat} {p : K.M} (h : l[k]? = some p) : l = l.take k ++ p :: l.drop (k + 1) := by
  obtain ⟨hk, rfl⟩ := List.getElem?_eq_some_iff.1 h
  rw [← List.drop_eq_getElem_cons hk, List.take_append_drop]
theorem K.without_at {l : List K.M} {k : Nat} {p : K.M} (ha : K.asc l) (h : l[k]? = some p) : K.without l p.id = l.take k ++ l.drop (k + 1) := by
  have e := K.cut_at h
  have ha' := ha
  rw [e] at ha'
  obtain ⟨h1, h2⟩ := K.asc_cut ha'
  conv => lhs; rw [e]
  have w1 := K.without_id (l := l.take k) (i := p.id) fun x hx => by have := h1 x hx; omega
  have w2 := K.without_id (l := l.drop (k + 1)) (i := p.id) fun x hx => by have := h2 x hx; omega
  unfold K.without at w1 w2 ⊢
  rw [List.filter_append, List.filter_cons, if_neg (by simp), w1, w2]
theorem K.set_at {l : List K.M} {k : Nat} {p m : K.M} (ha : K.asc l) (h : l[k]? = some p) (hm : p.id = m.id) : l.set k m = K.put (K.without l m.id) m := by
  rw [← hm, K.without_at ha h]
  have e := K.cut_at h
  have ha' := ha
  rw [e] at ha'
  obtain ⟨h1, h2⟩ := K.asc_cut ha'
  have hk := (List.getElem?_eq_some_iff.1 h).1
  have es : l.set k m = l.take k ++ m :: l.drop (k + 1) := by
    conv => lhs; rw [e]
    have hl : (l.take k).length = k := by rw [List.length_take]; omega
    rw [List.set_append_right _ _ (by omega), hl, Nat.sub_self, List.set_cons_zero]
  rw [es]
  have pa := List.pairwise_append.1 ha'
  have pb := List.pairwise_cons.1 pa.2.1
  refine K.asc_ext ?_ (K.put_asc ?_ fun x hx => ?_) fun x => ?_
  · rw [List.pairwise_append]
    refine ⟨pa.1, List.pairwise_cons.2 ⟨fun y hy => by have := h2 y hy; omega, pb.2⟩, fun x hx y hy => ?_⟩
    rcases List.mem_cons.1 hy with rfl | hy
    · have := h1 x hx; omega
    · exact pa.2.2 x hx y (List.mem_cons_of_mem _ hy)
  · rw [List.pairwise_append]
    exact ⟨pa.1, pb.2, fun x hx y hy => pa.2.2 x hx y (List.mem_cons_of_mem _ hy)⟩
  · rcases List.mem_append.1 hx with hx | hx
    · have := h1 x hx; omega
    · have := h2 x hx; omega
  · rw [K.mem_put, List.mem_append, List.mem_append, List.mem_cons]
    constructor
    · rintro (h | h | h)
      · exact Or.inr (Or.inl h)
      · exact Or.inl h
      · exact Or.inr (Or.inr h)
    · rintro (h | h | h)
      · exact Or.inr (Or.inl h)
      · exact Or.inl h
      · exact Or.inr (Or.inr h)
theorem K.Made.isRow {l : List K.M} {w W : World} {v : Value} (h : K.Made l w v W) (hl : 0 < l.length) : ∃ g c, v = .slice (some ⟨g, 0, none⟩) l.length c := by
  obtain ⟨_, ⟨_, h0⟩ | ⟨g, c, _, e, _⟩⟩ := h.own
  · omega
  · exact ⟨g, c, e⟩
theorem K.asc_of {l : List K.M} (h : K.isB l = true) : K.asc l := ((K.isB_iff l).1 h).asc
theorem drop9_any (ao : Option Addr) (ca : Nat) (l : List K.M) (i : Int) (w : World) (hr : K.Row w ao l) (hc : ao = none → ca = 0) (la : l.length ≤ maxLen) (hf : ∀ m ∈ l, K.Fit m) :
    Calls Try.prog 19 #[.slice ao l.length ca, .int .u32 i] w (K.DrpEnd l i w) := by
  have hI := Lib.hid (isSet_any ao ca l w hr la hf)
  cases hs : K.isB l with
  | false =>
    have hd : Hid (K.drpE l i = 2 ∧ K.drpL l i = []) := by
      have h2 : K.drpE l i = 2 := by unfold K.drpE; rw [hs]; rfl
      exact ⟨h2, by unfold K.drpL; rw [if_neg (by rw [h2]; decide)]⟩
    rw [hs] at hI
    clear hr hf hs hc
    go_enter Try.func19, Try.ntmps19
    go_wp2_with (go_at_call 33; refine hI.out.mono ?_; rintro e w1 ⟨rfl, hb⟩; have hB := Lib.hid hb; clear hb)
    go_ret2
    exact ⟨_, by rw [hd.out.1]; rfl, by rw [hd.out.2]; exact K.Made.nil _ hB.out⟩
  | true =>
    have hl := K.isB_len hs
    have ha := K.asc_of hs
    have hsp := K.posI_find (i := i) ha
    have hS : Hid (∀ V, Below w.heap.size w V → Calls Try.prog 34 #[.slice ao l.length ca, .int .u32 i] V (K.SrEnd l i V)) := fun V hb => search_any ao ca l i V (hr.below hb) ha (by omega)
    have hC : Hid (∀ V, Below w.heap.size w V → Calls Try.prog 35 #[.slice ao l.length ca] V (K.OwnEnd l V)) := fun V hb => clone9_any ao ca l V (hr.below hb) hc (by omega)
    rw [hs] at hI
    obtain ⟨k, hk0⟩ : ∃ k, Hid (K.posI l i = k) := ⟨_, rfl⟩
    rw [hk0.out] at hsp
    rcases hsp with ⟨p, hp, e1, e2⟩ | ⟨e2, _⟩
    · have hd : Hid (K.drpE l i = 0 ∧ K.drpL l i = l.take k ++ l.drop (k + 1)) := by
        have h2 : K.drpE l i = 0 := by unfold K.drpE; rw [if_pos hs, if_neg (by rw [e2]; exact fun h => nomatch h)]
        exact ⟨h2, by unfold K.drpL; rw [if_pos h2, ← e1, K.without_at ha hp]⟩
      have hk := (List.getElem?_eq_some_iff.1 hp).1
      have hF : Hid ((K.find l i).isSome = true) := by show _ = _; rw [e2]; rfl
      have hS2 : Hid (∀ V, Below w.heap.size w V → Calls Try.prog 34 #[.slice ao l.length ca, .int .u32 i] V fun e w' => e = .returned (.tuple #[.int .i64 (k : Int), .bool true]) ∧ Below V.heap.size V w') := fun V hb => by
        have := hS.out V hb
        unfold K.SrEnd at this
        rw [hk0.out, hF.out] at this; exact this
      have hD : Hid (∀ g c V, K.Made l w (.slice (some ⟨g, 0, none⟩) l.length c) V → Calls Try.prog 37 #[.slice (some ⟨g, 0, none⟩) l.length c, .int .i64 k, .int .i64 ((k : Int) + 1)] V fun e w' => ∃ v', e = .returned v' ∧ K.Made (l.take k ++ l.drop (k + 1)) w v' w') := fun g c V h => delete9_any g c k (l.length - (k + 1)) l.length l w V rfl h (by omega) (by omega)
      have w1 : IntKind.i64.wrap ((k : Int) + 1) = (k : Int) + 1 := IntWalk.i64_in _ (by omega)
      clear hr hf hs hc ha hp e1 e2 hS
      go_enter Try.func19, Try.ntmps19
      go_wp2_with (first
        | (go_at_call 33; refine hI.out.mono ?_; rintro e w1 ⟨rfl, hb⟩; have hB := Lib.hid hb; clear hb)
        | (go_at_call 34; refine (hS2.out _ hB.out).mono ?_; rintro e w2 ⟨rfl, hb⟩; have hB2 := Lib.hid (hB.out.trans (hb.mono hB.out.size)); clear hb)
        | (go_at_call 35; refine (hC.out _ hB2.out).mono ?_; rintro e w3 ⟨v, rfl, hm⟩; have hM := hm.weak hB2.out; obtain ⟨g, c, rfl⟩ := hM.isRow (by omega); have hM := Lib.hid hM; clear hm)
        | (go_at_call 37; refine (hD.out g c _ hM.out).mono ?_; rintro e w4 ⟨v', rfl, hm⟩; have hM4 := Lib.hid hm; clear hm))
      go_ret2
      exact ⟨_, by rw [hd.out.1]; rfl, by rw [hd.out.2]; exact hM4.out⟩
    · have hd : Hid (K.drpE l i = 7 ∧ K.drpL l i = []) := by
        have h2 : K.drpE l i = 7 := by unfold K.drpE; rw [if_pos hs, if_pos e2]
        exact ⟨h2, by unfold K.drpL; rw [if_neg (by rw [h2]; decide)]⟩
      have hF : Hid ((K.find l i).isSome = false) := by show _ = _; rw [e2]; rfl
      have hS2 : Hid (∀ V, Below w.heap.size w V → Calls Try.prog 34 #[.slice ao l.length ca, .int .u32 i] V fun e w' => e = .returned (.tuple #[.int .i64 (k : Int), .bool false]) ∧ Below V.heap.size V w') := fun V hb => by
        have := hS.out V hb
        unfold K.SrEnd at this
        rw [hk0.out, hF.out] at this; exact this
      clear hr hf hs hc ha e2 hS
      go_enter Try.func19, Try.ntmps19
      go_wp2_with (first
        | (go_at_call 33; refine hI.out.mono ?_; rintro e w1 ⟨rfl, hb⟩; have hB := Lib.hid hb; clear hb)
        | (go_at_call 34; refine (hS2.out _ hB.out).mono ?_; rintro e w2 ⟨rfl, hb⟩; have hB2 := Lib.hid (hB.out.trans (hb.mono hB.out.size)); clear hb))
      go_ret2
      exact ⟨_, by rw [hd.out.1]; rfl, by rw [hd.out.2]; exact K.Made.nil _ hB2.out⟩
theorem K.Made.notOwn {l : List K.M} {w W : World} {v : Value} (h : K.Made l w v W) : v.ownBlock ≠ some W.heap.size := by
  intro e
  have := (h.own.lt _ e).2
  omega
set_option maxRecDepth 100000 in
set_option maxHeartbeats 2000000 in
theorem set9_any (ao : Option Addr) (ca : Nat) (l : List K.M) (m : K.M) (w : World) (hr : K.Row w ao l) (hc : ao = none → ca = 0) (la : l.length ≤ maxLen) (hf : ∀ m ∈ l, K.Fit m) (fm : K.Fit m) :
    Calls Try.prog 18 #[.slice ao l.length ca, .agg #[.int .u32 m.id, .int .i64 m.at_, .int .u8 m.g]] w (K.SetEnd l m w) := by
  have hI := Lib.hid (fun V (hb : Below w.heap.size w V) => isSet_any ao ca l V (hr.below hb) la hf)
  have hJ : Hid (∀ V : World, Calls Try.prog 33 #[.slice (some ⟨V.heap.size, 0, none⟩) 1 1] (V.alloc (.cells #[.int .u32 m.id, .int .i64 m.at_, .int .u8 m.g] 32)) fun e w' => e = .returned (.bool (K.isB [m])) ∧ Below (V.alloc (.cells #[.int .u32 m.id, .int .i64 m.at_, .int .u8 m.g] 32)).heap.size (V.alloc (.cells #[.int .u32 m.id, .int .i64 m.at_, .int .u8 m.g] 32)) w') := fun V => by
    refine isSet_any _ 1 [m] _ (K.row_lit V [m]) (by unfold maxLen; simp) fun x hx => ?_
    rw [List.mem_singleton.1 hx]; exact fm
  have b1 := (Below.refl w.heap.size w).alloc (Nat.le_refl _) (.cells #[.int .u32 m.id, .int .i64 m.at_, .int .u8 m.g] 32)
  have hX := K.Box.new w m 32
  cases hs : K.isB l with
  | false =>
    have hd : Hid (K.setE l m = 2 ∧ K.setL l m = []) := by
      have h2 : K.setE l m = 2 := by unfold K.setE; rw [hs]; rfl
      exact ⟨h2, K.setL_bad (by rw [h2]; decide)⟩
    rw [hs] at hI
    clear hr hf hs hX hJ hc
    go_enter Try.func18, Try.ntmps18
    go_wp2_with fail
    refine (hI.out _ b1).mono ?_
    rintro e w1 ⟨rfl, hb⟩
    have hB := Lib.hid (b1.trans (hb.mono b1.size))
    clear hb b1
    go_wp2
    go_ret2
    exact ⟨_, by rw [hd.out.1]; rfl, by rw [hd.out.2]; exact K.Made.nil _ hB.out⟩
  | true =>
    have hl := K.isB_len hs
    have ha := K.asc_of hs
    have hS : Hid (∀ V, Below w.heap.size w V → Calls Try.prog 34 #[.slice ao l.length ca, .int .u32 m.id] V (K.SrEnd l m.id V)) := fun V hb => search_any ao ca l m.id V (hr.below hb) ha (by omega)
    have hC : Hid (∀ V, Below w.heap.size w V → Calls Try.prog 35 #[.slice ao l.length ca] V (K.OwnEnd l V)) := fun V hb => clone9_any ao ca l V (hr.below hb) hc (by omega)
    rw [hs] at hI
    have h1 := Lib.hid hs
    have Ha := Lib.hid ha
    clear hr hf hs hc ha
    cases hs : K.isB [m] with
    | false =>
      have hd : Hid (K.setE l m = 2 ∧ K.setL l m = []) := by
        have h2 : K.setE l m = 2 := by unfold K.setE; rw [if_neg (by rw [hs]; simp)]
        exact ⟨h2, K.setL_bad (by rw [h2]; decide)⟩
      rw [hs] at hJ
      clear hs h1
      go_enter Try.func18, Try.ntmps18
      go_wp2_with fail
      refine (hI.out _ b1).mono ?_
      rintro e w1 ⟨rfl, hb⟩
      have hB := Lib.hid (b1.trans (hb.mono b1.size))
      obtain ⟨lt, x0, x1, x2, _, _, _⟩ := hX.below hb
      clear hb b1 hX
      go_wp2_with fail
      refine (hJ.out _).mono ?_
      rintro e w2 ⟨rfl, hb⟩
      have hB2 := Lib.hid ((hB.out.alloc hB.out.size _).trans (hb.mono (by have := hB.out.size; simp only [World.size_alloc]; omega)))
      clear hb
      go_wp2
      go_ret2
      exact ⟨_, by rw [hd.out.1]; rfl, by rw [hd.out.2]; exact K.Made.nil _ hB2.out⟩
    | true =>
      rw [hs] at hJ
      have h2 := Lib.hid hs
      clear hs
      have hsp := K.posI_find (i := m.id) Ha.out
      obtain ⟨k, hk0⟩ : ∃ k, Hid (K.posI l m.id = k) := ⟨_, rfl⟩
      rw [hk0.out] at hsp
      have hE : Hid (K.setE l m = if 64 ≤ (K.without l m.id).length then 20 else 0) := by show _ = _; unfold K.setE; rw [if_pos ⟨h1.out, h2.out⟩]
      go_enter Try.func18, Try.ntmps18
      go_wp2_with fail
      refine (hI.out _ b1).mono ?_
      rintro e w1 ⟨rfl, hb⟩
      have hB := Lib.hid (b1.trans (hb.mono b1.size))
      have hX1 := hX.below hb
      obtain ⟨lt, x0, x1, x2, _, _, _⟩ := hX.below hb
      clear hb b1 hX
      go_wp2_with fail
      refine (hJ.out _).mono ?_
      rintro e w2 ⟨rfl, hb⟩
      have hb' : Below w1.heap.size w1 w2 := ((Below.refl _ _).alloc (Nat.le_refl _) _).trans (hb.mono (by simp only [World.size_alloc]; omega))
      have hX2 := hX1.below hb'
      have hB2 := Lib.hid (hB.out.trans (hb'.mono hB.out.size))
      clear hb hb' hX1 x0 x1 x2 lt
      have hX2 := Lib.hid hX2
      obtain ⟨lt, x0, x1, x2, _, _, _⟩ := hX2.out
      rcases hsp with ⟨p, hp, e1, e2⟩ | ⟨e2, _⟩
      · have hk := (List.getElem?_eq_some_iff.1 hp).1
        have hwl : (K.without l m.id).length < 64 := by
          have := K.without_len Ha.out (List.mem_of_getElem? hp)
          rw [e1] at this; omega
        rw [if_neg (by omega)] at hE
        have hd : Hid (K.setL l m = l.set k m) := by show _ = _; rw [K.setL_ok hE.out, K.set_at Ha.out hp e1]
        have hF : Hid ((K.find l m.id).isSome = true) := by show _ = _; rw [e2]; rfl
        have hS2 : Hid (∀ V, Below w.heap.size w V → Calls Try.prog 34 #[.slice ao l.length ca, .int .u32 m.id] V fun e w' => e = .returned (.tuple #[.int .i64 (k : Int), .bool true]) ∧ Below V.heap.size V w') := fun V hb => by
          have := hS.out V hb
          unfold K.SrEnd at this
          rw [hk0.out, hF.out] at this; exact this
        clear hp e1 e2 hS hI hJ h1 h2 hwl
        go_wp2_with (first
          | (go_at_call 34; refine (hS2.out _ hB2.out).mono ?_; rintro e w3 ⟨rfl, hb⟩; have hX3 := hX2.out.below hb; have hB3 := Lib.hid (hB2.out.trans (hb.mono hB2.out.size)); clear hb x0 x1 x2 lt; have hX3 := Lib.hid hX3; obtain ⟨lt, x0, x1, x2, _, _, _⟩ := hX3.out)
          | (go_at_call 35; refine (hC.out _ hB3.out).mono ?_; rintro e w4 ⟨v, rfl, hm⟩; have hX4 := hX3.out.below hm.below; have hM := hm.weak hB3.out; obtain ⟨g, c, rfl⟩ := hM.isRow (by omega); have hM := Lib.hid hM; clear hm x0 x1 x2 lt; obtain ⟨lt, x0, x1, x2, _, _, _⟩ := hX4; obtain ⟨q, hq⟩ : ∃ q, l[k]? = some q := ⟨l[k]'hk, List.getElem?_eq_getElem _⟩; obtain ⟨_, y0, y1, y2, yf0, yf1, yf2⟩ := hM.out.at hq; have hP := Lib.hid (hM.out.put hk m); clear hq))
        go_ret2
        exact ⟨_, by rw [hE.out]; rfl, by rw [hd.out]; exact hP.out⟩
      · have hwl : K.without l m.id = l := K.without_id (K.find_none.1 e2)
        rw [hwl] at hE
        have hF : Hid ((K.find l m.id).isSome = false) := by show _ = _; rw [e2]; rfl
        have hS2 : Hid (∀ V, Below w.heap.size w V → Calls Try.prog 34 #[.slice ao l.length ca, .int .u32 m.id] V fun e w' => e = .returned (.tuple #[.int .i64 (k : Int), .bool false]) ∧ Below V.heap.size V w') := fun V hb => by
          have := hS.out V hb
          unfold K.SrEnd at this
          rw [hk0.out, hF.out] at this; exact this
        by_cases h64 : l.length = 64
        · have q1 : ((l.length : Int) == 64) = true := by simp; omega
          rw [if_pos (by omega)] at hE
          have hd : Hid (K.setL l m = []) := K.setL_bad (by rw [hE.out]; decide)
          clear e2 hS hI hJ h1 h2 hwl hC h64
          go_wp2_with (go_at_call 34; refine (hS2.out _ hB2.out).mono ?_; rintro e w3 ⟨rfl, hb⟩; have hB3 := Lib.hid (hB2.out.trans (hb.mono hB2.out.size)); clear hb)
          go_ret2
          exact ⟨_, by rw [hE.out]; rfl, by rw [hd.out]; exact K.Made.nil _ hB3.out⟩
        · have q1 : ((l.length : Int) == 64) = false := by simp; omega
          rw [if_neg (by omega)] at hE
          have hkl : k ≤ l.length := by rw [← hk0.out]; exact K.pos_le l _
          have hd : Hid (K.setL l m = l.take k ++ m :: l.drop k) := by
            show _ = _
            rw [K.setL_ok hE.out, hwl, K.put_pos, ← hk0.out]; rfl
          have hIn : Hid (∀ v V, K.Made l w v V → Calls Try.prog 36 #[v, .int .i64 k, .slice (some ⟨V.heap.size, 0, none⟩) 1 1] (V.alloc (.cells #[.int .u32 m.id, .int .i64 m.at_, .int .u8 m.g] 32)) fun e w' => ∃ v', e = .returned v' ∧ K.Made (l.take k ++ m :: l.drop k) w v' w') := fun v V h => by
            have hb := (Below.refl V.heap.size V).alloc (Nat.le_refl _) (.cells #[.int .u32 m.id, .int .i64 m.at_, .int .u8 m.g] 32)
            exact insert9_any v k V.heap.size l m w _ (h.kept hb) (heap_alloc_new V _) h.notOwn hkl (by omega)
          clear e2 hS hI hJ h1 h2 hwl
          go_wp2_with (first
            | (go_at_call 34; refine (hS2.out _ hB2.out).mono ?_; rintro e w3 ⟨rfl, hb⟩; have hX3 := hX2.out.below hb; have hB3 := Lib.hid (hB2.out.trans (hb.mono hB2.out.size)); clear hb x0 x1 x2 lt; have hX3 := Lib.hid hX3; obtain ⟨lt, x0, x1, x2, _, _, _⟩ := hX3.out)
            | (go_at_call 35; refine (hC.out _ hB3.out).mono ?_; rintro e w4 ⟨v, rfl, hm⟩; have hX4 := hX3.out.below hm.below; have hM := hm.weak hB3.out; have hM := Lib.hid hM; clear hm x0 x1 x2 lt; obtain ⟨lt, x0, x1, x2, _, _, _⟩ := hX4)
            | (go_at_call 36; refine (hIn.out _ _ hM.out).mono ?_; rintro e w5 ⟨v', rfl, hm⟩; have hM5 := Lib.hid hm; clear hm))
          go_ret2
          exact ⟨_, by rw [hE.out]; rfl, by rw [hd.out]; exact hM5.out⟩
end Go.Proofs.Ytmbgcbgbdjiacaa
