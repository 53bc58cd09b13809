/- Where the words of appends (ownsRow) and of the library's sort (putRow) meet, at elements of one cell; what Compact leaves of a sorted row of handles. -/
import Derived.Test.YtlkkgjkbjjifmaaDoorHandLibS
import Derived.Test.YtlkkgjkbjjifmaaDoorHandSort
import Derived.Sort.OwnSortedInts
namespace Go.Proofs.YtlkkgjkbjjifmaaDoor
open Go.RowKit Go.Sort

section
variable {α : Type} [Inhabited α] (enc : α → Value)
theorem H.holds_of_block {w : World} {g : Nat} {cur : Array Value} {e : TypeId} {ss : List α} (hb : w.heap[g]? = some (.cells cur e (0, 0))) (ht : cur.toList.take ss.length = ss.map enc) : Holds enc w g 0 ss.toArray := by
  intro j hj
  have hj' : j < ss.length := by simpa using hj
  refine ⟨?_, by simp [World.frozen?, hb]⟩
  have h1 : (cur.toList.take ss.length)[j]? = (ss.map enc)[j]? := by rw [ht]
  rw [List.getElem?_take_of_lt hj'] at h1
  simp only [World.cell?, hb, Nat.zero_add]
  simp only [Option.isSome_none, Bool.false_eq_true, if_false]
  rw [← Array.getElem?_toList, h1]
  simp [hj']
theorem H.heap_put {w : World} {g n : Nat} {os : Array Obj} {cur : Array Value} {e : TypeId} {fr : Nat × Nat} (d : Array α) (hb : w.heap[g]? = some (.cells cur e fr)) :
    (grow (putRow enc (Sort.ahead w n) g 0 d) os).heap[g]? = some (.cells (putCells enc 0 d cur) e fr) := by
  have hg : g < w.heap.size := (Array.getElem?_eq_some_iff.1 hb).1
  rw [heap_grow_old _ _ (by simpa using hg)]
  simp [putRow, mapBlock, Sort.ahead, Array.getElem?_modify, hb, onCells]
theorem H.grownBy_put {w : World} {g n : Nat} {os : Array Obj} (d : Array α) : w.grownBy (grow (putRow enc (Sort.ahead w n) g 0 d) os) (some g) := by
  refine ⟨rfl, rfl, rfl, by simp, fun k hk hne => ?_⟩
  rw [heap_grow_old _ _ (by simpa using hk)]
  have : g ≠ k := fun e => hne (by rw [e])
  simp [putRow, mapBlock, Sort.ahead, Array.getElem?_modify, this]
theorem H.take_putCells (cur : Array Value) (ts : List α) (k : Nat) (hk : k ≤ ts.length) (h : ts.length ≤ cur.size) : (putCells enc 0 ts.toArray cur).toList.take k = (ts.take k).map enc := by
  apply List.ext_getElem?
  intro j
  by_cases hj : j < k
  · rw [List.getElem?_take_of_lt hj, Array.getElem?_toList]
    simp [putCells, hj, show j < cur.size by omega, show j < ts.length by omega]
  · rw [List.getElem?_take_eq_none (by omega), List.getElem?_eq_none (by simp; omega)]
/-- Behind a row that was written over, the same slice (cut to k) owns the first k of what was written. -/
theorem H.ownsRow_put {w : World} {base g cap n k : Nat} {e : TypeId} {os : Array Obj} {cur : Array Value} {ts : List α} (hk : k ≤ ts.length) (hbase : base ≤ g) (hb : w.heap[g]? = some (.cells cur e (0, 0)))
    (h1 : ts.length ≤ cap) (h2 : cap ≤ maxLen) (h3 : cur.size = cap * 1) :
    (grow (putRow enc (Sort.ahead w n) g 0 ts.toArray) os).ownsRow base e 1 (.slice (some ⟨g, 0, none⟩) k cap) k ((ts.take k).map enc) :=
  ⟨by simp; omega, .inr ⟨g, cap, _, rfl, hbase, H.heap_put enc _ hb, by omega, h2, by simp [putCells, h3], by rw [Nat.mul_one]; exact H.take_putCells enc cur ts k hk (by omega)⟩⟩
end
/-! ### What Compact leaves of a sorted row -/
def H.un (x : UInt64) : Nat := x.toNat
def H.enc (x : UInt64) : Value := .int .u64 ((H.un x : Nat) : Int)
theorem H.un_le (x : UInt64) : H.un x ≤ 18446744073709551615 := by have := UInt64.toNat_lt x; unfold H.un; omega
theorem H.un_inj {x y : UInt64} (h : H.un x = H.un y) : x = y := UInt64.toNat_inj.1 h
def H.of (l : List Nat) : List UInt64 := l.map UInt64.ofNat
theorem H.of_un {l : List Nat} (hb : ∀ x ∈ l, x ≤ 18446744073709551615) : (H.of l).map H.un = l := by
  unfold H.of
  rw [List.map_map]
  conv => rhs; rw [← List.map_id l]
  refine List.map_congr_left fun x hx => ?_
  have := hb x hx
  show (UInt64.ofNat x).toNat = x
  rw [UInt64.toNat_ofNat']
  exact Nat.mod_eq_of_lt (by omega)
theorem H.of_row {l : List Nat} (hb : ∀ x ∈ l, x ≤ 18446744073709551615) : H.row l = (H.of l).map H.enc := by
  conv => lhs; rw [← H.of_un hb]
  unfold H.row; rw [List.map_map]; rfl
theorem H.row_un (l : List UInt64) : H.row (l.map H.un) = l.map H.enc := by unfold H.row; rw [List.map_map]; rfl
/-- What the function literal returns. -/
def H.cmpN (a b : Nat) : Int := if H.slot a < H.slot b then -1 else if H.slot b < H.slot a then 1 else if a < b then -1 else if b < a then 1 else 0
def H.cf (x y : UInt64) : Int := H.cmpN (H.un x) (H.un y)
theorem H.lt_cf (x y : UInt64) : Go.Proofs.ltOf H.cf x y = decide (H.bf (H.un x) (H.un y)) := by
  unfold Go.Proofs.ltOf H.cf H.cmpN H.bf
  congr 1
  split
  · simp; omega
  · split
    · simp; omega
    · split
      · simp; omega
      · split
        · simp; omega
        · simp; omega
theorem H.swo : SWO (Go.Proofs.ltOf H.cf) where
  irrefl x := by rw [H.lt_cf, decide_eq_false_iff_not]; exact H.bf_irr _
  trans x y z h1 h2 := by
    rw [H.lt_cf, decide_eq_true_iff] at *
    exact H.bf_trans h1 h2
  ntrans x y z h1 h2 := by
    rw [H.lt_cf, decide_eq_false_iff_not] at *
    unfold H.bf at *
    omega
theorem H.compact_sorted (d : Array UInt64) (hs : SortedIn (Go.Proofs.ltOf H.cf) 0 d.size d) : ∀ m, m ≤ d.size →
    ((Lib.compactUpTo d m).map H.un).Pairwise H.bf ∧ (∀ x ∈ Lib.compactUpTo d m, 0 < m ∧ (x = d[m - 1]! ∨ H.bf (H.un x) (H.un d[m - 1]!))) ∧ ∀ x, x ∈ Lib.compactUpTo d m ↔ ∃ j, j < m ∧ d[j]! = x
  | 0, _ => by
    have e : Lib.compactUpTo d 0 = [] := rfl
    rw [e]
    exact ⟨List.Pairwise.nil, fun x hx => by simp at hx, fun x => by simp⟩
  | m + 1, hm => by
    obtain ⟨p, q, r⟩ := H.compact_sorted d hs m (by omega)
    rw [Lib.compactUpTo_succ]
    by_cases hk : m = 0 ∨ d[m]! ≠ d[m - 1]!
    · have e : Lib.keeps d m = true := by unfold Lib.keeps; exact decide_eq_true hk
      rw [e, if_pos rfl]
      have hlt : ∀ x ∈ Lib.compactUpTo d m, H.bf (H.un x) (H.un d[m]!) := fun x hx => by
        obtain ⟨h0, hx2⟩ := q x hx
        have hne : d[m]! ≠ d[m - 1]! := hk.resolve_left (by omega)
        have h1 := hs (m - 1) m (Nat.zero_le _) (by omega) (by omega)
        rw [H.lt_cf, decide_eq_false_iff_not] at h1
        have h2 : H.bf (H.un d[m - 1]!) (H.un d[m]!) := (H.bf_total (fun e => hne (H.un_inj e))).resolve_left h1
        rcases hx2 with rfl | hx2
        · exact h2
        · exact H.bf_trans hx2 h2
      refine ⟨?_, ?_, ?_⟩
      · rw [List.map_append, List.pairwise_append]
        refine ⟨p, List.pairwise_singleton _ _, fun a ha b hb => ?_⟩
        obtain ⟨x, hx, rfl⟩ := List.mem_map.1 ha
        rw [List.map_singleton, List.mem_singleton] at hb
        rw [hb]; exact hlt x hx
      · intro x hx
        refine ⟨by omega, ?_⟩
        rw [Nat.add_sub_cancel]
        rcases List.mem_append.1 hx with hx | hx
        · exact .inr (hlt x hx)
        · exact .inl (List.mem_singleton.1 hx)
      · intro x
        rw [List.mem_append, r, List.mem_singleton]
        constructor
        · rintro (⟨j, hj, h⟩ | h)
          · exact ⟨j, by omega, h⟩
          · exact ⟨m, by omega, h.symm⟩
        · rintro ⟨j, hj, h⟩
          by_cases c : j = m
          · subst c; exact .inr h.symm
          · exact .inl ⟨j, by omega, h⟩
    · have h0 : 0 < m := by omega
      have he : d[m]! = d[m - 1]! := Decidable.byContradiction fun c => hk (.inr c)
      have e : Lib.keeps d m = false := by unfold Lib.keeps; exact decide_eq_false hk
      rw [e, if_neg (by decide), List.append_nil]
      refine ⟨p, fun x hx => ⟨by omega, ?_⟩, fun x => ?_⟩
      · rw [Nat.add_sub_cancel, he]; exact (q x hx).2
      · rw [r]
        constructor
        · rintro ⟨j, hj, h⟩; exact ⟨j, by omega, h⟩
        · rintro ⟨j, hj, h⟩
          by_cases c : j = m
          · subst c; exact ⟨j - 1, by omega, by rw [← he]; exact h⟩
          · exact ⟨j, by omega, h⟩
theorem H.mem_array (d : Array UInt64) (x : UInt64) : (∃ j, j < d.size ∧ d[j]! = x) ↔ x ∈ d.toList := by
  rw [List.mem_iff_getElem]
  constructor
  · rintro ⟨j, hj, h⟩
    exact ⟨j, by simpa using hj, by rw [← h, getElem!_pos d j hj]; simp⟩
  · rintro ⟨j, hj, h⟩
    have hj' : j < d.size := by simpa using hj
    exact ⟨j, hj', by rw [getElem!_pos d j hj', ← h]; simp⟩
/-- Sorting and then Compact give the sorted list of the numbers, each once. -/
theorem H.compact_srt (l : List Nat) (hb : ∀ x ∈ l, x ≤ 18446744073709551615) (d : Array UInt64) (hp : PermIn 0 (H.of l).toArray.size (H.of l).toArray d) (hs : SortedIn (Go.Proofs.ltOf H.cf) 0 (H.of l).toArray.size d) :
    d.size = l.length ∧ (Lib.compactUpTo d d.size).map H.un = H.srt l ∧ (Lib.compactUpTo d d.size).length ≤ d.size := by
  have hsz : (H.of l).toArray.size = l.length := by simp [H.of]
  have hd : d.size = l.length := by rw [hp.1, hsz]
  rw [hsz, ← hd] at hs
  obtain ⟨p, _, r⟩ := H.compact_sorted d hs d.size (Nat.le_refl _)
  refine ⟨hd, (H.srt_unique p fun z => ?_).symm, ?_⟩
  · have hperm : d.toList.Perm (H.of l) := by
      have h := hp.2.2
      have e1 : (d.extract 0 (H.of l).toArray.size) = d := by rw [hsz, ← hd]; exact Array.extract_size
      have e2 : ((H.of l).toArray.extract 0 (H.of l).toArray.size) = (H.of l).toArray := Array.extract_size
      rw [e1, e2] at h
      simpa using h
    rw [List.mem_map]
    constructor
    · rintro ⟨x, hx, rfl⟩
      have h1 := (H.mem_array d x).1 ((r x).1 hx)
      have h2 := hperm.mem_iff.1 h1
      have h3 : H.un x ∈ (H.of l).map H.un := List.mem_map_of_mem h2
      rwa [H.of_un hb] at h3
    · intro hz
      rw [← H.of_un hb] at hz
      obtain ⟨x, hx, rfl⟩ := List.mem_map.1 hz
      exact ⟨x, (r x).2 ((H.mem_array d x).2 (hperm.mem_iff.2 hx)), rfl⟩
  · unfold Lib.compactUpTo
    rw [List.length_map]
    have := List.length_filter_le (Lib.keeps d) (List.range d.size)
    simpa using this
end Go.Proofs.YtlkkgjkbjjifmaaDoor
