/- The law package's own functions of stage 7: kept, lone. -/
import Derived.Test.YtmljagkndnobdaaTransLawKit
namespace Go.Proofs.Ytmljagkndnobdaa
open Go.RowKit

/-! ### lone -/
def T.loneL (x : List D.P) (k : Int) : Bool := !x.any fun p => p.k == k
set_option maxRecDepth 100000 in
set_option maxHeartbeats 1000000 in
theorem lone_any (ao : Option Addr) (c : Nat) (x : List D.P) (k : Int) (w : World) (hr : D.Row w ao x) (hl : x.length ≤ maxLen) :
    Calls Try.prog 33 #[.slice ao x.length c, .int .u8 k] w fun e w' => e = .returned (.bool (T.loneL x k)) ∧ w = w' := by
  unfold maxLen at hl
  have Hr := Lib.hid hr
  clear hr
  go_enter Try.func33, Try.ntmps33
  go_wp2
  go_loopw [5] (fun i wr => ∃ j : Nat, j ≤ x.length ∧ i = .int .i64 j ∧ Hid ((x.take j).any (fun p => p.k == k) = false) ∧ wr = w) (fun i _ => x.length - (intOf i).toNat)
  case atStart => exact ⟨0, Nat.zero_le _, rfl, rfl, rfl⟩
  case round =>
    obtain ⟨j, hj, rfl, hn, hw⟩ := hrel
    subst hw
    by_cases hlt : j < x.length
    · obtain ⟨p, hp⟩ : ∃ p, x[j]? = some p := ⟨x[j], List.getElem?_eq_getElem hlt⟩
      obtain ⟨b, o, e, hbl, hc0, hc1, hc2⟩ := Hr.out j p hp
      subst e
      have hmem := Lib.hid (List.mem_of_getElem? hp)
      have htk : Hid ((x.take (j + 1)).any (fun p => p.k == k) = ((x.take j).any (fun p => p.k == k) || p.k == k)) := by
        show _ = _
        rw [List.take_add_one, hp, Option.toList_some, List.any_append]; simp
      obtain ⟨pk, pn, pt⟩ := p
      dsimp only at *
      clear hp hc1 hc2
      by_cases hk : pk = k
      · subst hk
        have R : Hid (T.loneL x pk = false) := by
          show (!_) = _
          rw [List.any_eq_true.2 ⟨_, hmem.out, by simp⟩]; rfl
        clear htk hmem hn
        go_wp2
        go_ret
        exact ⟨by rw [R.out]; rfl, rfl⟩
      · have hq : (pk == k) = false := by simpa using hk
        have R : Hid ((x.take (j + 1)).any (fun p => p.k == k) = false) := by
          show _ = _
          rw [htk.out, hn.out, hq]; rfl
        clear htk hmem hn
        go_wp2
        go_roundw
        case rel => exact ⟨j + 1, by omega, by go_num, R, by first | trivial | rfl⟩
        case measure => simp [intOf]; omega
    · obtain rfl : j = x.length := by omega
      have R : Hid (T.loneL x k = true) := by
        have h := hn.out
        rw [List.take_length] at h
        show (!_) = _
        rw [h]; rfl
      clear hn
      go_wp2
      go_ret
      exact ⟨by rw [R.out]; rfl, rfl⟩
theorem T.lone_I {x : List D.P} (h : D.chk x = 0) : T.loneL x 2 = !(D.qs x).any D.isI := by
  obtain ⟨e, _, _⟩ := D.valid_qs h
  unfold T.loneL
  congr 1
  conv => lhs; rw [← e]
  rw [List.any_map]
  congr 1
  funext q
  cases q <;> rfl
theorem T.lone_D {x : List D.P} (h : D.chk x = 0) : T.loneL x 3 = !(D.qs x).any D.isD := by
  obtain ⟨e, _, _⟩ := D.valid_qs h
  unfold T.loneL
  congr 1
  conv => lhs; rw [← e]
  rw [List.any_map]
  congr 1
  funext q
  cases q <;> rfl

/-! ### kept -/
def T.keptL (A : List Int) (n : Nat) : List Bool := (List.range n).map fun (j : Nat) => decide ((j : Int) ∈ A)
theorem T.keptL_len (A : List Int) (n : Nat) : (T.keptL A n).length = n := by unfold T.keptL; simp
theorem T.keptL_nil (n : Nat) : (T.keptL [] n).map Value.bool = List.replicate n (.bool false) := by
  unfold T.keptL
  rw [List.map_map]
  apply List.ext_getElem
  · simp
  · intro i h1 h2; simp
theorem T.keptL_at (A : List Int) (n i : Nat) (h : i < n) : ((T.keptL A n).map Value.bool)[i]? = some (.bool (decide ((i : Int) ∈ A))) := by
  unfold T.keptL; simp [h]
theorem T.keptL_skip {A : List Int} {n i : Nat} {z : Int} (hz : A[i]? = some z) (h : z < 0 ∨ (n : Int) ≤ z) : T.keptL (A.take (i + 1)) n = T.keptL (A.take i) n := by
  unfold T.keptL
  apply List.map_congr_left
  intro j hj
  have hj : j < n := List.mem_range.1 hj
  rw [List.take_add_one, hz, Option.toList_some]
  have e : ((j : Int) ∈ A.take i ++ [z]) ↔ (j : Int) ∈ A.take i := by
    rw [List.mem_append, List.mem_singleton]
    constructor
    · rintro (h1 | h1)
      · exact h1
      · omega
    · exact .inl
  simp only [e]
theorem T.keptL_set {A : List Int} {n i z : Nat} (hz : A[i]? = some (z : Int)) (_ : z < n) : (T.keptL (A.take (i + 1)) n).map Value.bool = ((T.keptL (A.take i) n).map Value.bool).set z (.bool true) := by
  apply List.ext_getElem?
  intro j
  rw [List.getElem?_set]
  by_cases hj : j < n
  · rw [T.keptL_at _ _ _ hj]
    by_cases e : z = j
    · subst e
      rw [if_pos rfl, if_pos (by rw [List.length_map, T.keptL_len]; exact hj), List.take_add_one, hz]
      simp
    · rw [if_neg e, T.keptL_at _ _ _ hj, List.take_add_one, hz, Option.toList_some]
      have e2 : ((j : Int) ∈ A.take i ++ [(z : Int)]) ↔ (j : Int) ∈ A.take i := by
        rw [List.mem_append, List.mem_singleton]
        constructor
        · rintro (h1 | h1)
          · exact h1
          · omega
        · exact .inl
      simp only [e2]
  · have l1 : ((T.keptL (A.take (i + 1)) n).map Value.bool).length ≤ j := by rw [List.length_map, T.keptL_len]; omega
    have l2 : ((T.keptL (A.take i) n).map Value.bool).length ≤ j := by rw [List.length_map, T.keptL_len]; omega
    rw [List.getElem?_eq_none l1]
    split
    · rename_i e; subst e
      rw [if_neg (by omega)]
    · rw [List.getElem?_eq_none l2]
/-- Between two rounds. -/
structure T.KtAt (W : World) (g n i : Nat) (A : List Int) (va : Value) (wr : World) : Prop where
  own : wr.ownsRow W.heap.size 4 1 (.slice (some ⟨g, 0, none⟩) n n) n ((T.keptL (A.take i) n).map Value.bool)
  row : wr.ownsRow (g + 1) 3 1 va A.length (D.intsL A)
  below : Below W.heap.size W wr
def T.KtEnd (x : List D.P) (n : Nat) (w : World) (e : Ending) (w' : World) : Prop := ∃ v, e = .returned v ∧ w'.ownsRow w.heap.size 4 1 v ((T.keptL (D.atoms 0 (D.qs x)) n).map Value.bool).length ((T.keptL (D.atoms 0 (D.qs x)) n).map Value.bool) ∧ Below w.heap.size w w'
set_option maxRecDepth 100000 in
set_option maxHeartbeats 4000000 in
theorem tkept_any (z : ByteArray) (ao : Option Addr) (c : Nat) (x : List D.P) (w : World) (hr : D.Row w ao x) (h0 : D.chk x = 0) (hz : z.size ≤ 1048576) :
    Calls Try.prog 28 #[.string z, .slice ao x.length c] w (T.KtEnd x z.size w) := by
  have HA : Hid (∀ V, Below w.heap.size w V → Calls Try.prog 57 #[.slice ao x.length c] V (fun e w' => ∃ v, e = .returned v ∧ D.IntsAt (D.atoms 0 (D.qs x)) V v w')) := fun V hV => (L.hAtoms x h0).out ao c V (hr.below hV)
  have hlA : (D.atoms 0 (D.qs x)).length ≤ 1048576 := by rw [D.atoms_length]; exact (D.valid_qs h0).2.2.2.2.2
  unfold T.KtEnd
  generalize D.atoms 0 (D.qs x) = A at HA hlA ⊢
  obtain ⟨n, hn⟩ : ∃ n, Hid (z.size = n) := ⟨_, rfl⟩
  rw [hn.out] at hz ⊢
  have hmk := run_make_row' (P := Try.prog) 44 4 (.bool false) 1 Try.underlying44 Try.infoBool rfl .i64 .i64 n (by omega) (by omega)
  have hzn : z.size = n := hn.out
  clear hr h0
  obtain ⟨g, hg⟩ : ∃ g, Hid (w.heap.size = g) := ⟨_, rfl⟩
  have B0 : Hid (Below w.heap.size w (w.alloc (.cells (madeCells #[.bool false] n) 4))) := (Below.refl _ _).alloc (Nat.le_refl _) _
  have O0 : Hid ((w.alloc (.cells (madeCells #[.bool false] n) 4)).ownsRow w.heap.size 4 1 (.slice (some ⟨w.heap.size, 0, none⟩) n n) n ((T.keptL [] n).map Value.bool)) := by
    show World.ownsRow _ _ _ _ _ _ _
    rw [T.keptL_nil]
    exact T.own_made w _ n _ _ (Nat.le_refl _) (by unfold maxLen; omega)
  have Z0 : Hid ((w.alloc (.cells (madeCells #[.bool false] n) 4)).heap.size = w.heap.size + 1) := World.size_alloc _ _
  go_enter Try.func28, Try.ntmps28
  go_upto_region 2 with (fail)
  generalize w.alloc (.cells (madeCells #[.bool false] n) 4) = w1 at B0 O0 Z0 ⊢
  have HA := Lib.hid (HA.out w1 B0.out)
  rw [hg.out] at O0 Z0 ⊢
  clear hmk
  go_wp2_with fail
  refine HA.out.mono ?_
  rintro e w2 ⟨v, rfl, hm⟩
  have H0 : Hid (T.KtAt w g n 0 A v w2) := ⟨by rw [hg.out]; exact D.own_below O0.out hm.below, by have := hm.own; rwa [Z0.out] at this, B0.out.trans (hm.below.mono B0.out.size)⟩
  obtain ⟨va, vc, hv⟩ := D.slice_of_own hm.own
  have hgo : Hid (A.length = 0 ∨ ∃ g', va = some ⟨g', 0, none⟩) := by
    obtain ⟨_, ⟨e', h0⟩ | ⟨g', cap, cur, e', _⟩⟩ := hm.own
    · exact .inl h0
    · rw [hv] at e'; simp only [Value.slice.injEq] at e'; exact .inr ⟨g', e'.1⟩
  subst hv
  clear hm HA O0 B0 Z0
  go_wp2
  go_loopw [7] (fun i wr => ∃ j : Nat, j ≤ A.length ∧ i = .int .i64 j ∧ Hid (T.KtAt w g n j A (.slice va A.length vc) wr)) (fun i _ => A.length - (intOf i).toNat)
  case atStart => exact ⟨0, Nat.zero_le _, rfl, H0⟩
  case round =>
    clear H0
    obtain ⟨j, hj, rfl, hx⟩ := hrel
    by_cases hlt : j < A.length
    · obtain ⟨u, hu⟩ : ∃ u, A[j]? = some u := ⟨A[j], List.getElem?_eq_getElem hlt⟩
      obtain ⟨g', hg'⟩ := hgo.out.resolve_left (by omega)
      subst hg'
      obtain ⟨c0, _, hge⟩ := C.own_cell hx.out.row (i := j) (u := .int .i64 u) (by unfold D.intsL; rw [List.getElem?_map, hu]; rfl)
      by_cases hu0 : 0 ≤ u
      · obtain ⟨m, rfl⟩ := Int.eq_ofNat_of_zero_le hu0
        by_cases hmn : m < n
        · obtain ⟨d0, f0, _⟩ := C.own_cell hx.out.own (i := m) (T.keptL_at _ n m hmn)
          have R : Hid (T.KtAt w g n (j + 1) A (.slice (some ⟨g', 0, none⟩) A.length vc) (wr.setCell ⟨g, m, none⟩ (.bool true))) := by
            refine ⟨?_, ownsRow_setCell_other hx.out.row (by simp only [Value.ownBlock, ne_eq, Option.some.injEq]; omega) _, hx.out.below.setCell (p := ⟨g, m, none⟩) (by have := hg.out; simp only; omega) _⟩
            rw [T.keptL_set hu hmn]
            exact C.own_set hx.out.own m (.bool true)
          clear hx hu
          go_wp2
          go_roundw
          case rel => exact ⟨j + 1, by omega, by go_num, R⟩
          case measure => simp [intOf]; omega
        · have R : Hid (T.KtAt w g n (j + 1) A (.slice (some ⟨g', 0, none⟩) A.length vc) wr) := ⟨by rw [T.keptL_skip hu (.inr (by omega))]; exact hx.out.own, hx.out.row, hx.out.below⟩
          clear hx hu
          go_wp2
          go_roundw
          case rel => exact ⟨j + 1, by omega, by go_num, R⟩
          case measure => simp [intOf]; omega
      · have R : Hid (T.KtAt w g n (j + 1) A (.slice (some ⟨g', 0, none⟩) A.length vc) wr) := ⟨by rw [T.keptL_skip hu (.inl (by omega))]; exact hx.out.own, hx.out.row, hx.out.below⟩
        clear hx hu
        go_wp2
        go_roundw
        case rel => exact ⟨j + 1, by omega, by go_num, R⟩
        case measure => simp [intOf]; omega
    · obtain rfl : j = A.length := by omega
      have R : Hid (wr.ownsRow w.heap.size 4 1 (.slice (some ⟨g, 0, none⟩) n n) ((T.keptL A n).map Value.bool).length ((T.keptL A n).map Value.bool) ∧ Below w.heap.size w wr) := by
        have h := hx.out.own
        rw [List.take_length] at h
        exact ⟨by rw [List.length_map, T.keptL_len]; exact h, hx.out.below⟩
      clear hx
      go_wp2
      go_ret
      exact ⟨_, rfl, R.out⟩
end Go.Proofs.Ytmljagkndnobdaa
