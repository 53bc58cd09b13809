/- Texts joined: MarkArgs MarkOw MarkLawKit -/
import Derived.Test.YtmbgcbgbdjiacaaDeltaArgs
import Derived.Test.YtmbgcbgbdjiacaaPackMRow
import Derived.Test.YtmbgcbgbdjiacaaApplyRowKit
import Derived.Test.YtmbgcbgbdjiacaaPackMSort
import Derived.Test.YtmbgcbgbdjiacaaLawKit
import Derived.Test.YtmbgcbgbdjiacaaMarkRefBet
import Derived.Test.YtmbgcbgbdjiacaaPackMShift
import Derived.Test.YtmbgcbgbdjiacaaMarkMove
/- MarkArgs -/
namespace Go.Proofs.Ytmbgcbgbdjiacaa
open Go Go.ChangeShapes Go.WideShapes Go.ChangeAt Go.WideMaps Go.WideElems Go.RowKit

instance : Inhabited K.M := ⟨⟨0, 0, 0⟩⟩
/-- An argument that is a slice of marks. -/
structure K.Src where
  a : Option Addr
  c : Nat
  x : List K.M
structure K.ArgOk (W : World) (s : K.Src) : Prop where
  row : K.Row W s.a s.x
  nil : s.a = none → s.c = 0
  fits : ∀ m ∈ s.x, K.Fit m
  fit : s.x.length * 24 ≤ 140737488351232
  cap : s.x.length ≤ s.c
def K.cell (p : K.M) : Nat → Value
  | 0 => .int .u32 p.id
  | 1 => .int .i64 p.at_
  | _ => .int .u8 p.g
theorem K.u32_bd {a : Int} (h : (Lit.int .u32 a).wf = true) : 0 ≤ a ∧ a ≤ 4294967295 := by
  simp only [Lit.wf, Bool.and_eq_true, decide_eq_true_eq] at h
  exact h
theorem K.u8_bd {a : Int} (h : (Lit.int .u8 a).wf = true) : 0 ≤ a ∧ a ≤ 255 := by
  simp only [Lit.wf, Bool.and_eq_true, decide_eq_true_eq] at h
  exact h
set_option maxRecDepth 100000 in
/-- Three cells that read as a mark. -/
theorem K.open3 {H : Type} {enc : TypeId × Value → H} {w : World} {base : Nat} {spare : Nat → Bool} {held : Bool} {fuel : Nat} {cs : List Value} {x : DataW H × List MemPlace} (hl : cs.length = 3)
    (h : DataW.trod enc Try.prog w base spare held fuel 32 cs = some x) :
    ∃ p : K.M, (∀ j, j < 3 → cs[j]? = some (K.cell p j)) ∧ K.Fit p := by
  obtain ⟨y0, y1, y2, n, hx, _, h0, h1, h2⟩ := Go.Deep.trod_struct3 Try.underlying32 h
  have k0 : Try.prog.cellsOf 30 = 1 := by kernel_rfl
  have k1 : Try.prog.cellsOf 3 = 1 := by kernel_rfl
  have k2 : Try.prog.cellsOf 5 = 1 := by kernel_rfl
  match cs, hl with
  | [c0, c1, c2], _ =>
    simp only [k0, k1, k2] at h0 h1 h2
    obtain ⟨n0, e0, _, w0⟩ := DataW.trod_int Try.underlying30 h0
    obtain ⟨n1, e1, _, w1⟩ := DataW.trod_int Try.underlying3 h1
    obtain ⟨n2, e2, _, w2⟩ := DataW.trod_int Try.underlying5 h2
    simp at e0 e1 e2
    have b0 := K.u32_bd w0
    have b1 := D.int_bd w1
    have b2 := K.u8_bd w2
    refine ⟨⟨n0, n1, n2⟩, fun j hj => ?_, ⟨b0.1, b0.2, b1.1, by dsimp only; omega, b2.1, b2.2⟩⟩
    rcases (show j = 0 ∨ j = 1 ∨ j = 2 by omega) with rfl | rfl | rfl
    · rw [e0]; rfl
    · rw [e1]; rfl
    · rw [e2]; rfl
set_option maxRecDepth 100000 in
theorem K.open_rows {H : Type} {enc : TypeId × Value → H} {w : World} {base : Nat} {spare : Nat → Bool} {held : Bool} {fuel : Nat} {cs : List Value} {x : DataW H × List MemPlace}
    (h : DataW.trod enc Try.prog w base spare held fuel 22 cs = some x) (hz : ∀ n ∈ x.1.weights Try.prog 22, n ≤ reachBytes) :
    ∃ s : K.Src, cs = [.slice s.a s.x.length s.c] ∧ K.ArgOk w s := by
  rcases Go.Deep.open_slice Try.underlying22 h with ⟨rfl, rfl⟩ | ⟨a, len, cap, m, n, Dd, Pl, rfl, _, hl, hcm, hm, rfl, hi⟩
  · exact ⟨⟨none, 0, []⟩, rfl, ⟨fun i p hp => by simp at hp, fun _ => rfl, fun p hp => (by cases hp), Nat.zero_le _, Nat.zero_le _⟩⟩
  · have hlm : len ≤ m := by rw [hm]; split <;> omega
    have hC : Try.prog.cellsOf 32 = 3 := by kernel_rfl
    have hBy : Try.prog.bytesOf 32 = 24 := by kernel_rfl
    rw [hC] at hi
    obtain ⟨F, hF⟩ := Go.Deep.choose_lt (α := K.M) (n := len) (p := fun i p => (∀ j, j < 3 → w.cell? ((a.add (i * 3)).add j) = some (K.cell p j)) ∧ K.Fit p) (fun i hil => by
      obtain ⟨cs', hc, ht⟩ := hi i (by omega)
      obtain ⟨_, hcl, hat⟩ := World.cells?_some hc
      obtain ⟨p, hp, hn⟩ := K.open3 hcl ht
      exact ⟨p, fun j hj => (hat j hj).trans (hp j hj), hn⟩)
    have hlen : ((List.range len).map F).length = len := by simp
    have hmem : ∀ p ∈ (List.range len).map F, ∃ i, i < len ∧ F i = p := fun p hp => by
      obtain ⟨i, hi, e⟩ := List.mem_map.1 hp
      exact ⟨i, List.mem_range.1 hi, e⟩
    have hr : reachBytes = 140737488351232 := rfl
    refine ⟨⟨some a, cap, (List.range len).map F⟩, by rw [hlen], ⟨fun i p hp => ?_, (fun e => by cases e), fun p hp => ?_, ?_, by rw [hlen]; omega⟩⟩
    · have hil : i < len := by have := (List.getElem?_eq_some_iff.1 hp).1; rwa [hlen] at this
      have hFi : F i = p := by
        rw [List.getElem?_map, List.getElem?_range hil] at hp
        simpa using hp
      subst hFi
      have hspot : a = ⟨a.block, a.off, none⟩ := by
        have h0 := (hF 0 (by omega)).1 0 (by omega)
        rw [show a.add (0 * 3) = a from rfl, show a.add 0 = a from rfl] at h0
        have : a.spot = none := by
          exact cell_spot (b := a.block) (o := a.off) (sp := a.spot) h0
        cases a; simp at this ⊢; exact this
      have hat : ∀ j, j < 3 → w.cell? ⟨a.block, a.off + i * 3 + j, none⟩ = some (K.cell (F i) j) := fun j hj => by
        have h0 := (hF i hil).1 j hj
        obtain ⟨b, o, rfl, rfl, hp, hz⟩ := D.cell3' h0
        rcases Nat.eq_zero_or_pos (i * 3 + j) with he | he
        · have := hz he
          rw [show a.off + i * 3 + j = a.off by omega, ← hspot]; exact this
        · exact hp he
      refine ⟨a.block, a.off, by rw [← hspot], ?_, hat 0 (by omega), hat 1 (by omega), hat 2 (by omega)⟩
      exact World.block_lt_of_cell? w ⟨a.block, a.off + i * 3 + 0, none⟩ (hat 0 (by omega))
    · obtain ⟨i, hil, rfl⟩ := hmem p hp
      exact (hF i hil).2
    · have := hz (((List.range len).map Dd).length * 24 + ((List.range (m - len)).map fun j => Dd (len + j)).length * 24) (by
        simp only [DataW.weights, Try.underlying22, List.mem_cons, hBy]
        exact .inl (by rw [Nat.add_mul]))
      simp only [List.length_map, List.length_range] at this ⊢
      omega
set_option maxRecDepth 100000 in
theorem K.open_arg {H : Type} {enc : TypeId × Value → H} {w : World} {base : Nat} {spare : Nat → Bool} {held : Bool} {r : Reach} {b0 : Nat} {v : Value} {d : DataW H} {p : List MemPlace} (hv : Value.okWide Try.prog w r b0 22 v)
    (h : DataW.Trod enc Try.prog w base spare held 22 v d p) (hz : ∀ n ∈ d.weights Try.prog 22, n ≤ reachBytes) : ∃ s : K.Src, v = .slice s.a s.x.length s.c ∧ K.ArgOk w s := by
  obtain ⟨sa, sl, sc, rfl⟩ := okWide_slice Try.underlying22 hv
  obtain ⟨fu, hfu⟩ := h
  obtain ⟨s, hcs, hs⟩ := K.open_rows hfu hz
  refine ⟨s, ?_, hs⟩
  simpa [Value.cells] using hcs
set_option maxRecDepth 100000 in
theorem K.open_mark {H : Type} {enc : TypeId × Value → H} {w : World} {base : Nat} {spare : Nat → Bool} {held : Bool} {r : Reach} {b0 : Nat} {v : Value} {d : DataW H} {p : List MemPlace} (hv : Value.okWide Try.prog w r b0 32 v)
    (h : DataW.Trod enc Try.prog w base spare held 32 v d p) : ∃ m : K.M, v = .agg #[.int .u32 m.id, .int .i64 m.at_, .int .u8 m.g] ∧ K.Fit m := by
  obtain ⟨v0, v1, v2, y0, y1, y2, n, rfl, _, _, h0, h1, h2⟩ := Go.Joins.open_agg3 Try.underlying32 (by kernel_rfl) (by kernel_rfl) hv h
  obtain ⟨n0, e0, _, w0⟩ := DataW.trod_int Try.underlying30 h0
  obtain ⟨n1, e1, _, w1⟩ := DataW.trod_int Try.underlying3 h1
  obtain ⟨n2, e2, _, w2⟩ := DataW.trod_int Try.underlying5 h2
  simp at e0 e1 e2
  have b0 := K.u32_bd w0
  have b1 := D.int_bd w1
  have b2 := K.u8_bd w2
  exact ⟨⟨n0, n1, n2⟩, by rw [e0, e1, e2], ⟨b0.1, b0.2, b1.1, by dsimp only; omega, b2.1, b2.2⟩⟩
end Go.Proofs.Ytmbgcbgbdjiacaa
/- MarkOw -/
namespace Go.Proofs.Ytmbgcbgbdjiacaa
open Go.RowKit

theorem K.Made.rowOf {l : List K.M} {w W : World} {ao : Option Addr} {n c : Nat} (h : K.Made l w (.slice ao n c) W) : n = l.length := by
  obtain ⟨ao', c', e, _⟩ := h.form
  simp only [Value.slice.injEq] at e
  exact e.2.1
theorem K.Made.blockOf {l : List K.M} {w W : World} {ao : Option Addr} {n c : Nat} (h : K.Made l w (.slice ao n c) W) (hn : 0 < n) : ∃ g, ao = some ⟨g, 0, none⟩ := by
  obtain ⟨hl, ⟨e, h0⟩ | ⟨g', c', cur, e, _⟩⟩ := h.own
  · have := h.rowOf; omega
  · simp only [Value.slice.injEq] at e
    exact ⟨g', e.1⟩
/-- A row that is written over. -/
def J.Ow (W : World) (ao : Option Addr) (c n : Nat) (wx : World) : Prop := ∃ B : List K.M, B.length = n ∧ K.Made B W (.slice ao n c) wx
theorem J.Ow.of {l : List K.M} {W wx : World} {ao : Option Addr} {c : Nat} (h : K.Made l W (.slice ao l.length c) wx) : J.Ow W ao c l.length wx := ⟨l, rfl, h⟩
theorem J.Ow.on {W wx wy : World} {ao : Option Addr} {c n : Nat} (h : J.Ow W ao c n wx) (hb : Below wx.heap.size wx wy) : J.Ow W ao c n wy := by
  obtain ⟨B, e, hm⟩ := h
  exact ⟨B, e, hm.kept hb⟩
theorem J.Ow.below {W wx : World} {ao : Option Addr} {c n : Nat} (h : J.Ow W ao c n wx) : Below W.heap.size W wx := by
  obtain ⟨B, e, hm⟩ := h
  exact hm.below
theorem J.Ow.at {W wx : World} {ao : Option Addr} {c n i : Nat} (h : J.Ow W ao c n wx) (hi : i < n) : ∃ g m, ao = some ⟨g, 0, none⟩ ∧ K.At wx g i m ∧ ∀ p, J.Ow W ao c n (K.putAt wx g i p) := by
  obtain ⟨B, e, hm⟩ := h
  obtain ⟨g, rfl⟩ := hm.blockOf (by omega)
  subst e
  exact ⟨g, B[i], rfl, hm.at (List.getElem?_eq_getElem hi), fun p => ⟨B.set i p, by simp, hm.put hi p⟩⟩
/-- A row that is written over beside one that stays. -/
def J.Ow2 (W : World) (ao : Option Addr) (c n : Nat) (Y : List K.M) (vl : Value) (wx : World) : Prop := ∃ B : List K.M, B.length = n ∧ K.Made B W (.slice ao n c) wx ∧ K.Made Y W vl wx ∧ ∀ g, ao = some ⟨g, 0, none⟩ → vl.ownBlock ≠ some g
theorem J.Ow2.of {l Y : List K.M} {W W1 wx : World} {ao : Option Addr} {c : Nat} {vl : Value} (h : K.Made l W (.slice ao l.length c) W1) (k : K.Made Y W1 vl wx) : J.Ow2 W ao c l.length Y vl wx :=
  ⟨l, rfl, h.kept k.below, k.weak h.below, fun g e e2 => by
    subst e
    have h1 := (h.own.lt g rfl).2
    have h2 := (k.own.lt g e2).1
    omega⟩
theorem J.Ow2.on {W wx wy : World} {ao : Option Addr} {c n : Nat} {Y : List K.M} {vl : Value} (h : J.Ow2 W ao c n Y vl wx) (hb : Below wx.heap.size wx wy) : J.Ow2 W ao c n Y vl wy := by
  obtain ⟨B, e, hm, hk, hn⟩ := h
  exact ⟨B, e, hm.kept hb, hk.kept hb, hn⟩
theorem J.Ow2.at {W wx : World} {ao : Option Addr} {c n i : Nat} {Y : List K.M} {vl : Value} (h : J.Ow2 W ao c n Y vl wx) (hi : i < n) : ∃ g m, ao = some ⟨g, 0, none⟩ ∧ K.At wx g i m ∧ ∀ p, J.Ow2 W ao c n Y vl (K.putAt wx g i p) := by
  obtain ⟨B, e, hm, hk, hn⟩ := h
  obtain ⟨g, rfl⟩ := hm.blockOf (by omega)
  subst e
  have hne := hn g rfl
  refine ⟨g, B[i], rfl, hm.at (List.getElem?_eq_getElem hi), fun p => ⟨B.set i p, by simp, hm.put hi p, ⟨?_, (hm.put hi p).below⟩, hn⟩⟩
  exact ownsRow_setCell_other (ownsRow_setCell_other (ownsRow_setCell_other hk.own hne _) hne _) hne _
theorem J.Ow2.less {W wx : World} {ao : Option Addr} {c n : Nat} {Y : List K.M} {vl : Value} (h : J.Ow2 W ao c n Y vl wx) : K.Made Y W vl wx := by
  obtain ⟨B, e, hm, hk, hn⟩ := h
  exact hk
theorem J.Ow2.below {W wx : World} {ao : Option Addr} {c n : Nat} {Y : List K.M} {vl : Value} (h : J.Ow2 W ao c n Y vl wx) : Below W.heap.size W wx := h.less.below
end Go.Proofs.Ytmbgcbgbdjiacaa
/- MarkLawKit -/
namespace Go.Proofs.Ytmbgcbgbdjiacaa
open Go.RowKit

theorem J.pmade {w wr w' : World} {P : List (Option Addr × List D.P)} {L : List (Option Addr × List K.M)} (h : K.Kn w wr P L) {l : List D.P} {v : Value} (hm : D.Made l wr v w') : ∃ ao c, v = .slice ao l.length c ∧ Hid ((ao = none → c = 0) ∧ l.length ≤ c) ∧ Hid (K.Kn w w' ((ao, l) :: P) L) := by
  obtain ⟨ao, c, hv, hn, hK⟩ := h.pmade hm
  obtain ⟨ao', c', hv', _, hc', _⟩ := C.made_src hm
  rw [hv] at hv'
  simp only [Value.slice.injEq, true_and] at hv'
  exact ⟨ao, c, hv, ⟨hn.out, by omega⟩, hK⟩
theorem J.mmade {w wr w' : World} {P : List (Option Addr × List D.P)} {L : List (Option Addr × List K.M)} (h : K.Kn w wr P L) {l : List K.M} {v : Value} (hm : K.Made l wr v w') : ∃ ao c, v = .slice ao l.length c ∧ Hid ((ao = none → c = 0) ∧ l.length ≤ c) ∧ Hid (K.Kn w w' P ((ao, l) :: L)) := by
  obtain ⟨ao, c, hv, hn, hK⟩ := h.mmade hm
  obtain ⟨ao', c', hv', hc', _, _⟩ := hm.form2
  rw [hv] at hv'
  simp only [Value.slice.injEq, true_and] at hv'
  exact ⟨ao, c, hv, ⟨hn.out, by omega⟩, hK⟩
theorem J.plit {w wr : World} {P : List (Option Addr × List D.P)} {L : List (Option Addr × List K.M)} (h : K.Kn w wr P L) (l : List D.P) : K.Kn w (wr.alloc (.cells (D.cellsL l).toArray 53)) ((some ⟨wr.heap.size, 0, none⟩, l) :: P) L := by
  have h2 := h.on ((Below.refl wr.heap.size wr).alloc (Nat.le_refl _) (.cells (D.cellsL l).toArray 53))
  exact ⟨h2.below, fun x hx => by
    rcases List.mem_cons.1 hx with rfl | hx
    · exact D.row_lit wr l
    · exact h2.prow x hx, h2.mrow⟩
theorem J.mlit {w wr : World} {P : List (Option Addr × List D.P)} {L : List (Option Addr × List K.M)} (h : K.Kn w wr P L) (l : List K.M) : K.Kn w (wr.alloc (.cells (K.cellsM l).toArray 32)) P ((some ⟨wr.heap.size, 0, none⟩, l) :: L) := by
  have h2 := h.on ((Below.refl wr.heap.size wr).alloc (Nat.le_refl _) (.cells (K.cellsM l).toArray 32))
  exact ⟨h2.below, h2.prow, fun x hx => by
    rcases List.mem_cons.1 hx with rfl | hx
    · exact K.row_lit wr l
    · exact h2.mrow x hx⟩
theorem J.Kn0 (w : World) : K.Kn w w [] [] := ⟨Below.refl _ _, (fun x hx => by cases hx), fun x hx => by cases hx⟩
theorem J.Kn.base {w wr : World} (h : Below w.heap.size w wr) : K.Kn w wr [] [] := ⟨h, (fun x hx => by cases hx), fun x hx => by cases hx⟩
theorem J.Kn.drew {w wr : World} {P : List (Option Addr × List D.P)} {L : List (Option Addr × List K.M)} (h : K.Kn w wr P L) : K.Kn w wr.drew P L := h.on ⟨rfl, rfl, rfl, Nat.le_refl _, fun _ _ => rfl⟩
theorem J.Kn.drewN {w wr : World} {P : List (Option Addr × List D.P)} {L : List (Option Addr × List K.M)} (h : K.Kn w wr P L) (n : Nat) : K.Kn w (wr.drewN n) P L := h.on ⟨rfl, rfl, rfl, Nat.le_refl _, fun _ _ => rfl⟩
theorem J.Kn.addp {w wr : World} {P : List (Option Addr × List D.P)} {L : List (Option Addr × List K.M)} (h : K.Kn w wr P L) {ao : Option Addr} {l : List D.P} (hr : D.Row wr ao l) : K.Kn w wr ((ao, l) :: P) L := ⟨h.below, fun x hx => by
    rcases List.mem_cons.1 hx with rfl | hx
    · exact hr
    · exact h.prow x hx, h.mrow⟩
theorem J.Kn.addm {w wr : World} {P : List (Option Addr × List D.P)} {L : List (Option Addr × List K.M)} (h : K.Kn w wr P L) {ao : Option Addr} {l : List K.M} (hr : K.Row wr ao l) : K.Kn w wr P ((ao, l) :: L) := ⟨h.below, h.prow, fun x hx => by
    rcases List.mem_cons.1 hx with rfl | hx
    · exact hr
    · exact h.mrow x hx⟩
/-! ### Contracts -/
abbrev J.Fits (l : List K.M) : Prop := ∀ m ∈ l, K.Fit m
theorem J.hOwn (l : List K.M) (hf : l.length * 24 ≤ 140737488351232) : Hid (∀ ao c W, K.Row W ao l → (ao = none → c = 0) → Calls Try.prog 11 #[.slice ao l.length c] W (fun e w' => ∃ v, e = .returned v ∧ K.Made l W v w')) := fun ao c W h n => own9_any ao c l W h n hf
theorem J.hChk (n : Int) (l : List K.M) (la : l.length ≤ maxLen) (hf : J.Fits l) : Hid (∀ ao c W, K.Row W ao l → Calls Try.prog 12 #[.int .i64 n, .slice ao l.length c] W (fun e w' => e = .returned (.int .i64 (K.chk n l)) ∧ Below W.heap.size W w')) := fun ao c W h => check9_any n ao c l W h la hf
theorem J.hChk' (n : Int) (l : List K.M) (la : l.length ≤ maxLen) (hf : J.Fits l) : Hid (∀ ao c W, K.Row W ao l → Calls Try.prog 13 #[.int .i64 n, .slice ao l.length c] W (fun e w' => e = .returned (.int .i64 (K.chk n l)) ∧ Below W.heap.size W w')) := fun ao c W h => refCheck9_any n ao c l W h la hf
theorem J.hSame (l : List K.M) (la : l.length ≤ maxLen) : Hid (∀ ao bo c d W, K.Row W ao l → K.Row W bo l → Calls Try.prog 14 #[.slice ao l.length c, .slice bo l.length d] W (fun e w' => e = .returned (.bool true) ∧ Below W.heap.size W w')) := fun ao bo c d W h g => by
  have := refSame9_any ao bo c d l l W h g la
  rwa [decide_eq_true rfl] at this
theorem J.hSet (l : List K.M) (m : K.M) (la : l.length ≤ maxLen) (hf : J.Fits l) (fm : K.Fit m) : Hid (∀ ao c W, K.Row W ao l → (ao = none → c = 0) → Calls Try.prog 18 #[.slice ao l.length c, .agg #[.int .u32 m.id, .int .i64 m.at_, .int .u8 m.g]] W (fun e w' => ∃ v, e = .returned (.tuple #[v, .int .i64 (K.setE l m)]) ∧ K.Made (K.setL l m) W v w')) := fun ao c W h n => set9_any ao c l m W h n la hf fm
theorem J.hSet' (l : List K.M) (m : K.M) (la : l.length ≤ maxLen) (hf : J.Fits l) (fm : K.Fit m) : Hid (∀ ao c W, K.Row W ao l → Calls Try.prog 16 #[.slice ao l.length c, .agg #[.int .u32 m.id, .int .i64 m.at_, .int .u8 m.g]] W (fun e w' => ∃ v, e = .returned (.tuple #[v, .int .i64 (K.setE l m)]) ∧ K.Made (K.setL l m) W v w')) := fun ao c W h => refSet9_any ao c l m W h la hf fm
theorem J.hDrp (l : List K.M) (i : Int) (la : l.length ≤ maxLen) (hf : J.Fits l) : Hid (∀ ao c W, K.Row W ao l → (ao = none → c = 0) → Calls Try.prog 19 #[.slice ao l.length c, .int .u32 i] W (fun e w' => ∃ v, e = .returned (.tuple #[v, .int .i64 (K.drpE l i)]) ∧ K.Made (K.drpL l i) W v w')) := fun ao c W h n => drop9_any ao c l i W h n la hf
theorem J.hDrp' (l : List K.M) (i : Int) (la : l.length ≤ maxLen) (hf : J.Fits l) : Hid (∀ ao c W, K.Row W ao l → Calls Try.prog 17 #[.slice ao l.length c, .int .u32 i] W (fun e w' => ∃ v, e = .returned (.tuple #[v, .int .i64 (K.drpE l i)]) ∧ K.Made (K.drpL l i) W v w')) := fun ao c W h => refDrop9_any ao c l i W h la hf
theorem J.hFnd (l : List K.M) (i : Int) (la : l.length ≤ maxLen) : Hid (∀ ao c W, K.Row W ao l → Calls Try.prog 20 #[.slice ao l.length c, .int .u32 i] W (fun e w' => e = .returned (.tuple #[.agg #[.int .u32 (K.fnd l i).id, .int .i64 (K.fnd l i).at_, .int .u8 (K.fnd l i).g], .bool (K.find l i).isSome]) ∧ Below W.heap.size W w')) := fun ao c W h => find9_any ao c l i W h la
theorem J.hFnd' (l : List K.M) (i : Int) (la : l.length ≤ maxLen) : Hid (∀ ao c W, K.Row W ao l → Calls Try.prog 21 #[.slice ao l.length c, .int .u32 i] W (fun e w' => e = .returned (.tuple #[.agg #[.int .u32 (K.fnd l i).id, .int .i64 (K.fnd l i).at_, .int .u8 (K.fnd l i).g], .bool (K.find l i).isSome]) ∧ Below W.heap.size W w')) := fun ao c W h => refFind9_any ao c l i W h la
theorem J.hSh (l : List K.M) (x : List D.P) (la : l.length ≤ maxLen) (hf : J.Fits l) (bx : D.Bd x) : Hid (∀ ao bo c d W, K.Row W ao l → (ao = none → c = 0) → D.Row W bo x → Calls Try.prog 23 #[.slice ao l.length c, .slice bo x.length d] W (fun e w' => ∃ v, e = .returned (.tuple #[v, .int .i64 (K.shE l x)]) ∧ K.Made (K.shL l x) W v w')) := fun ao bo c d W h n g => shift9_any ao c l bo d x W h n la hf g bx
theorem J.hSh' (l : List K.M) (x : List D.P) (la : l.length ≤ maxLen) (hf : J.Fits l) (bx : D.Bd x) : Hid (∀ ao bo c d W, K.Row W ao l → D.Row W bo x → Calls Try.prog 24 #[.slice ao l.length c, .slice bo x.length d] W (fun e w' => ∃ v, e = .returned (.tuple #[v, .int .i64 (K.shE l x)]) ∧ K.Made (K.shL l x) W v w')) := fun ao bo c d W h g => refShift9_any ao c l bo d x W h la hf g bx
theorem J.hBtw (l : List K.M) (f t : Int) (la : l.length ≤ 1000000) : Hid (∀ ao c W, K.Row W ao l → Calls Try.prog 26 #[.slice ao l.length c, .int .i64 f, .int .i64 t] W (fun e w' => ∃ v, e = .returned v ∧ K.Made (K.btw l f t) W v w')) := fun ao c W h => between9_any ao c l f t W h la
theorem J.hBtw' (l : List K.M) (f t : Int) (la : l.length ≤ 1000000) : Hid (∀ ao c W, K.Row W ao l → Calls Try.prog 27 #[.slice ao l.length c, .int .i64 f, .int .i64 t] W (fun e w' => ∃ v, e = .returned v ∧ K.Made (K.btw l f t) W v w')) := fun ao c W h => refBetween9_any ao c l f t W h la
theorem J.shL_le (l : List K.M) (x : List D.P) (la : l.length ≤ maxLen) : (K.shL l x).length ≤ maxLen := by
  unfold K.shL; split
  · rw [List.length_map]; exact la
  · simp
theorem J.shL_fit (l : List K.M) (x : List D.P) (hf : J.Fits l) : J.Fits (K.shL l x) := fun m hm => by
  by_cases h : K.shE l x = 0
  · rw [K.shL_ok h] at hm
    obtain ⟨p, hp, rfl⟩ := List.mem_map.1 hm
    have f := hf p hp
    have b := K.mv_bd (D.qs x) p.g p.at_
    have o := (D.valid_qs ((K.shE_iff l x).1 h).delta).2.2.2.2.2
    exact ⟨f.id0, f.id1, (show (-9223372036854775808 : Int) ≤ K.mv (D.qs x) p.g p.at_ by omega), (show K.mv (D.qs x) p.g p.at_ ≤ 9223372036854775807 by omega), f.g0, f.g1⟩
  · rw [K.shL_bad h] at hm; cases hm
theorem J.setL_fit (l : List K.M) (m : K.M) (hf : J.Fits l) (fm : K.Fit m) : J.Fits (K.setL l m) := fun p hp => by
  by_cases h : K.setE l m = 0
  · rcases (K.mem_setL h).1 hp with rfl | hp
    · exact fm
    · exact hf p hp.1
  · rw [K.setL_bad h] at hp; cases hp
theorem J.drpL_fit (l : List K.M) (i : Int) (hf : J.Fits l) : J.Fits (K.drpL l i) := fun p hp => by
  unfold K.drpL at hp
  split at hp
  · exact hf p (K.mem_without.1 hp).1
  · cases hp
theorem J.setL_le (l : List K.M) (m : K.M) : (K.setL l m).length ≤ 64 := by
  by_cases h : K.setE l m = 0
  · exact (K.setL_set h).len
  · rw [K.setL_bad h]; simp
theorem J.drpL_le (l : List K.M) (i : Int) : (K.drpL l i).length ≤ 64 := by
  by_cases h : K.drpE l i = 0
  · unfold K.drpL
    rw [if_pos h]
    have hb : K.isB l = true := by
      unfold K.drpE at h
      by_cases c : K.isB l = true
      · exact c
      · rw [if_neg c] at h; cases h
    have := K.without_le l i
    have := K.isB_len hb
    omega
  · unfold K.drpL; rw [if_neg h]; simp
/-- A mark that lies in a block of its own. -/
theorem J.box {W : World} {b : Nat} {m : K.M} (h : K.Row W (some ⟨b, 0, none⟩) [m]) : W.cell? ⟨b, 0, none⟩ = some (.int .u32 m.id) ∧ W.cell? ⟨b, 1, none⟩ = some (.int .i64 m.at_) ∧ W.cell? ⟨b, 2, none⟩ = some (.int .u8 m.g) := by
  obtain ⟨_, _, e, _, c0, c1, c2⟩ := h 0 m rfl
  cases e
  exact ⟨c0, c1, c2⟩
theorem J.row0 {W : World} {b o : Nat} {l : List K.M} (h : K.Row W (some ⟨b, o, none⟩) l) {i : Nat} {m : K.M} (hm : l[i]? = some m) : W.cell? ⟨b, o + i * 3, none⟩ = some (.int .u32 m.id) ∧ W.cell? ⟨b, o + i * 3 + 1, none⟩ = some (.int .i64 m.at_) ∧ W.cell? ⟨b, o + i * 3 + 2, none⟩ = some (.int .u8 m.g) := by
  obtain ⟨_, _, e, _, c0, c1, c2⟩ := h i m hm
  cases e
  exact ⟨c0, c1, c2⟩
theorem J.eqT (p : K.M) (W : World) : (Op.equalIn 10000 32 (.agg #[.int .u32 p.id, .int .i64 p.at_, .int .u8 p.g]) (.agg #[.int .u32 p.id, .int .i64 p.at_, .int .u8 p.g])).run Try.prog W = .ok true W := by
  rw [K.eqMark, K.eq_walk, decide_eq_true rfl]
end Go.Proofs.Ytmbgcbgbdjiacaa
