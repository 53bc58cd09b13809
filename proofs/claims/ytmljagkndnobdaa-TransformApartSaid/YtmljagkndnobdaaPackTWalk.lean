/- Texts joined: TransAdv TransReach TransStep TransRun TransAdd TransAcc TransDo -/
import Derived.Test.YtmljagkndnobdaaComposeRead
import Derived.Test.YtmljagkndnobdaaPackTMath
import Derived.Deep.RegionWith
import Derived.StillTailTactics
import Derived.Test.YtmljagkndnobdaaApplyBuild
import Derived.BigRegion
import Derived.Deep.LoopGhost
import Derived.Test.YtmljagkndnobdaaDeltaSettle
import Derived.Test.YtmljagkndnobdaaComposeDo
/- TransAdv -/
namespace Go.Proofs.Ytmljagkndnobdaa
open Go.RowKit

/-- The box of a piece. -/
def T.Box (W : World) (b : Nat) (p : D.P) : Prop := W.heap[b]? = some (.cells #[.int .u8 p.k, .int .i64 p.n, .string p.t] 31 (0, 0))
theorem T.Box.cells {W : World} {b : Nat} {p : D.P} (h : T.Box W b p) : W.cell? ⟨b, 0, none⟩ = some (.int .u8 p.k) ∧ W.cell? ⟨b, 1, none⟩ = some (.int .i64 p.n) ∧ W.cell? ⟨b, 2, none⟩ = some (.string p.t) ∧ ∀ i, W.frozen? ⟨b, i, none⟩ = false := C.zero3 h
theorem T.Box.lt {W : World} {b : Nat} {p : D.P} (h : T.Box W b p) : b < W.heap.size := (Array.getElem?_eq_some_iff.1 h).1
theorem T.Box.put {W : World} {b : Nat} {p : D.P} (h : T.Box W b p) (q : D.P) :
    T.Box (((W.setCell ⟨b, 0, none⟩ (.int .u8 q.k)).setCell ⟨b, 1, none⟩ (.int .i64 q.n)).setCell ⟨b, 2, none⟩ (.string q.t)) b q ∧ W.grownBy (((W.setCell ⟨b, 0, none⟩ (.int .u8 q.k)).setCell ⟨b, 1, none⟩ (.int .i64 q.n)).setCell ⟨b, 2, none⟩ (.string q.t)) (some b) := by
  have h : W.heap[b]? = some (.cells #[.int .u8 p.k, .int .i64 p.n, .string p.t] 31 (0, 0)) := h
  have h1 := (heap_setCell_same W b 0 _ _ _ h).trans (show _ = some (.cells #[.int .u8 q.k, .int .i64 p.n, .string p.t] 31 (0, 0)) from rfl)
  have h2 := (heap_setCell_same _ b 1 _ _ _ h1).trans (show _ = some (.cells #[.int .u8 q.k, .int .i64 q.n, .string p.t] 31 (0, 0)) from rfl)
  have h3 := (heap_setCell_same _ b 2 _ _ _ h2).trans (show _ = some (.cells #[.int .u8 q.k, .int .i64 q.n, .string q.t] 31 (0, 0)) from rfl)
  exact ⟨h3, C.set_grown (C.set_grown (C.set_grown ⟨rfl, rfl, rfl, Nat.le_refl _, fun _ _ _ => rfl⟩ _ _) _ _) _ _⟩
/-- A piece, and what is behind it, stand for the pieces l. -/
def T.Rep (p : D.P) (r l : List D.Q) : Prop := (p.n = 0 ∧ p.t = ⟨#[]⟩ ∧ l = r) ∨ ∃ q, p = D.raw q ∧ l = q :: r
/-- A slice of pieces in old memory. -/
structure T.Sl (w0 : World) (v : Value) (r : List D.Q) : Prop where
  ex : ∃ ao c, v = .slice ao r.length c ∧ D.Row w0 ao (r.map D.raw) ∧ r.length ≤ c
theorem T.Sl.open {w0 : World} {v : Value} {r : List D.Q} (h : T.Sl w0 v r) : ∃ ao n c, v = .slice ao n c ∧ Hid (T.Sl w0 (.slice ao n c) r) := by
  obtain ⟨ao, c, rfl, h1, h2⟩ := h.ex
  exact ⟨ao, r.length, c, rfl, ⟨ao, c, rfl, h1, h2⟩⟩
def T.AdvEnd (w0 : World) (b : Nat) (l : List D.Q) (W : World) (e : Ending) (W' : World) : Prop := ∃ v, e = .returned v ∧ T.Sl w0 v l.tail ∧ T.Box W' b (C.hdP l) ∧ W.grownBy W' (some b)
theorem T.grown_refl (W : World) (b : Nat) : W.grownBy W (some b) := ⟨rfl, rfl, rfl, Nat.le_refl _, fun _ _ _ => rfl⟩
set_option maxRecDepth 100000 in
set_option maxHeartbeats 1000000 in
theorem adv_held (w0 : World) (b : Nat) (q : D.Q) (r : List D.Q) (ao : Option Addr) (c : Nat) (W : World) (hb : T.Box W b (D.raw q)) (hq : D.pos q = true) (hr : D.Row w0 ao (r.map D.raw)) (hc : r.length ≤ c) :
    Calls Try.prog 91 #[.pointer (some ⟨b, 0, none⟩), .slice ao r.length c] W (T.AdvEnd w0 b (q :: r) W) := by
  obtain ⟨c0, c1, c2, fz⟩ := hb.cells
  have R : Hid (T.AdvEnd w0 b (q :: r) W (.returned (.slice ao r.length c)) W) := ⟨_, rfl, ⟨ao, c, rfl, hr, hc⟩, hb, T.grown_refl W b⟩
  generalize r.length = m at R hc ⊢
  clear hb hr
  cases q with
  | R n =>
    have hn := D.posR hq
    unfold D.raw at c0 c1 c2
    clear hq
    go_enter Try.func91, Try.ntmps91
    go_wp2
    go_ret
    exact R.out
  | D n =>
    have hn := D.posD hq
    unfold D.raw at c0 c1 c2
    clear hq
    go_enter Try.func91, Try.ntmps91
    go_wp2
    go_ret
    exact R.out
  | I t =>
    have hn : t.isEmpty = false := by simpa [D.pos] using hq
    unfold D.raw at c0 c1 c2
    clear hq
    go_enter Try.func91, Try.ntmps91
    go_wp2
    go_ret
    exact R.out
set_option maxRecDepth 100000 in
set_option maxHeartbeats 1000000 in
theorem adv_nil (w0 : World) (b : Nat) (p : D.P) (ao : Option Addr) (c : Nat) (W : World) (hb : T.Box W b p) (h1 : p.n = 0) (h2 : p.t = ⟨#[]⟩) :
    Calls Try.prog 91 #[.pointer (some ⟨b, 0, none⟩), .slice ao 0 c] W (T.AdvEnd w0 b [] W) := by
  obtain ⟨c0, c1, c2, fz⟩ := hb.cells
  obtain ⟨x1, x2⟩ := hb.put C.zero
  have R : Hid (T.AdvEnd w0 b [] W (.returned (.slice none 0 0)) (((W.setCell ⟨b, 0, none⟩ (.int .u8 0)).setCell ⟨b, 1, none⟩ (.int .i64 0)).setCell ⟨b, 2, none⟩ (.string ⟨#[]⟩))) := ⟨_, rfl, ⟨none, 0, rfl, C.row_nil _ _, Nat.le_refl _⟩, x1, x2⟩
  rw [h1] at c1
  rw [h2] at c2
  clear hb x1 x2 h1 h2
  go_enter Try.func91, Try.ntmps91
  go_wp2
  go_ret
  exact R.out
set_option maxRecDepth 100000 in
set_option maxHeartbeats 2000000 in
theorem adv_cons (w0 : World) (b : Nat) (p : D.P) (q : D.Q) (r : List D.Q) (ao : Option Addr) (c : Nat) (W : World) (hb : T.Box W b p) (h1 : p.n = 0) (h2 : p.t = ⟨#[]⟩) (hr : D.Row w0 ao ((q :: r).map D.raw)) (hc : (q :: r).length ≤ c) (hB : Below w0.heap.size w0 W) (hge : w0.heap.size ≤ b) (hl : r.length ≤ 1000000) :
    Calls Try.prog 91 #[.pointer (some ⟨b, 0, none⟩), .slice ao (r.length + 1) c] W (T.AdvEnd w0 b (q :: r) W) := by
  obtain ⟨c0, c1, c2, fz⟩ := hb.cells
  obtain ⟨x1, x2⟩ := hb.put (D.raw q)
  obtain ⟨g, o, e, hgl, hcell⟩ := hr 0 (D.raw q) rfl
  subst e
  obtain ⟨d0, d1, d2⟩ := D.cell3 hB hgl hcell
  rw [show o + 0 * 3 = o by omega] at d0 d1 d2
  have hgb : g ≠ b := by omega
  have ht := C.row_tail hr
  simp only [List.length_cons] at hc
  rw [h1] at c1
  rw [h2] at c2
  by_cases hc1 : c = 1
  · subst hc1
    obtain rfl : r = [] := by cases r with
      | nil => rfl
      | cons x y => simp only [List.length_cons] at hc; omega
    have R : Hid (T.AdvEnd w0 b [q] W (.returned (.slice (some ⟨g, o, none⟩) 0 0)) (((W.setCell ⟨b, 0, none⟩ (.int .u8 (D.raw q).k)).setCell ⟨b, 1, none⟩ (.int .i64 (D.raw q).n)).setCell ⟨b, 2, none⟩ (.string (D.raw q).t))) := ⟨_, rfl, ⟨_, _, rfl, C.row_nil _ _, Nat.le_refl _⟩, x1, x2⟩
    clear hb x1 x2 h1 h2 hcell hr ht hB
    generalize D.raw q = Q at d0 d1 d2 R
    obtain ⟨qk, qn, qt⟩ := Q
    dsimp only at *
    go_enter Try.func91, Try.ntmps91
    go_wp2
    go_ret
    exact R.out
  · have R : Hid (T.AdvEnd w0 b (q :: r) W (.returned (.slice (some ⟨g, o + 3, none⟩) r.length (c - 1))) (((W.setCell ⟨b, 0, none⟩ (.int .u8 (D.raw q).k)).setCell ⟨b, 1, none⟩ (.int .i64 (D.raw q).n)).setCell ⟨b, 2, none⟩ (.string (D.raw q).t))) := ⟨_, rfl, ⟨_, _, rfl, ht, by simp only [List.tail_cons]; omega⟩, x1, x2⟩
    clear hb x1 x2 h1 h2 hcell hr ht hB
    generalize D.raw q = Q at d0 d1 d2 R
    obtain ⟨qk, qn, qt⟩ := Q
    generalize r.length = m at hc hl R ⊢
    dsimp only at *
    go_enter Try.func91, Try.ntmps91
    go_wp2
    go_ret
    exact R.out
theorem advance_any (w0 : World) (b : Nat) (p : D.P) (r l : List D.Q) (v : Value) (W : World) (hb : T.Box W b p) (hrep : T.Rep p r l) (pl : D.allPos l = true) (hs : T.Sl w0 v r) (hB : Below w0.heap.size w0 W) (hge : w0.heap.size ≤ b) (hl : r.length ≤ 1000000) :
    Calls Try.prog 91 #[.pointer (some ⟨b, 0, none⟩), v] W (T.AdvEnd w0 b l W) := by
  obtain ⟨ao, c, rfl, hr, hc⟩ := hs.ex
  rcases hrep with ⟨h1, h2, rfl⟩ | ⟨q, rfl, rfl⟩
  · cases l with
    | nil => exact adv_nil w0 b p ao c W hb h1 h2
    | cons q r => exact adv_cons w0 b p q r ao c W hb h1 h2 hr hc hB hge (by simp only [List.length_cons] at hl; omega)
  · exact adv_held w0 b q r ao c W hb (D.posCons pl).1 hr hc
end Go.Proofs.Ytmljagkndnobdaa
/- TransReach -/
namespace Go.Proofs.Ytmljagkndnobdaa
open Go.RowKit

/-- Where the walk and its two pieces lie. -/
structure T.Pl (w0 : World) (wb ab bb : Nat) : Prop where
  gw : w0.heap.size ≤ wb
  ga : w0.heap.size ≤ ab
  gb : w0.heap.size ≤ bb
  wa : wb ≠ ab
  wb : wb ≠ bb
  ab : ab ≠ bb
/-- The walk, the two pieces, and what is behind them. -/
structure T.At (w0 : World) (wb ab bb : Nat) (ins cov : Value) (pa pb : D.P) (ra rb : List D.Q) (W : World) : Prop where
  wk : ∃ va vb, W.heap[wb]? = some (.cells #[va, vb, ins, cov] 66 (0, 0)) ∧ T.Sl w0 va ra ∧ T.Sl w0 vb rb
  ba : T.Box W ab pa
  bb : T.Box W bb pb
  below : Below w0.heap.size w0 W
/-- Only the walk and its pieces have changed. -/
structure T.Only (w0 : World) (wb ab bb : Nat) (W W' : World) : Prop where
  below : Below w0.heap.size W W'
  same : ∀ j, j < W.heap.size → j ≠ wb → j ≠ ab → j ≠ bb → W'.heap[j]? = W.heap[j]?
theorem T.Only.refl (w0 : World) (wb ab bb : Nat) (W : World) : T.Only w0 wb ab bb W W := ⟨Below.refl _ _, fun _ _ _ _ _ => rfl⟩
theorem T.Only.drew {w0 W V : World} {wb ab bb : Nat} (h : T.Only w0 wb ab bb W V) : T.Only w0 wb ab bb W V.drew := ⟨h.below.drew, h.same⟩
theorem T.Only.step {w0 W V V' : World} {wb ab bb x : Nat} (h : T.Only w0 wb ab bb W V) (hg : V.grownBy V' (some x)) (hx : x = wb ∨ x = ab ∨ x = bb) (hge : w0.heap.size ≤ x) (hs : w0.heap.size ≤ V.heap.size) : T.Only w0 wb ab bb W V' :=
  ⟨h.below.trans ⟨hg.os, hg.tape, hg.output, hg.size, fun k hk => hg.block k (by omega) (fun e => by injection e with e; omega)⟩, fun j hj h1 h2 h3 => (hg.block j (Nat.lt_of_lt_of_le hj h.below.size) (fun e => by injection e with e; omega)).trans (h.same j hj h1 h2 h3)⟩
theorem T.walk_cells {W : World} {wb : Nat} {va vb ins cov : Value} (h : W.heap[wb]? = some (.cells #[va, vb, ins, cov] 66 (0, 0))) :
    W.cell? ⟨wb, 0, none⟩ = some va ∧ W.cell? ⟨wb, 1, none⟩ = some vb ∧ W.cell? ⟨wb, 2, none⟩ = some ins ∧ W.cell? ⟨wb, 3, none⟩ = some cov ∧ ∀ i, W.frozen? ⟨wb, i, none⟩ = false :=
  ⟨Lib.cell_of_heap h 0, Lib.cell_of_heap h 1, Lib.cell_of_heap h 2, Lib.cell_of_heap h 3, fun _ => frozen_of_row _ _ _ _ _ h⟩
theorem T.Box.kept {W W' : World} {b x : Nat} {p : D.P} (h : T.Box W b p) (hg : W.grownBy W' (some x)) (hb : b ≠ x) : T.Box W' b p :=
  (hg.block b h.lt (fun e => hb (by injection e))).trans h
theorem T.walk_put {W : World} {wb : Nat} {va vb ins cov : Value} (h : W.heap[wb]? = some (.cells #[va, vb, ins, cov] 66 (0, 0))) (x y : Value) :
    ((W.setCell ⟨wb, 0, none⟩ x).setCell ⟨wb, 1, none⟩ y).heap[wb]? = some (.cells #[x, y, ins, cov] 66 (0, 0)) ∧ W.grownBy ((W.setCell ⟨wb, 0, none⟩ x).setCell ⟨wb, 1, none⟩ y) (some wb) := by
  have h1 := (heap_setCell_same W wb 0 _ _ _ h).trans (show _ = some (.cells #[x, vb, ins, cov] 66 (0, 0)) from rfl)
  have h2 := (heap_setCell_same _ wb 1 _ _ _ h1).trans (show _ = some (.cells #[x, y, ins, cov] 66 (0, 0)) from rfl)
  exact ⟨h2, C.set_grown (C.set_grown ⟨rfl, rfl, rfl, Nat.le_refl _, fun _ _ _ => rfl⟩ _ _) _ _⟩
theorem T.Box.drew {W : World} {b : Nat} {p : D.P} (h : T.Box W b p) : T.Box W.drew b p := h
/-- What reach leaves, whichever piece it goes on from. -/
def T.Mid (w0 : World) (wb ab bb : Nat) (ins cov : Value) (la lb : List D.Q) (W W' : World) : Prop :=
  T.At w0 wb ab bb ins cov (C.hdP la) (C.hdP lb) la.tail lb.tail W' ∧ T.Only w0 wb ab bb W W'
def T.reachV (wb : Nat) (la lb : List D.Q) : Value := if D.evT la ≠ [] ∨ D.evT lb ≠ [] then .func (.func 92) #[.pointer (some ⟨wb, 0, none⟩)] #[] else if 0 < D.hdN la ∧ 0 < D.hdN lb then .func (.func 93) #[.pointer (some ⟨wb, 0, none⟩)] #[] else .nilFunc
theorem T.hd_t (l : List D.Q) : (C.hdP l).t = ⟨(D.evT l).toArray⟩ := by
  cases l with
  | nil => rfl
  | cons q r => cases q <;> rfl
theorem T.hd_n (l : List D.Q) : (C.hdP l).n = (D.hdN l : Int) := by
  cases l with
  | nil => rfl
  | cons q r => cases q <;> rfl
theorem T.mid_of {w0 W w2 : World} {wb ab bb : Nat} {va vb ins cov x y : Value} {la lb : List D.Q} (hpl : T.Pl w0 wb ab bb) (hbe : Below w0.heap.size w0 W) (hw : w2.heap[wb]? = some (.cells #[va, vb, ins, cov] 66 (0, 0))) (s1 : T.Sl w0 x la.tail) (s2 : T.Sl w0 y lb.tail) (b1 : T.Box w2 ab (C.hdP la)) (b2 : T.Box w2 bb (C.hdP lb)) (O : T.Only w0 wb ab bb W w2) :
    T.Mid w0 wb ab bb ins cov la lb W ((w2.setCell ⟨wb, 0, none⟩ x).setCell ⟨wb, 1, none⟩ y) := by
  obtain ⟨h1, h2⟩ := T.walk_put hw x y
  have O3 := O.step h2 (.inl rfl) hpl.gw (hbe.trans O.below).size
  exact ⟨⟨⟨x, y, h1, s1, s2⟩, b1.kept h2 hpl.wa.symm, b2.kept h2 hpl.wb.symm, hbe.trans O3.below⟩, O3⟩
set_option maxRecDepth 100000 in
set_option maxHeartbeats 4000000 in
theorem reach_any (w0 : World) (wb ab bb : Nat) (ins cov : Value) (pa pb : D.P) (ra rb la lb : List D.Q) (W : World) (hpl : T.Pl w0 wb ab bb) (h : T.At w0 wb ab bb ins cov pa pb ra rb W) (ha : T.Rep pa ra la) (hb : T.Rep pb rb lb) (qa : D.allPos la = true) (qb : D.allPos lb = true) (hla : ra.length ≤ 1000000) (hlb : rb.length ≤ 1000000) :
    Calls Try.prog 67 #[.pointer (some ⟨wb, 0, none⟩), .pointer (some ⟨ab, 0, none⟩), .pointer (some ⟨bb, 0, none⟩)] W fun e W' => e = .returned (T.reachV wb la lb) ∧ T.Mid w0 wb ab bb ins cov la lb W W' := by
  obtain ⟨va, vb, hx, hsa, hsb⟩ := h.wk
  have HA : Hid (∀ V, T.Box V ab pa → Below w0.heap.size w0 V → Calls Try.prog 91 #[.pointer (some ⟨ab, 0, none⟩), va] V (T.AdvEnd w0 ab la V)) := fun V h1 h2 => advance_any w0 ab pa ra la va V h1 ha qa hsa h2 hpl.ga hla
  have HB : Hid (∀ V, T.Box V bb pb → Below w0.heap.size w0 V → Calls Try.prog 91 #[.pointer (some ⟨bb, 0, none⟩), vb] V (T.AdvEnd w0 bb lb V)) := fun V h1 h2 => advance_any w0 bb pb rb lb vb V h1 hb qb hsb h2 hpl.gb hlb
  have HP := Lib.hid hpl
  have hbx := Lib.hid h.bb
  have hax := Lib.hid h.ba
  have hbe := Lib.hid h.below
  have hxx := Lib.hid hx
  obtain ⟨c0, c1, c2, c3, fz⟩ := T.walk_cells hx
  clear hpl h ha hb qa qb hla hlb hx hsa hsb c2 c3
  go_enter Try.func67, Try.ntmps67
  go_upto_region 1 with (fail)
  go_cut [] (fun wx => Hid (T.Mid w0 wb ab bb ins cov la lb W wx))
  case first =>
    go_region_with (first
      | (go_at_call 91; (with_reducible refine (HA.out W.drew hax.out.drew hbe.out.drew).mono ?_); rintro e w1 ⟨v1, rfl, s1, b1, g1⟩; obtain ⟨ao1, n1, k1, hv1, s1⟩ := s1.open; subst hv1; have hw1 := (g1.block wb (Array.getElem?_eq_some_iff.1 hxx.out).1 (fun e => HP.out.wa (by injection e))).trans hxx.out; obtain ⟨c0, c1, _, _, fz⟩ := T.walk_cells hw1; have bb1 := hbx.out.drew.kept g1 HP.out.ab.symm; have O1 : T.Only w0 wb ab bb W w1 := T.Only.step (T.Only.refl w0 wb ab bb W).drew g1 (.inr (.inl rfl)) HP.out.ga hbe.out.size)
      | (go_at_call 91; (with_reducible refine (HB.out w1 bb1 (hbe.out.trans O1.below)).mono ?_); rintro e w2 ⟨v2, rfl, s2, b2, g2⟩; obtain ⟨ao2, n2, k2, hv2, s2⟩ := s2.open; subst hv2; have hw2 := (g2.block wb (Array.getElem?_eq_some_iff.1 hw1).1 (fun e => HP.out.wb (by injection e))).trans hw1; obtain ⟨c0, c1, _, _, fz⟩ := T.walk_cells hw2; have ba2 := b1.kept g2 HP.out.ab; have O2 : T.Only w0 wb ab bb W w2 := T.Only.step O1 g2 (.inr (.inr rfl)) HP.out.gb (hbe.out.trans O1.below).size))
    all_goals
      have R := Lib.hid (T.mid_of HP.out hbe.out hw2 s1 s2 ba2 b2 O2)
      clear c0 c1 fz s1 s2 ba2 b2 O2 hw2 hw1 g1 g2 O1 bb1 b1
      go_wp2_with fail
      go_meet
      case rel => exact R
  case rest =>
    obtain ⟨W1, rfl⟩ : ∃ W1 : World, W1 = wc := ⟨_, rfl⟩
    obtain ⟨a0, a1, a2, _⟩ := hcut.out.1.ba.cells
    obtain ⟨b0, b1, b2, _⟩ := hcut.out.1.bb.cells
    rw [T.hd_t] at a2 b2
    rw [T.hd_n] at a1 b1
    clear c0 c1 fz a0 b0
    by_cases e1 : D.evT la = []
    · by_cases e2 : D.evT lb = []
      · by_cases e3 : 0 < D.hdN la
        · by_cases e4 : 0 < D.hdN lb
          · have HV : Hid (T.reachV wb la lb = .func (.func 93) #[.pointer (some ⟨wb, 0, none⟩)] #[]) := by
              show _ = _
              unfold T.reachV; rw [if_neg (by rintro (h | h); exact h e1; exact h e2), if_pos ⟨e3, e4⟩]
            rw [e1] at a2
            rw [e2] at b2
            go_wp2
            go_ret
            exact ⟨by rw [HV.out]; rfl, hcut.out⟩
          · have HV : Hid (T.reachV wb la lb = .nilFunc) := by
              show _ = _
              unfold T.reachV; rw [if_neg (by rintro (h | h); exact h e1; exact h e2), if_neg (fun h => e4 h.2)]
            rw [e1] at a2
            rw [e2] at b2
            go_wp2
            go_ret
            exact ⟨by rw [HV.out]; rfl, hcut.out⟩
        · have HV : Hid (T.reachV wb la lb = .nilFunc) := by
            show _ = _
            unfold T.reachV; rw [if_neg (by rintro (h | h); exact h e1; exact h e2), if_neg (fun h => e3 h.1)]
          rw [e1] at a2
          rw [e2] at b2
          go_wp2
          go_ret
          exact ⟨by rw [HV.out]; rfl, hcut.out⟩
      · have HV : Hid (T.reachV wb la lb = .func (.func 92) #[.pointer (some ⟨wb, 0, none⟩)] #[]) := by
          show _ = _
          unfold T.reachV; rw [if_pos (.inr e2)]
        have e2' : (D.evT lb).isEmpty = false := by simpa using e2
        rw [e1] at a2
        generalize D.evT lb = t at b2 e2'
        clear e2
        go_wp2
        go_ret
        exact ⟨by rw [HV.out]; rfl, hcut.out⟩
    · have HV : Hid (T.reachV wb la lb = .func (.func 92) #[.pointer (some ⟨wb, 0, none⟩)] #[]) := by
        show _ = _
        unfold T.reachV; rw [if_pos (.inl e1)]
      have e1' : (D.evT la).isEmpty = false := by simpa using e1
      generalize D.evT la = t at a2 e1'
      clear e1
      go_wp2
      go_ret
      exact ⟨by rw [HV.out]; rfl, hcut.out⟩
end Go.Proofs.Ytmljagkndnobdaa
/- TransStep -/
namespace Go.Proofs.Ytmljagkndnobdaa
open Go.RowKit

def T.kd (x : Bool) : Int := if x then 1 else 3
/-- What a step of the accumulator does: the state goes on, and only what belongs to it changes. -/
def T.Step (w0 : World) (I : Nat → World → Prop) (R : World → Nat → Prop) (k : Nat) (W : World) (e : Ending) (w' : World) : Prop :=
  e = .returned (.tuple #[]) ∧ I (k + 1) w' ∧ Below w0.heap.size W w' ∧ ∀ j, j < W.heap.size → ¬ R W j → w'.heap[j]? = W.heap[j]? ∧ ¬ R w' j
/-- Two function values that are told what the walk meets, and a state that they carry on. -/
structure T.Acc (w0 : World) (E : List D.Ev) (gi gc : Nat) (bi li bc lc : Array Value) (I : Nat → World → Prop) (R : World → Nat → Prop) : Prop where
  on : ∀ k W W', I k W → W.heap.size ≤ W'.heap.size → (∀ j, j < W.heap.size → R W j → W'.heap[j]? = W.heap[j]?) → I k W' ∧ ∀ j, ¬ R W j → ¬ R W' j
  lt : ∀ k W j, I k W → R W j → j < W.heap.size
  ei : A.Enters gi
  ec : A.Enters gc
  stepT : ∀ k (s t : List UInt8) W, E[k]? = some (.T s t) → I k W → Calls Try.prog gi (bi ++ (#[.string ⟨s.toArray⟩, .string ⟨t.toArray⟩] ++ li)) W (T.Step w0 I R k W)
  stepC : ∀ k x y (n : Nat) W, E[k]? = some (.C x y n) → I k W → Calls Try.prog gc (bc ++ (#[.int .u8 (T.kd x), .int .u8 (T.kd y), .int .i64 n] ++ lc)) W (T.Step w0 I R k W)
/-- The walk, its pieces, and the accumulator beside them. -/
structure T.In (w0 : World) (wb ab bb : Nat) (ins cov : Value) (I : Nat → World → Prop) (R : World → Nat → Prop) (pa pb : D.P) (ra rb : List D.Q) (k : Nat) (W : World) : Prop where
  at_ : T.At w0 wb ab bb ins cov pa pb ra rb W
  inv : I k W
  ow : ¬ R W wb
  oa : ¬ R W ab
  ob : ¬ R W bb
theorem T.At.lt {w0 : World} {wb ab bb : Nat} {ins cov : Value} {pa pb : D.P} {ra rb : List D.Q} {W : World} (h : T.At w0 wb ab bb ins cov pa pb ra rb W) : wb < W.heap.size ∧ ab < W.heap.size ∧ bb < W.heap.size := by
  obtain ⟨va, vb, hx, _⟩ := h.wk
  exact ⟨(Array.getElem?_eq_some_iff.1 hx).1, h.ba.lt, h.bb.lt⟩
/-- The accumulator stands where only the walk and its pieces change. -/
theorem T.In.only {w0 : World} {wb ab bb : Nat} {ins cov : Value} {I : Nat → World → Prop} {R : World → Nat → Prop} {pa pb pa' pb' : D.P} {ra rb ra' rb' : List D.Q} {k : Nat} {W W' : World} {E : List D.Ev} {gi gc : Nat} {bi li bc lc : Array Value} (X : T.Acc w0 E gi gc bi li bc lc I R)
    (h : T.In w0 wb ab bb ins cov I R pa pb ra rb k W) (ho : T.Only w0 wb ab bb W W') (ha : T.At w0 wb ab bb ins cov pa' pb' ra' rb' W') : T.In w0 wb ab bb ins cov I R pa' pb' ra' rb' k W' := by
  obtain ⟨h1, h2⟩ := X.on k W W' h.inv ho.below.size (fun j hj hr => ho.same j hj (fun e => h.ow (e ▸ hr)) (fun e => h.oa (e ▸ hr)) (fun e => h.ob (e ▸ hr)))
  exact ⟨ha, h1, h2 _ h.ow, h2 _ h.oa, h2 _ h.ob⟩
theorem T.In.step {w0 : World} {wb ab bb : Nat} {ins cov : Value} {I : Nat → World → Prop} {R : World → Nat → Prop} {pa pb : D.P} {ra rb : List D.Q} {k : Nat} {W W' : World} {e : Ending}
    (h : T.In w0 wb ab bb ins cov I R pa pb ra rb k W) (hs : T.Step w0 I R k W e W') : T.In w0 wb ab bb ins cov I R pa pb ra rb (k + 1) W' := by
  obtain ⟨_, h1, h2, h3⟩ := hs
  obtain ⟨l1, l2, l3⟩ := h.at_.lt
  obtain ⟨va, vb, hx, hy⟩ := h.at_.wk
  exact ⟨⟨⟨va, vb, (h3 _ l1 h.ow).1.trans hx, hy⟩, (h3 _ l2 h.oa).1.trans h.at_.ba, (h3 _ l3 h.ob).1.trans h.at_.bb, h.at_.below.trans h2⟩, h1, (h3 _ l1 h.ow).2, (h3 _ l2 h.oa).2, (h3 _ l3 h.ob).2⟩
theorem T.rep_texts {l : List D.Q} (h : D.allPos l = true) : T.Rep ⟨(C.hdP l).k, (C.hdP l).n, ⟨#[]⟩⟩ l.tail (D.tlT l) := by
  cases l with
  | nil => exact .inl ⟨rfl, rfl, rfl⟩
  | cons q r =>
    cases q with
    | I t => exact .inl ⟨rfl, rfl, rfl⟩
    | R n => exact .inr ⟨.R n, rfl, rfl⟩
    | D n => exact .inr ⟨.D n, rfl, rfl⟩
theorem T.rep_bytes {l : List D.Q} {m : Nat} (h0 : 0 < m) (hm : m ≤ D.hdN l) : T.Rep ⟨(C.hdP l).k, ((D.hdN l - m : Nat) : Int), (C.hdP l).t⟩ l.tail (D.cutN m l) := by
  cases l with
  | nil => exact absurd hm (by show ¬ m ≤ 0; omega)
  | cons q r =>
    cases q with
    | I t => exact absurd hm (by show ¬ m ≤ 0; omega)
    | R n =>
      have hn : m ≤ n := hm
      by_cases e : n = m
      · subst e
        refine .inl ⟨?_, rfl, if_pos rfl⟩
        show ((n - n : Nat) : Int) = 0
        rw [Nat.sub_self]; rfl
      · exact .inr ⟨.R (n - m), rfl, if_neg e⟩
    | D n =>
      have hn : m ≤ n := hm
      by_cases e : n = m
      · subst e
        refine .inl ⟨?_, rfl, if_pos rfl⟩
        show ((n - n : Nat) : Int) = 0
        rw [Nat.sub_self]; rfl
      · exact .inr ⟨.D (n - m), rfl, if_neg e⟩
theorem T.hd_k {l : List D.Q} (h : 0 < D.hdN l) : (C.hdP l).k = T.kd (D.hdK l) := by
  cases l with
  | nil => exact absurd h (by show ¬ 0 < 0; omega)
  | cons q r =>
    cases q with
    | I t => exact absurd h (by show ¬ 0 < 0; omega)
    | R n => rfl
    | D n => rfl
theorem T.Box.set {W : World} {b : Nat} {p : D.P} (h : T.Box W b p) : (∀ t, T.Box (W.setCell ⟨b, 2, none⟩ (.string t)) b ⟨p.k, p.n, t⟩ ∧ W.grownBy (W.setCell ⟨b, 2, none⟩ (.string t)) (some b)) ∧ ∀ n, T.Box (W.setCell ⟨b, 1, none⟩ (.int .i64 n)) b ⟨p.k, n, p.t⟩ ∧ W.grownBy (W.setCell ⟨b, 1, none⟩ (.int .i64 n)) (some b) := by
  have h : W.heap[b]? = some (.cells #[.int .u8 p.k, .int .i64 p.n, .string p.t] 31 (0, 0)) := h
  exact ⟨fun t => ⟨(heap_setCell_same W b 2 _ _ _ h).trans rfl, C.set_grown (T.grown_refl _ _) _ _⟩, fun n => ⟨(heap_setCell_same W b 1 _ _ _ h).trans rfl, C.set_grown (T.grown_refl _ _) _ _⟩⟩
theorem T.At.kept {w0 : World} {wb ab bb : Nat} {ins cov : Value} {pa pb : D.P} {ra rb : List D.Q} {W W' : World} (hpl : T.Pl w0 wb ab bb) (h : T.At w0 wb ab bb ins cov pa pb ra rb W) {pa' pb' : D.P} (ba : T.Box W' ab pa') (b2 : T.Box W' bb pb') (hg : ∃ x, W.grownBy W' (some x) ∧ (x = ab ∨ x = bb)) : T.At w0 wb ab bb ins cov pa' pb' ra rb W' ∧ T.Only w0 wb ab bb W W' := by
  obtain ⟨x, hg, hx⟩ := hg
  obtain ⟨l1, _⟩ := h.lt
  obtain ⟨va, vb, hw, hy⟩ := h.wk
  have ho := (T.Only.refl w0 wb ab bb W).step hg (.inr hx) (by rcases hx with rfl | rfl; exact hpl.ga; exact hpl.gb) h.below.size
  refine ⟨⟨⟨va, vb, (hg.block wb l1 (fun e => ?_)).trans hw, hy⟩, ba, b2, h.below.trans ho.below⟩, ho⟩
  injection e with e
  rcases hx with rfl | rfl
  · exact hpl.wa e
  · exact hpl.wb e
theorem T.Only.trans {w0 A B C : World} {wb ab bb : Nat} (h : T.Only w0 wb ab bb A B) (k : T.Only w0 wb ab bb B C) : T.Only w0 wb ab bb A C :=
  ⟨h.below.trans k.below, fun j hj h1 h2 h3 => (k.same j (Nat.lt_of_lt_of_le hj h.below.size) h1 h2 h3).trans (h.same j hj h1 h2 h3)⟩
def T.reachF (wb : Nat) : Value := .func (.func 67) #[.pointer (some ⟨wb, 0, none⟩)] #[]
def T.NextEnd (w0 : World) (wb ab bb : Nat) (ins cov : Value) (I : Nat → World → Prop) (R : World → Nat → Prop) (ra rb la lb : List D.Q) (k : Nat) (e : Ending) (W' : World) : Prop :=
  e = .returned (T.reachF wb) ∧ ∃ pa pb, T.Rep pa ra la ∧ T.Rep pb rb lb ∧ T.In w0 wb ab bb ins cov I R pa pb ra rb k W'
set_option maxRecDepth 100000 in
set_option maxHeartbeats 4000000 in
theorem texts_any (w0 : World) (wb ab bb : Nat) (E : List D.Ev) (gi gc : Nat) (bi li bc lc : Array Value) (I : Nat → World → Prop) (R : World → Nat → Prop) (X : T.Acc w0 E gi gc bi li bc lc I R) (la lb : List D.Q) (k : Nat) (W : World) (hpl : T.Pl w0 wb ab bb)
    (h : T.In w0 wb ab bb (.func (.func gi) bi li) (.func (.func gc) bc lc) I R (C.hdP la) (C.hdP lb) la.tail lb.tail k W) (hE : E[k]? = some (.T (D.evT la) (D.evT lb))) (qa : D.allPos la = true) (qb : D.allPos lb = true) :
    Calls Try.prog 92 #[.pointer (some ⟨wb, 0, none⟩), .pointer (some ⟨ab, 0, none⟩), .pointer (some ⟨bb, 0, none⟩)] W (T.NextEnd w0 wb ab bb (.func (.func gi) bi li) (.func (.func gc) bc lc) I R la.tail lb.tail (D.tlT la) (D.tlT lb) (k + 1)) := by
  obtain ⟨va, vb, hx, hs⟩ := h.at_.wk
  obtain ⟨W2, hW2⟩ : ∃ W2, Hid (W2 = W.drew) := ⟨_, rfl⟩
  have h2 : T.In w0 wb ab bb (.func (.func gi) bi li) (.func (.func gc) bc lc) I R (C.hdP la) (C.hdP lb) la.tail lb.tail k W2 := by
    rw [hW2.out]
    exact h.only X (T.Only.refl _ _ _ _ _).drew ⟨⟨va, vb, hx, hs⟩, h.at_.ba, h.at_.bb, h.at_.below.drew⟩
  have hx2 : W2.heap[wb]? = some (.cells #[va, vb, .func (.func gi) bi li, .func (.func gc) bc lc] 66 (0, 0)) := by rw [hW2.out]; exact hx
  obtain ⟨c0, c1, c2, c3, fz⟩ := T.walk_cells hx2
  obtain ⟨a0, a1, a2, _⟩ := h2.at_.ba.cells
  obtain ⟨b0, b1, b2, _⟩ := h2.at_.bb.cells
  rw [T.hd_t] at a2 b2
  have HS := Lib.hid (X.stepT k _ _ W2 hE h2.inv)
  have ei := X.ei
  unfold A.Enters at ei
  have HX := Lib.hid X
  have HP := Lib.hid hpl
  have H2 := Lib.hid h2
  have HQ := Lib.hid (And.intro qa qb)
  clear X hpl h h2 hE qa qb hx hx2 hs c0 c1 c3 fz a0 a1 b0 b1
  generalize D.evT la = s at a2 HS
  generalize D.evT lb = t at b2 HS
  go_enter Try.func92, Try.ntmps92
  go_wp2_with fail
  refine A.still_tail 12 (by kernel_rfl) (by kernel_rfl) W2 hW2.out ?_
  simp only [List.take_succ_cons, List.take_zero, List.drop_succ_cons, List.drop_zero]
  repeat still_step
  refine wpStill_nil ?_
  go_wp2_with fail
  refine HS.out.mono ?_
  rintro e w3 hst
  have h3 := H2.out.step hst
  obtain rfl := hst.1
  obtain ⟨ta, tb⟩ := And.intro h3.at_.ba h3.at_.bb
  obtain ⟨ba4, g4⟩ := ta.set.1 ⟨#[]⟩
  have bb4 := tb.kept g4 HP.out.ab.symm
  obtain ⟨at4, o4⟩ := h3.at_.kept HP.out ba4 bb4 ⟨ab, g4, .inl rfl⟩
  obtain ⟨bb5, g5⟩ := bb4.set.1 ⟨#[]⟩
  have ba5 := ba4.kept g5 HP.out.ab
  obtain ⟨at5, o5⟩ := at4.kept HP.out ba5 bb5 ⟨bb, g5, .inr rfl⟩
  have R1 := Lib.hid (h3.only HX.out (o4.trans o5) at5)
  obtain ⟨_, _, x2, fa⟩ := ta.cells
  obtain ⟨_, _, y2, fb⟩ := tb.cells
  have hne := HP.out.ab
  clear hst h3 ta tb ba4 g4 bb4 at4 o4 bb5 g5 ba5 at5 o5 a2 b2 c2
  go_wp2
  go_ret
  exact ⟨rfl, _, _, T.rep_texts HQ.out.1, T.rep_texts HQ.out.2, R1.out⟩
set_option maxRecDepth 100000 in
set_option maxHeartbeats 4000000 in
theorem bytes_any (w0 : World) (wb ab bb : Nat) (E : List D.Ev) (gi gc : Nat) (bi li bc lc : Array Value) (I : Nat → World → Prop) (R : World → Nat → Prop) (X : T.Acc w0 E gi gc bi li bc lc I R) (la lb : List D.Q) (k m : Nat) (W : World) (hpl : T.Pl w0 wb ab bb)
    (h : T.In w0 wb ab bb (.func (.func gi) bi li) (.func (.func gc) bc lc) I R (C.hdP la) (C.hdP lb) la.tail lb.tail k W) (hm : min (D.hdN la) (D.hdN lb) = m) (hE : E[k]? = some (.C (D.hdK la) (D.hdK lb) m)) (h0 : 0 < m) (hla : D.hdN la ≤ 1048576) (hlb : D.hdN lb ≤ 1048576) :
    Calls Try.prog 93 #[.pointer (some ⟨wb, 0, none⟩), .pointer (some ⟨ab, 0, none⟩), .pointer (some ⟨bb, 0, none⟩)] W (T.NextEnd w0 wb ab bb (.func (.func gi) bi li) (.func (.func gc) bc lc) I R la.tail lb.tail (D.cutN m la) (D.cutN m lb) (k + 1)) := by
  have HX := Lib.hid X
  have HP := Lib.hid hpl
  have H := Lib.hid h
  have HE := Lib.hid hE
  have hm1 : m ≤ D.hdN la := by omega
  have hm2 : m ≤ D.hdN lb := by omega
  have HR := Lib.hid (And.intro (T.rep_bytes h0 hm1) (T.rep_bytes h0 hm2))
  have hmi : min (D.hdN la : Int) (D.hdN lb : Int) = (m : Int) := by omega
  have hk1 := T.hd_k (l := la) (by omega)
  have hk2 := T.hd_k (l := lb) (by omega)
  obtain ⟨_, a1, a2, _⟩ := h.at_.ba.cells
  obtain ⟨_, b1, b2, _⟩ := h.at_.bb.cells
  rw [T.hd_n] at a1 b1
  have d1 : IntKind.i64.wrap ((D.hdN la : Int) - (m : Int)) = ((D.hdN la - m : Nat) : Int) := (IntWalk.i64_in _ (by omega)).trans (by omega)
  have d2 : IntKind.i64.wrap ((D.hdN lb : Int) - (m : Int)) = ((D.hdN lb - m : Nat) : Int) := (IntWalk.i64_in _ (by omega)).trans (by omega)
  have D1 := Lib.hid d1
  have D2 := Lib.hid d2
  clear X hpl h hE h0 hm d1 d2
  obtain ⟨na, hA⟩ : ∃ na, Hid (D.hdN la = na) := ⟨_, rfl⟩
  obtain ⟨nb, hB⟩ : ∃ nb, Hid (D.hdN lb = nb) := ⟨_, rfl⟩
  rw [hA.out] at a1 D1 HR hmi hla hm1
  rw [hB.out] at b1 D2 HR hmi hlb hm2
  clear a2 b2
  go_enter Try.func93, Try.ntmps93
  go_upto_region 1 with (fail)
  go_cut [7] (fun v wx => v = .int .i64 m ∧ Hid (T.In w0 wb ab bb (.func (.func gi) bi li) (.func (.func gc) bc lc) I R (C.hdP la) (C.hdP lb) la.tail lb.tail k wx))
  case first =>
    have hd : Hid (T.In w0 wb ab bb (.func (.func gi) bi li) (.func (.func gc) bc lc) I R (C.hdP la) (C.hdP lb) la.tail lb.tail k W.drew) := by
      obtain ⟨va, vb, hx, hs⟩ := H.out.at_.wk
      exact H.out.only HX.out (T.Only.refl _ _ _ _ _).drew ⟨⟨va, vb, hx, hs⟩, H.out.at_.ba, H.out.at_.bb, H.out.at_.below.drew⟩
    clear H HR HE D1 D2 hk1 hk2
    go_region
    all_goals
      go_wp2
      go_meet
      case rel => exact ⟨rfl, hd⟩
  case rest =>
  obtain ⟨rfl, hc⟩ := hcut
  clear H a1 b1
  obtain ⟨W1, rfl⟩ : ∃ W1 : World, W1 = wc := ⟨_, rfl⟩
  obtain ⟨W2, hW2⟩ : ∃ W2, Hid (W2 = W1.drew) := ⟨_, rfl⟩
  obtain ⟨va, vb, hx, hs⟩ := hc.out.at_.wk
  have h2 : T.In w0 wb ab bb (.func (.func gi) bi li) (.func (.func gc) bc lc) I R (C.hdP la) (C.hdP lb) la.tail lb.tail k W2 := by
    rw [hW2.out]
    exact hc.out.only HX.out (T.Only.refl _ _ _ _ _).drew ⟨⟨va, vb, hx, hs⟩, hc.out.at_.ba, hc.out.at_.bb, hc.out.at_.below.drew⟩
  have hx2 : W2.heap[wb]? = some (.cells #[va, vb, .func (.func gi) bi li, .func (.func gc) bc lc] 66 (0, 0)) := by rw [hW2.out]; exact hx
  obtain ⟨c0, c1, c2, c3, fz⟩ := T.walk_cells hx2
  obtain ⟨a0, a1, a2, _⟩ := h2.at_.ba.cells
  obtain ⟨b0, b1, b2, _⟩ := h2.at_.bb.cells
  rw [hk1] at a0
  rw [hk2] at b0
  have HS := Lib.hid (HX.out.stepC k _ _ m W2 HE.out h2.inv)
  have ec := HX.out.ec
  unfold A.Enters at ec
  have H2 := Lib.hid h2
  clear hc h2 hx hx2 hs c0 c1 c2 fz a1 b1 a2 b2
  generalize T.kd (D.hdK la) = ka at a0 HS
  generalize T.kd (D.hdK lb) = kb at b0 HS
  go_upto_region 2 with (fail)
  go_cut [] (fun wx => Hid (T.In w0 wb ab bb (.func (.func gi) bi li) (.func (.func gc) bc lc) I R (C.hdP la) (C.hdP lb) la.tail lb.tail (k + 1) wx))
  case first =>
    refine A.still_tail 13 (by kernel_rfl) (by kernel_rfl) W2 hW2.out ?_
    simp only [List.take_succ_cons, List.take_zero, List.drop_succ_cons, List.drop_zero]
    repeat still_step
    refine wpStill_nil ?_
    go_wp2_with fail
    refine HS.out.mono ?_
    rintro e w3 hst
    have h3 := Lib.hid (H2.out.step hst)
    obtain rfl := hst.1
    clear hst
    go_wp2
    go_meet
    case rel => exact h3
  case rest =>
  clear a0 b0 c3 ec HS H2 hW2
  obtain ⟨W3, rfl⟩ : ∃ W3 : World, W3 = wc := ⟨_, rfl⟩
  obtain ⟨ta, tb⟩ := And.intro hcut.out.at_.ba hcut.out.at_.bb
  have R1 : Hid (T.In w0 wb ab bb (.func (.func gi) bi li) (.func (.func gc) bc lc) I R ⟨(C.hdP la).k, ((na - m : Nat) : Int), (C.hdP la).t⟩ ⟨(C.hdP lb).k, ((nb - m : Nat) : Int), (C.hdP lb).t⟩ la.tail lb.tail (k + 1) ((W3.drew.setCell ⟨ab, 1, none⟩ (.int .i64 ((na - m : Nat) : Int))).setCell ⟨bb, 1, none⟩ (.int .i64 ((nb - m : Nat) : Int)))) := by
    obtain ⟨va, vb, hx, hs⟩ := hcut.out.at_.wk
    have h3 : T.In w0 wb ab bb (.func (.func gi) bi li) (.func (.func gc) bc lc) I R (C.hdP la) (C.hdP lb) la.tail lb.tail (k + 1) W3.drew := hcut.out.only HX.out (T.Only.refl _ _ _ _ _).drew ⟨⟨va, vb, hx, hs⟩, hcut.out.at_.ba, hcut.out.at_.bb, hcut.out.at_.below.drew⟩
    obtain ⟨ba4, g4⟩ := ta.drew.set.2 ((na - m : Nat) : Int)
    have bb4 := tb.drew.kept g4 HP.out.ab.symm
    obtain ⟨at4, o4⟩ := h3.at_.kept HP.out ba4 bb4 ⟨ab, g4, .inl rfl⟩
    obtain ⟨bb5, g5⟩ := bb4.set.2 ((nb - m : Nat) : Int)
    have ba5 := ba4.kept g5 HP.out.ab
    obtain ⟨at5, o5⟩ := at4.kept HP.out ba5 bb5 ⟨bb, g5, .inr rfl⟩
    exact h3.only HX.out (o4.trans o5) at5
  obtain ⟨_, x1, _, fa⟩ := ta.cells
  obtain ⟨_, y1, _, fb⟩ := tb.cells
  rw [T.hd_n, hA.out] at x1
  rw [T.hd_n, hB.out] at y1
  have hne := HP.out.ab
  have d1 := D1.out
  have d2 := D2.out
  clear hcut ta tb
  go_upto_region 3 with (fail)
  go_region
  all_goals
    go_wp2
    go_ret
    exact ⟨rfl, _, _, HR.out.1, HR.out.2, R1.out⟩
end Go.Proofs.Ytmljagkndnobdaa
/- TransRun -/
namespace Go.Proofs.Ytmljagkndnobdaa
open Go.RowKit

/-- Between two rounds. -/
structure T.Mv (w0 : World) (wb ab bb : Nat) (E : List D.Ev) (ins cov : Value) (I : Nat → World → Prop) (R : World → Nat → Prop) (g : Nat) (nx : Value) (k f : Nat) (la lb : List D.Q) (pa pb : D.P) (ra rb : List D.Q) (W : World) : Prop where
  inn : T.In w0 wb ab bb ins cov I R pa pb ra rb k W
  ev : E.drop k = D.evs f la lb
  wk : D.Vk f la lb
  le : k ≤ E.length
  ia : D.inL la ≤ 1048576
  ib : D.inL lb ≤ 1048576
  na : ra.length ≤ 1000000
  nb : rb.length ≤ 1000000
  ph : (nx = T.reachF wb ∧ T.Rep pa ra la ∧ T.Rep pb rb lb ∧ g = 2 * (E.length - k) + 2) ∨ (pa = C.hdP la ∧ pb = C.hdP lb ∧ ra = la.tail ∧ rb = lb.tail ∧ nx = T.reachV wb la lb ∧ g = 2 * (E.length - k) + 1)
def T.Lp (w0 : World) (wb ab bb : Nat) (E : List D.Ev) (ins cov : Value) (I : Nat → World → Prop) (R : World → Nat → Prop) (g : Nat) (nx : Value) (W : World) : Prop := ∃ k f la lb pa pb ra rb, T.Mv w0 wb ab bb E ins cov I R g nx k f la lb pa pb ra rb W
theorem T.ev_next {E L : List D.Ev} {k : Nat} {e : D.Ev} (h : E.drop k = e :: L) : E[k]? = some e ∧ E.drop (k + 1) = L ∧ k < E.length := by
  have hk : k < E.length := by
    by_cases hk : k < E.length
    · exact hk
    · rw [List.drop_eq_nil_of_le (by omega)] at h; cases h
  rw [List.drop_eq_getElem_cons hk] at h
  injection h with h1 h2
  exact ⟨by rw [List.getElem?_eq_getElem hk, h1], h2, hk⟩
theorem T.rep_len {p : D.P} {r l : List D.Q} (h : T.Rep p r l) : l.tail.length ≤ r.length := by
  rcases h with ⟨_, _, rfl⟩ | ⟨q, _, rfl⟩
  · rw [List.length_tail]; omega
  · exact Nat.le_refl _
theorem T.Mv.reached {w0 : World} {wb ab bb : Nat} {E : List D.Ev} {ins cov : Value} {I : Nat → World → Prop} {R : World → Nat → Prop} {k f : Nat} {la lb : List D.Q} {pa pb : D.P} {ra rb : List D.Q} {W W' : World} {gi gc : Nat} {bi li bc lc : Array Value} (X : T.Acc w0 E gi gc bi li bc lc I R) {g : Nat} {nx : Value} (h : T.Mv w0 wb ab bb E ins cov I R g nx k f la lb pa pb ra rb W) (ha : T.Rep pa ra la) (hb : T.Rep pb rb lb) (hm : T.Mid w0 wb ab bb ins cov la lb W W') :
    T.Lp w0 wb ab bb E ins cov I R (2 * (E.length - k) + 1) (T.reachV wb la lb) W' :=
  ⟨k, f, la, lb, _, _, _, _, h.inn.only X hm.2 hm.1, h.ev, h.wk, h.le, h.ia, h.ib, Nat.le_trans (T.rep_len ha) h.na, Nat.le_trans (T.rep_len hb) h.nb, .inr ⟨rfl, rfl, rfl, rfl, rfl, rfl⟩⟩
/-- Where a text or bytes are told. -/
theorem T.Mv.tellsT {w0 : World} {wb ab bb : Nat} {E : List D.Ev} {ins cov : Value} {I : Nat → World → Prop} {R : World → Nat → Prop} {k f : Nat} {la lb : List D.Q} {pa pb : D.P} {ra rb : List D.Q} {W : World} {g : Nat} {nx : Value} (h : T.Mv w0 wb ab bb E ins cov I R g nx k f la lb pa pb ra rb W) (e : D.evT la ≠ [] ∨ D.evT lb ≠ []) :
    E[k]? = some (.T (D.evT la) (D.evT lb)) ∧ ∃ f', E.drop (k + 1) = D.evs f' (D.tlT la) (D.tlT lb) ∧ D.Vk f' (D.tlT la) (D.tlT lb) ∧ k < E.length ∧ D.inL (D.tlT la) = D.inL la ∧ D.inL (D.tlT lb) = D.inL lb := by
  have hw := h.wk
  have hev := h.ev
  obtain ⟨_, _, i1, _⟩ := D.tlT_ok hw.pa hw.na
  obtain ⟨_, _, i2, _⟩ := D.tlT_ok hw.pb hw.nb
  cases f with
  | zero =>
    exfalso
    have hl := hw.l
    have e1 : la = [] := List.eq_nil_of_length_eq_zero (by omega)
    have e2 : lb = [] := List.eq_nil_of_length_eq_zero (by omega)
    subst e1 e2
    rcases e with e | e <;> exact e rfl
  | succ f =>
    rw [D.evs_T e] at hev
    obtain ⟨h1, h2, h3⟩ := T.ev_next hev
    exact ⟨h1, f, h2, (hw.texts e).1, h3, i1, i2⟩
theorem T.Mv.tellsC {w0 : World} {wb ab bb : Nat} {E : List D.Ev} {ins cov : Value} {I : Nat → World → Prop} {R : World → Nat → Prop} {k f : Nat} {la lb : List D.Q} {pa pb : D.P} {ra rb : List D.Q} {W : World} {g : Nat} {nx : Value} (h : T.Mv w0 wb ab bb E ins cov I R g nx k f la lb pa pb ra rb W) (e1 : D.evT la = []) (e2 : D.evT lb = []) (e : 0 < D.hdN la ∧ 0 < D.hdN lb) (m : Nat) (hm : min (D.hdN la) (D.hdN lb) = m) :
    E[k]? = some (.C (D.hdK la) (D.hdK lb) m) ∧ ∃ f', E.drop (k + 1) = D.evs f' (D.cutN m la) (D.cutN m lb) ∧ D.Vk f' (D.cutN m la) (D.cutN m lb) ∧ k < E.length ∧ D.inL (D.cutN m la) ≤ D.inL la ∧ D.inL (D.cutN m lb) ≤ D.inL lb := by
  have hw := h.wk
  have hev := h.ev
  obtain ⟨_, _, i1, _⟩ := D.cutN_ok hw.pa hw.na (show 0 < m by omega) (show m ≤ D.hdN la by omega)
  obtain ⟨_, _, i2, _⟩ := D.cutN_ok hw.pb hw.nb (show 0 < m by omega) (show m ≤ D.hdN lb by omega)
  cases f with
  | zero =>
    exfalso
    have hl := hw.l
    have e1 : la = [] := List.eq_nil_of_length_eq_zero (by omega)
    subst e1
    exact absurd e.1 (by show ¬ 0 < 0; omega)
  | succ f =>
    rw [D.evs_C e1 e2 e, hm] at hev
    obtain ⟨h1, h2, h3⟩ := T.ev_next hev
    have hb := hw.bytes e
    rw [hm] at hb
    exact ⟨h1, f, h2, hb, h3, by omega, by omega⟩
theorem T.Mv.done {w0 : World} {wb ab bb : Nat} {E : List D.Ev} {ins cov : Value} {I : Nat → World → Prop} {R : World → Nat → Prop} {k f : Nat} {la lb : List D.Q} {pa pb : D.P} {ra rb : List D.Q} {W : World} {g : Nat} {nx : Value} (h : T.Mv w0 wb ab bb E ins cov I R g nx k f la lb pa pb ra rb W) (e1 : D.evT la = []) (e2 : D.evT lb = []) (e : ¬ (0 < D.hdN la ∧ 0 < D.hdN lb)) : I E.length W ∧ Below w0.heap.size w0 W := by
  obtain ⟨rfl, rfl⟩ := h.wk.ends e1 e2 e
  have hev := h.ev
  rw [D.evs_nil] at hev
  have := h.le
  have : k = E.length := by
    have := List.drop_eq_nil_iff.1 hev; omega
  exact ⟨this ▸ h.inn.inv, h.inn.at_.below⟩
theorem T.Lp.next {w0 : World} {wb ab bb : Nat} {E : List D.Ev} {ins cov : Value} {I : Nat → World → Prop} {R : World → Nat → Prop} {k f f' : Nat} {la lb la' lb' : List D.Q} {pa pb : D.P} {ra rb : List D.Q} {W W' : World} {g : Nat} {nx : Value} (h : T.Mv w0 wb ab bb E ins cov I R g nx k f la lb pa pb ra rb W) {e : Ending} (hn : T.NextEnd w0 wb ab bb ins cov I R ra rb la' lb' (k + 1) e W') (hd : E.drop (k + 1) = D.evs f' la' lb') (hw : D.Vk f' la' lb') (hk : k < E.length) (h1 : D.inL la' ≤ D.inL la) (h2 : D.inL lb' ≤ D.inL lb) :
    T.Lp w0 wb ab bb E ins cov I R (2 * (E.length - (k + 1)) + 2) (T.reachF wb) W' := by
  obtain ⟨_, pa', pb', r1, r2, hi⟩ := hn
  exact ⟨k + 1, f', la', lb', pa', pb', ra, rb, hi, hd, hw, hk, Nat.le_trans h1 h.ia, Nat.le_trans h2 h.ib, h.na, h.nb, .inl ⟨rfl, r1, r2, rfl⟩⟩
theorem T.neq_func (f : Nat) (b l : Array Value) (w : World) : (binOp .neq 103 (.func (.func f) b l) .nilFunc).run Try.prog w = .ok (.bool true) w := by kernel_rfl
theorem T.neq_nil (w : World) : (binOp .neq 103 .nilFunc .nilFunc).run Try.prog w = .ok (.bool false) w := by kernel_rfl
set_option maxRecDepth 100000 in
set_option maxHeartbeats 4000000 in
theorem run_any (w0 : World) (wb : Nat) (E : List D.Ev) (gi gc : Nat) (bi li bc lc : Array Value) (I : Nat → World → Prop) (R : World → Nat → Prop) (X : T.Acc w0 E gi gc bi li bc lc I R) (f : Nat) (a b : List D.Q) (va vb : Value) (W : World)
    (hw : W.heap[wb]? = some (.cells #[va, vb, .func (.func gi) bi li, .func (.func gc) bc lc] 66 (0, 0))) (hsa : T.Sl w0 va a) (hsb : T.Sl w0 vb b) (hge : w0.heap.size ≤ wb) (hB : Below w0.heap.size w0 W) (hI : I 0 W) (ho : ¬ R W wb) (hwk : D.Vk f a b) (hE : E = D.evs f a b) (ia : D.inL a ≤ 1048576) (ib : D.inL b ≤ 1048576) (na : a.length ≤ 1000000) (nb : b.length ≤ 1000000) :
    Calls Try.prog 40 #[.pointer (some ⟨wb, 0, none⟩)] W fun e W' => e = .returned (.tuple #[]) ∧ I E.length W' ∧ Below w0.heap.size w0 W' := by
  have hlt := (Array.getElem?_eq_some_iff.1 hw).1
  obtain ⟨ab, hab⟩ : ∃ ab, Hid (W.heap.size = ab) := ⟨_, rfl⟩
  have hpl : Hid (T.Pl w0 wb ab (ab + 1)) := by
    have := hB.size
    have := hab.out
    exact ⟨hge, by omega, by omega, by omega, by omega, by omega⟩
  have h0 : Hid (T.Lp w0 wb ab (ab + 1) E (.func (.func gi) bi li) (.func (.func gc) bc lc) I R (2 * (E.length - 0) + 2) (T.reachF wb) ((W.alloc (.cells #[.int .u8 0, .int .i64 0, .string ⟨#[]⟩] 31)).alloc (.cells #[.int .u8 0, .int .i64 0, .string ⟨#[]⟩] 31))) := by
    have old : ∀ j, j < W.heap.size → ((W.alloc (.cells #[.int .u8 0, .int .i64 0, .string ⟨#[]⟩] 31)).alloc (.cells #[.int .u8 0, .int .i64 0, .string ⟨#[]⟩] 31)).heap[j]? = W.heap[j]? := fun j hj => (Below.heap_alloc _ _ j (by simp; omega)).trans (Below.heap_alloc _ _ j hj)
    have b1 : T.Box ((W.alloc (.cells #[.int .u8 0, .int .i64 0, .string ⟨#[]⟩] 31)).alloc (.cells #[.int .u8 0, .int .i64 0, .string ⟨#[]⟩] 31)) ab C.zero := by
      rw [← hab.out]
      exact (Below.heap_alloc _ _ _ (by simp)).trans (heap_alloc_new W _)
    have b2 : T.Box ((W.alloc (.cells #[.int .u8 0, .int .i64 0, .string ⟨#[]⟩] 31)).alloc (.cells #[.int .u8 0, .int .i64 0, .string ⟨#[]⟩] 31)) (ab + 1) C.zero := by
      have h := heap_alloc_new (W.alloc (.cells #[.int .u8 0, .int .i64 0, .string ⟨#[]⟩] 31)) (.cells #[.int .u8 0, .int .i64 0, .string ⟨#[]⟩] 31)
      rw [World.size_alloc, hab.out] at h
      exact h
    have hBB : Below w0.heap.size w0 ((W.alloc (.cells #[.int .u8 0, .int .i64 0, .string ⟨#[]⟩] 31)).alloc (.cells #[.int .u8 0, .int .i64 0, .string ⟨#[]⟩] 31)) := (hB.alloc hB.size _).alloc (by have := hB.size; simp; omega) _
    obtain ⟨i1, i2⟩ := X.on 0 W ((W.alloc (.cells #[.int .u8 0, .int .i64 0, .string ⟨#[]⟩] 31)).alloc (.cells #[.int .u8 0, .int .i64 0, .string ⟨#[]⟩] 31)) hI (by simp; omega) (fun j hj _ => old j hj)
    refine ⟨0, f, a, b, C.zero, C.zero, a, b, ⟨⟨⟨va, vb, (old wb hlt).trans hw, hsa, hsb⟩, b1, b2, hBB⟩, i1, i2 _ ho, i2 _ (fun hr => ?_), i2 _ (fun hr => ?_)⟩, hE, hwk, Nat.zero_le _, ia, ib, na, nb, .inl ⟨rfl, .inl ⟨rfl, rfl, rfl⟩, .inl ⟨rfl, rfl, rfl⟩, rfl⟩⟩
    · have := X.lt 0 W _ hI hr; have := hab.out; omega
    · have := X.lt 0 W _ hI hr; have := hab.out; omega
  have HX := Lib.hid X
  have q1 := T.neq_func
  have q2 := T.neq_nil
  obtain ⟨n0, hn0⟩ : ∃ n0, Hid (2 * (E.length - 0) + 2 = n0) := ⟨_, rfl⟩
  rw [hn0.out] at h0
  clear hw hsa hsb hge hB hI ho hwk hE ia ib na nb X
  go_enter Try.func40, Try.ntmps40
  go_wp2
  rw [hab.out]
  go_loopg [4] n0 (fun g nx wr => Hid (T.Lp w0 wb ab (ab + 1) E (.func (.func gi) bi li) (.func (.func gc) bc lc) I R g nx wr))
  case atStart => exact h0
  case round =>
    clear h0
    obtain ⟨k, f', la, lb, pa, pb, ra, rb, hM⟩ := hrel.out
    have HM := Lib.hid hM
    have hp := hM.ph
    clear hM hrel
    rcases hp with ⟨rfl, r1, r2, hg⟩ | ⟨rfl, rfl, rfl, rfl, rfl, hg⟩
    · have HC := Lib.hid (reach_any w0 wb ab (ab + 1) _ _ pa pb ra rb la lb wr hpl.out HM.out.inn.at_ r1 r2 HM.out.wk.pa HM.out.wk.pb HM.out.na HM.out.nb)
      have HR := Lib.hid (And.intro r1 r2)
      have hg := Lib.hid hg
      clear r1 r2
      unfold T.reachF
      go_wp2_with fail
      refine HC.out.mono ?_
      rintro e w3 ⟨rfl, hm⟩
      have RL : Hid (T.Lp w0 wb ab (ab + 1) E (.func (.func gi) bi li) (.func (.func gc) bc lc) I R (2 * (E.length - k) + 1) (T.reachV wb la lb) w3) := HM.out.reached HX.out HR.out.1 HR.out.2 hm
      clear hm HC
      generalize T.reachV wb la lb = V at RL ⊢
      go_wp2
      go_roundg (2 * (E.length - k) + 1)
      case measure => have := hg.out; omega
      case rel => exact RL
    · have hg := Lib.hid hg
      by_cases eT : D.evT la ≠ [] ∨ D.evT lb ≠ []
      · have hv : T.reachV wb la lb = .func (.func 92) #[.pointer (some ⟨wb, 0, none⟩)] #[] := if_pos eT
        rw [hv]
        obtain ⟨hEk, f2, hd, hw2, hk, i1, i2⟩ := HM.out.tellsT eT
        have HC := Lib.hid (texts_any w0 wb ab (ab + 1) E gi gc bi li bc lc I R HX.out la lb k wr hpl.out HM.out.inn hEk HM.out.wk.pa HM.out.wk.pb)
        have HF := Lib.hid (And.intro hd (And.intro hw2 (And.intro i1 i2)))
        clear hEk hd hw2 i1 i2 hv eT
        go_wp2_with fail
        refine HC.out.mono ?_
        rintro e w3 hn
        have RL := Lib.hid (T.Lp.next HM.out hn HF.out.1 HF.out.2.1 hk (by rw [HF.out.2.2.1]; exact Nat.le_refl _) (by rw [HF.out.2.2.2]; exact Nat.le_refl _))
        obtain rfl := hn.1
        clear hn HC
        generalize T.reachF wb = V at RL ⊢
        go_wp2
        go_roundg (2 * (E.length - (k + 1)) + 2)
        case measure => have := hg.out; omega
        case rel => exact RL
      · have e1 : D.evT la = [] := by
          by_cases e1 : D.evT la = []
          · exact e1
          · exact absurd (.inl e1) eT
        have e2 : D.evT lb = [] := by
          by_cases e2 : D.evT lb = []
          · exact e2
          · exact absurd (.inr e2) eT
        by_cases eN : 0 < D.hdN la ∧ 0 < D.hdN lb
        · have hv : T.reachV wb la lb = .func (.func 93) #[.pointer (some ⟨wb, 0, none⟩)] #[] := (if_neg eT).trans (if_pos eN)
          rw [hv]
          obtain ⟨m, hm⟩ : ∃ m, min (D.hdN la) (D.hdN lb) = m := ⟨_, rfl⟩
          obtain ⟨hEk, f2, hd, hw2, hk, i1, i2⟩ := HM.out.tellsC e1 e2 eN m hm
          have HC := Lib.hid (bytes_any w0 wb ab (ab + 1) E gi gc bi li bc lc I R HX.out la lb k m wr hpl.out HM.out.inn hm hEk (by omega) (Nat.le_trans (D.hdN_le la) HM.out.ia) (Nat.le_trans (D.hdN_le lb) HM.out.ib))
          have HF := Lib.hid (And.intro hd (And.intro hw2 (And.intro i1 i2)))
          clear hEk hd hw2 i1 i2 hv eT e1 e2 eN hm
          go_wp2_with fail
          refine HC.out.mono ?_
          rintro e w3 hn
          have RL := Lib.hid (T.Lp.next HM.out hn HF.out.1 HF.out.2.1 hk HF.out.2.2.1 HF.out.2.2.2)
          obtain rfl := hn.1
          clear hn HC
          generalize T.reachF wb = V at RL ⊢
          go_wp2
          go_roundg (2 * (E.length - (k + 1)) + 2)
          case measure => have := hg.out; omega
          case rel => exact RL
        · have hv : T.reachV wb la lb = .nilFunc := (if_neg eT).trans (if_neg eN)
          rw [hv]
          have RD := Lib.hid (HM.out.done e1 e2 eN)
          clear hv e1 e2 eN eT
          go_wp2
          go_end0
          exact ⟨rfl, RD.out⟩
end Go.Proofs.Ytmljagkndnobdaa
/- TransAdd -/
namespace Go.Proofs.Ytmljagkndnobdaa
open Go.RowKit

/-- What the result at block rb holds. -/
def T.RS (B rb : Nat) (first : Bool) (P : List D.P) (W : World) : Prop :=
  ∃ v, W.heap[rb]? = some (.cells #[.bool first, v] 62 (0, 0)) ∧ W.ownsRow B 31 3 v P.length (D.cellsL P) ∧ B ≤ rb ∧ B ≤ W.heap.size
/-- What belongs to it: its box, and its row. -/
def T.RR (rb : Nat) (W : World) (j : Nat) : Prop := j = rb ∨ ∃ x v t, W.heap[rb]? = some (.cells #[x, v] t (0, 0)) ∧ v.ownBlock = some j
/-- Only what belongs to it has changed. -/
def T.Chg (B rb : Nat) (W W' : World) : Prop := Below B W W' ∧ ∀ j, j < W.heap.size → ¬ T.RR rb W j → W'.heap[j]? = W.heap[j]? ∧ ¬ T.RR rb W' j
theorem T.Chg.trans {B rb : Nat} {W V U : World} (h : T.Chg B rb W V) (k : T.Chg B rb V U) : T.Chg B rb W U :=
  ⟨h.1.trans k.1, fun j hj hn => by
    obtain ⟨e1, n1⟩ := h.2 j hj hn
    obtain ⟨e2, n2⟩ := k.2 j (Nat.lt_of_lt_of_le hj h.1.size) n1
    exact ⟨e2.trans e1, n2⟩⟩
theorem T.RS.ne {B rb : Nat} {W : World} {n : Nat} {x v w : Value} {xs : List Value} (h : W.ownsRow B 31 3 v n xs) (hb : W.heap[rb]? = some (.cells #[x, w] 62 (0, 0))) : v.ownBlock ≠ some rb := D.block_ne h hb (by decide)
/-- Where what belongs to it stands. -/
theorem T.RS.on {B rb : Nat} {first : Bool} {P : List D.P} {W W' : World} (h : T.RS B rb first P W) (hs : W.heap.size ≤ W'.heap.size) (hk : ∀ j, j < W.heap.size → T.RR rb W j → W'.heap[j]? = W.heap[j]?) : T.RS B rb first P W' ∧ ∀ j, ¬ T.RR rb W j → ¬ T.RR rb W' j := by
  obtain ⟨v, hb, ho, h1, h2⟩ := h
  have hlt := (Array.getElem?_eq_some_iff.1 hb).1
  have e := hk rb hlt (.inl rfl)
  refine ⟨⟨v, e.trans hb, ?_, h1, Nat.le_trans h2 hs⟩, fun j hn hr => hn ?_⟩
  · obtain ⟨hl, h0 | ⟨g, cap, cur, hv, hbg, hg, r⟩⟩ := ho
    · exact ⟨hl, .inl h0⟩
    · subst hv
      exact ⟨hl, .inr ⟨g, cap, cur, rfl, hbg, (hk g (Array.getElem?_eq_some_iff.1 hg).1 (.inr ⟨_, _, _, hb, rfl⟩)).trans hg, r⟩⟩
  · rcases hr with hr | ⟨x, u, t, q1, q2⟩
    · exact .inl hr
    · exact .inr ⟨x, u, t, e.symm.trans q1, q2⟩
theorem T.RS.lt {B rb : Nat} {first : Bool} {P : List D.P} {W : World} (h : T.RS B rb first P W) {j : Nat} (hr : T.RR rb W j) : j < W.heap.size := by
  obtain ⟨v, hb, ho, _⟩ := h
  rcases hr with rfl | ⟨x, u, t, q1, q2⟩
  · exact (Array.getElem?_eq_some_iff.1 hb).1
  · rw [hb] at q1
    simp only [Option.some.injEq, Obj.cells.injEq, Array.mk.injEq, List.cons.injEq, and_true] at q1
    rw [← q1.1.2] at q2
    exact (ho.lt _ q2).2
/-- New blocks change nothing of it. -/
theorem T.RS.below {B rb : Nat} {first : Bool} {P : List D.P} {W W' : World} (h : T.RS B rb first P W) (hb : Below W.heap.size W W') : T.RS B rb first P W' ∧ T.Chg B rb W W' := by
  obtain ⟨h1, h2⟩ := h.on hb.size (fun j hj _ => hb.block j hj)
  obtain ⟨_, _, _, _, hB⟩ := h
  exact ⟨h1, hb.mono hB, fun j hj hn => ⟨hb.block j hj, h2 j hn⟩⟩
/-- An append, stored. -/
theorem T.RS.put {B rb : Nat} {first : Bool} {P : List D.P} {W w3 : World} {v v' : Value} {p : D.P} (hb : W.heap[rb]? = some (.cells #[.bool first, v] 62 (0, 0))) (ho : W.ownsRow B 31 3 v P.length (D.cellsL P)) (h1 : B ≤ rb) (h2 : B ≤ W.heap.size)
    (hO : w3.ownsRow B 31 3 v' (P ++ [p]).length (D.cellsL (P ++ [p]))) (hg : W.grownBy w3 v.ownBlock) (ha : v'.ownBlock = v.ownBlock ∨ ∃ g, v'.ownBlock = some g ∧ W.heap.size ≤ g) :
    T.RS B rb first (P ++ [p]) (w3.setCell ⟨rb, 1, none⟩ v') ∧ T.Chg B rb W (w3.setCell ⟨rb, 1, none⟩ v') := by
  have hlt := (Array.getElem?_eq_some_iff.1 hb).1
  have hne : v.ownBlock ≠ some rb := T.RS.ne ho hb
  have hb3 : w3.heap[rb]? = some (.cells #[.bool first, v] 62 (0, 0)) := (hg.block _ hlt (fun e => hne e.symm)).trans hb
  have hne' : v'.ownBlock ≠ some rb := T.RS.ne hO hb3
  have hb4 : (w3.setCell ⟨rb, 1, none⟩ v').heap[rb]? = some (.cells #[.bool first, v'] 62 (0, 0)) := (heap_setCell_same w3 rb 1 _ _ _ hb3).trans rfl
  have hset : ∀ j, j ≠ rb → (w3.setCell ⟨rb, 1, none⟩ v').heap[j]? = w3.heap[j]? := fun j hj => Below.heap_setCell _ _ _ _ hj
  have hsz : (w3.setCell ⟨rb, 1, none⟩ v').heap.size = w3.heap.size := by simp [World.setCell]
  refine ⟨⟨v', hb4, ?_, h1, by rw [hsz]; exact Nat.le_trans h2 hg.size⟩, ?_, fun j hj hn => ⟨?_, ?_⟩⟩
  · exact hO.kept (row := some rb) ⟨rfl, rfl, rfl, by rw [hsz]; exact Nat.le_refl _, fun j _ hj => hset j (fun e => hj (by rw [e]))⟩ (.inr hne')
  · exact ((Below.refl B W).grown hg h2 (fun j hj => (ho.lt j hj).1)).setCell (p := ⟨rb, 1, none⟩) h1 _
  · have h1 : j ≠ rb := fun e => hn (.inl e)
    rw [hset j h1]
    exact hg.block j hj (fun e => hn (.inr ⟨_, v, _, hb, e.symm⟩))
  · rintro (hr | ⟨x, u, t, q1, q2⟩)
    · exact hn (.inl hr)
    · rw [hb4] at q1
      simp only [Option.some.injEq, Obj.cells.injEq, Array.mk.injEq, List.cons.injEq, and_true] at q1
      rw [← q1.1.2] at q2
      rcases ha with ha | ⟨g, ha, hgz⟩
      · exact hn (.inr ⟨_, v, _, hb, by rw [← ha]; exact q2⟩)
      · rw [ha] at q2
        injection q2 with q2
        omega
def T.AddEnd (B rb : Nat) (first : Bool) (P : List D.P) (W : World) (e : Ending) (W' : World) : Prop := e = .returned (.tuple #[]) ∧ T.RS B rb first P W' ∧ T.Chg B rb W W'
set_option maxRecDepth 100000 in
set_option maxHeartbeats 1000000 in
theorem add_skip (B rb : Nat) (first : Bool) (P : List D.P) (k : Int) (W : World) (h : T.RS B rb first P W) :
    Calls Try.prog 66 #[.pointer (some ⟨rb, 0, none⟩), .agg #[.int .u8 k, .int .i64 0, .string ⟨#[]⟩]] W (T.AddEnd B rb first P W) := by
  have R := Lib.hid (h.below ((Below.refl W.heap.size W).alloc (Nat.le_refl _) (.cells #[.int .u8 k, .int .i64 0, .string ⟨#[]⟩] 31)))
  clear h
  go_enter Try.func66, Try.ntmps66
  go_wp2
  go_end0
  exact ⟨rfl, R.out⟩
set_option maxRecDepth 100000 in
set_option maxHeartbeats 4000000 in
theorem add_put (B rb : Nat) (first : Bool) (P : List D.P) (p : D.P) (W : World) (h : T.RS B rb first P W) (hp : 0 < p.n ∨ (p.n = 0 ∧ p.t.data.toList.isEmpty = false)) (hP : P.length ≤ 1000000) :
    Calls Try.prog 66 #[.pointer (some ⟨rb, 0, none⟩), .agg #[.int .u8 p.k, .int .i64 p.n, .string p.t]] W (T.AddEnd B rb first (P ++ [p]) W) := by
  obtain ⟨ip, i0, i1, i2, i3⟩ := info_parts Try.infoPiece
  have Hp := Lib.hid (And.intro i0 (And.intro i1 (And.intro i2 i3)))
  clear i0 i1 i2 i3
  obtain ⟨pk, pn, pt⟩ := p
  dsimp only at hp ⊢
  have h1 := h.below ((Below.refl W.heap.size W).alloc (Nat.le_refl _) (.cells #[.int .u8 pk, .int .i64 pn, .string pt] 31))
  have HC := Lib.hid h1.2
  obtain ⟨v, hb, ho, g1, g2⟩ := h1.1
  obtain ⟨tb, tc, rfl⟩ := D.slice_of_own ho
  have hH := Lib.hid (And.intro hb (And.intro ho (And.intro g1 g2)))
  have n0 : (W.alloc (.cells #[.int .u8 pk, .int .i64 pn, .string pt] 31)).heap[W.heap.size]? = some (.cells #[.int .u8 pk, .int .i64 pn, .string pt] 31 (0, 0)) := heap_alloc_new W _
  have hfin : Hid (∀ v' w3, w3.ownsRow B 31 3 v' (P ++ [(⟨pk, pn, pt⟩ : D.P)]).length (D.cellsL (P ++ [(⟨pk, pn, pt⟩ : D.P)])) → (W.alloc (.cells #[.int .u8 pk, .int .i64 pn, .string pt] 31)).grownBy w3 (Value.slice tb P.length tc).ownBlock → (v'.ownBlock = (Value.slice tb P.length tc).ownBlock ∨ ∃ g, v'.ownBlock = some g ∧ (W.alloc (.cells #[.int .u8 pk, .int .i64 pn, .string pt] 31)).heap.size ≤ g) → T.AddEnd B rb first (P ++ [(⟨pk, pn, pt⟩ : D.P)]) W (.returned (.tuple #[])) (w3.setCell ⟨rb, 1, none⟩ v')) := fun v' w3 q1 q2 q3 => by
    obtain ⟨r1, r2⟩ := T.RS.put hb ho g1 g2 q1 q2 q3
    exact ⟨rfl, r1, HC.out.trans r2⟩
  obtain ⟨W1, hW1⟩ : ∃ W1, W1 = W.alloc (.cells #[.int .u8 pk, .int .i64 pn, .string pt] 31) := ⟨_, rfl⟩
  have hsz : W.heap.size < W1.heap.size := by rw [hW1]; simp
  rw [← hW1] at hb ho g2 n0 hfin hH
  have hne : rb ≠ W.heap.size := by
    intro e
    rw [e, n0] at hb
    simp at hb
  have c0 : W1.cell? ⟨rb, 0, none⟩ = some (.bool first) := Lib.cell_of_heap hb 0
  have c1 : W1.cell? ⟨rb, 1, none⟩ = some (.slice tb P.length tc) := Lib.cell_of_heap hb 1
  have fz : W1.frozen? ⟨rb, 1, none⟩ = false := frozen_of_row _ _ _ _ _ hb
  obtain ⟨b0, b1, b2, _⟩ := C.zero3 n0
  have hbl := (Array.getElem?_eq_some_iff.1 hb).1
  have hown := D.block_ne ho hb (by decide)
  have Hne := Lib.hid hown
  have HB2 := Lib.hid g2
  clear h h1 hb ho n0 HC hown
  go_enter Try.func66, Try.ntmps66
  go_upto_region 1 with (fail)
  rw [← hW1]
  obtain ⟨H, hH0⟩ : ∃ H, Hid (W.heap.size = H) := ⟨_, rfl⟩
  rw [hH0.out] at hsz hne b0 b1 b2 ⊢
  clear hW1
  go_cut [11] (fun v wx => v = .bool true ∧ wx = W1)
  case first =>
    clear hH hfin Hne
    rcases hp with hp | ⟨rfl, ht⟩
    all_goals
      go_wp2
      go_meet
      case rel => first | exact ⟨rfl, rfl⟩ | exact ⟨by rw [ByteArray.toList_eq, ht]; rfl, rfl⟩
  case rest =>
  obtain ⟨rfl, rfl⟩ := hcut
  obtain ⟨W1, rfl⟩ : ∃ W1 : World, W1 = wc := ⟨_, rfl⟩
  clear hp
  have hBW := HB2.out
  go_wp2_with fail
  go_region_law (first
    | (refine step_append_lies _ rfl (.tmp 16) (.tmp 18) 22 rfl B 31 ip (.agg #[.int .u8 0, .int .i64 0, .string ⟨#[]⟩]) 3 32 Try.underlying22 Hp.out.1 Hp.out.2.1 Hp.out.2.2.1 Hp.out.2.2.2 rfl (by decide) (.slice tb P.length tc) P.length (D.cellsL P) rfl ?own _ 1 1 [.int .u8 pk, .int .i64 pn, .string pt] rfl rfl ?news (fun u hu => by simp at hu; rcases hu with rfl | rfl | rfl <;> rfl) (by decide) (by unfold maxLen; omega) (by omega) ?base _ rfl ?_
       case own => repeat (first | exact hH.out.2.1 | refine World.ownsRow.drew ?_ | refine World.ownsRow.alloc ?_ _)
       case news => exact D.news _ _ _
       case base => first | omega | (simp; omega)
       intro g cp w3 hO3 hg3 hat3 hlt3
       have hg4 : W1.grownBy w3 (Value.slice tb P.length tc).ownBlock := ⟨hg3.os, hg3.tape, hg3.output, Nat.le_trans (by first | omega | (simp; omega) | simp) hg3.size, fun k hk hne => (hg3.block k (by first | omega | (simp; omega)) hne).trans (Below.heap_alloc _ _ k hk)⟩
       have R := hfin.out (.slice (some ⟨g, 0, none⟩) (P.length + 1) cp) w3 (by rw [D.cellsL_append, List.length_append]; exact hO3) hg4 (by
         rcases hat3 with h | h
         · exact .inl h.symm
         · exact .inr ⟨g, rfl, by rw [h]; first | exact Nat.le_refl _ | (simp; omega) | simp⟩)
       have R := Lib.hid R
       have hbx : w3.heap[rb]? = some (.cells #[.bool first, .slice tb P.length tc] 62 (0, 0)) := (hg4.block rb hbl (fun e => Hne.out e.symm)).trans hH.out.1
       have c1 : w3.cell? ⟨rb, 1, none⟩ = some (.slice tb P.length tc) := Lib.cell_of_heap hbx 1
       have fz : w3.frozen? ⟨rb, 1, none⟩ = false := frozen_of_row _ _ _ _ _ hbx
       clear hO3 hg3 hg4 hat3 hlt3 hbx))
  all_goals
    go_wp2
    go_end0
    exact R.out
end Go.Proofs.Ytmljagkndnobdaa
/- TransAcc -/
namespace Go.Proofs.Ytmljagkndnobdaa
open Go.RowKit

theorem tadd_R (B rb : Nat) (first : Bool) (P : List D.P) (n : Nat) (W : World) (h : T.RS B rb first P W) (hP : P.length ≤ 1000000) :
    Calls Try.prog 66 #[.pointer (some ⟨rb, 0, none⟩), .agg #[.int .u8 1, .int .i64 n, .string ⟨#[]⟩]] W (T.AddEnd B rb first (P ++ (D.oR n).map D.raw) W) := by
  rcases Nat.eq_zero_or_pos n with rfl | hn
  · rw [D.oR_zero, List.map_nil, List.append_nil]
    exact add_skip B rb first P 1 W h
  · rw [D.oR_pos hn]
    exact add_put B rb first P (D.raw (.R n)) W h (.inl (show (0 : Int) < (n : Int) by omega)) hP
theorem tadd_I (B rb : Nat) (first : Bool) (P : List D.P) (t : List UInt8) (W : World) (h : T.RS B rb first P W) (hP : P.length ≤ 1000000) :
    Calls Try.prog 66 #[.pointer (some ⟨rb, 0, none⟩), .agg #[.int .u8 2, .int .i64 0, .string ⟨t.toArray⟩]] W (T.AddEnd B rb first (P ++ (D.oI t).map D.raw) W) := by
  by_cases ht : t = []
  · subst ht
    rw [D.oI_nil, List.map_nil, List.append_nil]
    exact add_skip B rb first P 2 W h
  · rw [D.oI_pos ht]
    exact add_put B rb first P (D.raw (.I t)) W h (.inr ⟨rfl, by show t.isEmpty = false; simpa using ht⟩) hP
set_option maxRecDepth 100000 in
set_option maxHeartbeats 2000000 in
theorem tinsert_any (B rb : Nat) (first : Bool) (P : List D.P) (s t : List UInt8) (W : World) (h : T.RS B rb first P W) (_ : s.length ≤ 1048576) (hP : P.length ≤ 900000) :
    Calls Try.prog 38 #[.pointer (some ⟨rb, 0, none⟩), .string ⟨s.toArray⟩, .string ⟨t.toArray⟩] W (T.AddEnd B rb first (P ++ (D.blkQ first s t).map D.raw) W) := by
  have hsz : (⟨s.toArray⟩ : ByteArray).size = s.length := D.size_l s
  obtain ⟨W2, hW2⟩ : ∃ W2, Hid (W2 = (W.alloc (.cells #[.int .u8 1, .int .i64 (s.length : Int), .string ⟨#[]⟩] 31)).alloc (.cells #[.int .u8 2, .int .i64 0, .string ⟨t.toArray⟩] 31)) := ⟨_, rfl⟩
  obtain ⟨H, hH⟩ : ∃ H, Hid (W.heap.size = H) := ⟨_, rfl⟩
  have hB2 : Below W.heap.size W W2 := by rw [hW2.out]; exact ((Below.refl _ _).alloc (Nat.le_refl _) _).alloc (by simp) _
  have b1 : W2.heap[H]? = some (.cells #[.int .u8 1, .int .i64 (s.length : Int), .string ⟨#[]⟩] 31 (0, 0)) := by
    rw [hW2.out, ← hH.out]
    exact (Below.heap_alloc _ _ _ (by simp)).trans (heap_alloc_new W _)
  have b2 : W2.heap[H + 1]? = some (.cells #[.int .u8 2, .int .i64 0, .string ⟨t.toArray⟩] 31 (0, 0)) := by
    rw [hW2.out]
    have h := heap_alloc_new (W.alloc (.cells #[.int .u8 1, .int .i64 (s.length : Int), .string ⟨#[]⟩] 31)) (.cells #[.int .u8 2, .int .i64 0, .string ⟨t.toArray⟩] 31)
    rw [World.size_alloc, hH.out] at h
    exact h
  obtain ⟨h2, ch2⟩ := h.below hB2
  have n1 : ¬ T.RR rb W2 H := fun hr => by
    have hn : ¬ T.RR rb W H := fun hr => by have := h.lt hr; have := hH.out; omega
    exact (h.on hB2.size (fun j hj _ => hB2.block j hj)).2 _ hn hr
  have n2 : ¬ T.RR rb W2 (H + 1) := fun hr => by
    have hn : ¬ T.RR rb W (H + 1) := fun hr => by have := h.lt hr; have := hH.out; omega
    exact (h.on hB2.size (fun j hj _ => hB2.block j hj)).2 _ hn hr
  have c0 : W2.cell? ⟨rb, 0, none⟩ = some (.bool first) := by obtain ⟨v, hb, _⟩ := h2; exact Lib.cell_of_heap hb 0
  obtain ⟨x0, x1, x2, xf⟩ := C.zero3 b1
  obtain ⟨y0, y1, y2, yf⟩ := C.zero3 b2
  have hP1 : ∀ n : Nat, (P ++ (D.oR n).map D.raw).length ≤ 1000000 := fun n => by have := D.oR_len n; rw [List.length_append, List.length_map]; omega
  have hP2 : ∀ t : List UInt8, (P ++ (D.oI t).map D.raw).length ≤ 1000000 := fun t => by have := D.oI_len t; rw [List.length_append, List.length_map]; omega
  cases first with
  | true =>
    have HA := Lib.hid (tadd_R B rb true P s.length W2 h2 (by omega))
    have HB : Hid (∀ V, T.RS B rb true (P ++ (D.oR s.length).map D.raw) V → Calls Try.prog 66 #[.pointer (some ⟨rb, 0, none⟩), .agg #[.int .u8 2, .int .i64 0, .string ⟨t.toArray⟩]] V (T.AddEnd B rb true (P ++ (D.blkQ true s t).map D.raw) V)) := fun V hv => by
      have := tadd_I B rb true _ t V hv (hP1 _)
      rw [List.append_assoc, ← List.map_append] at this
      exact this
    have HN := Lib.hid (And.intro n2 (And.intro ch2 b2))
    clear h h2 ch2 n1 n2 b1 b2 hB2 hP1 hP2
    go_enter Try.func38, Try.ntmps38
    go_upto_region 1 with (fail)
    rw [← hW2.out, hH.out]
    clear hW2
    go_wp2_with fail
    refine HA.out.mono ?_
    rintro e w1 ⟨rfl, hr1, hc1⟩
    have HB := Lib.hid (HB.out w1 hr1)
    have b3 := ((hc1.2 (H + 1) (Array.getElem?_eq_some_iff.1 HN.out.2.2).1 HN.out.1).1).trans HN.out.2.2
    obtain ⟨y0, y1, y2, yf⟩ := C.zero3 b3
    have HC := Lib.hid (HN.out.2.1.trans hc1)
    clear hr1 hc1 b3 x0 x1 x2 xf c0
    go_wp2_with fail
    refine HB.out.mono ?_
    rintro e w2 ⟨rfl, hr2, hc2⟩
    have R : Hid (T.AddEnd B rb true (P ++ (D.blkQ true s t).map D.raw) W (.returned (.tuple #[])) w2) := ⟨rfl, hr2, HC.out.trans hc2⟩
    clear hr2 hc2
    go_wp2
    go_end0
    exact R.out
  | false =>
    have HA := Lib.hid (tadd_I B rb false P t W2 h2 (by omega))
    have HB : Hid (∀ V, T.RS B rb false (P ++ (D.oI t).map D.raw) V → Calls Try.prog 66 #[.pointer (some ⟨rb, 0, none⟩), .agg #[.int .u8 1, .int .i64 (s.length : Int), .string ⟨#[]⟩]] V (T.AddEnd B rb false (P ++ (D.blkQ false s t).map D.raw) V)) := fun V hv => by
      have := tadd_R B rb false _ s.length V hv (hP2 _)
      rw [List.append_assoc, ← List.map_append] at this
      exact this
    have HN := Lib.hid (And.intro n1 (And.intro ch2 b1))
    clear h h2 ch2 n1 n2 b1 b2 hB2 hP1 hP2
    go_enter Try.func38, Try.ntmps38
    go_upto_region 1 with (fail)
    rw [← hW2.out, hH.out]
    clear hW2
    go_wp2_with fail
    refine HA.out.mono ?_
    rintro e w1 ⟨rfl, hr1, hc1⟩
    have HB := Lib.hid (HB.out w1 hr1)
    have b3 := ((hc1.2 H (Array.getElem?_eq_some_iff.1 HN.out.2.2).1 HN.out.1).1).trans HN.out.2.2
    obtain ⟨x0, x1, x2, xf⟩ := C.zero3 b3
    have HC := Lib.hid (HN.out.2.1.trans hc1)
    clear hr1 hc1 b3 y0 y1 y2 yf c0
    go_wp2_with fail
    refine HB.out.mono ?_
    rintro e w2 ⟨rfl, hr2, hc2⟩
    have R : Hid (T.AddEnd B rb false (P ++ (D.blkQ false s t).map D.raw) W (.returned (.tuple #[])) w2) := ⟨rfl, hr2, HC.out.trans hc2⟩
    clear hr2 hc2
    go_wp2
    go_end0
    exact R.out
set_option maxRecDepth 100000 in
set_option maxHeartbeats 1000000 in
theorem tcover_any (B rb : Nat) (first : Bool) (P : List D.P) (x y : Bool) (n : Nat) (W : World) (h : T.RS B rb first P W) (hn : 0 < n) (hP : P.length ≤ 900000) :
    Calls Try.prog 39 #[.pointer (some ⟨rb, 0, none⟩), .int .u8 (T.kd x), .int .u8 (T.kd y), .int .i64 n] W (T.AddEnd B rb first (P ++ (D.evQ first (.C x y n)).map D.raw) W) := by
  cases x with
  | false =>
    have R : Hid (T.AddEnd B rb first (P ++ (D.evQ first (.C false y n)).map D.raw) W (.returned (.tuple #[])) W) := by
      obtain ⟨h1, h2⟩ := h.below (Below.refl _ W)
      show T.AddEnd _ _ _ (P ++ []) _ _ _
      rw [List.append_nil]
      exact ⟨rfl, h1, h2⟩
    clear h
    generalize T.kd y = ky
    unfold T.kd
    go_enter Try.func39, Try.ntmps39
    go_wp2
    go_end0
    exact R.out
  | true =>
    have HA : Hid (Calls Try.prog 66 #[.pointer (some ⟨rb, 0, none⟩), .agg #[.int .u8 (T.kd y), .int .i64 n, .string ⟨#[]⟩]] W (T.AddEnd B rb first (P ++ (D.evQ first (.C true y n)).map D.raw) W)) := by
      have := add_put B rb first P ⟨T.kd y, n, ⟨#[]⟩⟩ W h (.inl (show (0 : Int) < (n : Int) by omega)) (by omega)
      cases y <;> exact this
    clear h
    generalize T.kd y = ky at HA ⊢
    unfold T.kd
    go_enter Try.func39, Try.ntmps39
    go_wp2_with fail
    refine HA.out.mono ?_
    rintro e w1 ⟨rfl, hr⟩
    have R : Hid (T.AddEnd B rb first (P ++ (D.evQ first (.C true y n)).map D.raw) W (.returned (.tuple #[])) w1) := ⟨rfl, hr⟩
    clear hr
    go_wp2
    go_end0
    exact R.out
def T.F (first : Bool) (E : List D.Ev) (k : Nat) : List D.P := ((E.take k).flatMap (D.evQ first)).map D.raw
theorem T.F_next (first : Bool) (E : List D.Ev) (k : Nat) (e : D.Ev) (h : E[k]? = some e) : T.F first E (k + 1) = T.F first E k ++ (D.evQ first e).map D.raw := by
  unfold T.F
  rw [List.take_add_one, h, Option.toList_some, List.flatMap_append, List.map_append]; simp
theorem T.F_len (first : Bool) (E : List D.Ev) (k : Nat) : (T.F first E k).length ≤ 2 * E.length := by
  unfold T.F
  have := D.evs_lenQ first (E.take k)
  rw [List.length_map]
  rw [List.length_take] at this
  omega
theorem T.enters_insert : A.Enters 38 := enters_of Try.func38 (by kernel_rfl) rfl
theorem T.enters_cover : A.Enters 39 := enters_of Try.func39 (by kernel_rfl) rfl
theorem T.acc_result (w0 : World) (rb : Nat) (first : Bool) (E : List D.Ev) (hok : ∀ e ∈ E, D.evOk e) (hE : E.length ≤ 100000) :
    T.Acc w0 E 38 39 #[.pointer (some ⟨rb, 0, none⟩)] #[] #[.pointer (some ⟨rb, 0, none⟩)] #[] (fun k W => T.RS w0.heap.size rb first (T.F first E k) W) (T.RR rb) where
  on := fun k W W' h hs hk => h.on hs hk
  lt := fun k W j h hr => h.lt hr
  ei := T.enters_insert
  ec := T.enters_cover
  stepT := fun k s t W he h => by
    have hb := hok _ (List.mem_of_getElem? he)
    have hl := T.F_len first E k
    have := tinsert_any w0.heap.size rb first _ s t W h hb.1 (by omega)
    rw [show (D.blkQ first s t) = D.evQ first (.T s t) from rfl, ← T.F_next first E k _ he] at this
    exact this
  stepC := fun k x y n W he h => by
    have hb := hok _ (List.mem_of_getElem? he)
    have hl := T.F_len first E k
    have := tcover_any w0.heap.size rb first _ x y n W h hb.1 (by omega)
    rw [← T.F_next first E k _ he] at this
    exact this
end Go.Proofs.Ytmljagkndnobdaa
/- TransDo -/
namespace Go.Proofs.Ytmljagkndnobdaa
open Go.RowKit

/-! ### The parts of a long row of pieces -/
theorem D.chkF_ne2 : ∀ (l : List D.P) (i o : Int), (∀ p ∈ l, D.vP p = true) → D.chkF i o l ≠ 2 := by
  intro l
  induction l with
  | nil => intro i o _ h; exact absurd (show (0 : Int) = 2 from h) (by decide)
  | cons p r ih =>
    intro i o hv
    have h1 : ¬ D.vP p = false := by rw [hv p List.mem_cons_self]; simp
    unfold D.chkF
    rw [if_neg h1]
    split
    · decide
    · split
      · decide
      · exact ih _ _ (fun q hq => hv q (List.mem_cons_of_mem _ hq))
theorem D.chk_pos7 {a : List D.Q} (pa : D.allPos a = true) : D.chk (a.map D.raw) = 0 ∨ D.chk (a.map D.raw) = 5 := by
  unfold D.chk
  split
  · exact .inr rfl
  · have hv : ∀ p ∈ a.map D.raw, D.vP p = true := fun p hp => by
      obtain ⟨q, hq, rfl⟩ := List.mem_map.1 hp
      unfold D.allPos at pa
      exact D.vP_raw (List.all_eq_true.1 pa q hq)
    have hn := D.chkF_ne2 _ 0 0 hv
    have hc := D.chk_cases (a.map D.raw)
    unfold D.chk at hc
    rename_i hl
    rw [if_neg hl] at hc
    rcases hc with h | h | h
    · exact .inl h
    · exact absurd h hn
    · exact .inr h
theorem D.chkAll_two (L : List D.Src) (h : ∀ s ∈ L, D.chk s.x = 0 ∨ D.chk s.x = 5) : D.chkAll L = 0 ∨ D.chkAll L = 5 := by
  induction L with
  | nil => exact .inl rfl
  | cons s r ih =>
    rw [D.chkAll]
    rcases h s List.mem_cons_self with h1 | h1
    · rw [if_pos h1]; exact ih (fun t ht => h t (List.mem_cons_of_mem _ ht))
    · rw [h1, if_neg (by decide)]; exact .inr rfl
theorem D.allPos_sub {a : List D.Q} (pa : D.allPos a = true) (m n : Nat) : D.allPos ((a.drop m).take n) = true := by
  unfold D.allPos at pa ⊢
  rw [List.all_eq_true] at pa ⊢
  exact fun q hq => pa q (List.mem_of_mem_drop (List.mem_of_mem_take hq))
theorem T.join_parts {a : List D.Q} {L : List D.P} (hL : L = a.map D.raw) (pa : D.allPos a = true) (b o : Nat) : D.joinE (C.parts b o L (C.num L)) = (if D.chk ((D.nf a).map D.raw) = 0 then 0 else 5) ∧ D.joinP (C.parts b o L (C.num L)) = if D.chk ((D.nf a).map D.raw) = 0 then (D.nf a).map D.raw else [] := by
  by_cases hb : D.inL a ≤ 1048576 ∧ D.outL a ≤ 1048576
  · exact C.join_parts hL pa hb.1 hb.2 b o
  · have hx : D.chk ((D.nf a).map D.raw) ≠ 0 := fun h => by
      have := D.valid_qs h
      rw [D.qs_raw, D.inL_nf, D.outL_nf] at this
      exact hb ⟨this.2.2.2.2.1, this.2.2.2.2.2⟩
    have hc : D.chkAll (C.parts b o L (C.num L)) = 0 ∨ D.chkAll (C.parts b o L (C.num L)) = 5 := D.chkAll_two _ fun s hs => by
      obtain ⟨k, _, rfl⟩ := List.mem_map.1 hs
      have e : (C.part b o L k).x = ((a.drop (4096 * k)).take 4096).map D.raw := by rw [hL]; unfold C.part; simp
      rw [e]
      exact D.chk_pos7 (D.allPos_sub pa _ _)
    have e : D.normP (D.flat (C.parts b o L (C.num L))) = (D.nf a).map D.raw := by rw [C.flat_parts, hL, D.normP_raw]
    have e1 : D.joinE (C.parts b o L (C.num L)) = 5 := by
      unfold D.joinE
      rcases hc with h | h
      · rw [if_pos h, e, if_neg hx]
      · rw [h, if_neg (by decide)]
    rw [if_neg hx, if_neg hx]
    exact ⟨e1, by unfold D.joinP; rw [e1]; rfl⟩
theorem T.rows_of {W : World} {base b o : Nat} {v : Value} {L : List D.P} (ht : ∀ p ∈ L, p.t.size ≤ 140737488351232) (_ : L.length ≤ 1000000) (hr : D.Row W (some ⟨b, o, none⟩) L)
    (h : W.ownsRow base 22 1 v (C.parts b o L (C.num L)).length ((C.parts b o L (C.num L)).map D.srcV)) :
    ∃ lo c, v = .slice lo (C.parts b o L (C.num L)).length c ∧ D.Rows W lo (C.parts b o L (C.num L)) := by
  have hok : ∀ s ∈ C.parts b o L (C.num L), D.SrcOk W s := fun s hs => by
    obtain ⟨k, _, rfl⟩ := List.mem_map.1 hs
    refine ⟨C.part_row hr k, ?_, fun p hp => ht p ?_, fun e => by cases e⟩
    · rw [C.part_len]; unfold maxLen; omega
    · exact List.mem_of_mem_drop (List.mem_of_mem_take (show p ∈ (L.drop (4096 * k)).take 4096 from hp))
  generalize C.parts b o L (C.num L) = X at h hok
  obtain ⟨hl, ⟨rfl, h0⟩ | ⟨g, cap, cur, rfl, hb, hg, hnc, hcm, hcs, ht⟩⟩ := h
  · exact ⟨none, 0, by rw [h0], fun i s hs => by have := (List.getElem?_eq_some_iff.1 hs).1; omega⟩
  · have hlt := (Array.getElem?_eq_some_iff.1 hg).1
    refine ⟨some ⟨g, 0, none⟩, cap, rfl, fun i s hs => ⟨g, 0, rfl, hlt, ?_, hok s (List.mem_of_getElem? hs)⟩⟩
    have hi := (List.getElem?_eq_some_iff.1 hs).1
    have hu : (X.map D.srcV)[i]? = some (D.srcV s) := by rw [List.getElem?_map, hs]; rfl
    rw [← ht, List.getElem?_take, if_pos (by omega)] at hu
    rw [cell_of_row W g _ cur _ _ hg, Nat.zero_add]
    simpa [D.srcV] using hu
theorem T.ps_rows {W : World} {base : Nat} {xo : Option Addr} {v : Value} {P : List D.P} {X : List D.Q} (hP : P = X.map D.raw) (pa : D.allPos X = true) (ht : ∀ p ∈ P, p.t.size ≤ 140737488351232) (hl : P.length ≤ 400000) (hr : D.Row W xo P) (hao : (∃ b o, xo = some ⟨b, o, none⟩) ∨ (xo = none ∧ P = []))
    (h : W.ownsRow base 22 1 v (C.ps xo P).length ((C.ps xo P).map D.srcV)) :
    ∃ lo c, v = .slice lo (C.ps xo P).length c ∧ D.Rows W lo (C.ps xo P) ∧ (C.ps xo P).length ≤ 200 ∧ D.joinE (C.ps xo P) = (if D.chk ((D.nf X).map D.raw) = 0 then 0 else 5) ∧ D.joinP (C.ps xo P) = if D.chk ((D.nf X).map D.raw) = 0 then (D.nf X).map D.raw else [] := by
  rcases hao with ⟨b, o, rfl⟩ | ⟨rfl, rfl⟩
  · obtain ⟨lo, c, hv, hrows⟩ := T.rows_of ht (by omega) hr h
    obtain ⟨j1, j2⟩ := T.join_parts hP pa b o
    refine ⟨lo, c, hv, hrows, ?_, j1, j2⟩
    show (C.parts b o P (C.num P)).length ≤ 200
    unfold C.parts C.num
    rw [List.length_map, List.length_range]; omega
  · have hX : X = [] := List.map_eq_nil_iff.1 hP.symm
    subst hX
    obtain ⟨lo, c, hv⟩ := D.slice_of_own h
    exact ⟨lo, c, hv, fun i s hs => by simp [C.ps] at hs, by simp [C.ps], rfl, rfl⟩

/-! ### walkOver -/
def T.WalkEnd (x y : List D.P) (w : World) (e : Ending) (w' : World) : Prop :=
  ∃ w0 va vb, e = .returned (.tuple #[.pointer (some ⟨w0.heap.size, 0, none⟩), .int .i64 0]) ∧ w0.alloc (.cells #[va, vb, .nilFunc, .nilFunc] 66) = w' ∧ T.Sl w0 va (D.nf (D.qs x)) ∧ T.Sl w0 vb (D.nf (D.qs y)) ∧ Below w.heap.size w w0
theorem T.sl_of {l : List D.Q} {w : World} {v : Value} {w' V : World} (h : D.Made (l.map D.raw) w v w') (hb : Below w'.heap.size w' V) : T.Sl V v l := by
  obtain ⟨ao, c, hv, hr, hc, _⟩ := C.made_src h
  rw [List.length_map] at hv hc
  exact ⟨ao, c, hv, hr.below hb, hc⟩
set_option maxRecDepth 100000 in
set_option maxHeartbeats 1000000 in
theorem walkOver_ok (ao bo : Option Addr) (ca cb : Nat) (x y : List D.P) (w : World) (ha : D.Row w ao x) (hb : D.Row w bo y) (b : D.Bas x y) :
    Calls Try.prog 37 #[.slice ao x.length ca, .slice bo y.length cb] w (T.WalkEnd x y w) := by
  have bx := D.bd_of b.a
  have by_ := D.bd_of b.b
  have H1 := Lib.hid (lengths_any ao ca x w bx.1 ha bx.2)
  have H2 : Hid (∀ V, Below w.heap.size w V → Calls Try.prog 29 #[.slice bo y.length cb] V (D.LenEnd y V)) := fun V h => lengths_any bo cb y V by_.1 (hb.below h) by_.2
  have H3 : Hid (∀ V, Below w.heap.size w V → Calls Try.prog 30 #[.slice ao x.length ca] V fun e w' => ∃ v, e = .returned (.tuple #[v, .int .i64 0]) ∧ D.Made (D.normP x) V v w') := fun V h => by
    have := normalize_any ao ca x V bx.1 (ha.below h) bx.2
    unfold D.NormEnd at this
    rwa [b.a, if_pos rfl] at this
  have H4 : Hid (∀ V, Below w.heap.size w V → Calls Try.prog 30 #[.slice bo y.length cb] V fun e w' => ∃ v, e = .returned (.tuple #[v, .int .i64 0]) ∧ D.Made (D.normP y) V v w') := fun V h => by
    have := normalize_any bo cb y V by_.1 (hb.below h) by_.2
    unfold D.NormEnd at this
    rwa [b.b, if_pos rfl] at this
  unfold D.LenEnd D.lenI D.lenO at H1 H2
  rw [b.a, if_pos rfl, if_pos rfl, D.inP_qs b.a] at H1
  rw [b.b, if_pos rfl, if_pos rfl, D.inP_qs b.b, ← b.m] at H2
  have q : (((D.inL (D.qs x) : Nat) : Int) != (D.inL (D.qs x) : Int)) = false := by simp
  clear ha hb b bx by_
  generalize ((D.inL (D.qs x) : Nat) : Int) = p1 at H1 H2 q
  generalize D.outP x = p3 at H1
  generalize D.outP y = p4 at H2
  go_enter Try.func37, Try.ntmps37
  go_wp2_with fail
  refine H1.out.mono ?_
  rintro e w1 ⟨rfl, hb1⟩
  have H2 := Lib.hid (H2.out w1 hb1)
  have hb1 := Lib.hid hb1
  go_wp2_with fail
  refine H2.out.mono ?_
  rintro e w2 ⟨rfl, hb2⟩
  have hb2 := Lib.hid (hb1.out.trans (hb2.mono hb1.out.size))
  have H3 := Lib.hid (H3.out w2 hb2.out)
  clear H1 H2
  go_wp2_with fail
  refine H3.out.mono ?_
  rintro e w3 ⟨va, rfl, hm3⟩
  have hb3 := Lib.hid (hb2.out.trans (hm3.below.mono hb2.out.size))
  have H4 := Lib.hid (H4.out w3 hb3.out)
  obtain ⟨o1, c1, hv, _⟩ := C.made_src hm3
  have hm3 := Lib.hid hm3
  subst hv
  clear H3
  generalize (D.normP x).length = n1 at hm3 ⊢
  go_wp2_with fail
  refine H4.out.mono ?_
  rintro e w4 ⟨vb, rfl, hm4⟩
  have hb4 := Lib.hid (hb3.out.trans (hm4.below.mono hb3.out.size))
  obtain ⟨o2, c2, hv, _⟩ := C.made_src hm4
  have R := Lib.hid (And.intro (T.sl_of (l := D.nf (D.qs x)) hm3.out hm4.below) (And.intro (T.sl_of (l := D.nf (D.qs y)) hm4 (Below.refl _ _)) hb4.out))
  subst hv
  clear H4 hm3 hm4
  generalize (D.normP y).length = n2 at R ⊢
  go_wp2
  go_ret2
  exact ⟨_, _, _, rfl, rfl, R.out⟩
set_option maxRecDepth 100000 in
set_option maxHeartbeats 1000000 in
theorem walkOver_bad (ao bo : Option Addr) (ca cb : Nat) (x y : List D.P) (w : World) (ha : D.Row w ao x) (hb : D.Row w bo y) (bx : D.Bd x) (by_ : D.Bd y) (hbad : D.bas2 x y ≠ 0) :
    Calls Try.prog 37 #[.slice ao x.length ca, .slice bo y.length cb] w fun e w' => e = .returned (.tuple #[.pointer none, .int .i64 (D.bas2 x y)]) ∧ Below w.heap.size w w' := by
  have H1 := Lib.hid (lengths_any ao ca x w bx.1 ha bx.2)
  have H2 : Hid (∀ V, Below w.heap.size w V → Calls Try.prog 29 #[.slice bo y.length cb] V (D.LenEnd y V)) := fun V h => lengths_any bo cb y V by_.1 (hb.below h) by_.2
  unfold D.LenEnd at H1 H2
  clear ha hb bx by_
  by_cases h0 : D.chk x = 0
  · rw [h0] at H1
    by_cases h1 : D.chk y = 0
    · rw [h1] at H2
      have e1 : D.lenI x = D.inP x := if_pos h0
      have e2 : D.lenI y = D.inP y := if_pos h1
      rw [e1] at H1
      rw [e2] at H2
      have h2 : ¬ D.inP x = D.inP y := fun h => hbad (by unfold D.bas2; rw [if_pos h0, if_pos h1, if_pos h])
      have hf : D.bas2 x y = 21 := by unfold D.bas2; rw [if_pos h0, if_pos h1, if_neg h2]
      have q : (D.inP x != D.inP y) = true := by simp [h2]
      rw [hf]
      clear h0 h1 h2 e1 e2 hf hbad
      generalize D.inP x = p1 at H1 q
      generalize D.inP y = p2 at H2 q
      generalize D.lenO x = p3 at H1
      generalize D.lenO y = p4 at H2
      go_enter Try.func37, Try.ntmps37
      go_wp2_with fail
      refine H1.out.mono ?_
      rintro e w1 ⟨rfl, hb1⟩
      have H2 := Lib.hid (H2.out w1 hb1)
      have hb1 := Lib.hid hb1
      go_wp2_with fail
      refine H2.out.mono ?_
      rintro e w2 ⟨rfl, hb2⟩
      have R := Lib.hid (hb1.out.trans (hb2.mono hb1.out.size))
      clear hb2
      go_wp2
      go_ret2
      exact ⟨rfl, R.out⟩
    · have hf : D.bas2 x y = D.chk y := by unfold D.bas2; rw [if_pos h0, if_neg h1]
      have q : (D.chk y != 0) = true := by simpa using h1
      rw [hf]
      clear h0 h1 hf hbad
      generalize D.chk y = c at H2 q ⊢
      generalize D.lenI x = p1 at H1
      generalize D.lenI y = p2 at H2
      generalize D.lenO x = p3 at H1
      generalize D.lenO y = p4 at H2
      go_enter Try.func37, Try.ntmps37
      go_wp2_with fail
      refine H1.out.mono ?_
      rintro e w1 ⟨rfl, hb1⟩
      have H2 := Lib.hid (H2.out w1 hb1)
      have hb1 := Lib.hid hb1
      go_wp2_with fail
      refine H2.out.mono ?_
      rintro e w2 ⟨rfl, hb2⟩
      have R := Lib.hid (hb1.out.trans (hb2.mono hb1.out.size))
      clear hb2
      go_wp2
      go_ret2
      exact ⟨rfl, R.out⟩
  · have hf : D.bas2 x y = D.chk x := by unfold D.bas2; rw [if_neg h0]
    have q : (D.chk x != 0) = true := by simpa using h0
    rw [hf]
    clear h0 hf hbad H2
    generalize D.chk x = c at H1 q ⊢
    generalize D.lenI x = p1 at H1
    generalize D.lenO x = p3 at H1
    go_enter Try.func37, Try.ntmps37
    go_wp2_with fail
    refine H1.out.mono ?_
    rintro e w1 ⟨rfl, hb1⟩
    have R := Lib.hid hb1
    clear hb1
    go_wp2
    go_ret2
    exact ⟨rfl, R.out⟩
end Go.Proofs.Ytmljagkndnobdaa
