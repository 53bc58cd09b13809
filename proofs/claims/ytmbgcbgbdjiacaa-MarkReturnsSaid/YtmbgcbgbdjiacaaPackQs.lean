/- Texts joined: ShiftAsk ShiftQs ShiftQs2 -/
import Derived.Test.YtmbgcbgbdjiacaaShiftPieces
import Derived.Deep.QuietTactic
import Derived.BigQuiet
import Derived.BigRegion
import Derived.Deep.RegionLaw
/- ShiftAsk -/
namespace Go.Proofs.Ytmbgcbgbdjiacaa
open Go.RowKit Go.Shelf
attribute [local go_sem] Oper.semAt_some

theorem pieces_seq (Bd : Nat) (ao : Option Addr) (cap : Nat) (a : List D.Q) (R : Nat → Prop) (w : World)
    (hc : w.cell? ⟨Bd, 0, none⟩ = some (.slice ao a.length cap)) (hr : D.Row w ao (a.map D.raw)) (hRr : ∀ b o, ao = some ⟨b, o, none⟩ → a.map D.raw ≠ [] → ¬ R b) (hR : ∀ k, R k → k < w.heap.size) (hp : D.allPos a = true) (hi : D.inL a ≤ 1048576) (ho : D.outL a ≤ 1048576) (hl : a.length ≤ 4096) :
    It.Seq Try.prog 95 #[.pointer (some ⟨Bd, 0, none⟩)] S.encs R (D.spans 0 0 a) w := fun l J Jx Rx W _ hW hJ _ hY h0 =>
  pieces1 l Bd ao cap a R J Jx Rx W hJ ((hW.cell (p := ⟨Bd, 0, none⟩) (S.lt_of_cell hc)).trans hc) (hr.below hW) hRr (fun k h => Nat.lt_of_lt_of_le (hR k h) hW.size) hp hi ho hl hY h0
/-- The two ranges of a round, each in a box of its own. -/
def S.Two (x : D.S4) (u v : Nat) (W : World) : Prop := S.Box W u x.a x.b ∧ S.Box W v x.c x.d
theorem S.Two.put {x : D.S4} {u v : Nat} {W : World} (h : S.Two x u v W) {l : Nat} {o : Obj} (o' : Obj) (hl : W.heap[l]? = some o) (hn : o.isCells = false) : S.Two x u v (W.putObj l o') := by
  have key : ∀ b p q, S.Box W b p q → S.Box (W.putObj l o') b p q := fun b p q hb => by
    refine (World.putObj_heap_other (fun e => ?_)).trans hb
    subst e
    rw [show W.heap[b]? = _ from hb] at hl; cases hl; cases hn
  exact ⟨key _ _ _ h.1, key _ _ _ h.2⟩
/-- Where the asking stands: nobody has answered yet (b is false), or the last one has. -/
def S.At {σ : Type} (st : σ → D.S4 → σ × Bool) (Pq : σ → World → Prop) (s0 : σ) (b : Bool) (pre : List D.S4) (V : World) : Prop := ∃ s, D.asks st (s0, false) pre = (s, b) ∧ Pq s V
theorem S.At.stable {σ : Type} {st : σ → D.S4 → σ × Bool} {Pq : σ → World → Prop} {s0 : σ} {b : Bool} {B : Nat} (h : It.Stable B Pq) : It.Stable B (S.At st Pq s0 b) := fun _ A C row ⟨s, e, hs⟩ hg hr => ⟨s, e, h s A C row hs hg hr⟩
set_option maxRecDepth 100000 in
set_option maxHeartbeats 2000000 in
theorem ask_any {σ : Type} (gf gq q : Nat) (lb : Array Value) (heg : ∀ args w, (callFunc gf args).run Try.prog w = .ok (.enter gf args) w) (hegq : ∀ args w, (callFunc gq args).run Try.prog w = .ok (.enter gq args) w)
    (L : List D.S4) (st : σ → D.S4 → σ × Bool) (Pq : σ → World → Prop) (s0 : σ) (w w0 : World) (hb0 : Below w0.heap.size w0 w) (hseq : It.Seq Try.prog gf lb S.encs (fun k => k = q) L w0) (hq : q < w.heap.size) (hP : It.Stable w.heap.size Pq)
    (hQ : ∀ s x V, x ∈ L → Pq s V → Calls Try.prog gq #[.pointer (some ⟨q, 0, none⟩), .agg #[.int .i64 x.a, .int .i64 x.b], .agg #[.int .i64 x.c, .int .i64 x.d]] V fun e V' => e = .returned (.bool (st s x).2) ∧ Pq (st s x).1 V' ∧ V.grownBy V' (some q)) (h0 : Pq s0 w) :
    Calls Try.prog 92 #[.func (.func gf) #[] lb, .func (.func gq) #[.pointer (some ⟨q, 0, none⟩)] #[]] w fun e W' => (∃ v, e = .returned v) ∧ Pq (D.asks st (s0, false) L).1 W' ∧ Below q w W' := by
  refine (callsIn_wide (n := 3)).1 (callsIn_of_wp_marks Try.func92 rfl trivial ?_ rfl)
  simp only [Try.ntmps92, List.size_toArray, List.length_cons, List.length_nil, Nat.reduceAdd, Nat.reduceSub, Array.replicate_succ, Array.replicate_zero, List.push_toArray, List.append_toArray, List.nil_append, List.cons_append]
  have HP := Lib.hid hP
  have HQ := Lib.hid hQ
  have HS := Lib.hid hseq
  have HE := Lib.hid heg
  clear hP hQ hseq heg
  gi_wp2
  have hyb := World.alloc_heap_new w (.cells #[.func (.func gq) #[.pointer (some ⟨q, 0, none⟩)] #[]] 130)
  refine It.range (n := 3) (by omega) (gf := gf) (lb := lb) (encs := S.encs) (R := fun k => k = q) (L := L) (w0 := w0) rfl HE.out HS.out (fun k => k = q) (fun k h => h) (fun k h => by subst h; simp; omega) (hb0.trans (((Below.refl _ w).alloc (Nat.le_refl _) _).mono hb0.size)) (fun _ => rfl)
    (fun pre V => (S.At st Pq s0 false pre V ∧ V.heap[w.heap.size]? = some (.cells #[.func (.func gq) #[.pointer (some ⟨q, 0, none⟩)] #[]] 130 (0, 0))) ∧ Below q w V)
    (fun c pre V => (c = .ret ∧ S.At st Pq s0 true pre V) ∧ Below q w V)
    (It.Stable.and (It.Stable.and (S.At.stable (HP.out.mono (by simp))) (It.stable_block (fun _ => .cells #[.func (.func gq) #[.pointer (some ⟨q, 0, none⟩)] #[]] 130 (0, 0)) (by simp))) (It.stable_below (by omega) (by simp; omega)))
    (fun c => It.Stable.and (It.Stable.and (It.stable_pure _ (fun _ => c = .ret)) (S.At.stable (HP.out.mono (by simp)))) (It.stable_below (by omega) (by simp; omega)))
    ⟨⟨⟨s0, rfl, HP.out.alloc _ h0⟩, hyb⟩, ((Below.refl _ w).alloc (by omega) _)⟩
    (fun x a' V => ∃ u v, S.Two x u v V ∧ a' = { tmps := #[.func (.func gf) #[] lb, .func (.func gq) #[.pointer (some ⟨q, 0, none⟩)] #[], undef, .pointer (some ⟨w.heap.size, 0, none⟩), .pointer (some ⟨u, 0, none⟩), .pointer (some ⟨v, 0, none⟩), .func (.func gf) #[] lb, .agg #[.int .i64 x.a, .int .i64 x.b], .agg #[.int .i64 x.c, .int .i64 x.d], undef, undef, undef, undef], defers := [] })
    (fun x a' V k o o' _ hk hn ⟨u, v, ht, he⟩ => ⟨u, v, ht.put o' hk hn, he⟩) ?assign ?body ?done ?stop
  case assign =>
    rintro k pre x V K ⟨⟨hi1, hi2⟩, hi3⟩ hK
    have hK := Lib.hid hK
    have hi1 := Lib.hid hi1
    simp only [S.encs]
    gi_wp2
    have n1 : S.Box ((V.alloc (.cells #[.int .i64 x.a, .int .i64 x.b] 132)).alloc (.cells #[.int .i64 x.c, .int .i64 x.d] 132)) V.heap.size x.a x.b := (S.Box.alloc (World.alloc_heap_new V _) _)
    have n2 : S.Box ((V.alloc (.cells #[.int .i64 x.a, .int .i64 x.b] 132)).alloc (.cells #[.int .i64 x.c, .int .i64 x.d] 132)) (V.heap.size + 1) x.c x.d := by
      have := World.alloc_heap_new (V.alloc (.cells #[.int .i64 x.a, .int .i64 x.b] 132)) (.cells #[.int .i64 x.c, .int .i64 x.d] 132)
      rwa [World.size_alloc] at this
    have hs : w.heap.size < V.heap.size := (Array.getElem?_eq_some_iff.1 hi2).1
    exact hK.out _ _ (((It.But.refl _ V).alloc _).alloc _) ⟨⟨(S.At.stable HP.out).alloc _ ((S.At.stable HP.out).alloc _ hi1.out), (Below.heap_alloc _ _ _ (by simp; omega)).trans ((Below.heap_alloc _ _ _ hs).trans hi2)⟩, (hi3.alloc (by omega) _).alloc (by simp; omega) _⟩ ⟨_, _, ⟨n1, n2⟩, rfl⟩
  case body =>
    rintro k pre x t a' V hx ⟨⟨⟨s, hs, hps⟩, hi2⟩, hi3⟩ ⟨u, v, ⟨b1, b2⟩, rfl⟩
    obtain ⟨p0, p1, pf⟩ := b1.cells
    obtain ⟨q0, q1, qf⟩ := b2.cells
    have hyc : V.cell? ⟨w.heap.size, 0, none⟩ = some (.func (.func gq) #[.pointer (some ⟨q, 0, none⟩)] #[]) := Lib.cell_of_heap hi2 0
    have HC := Lib.hid (HQ.out s x V (by rw [hx]; simp) hps)
    have Hi := Lib.hid (And.intro hi2 hi3)
    have hs2 := Lib.hid (D.asks_snoc st s0 s pre x hs)
    obtain ⟨s', hs'⟩ : ∃ s', Hid ((st s x).1 = s') := ⟨_, rfl⟩
    rw [show st s x = (s', (st s x).2) by rw [← hs'.out]] at hs2
    rw [hs'.out] at HC
    clear hps hi2 hi3 b1 b2 hx hs
    cases hb : (st s x).2 with
    | false =>
      rw [hb] at HC hs2
      clear hb
      gi_wp2
      refine ⟨trivial, (CallsIn.inRound k (callsIn_wide.2 HC.out)).mono ?_⟩
      rintro e V' ⟨rfl, hp3, hg⟩
      have hne : w.heap.size ≠ q := by omega
      have YS := Lib.hid (And.intro (It.But.grown (R := fun k => k = q) hg (fun r e => by cases e; rfl)) (And.intro hp3 (And.intro ((It.But.grown (R := fun k => k = q) hg (fun r e => by cases e; rfl)).same _ _ hne Hi.out.1) (Hi.out.2.grown hg (Nat.le_trans (Nat.le_of_lt hq) Hi.out.2.size) (fun r e => by cases e; exact Nat.le_refl _)))))
      clear hp3 hg p0 p1 pf q0 q1 qf hyc
      gi_wp2
      exact ⟨YS.out.1, ⟨⟨s', hs2.out, YS.out.2.1⟩, YS.out.2.2.1⟩, YS.out.2.2.2⟩
    | true =>
      rw [hb] at HC hs2
      clear hb
      gi_wp2
      refine ⟨trivial, (CallsIn.inRound k (callsIn_wide.2 HC.out)).mono ?_⟩
      rintro e V' ⟨rfl, hp3, hg⟩
      have YS := Lib.hid (And.intro (It.But.grown (R := fun k => k = q) hg (fun r e => by cases e; rfl)) (And.intro hp3 (Hi.out.2.grown hg (Nat.le_trans (Nat.le_of_lt hq) Hi.out.2.size) (fun r e => by cases e; exact Nat.le_refl _))))
      clear hp3 hg p0 p1 pf q0 q1 qf hyc
      gi_wp2
      exact ⟨YS.out.1, ⟨rfl, ⟨s', hs2.out, YS.out.2.1⟩⟩, YS.out.2.2⟩
  case done =>
    rintro E0 V hD ⟨⟨⟨s, hs, hps⟩, hi2⟩, hi3⟩ hK
    have R1 := Lib.hid (And.intro (HP.out.putObj (.deferred none) hps (show w.heap.size ≤ E0 by simp at hD; omega)) (hi3.trans (belowK_b (w := w) (Nat.le_of_lt hq) V E0 _ (.deferred none) (by simp at hD; omega) hK rfl rfl)))
    have e1 : Hid ((D.asks st (s0, false) L).1 = s) := by show _ = _; rw [hs]
    clear hps hi2 hi3 hs
    gi_wp2
    refine ⟨by simp, .inl ⟨_, _, rfl, run_takeDeferred hK, ?_⟩⟩
    exact ⟨_, results_none rfl _ _ _, ⟨_, rfl⟩, by rw [e1.out]; exact R1.out.1, R1.out.2⟩
  case stop =>
    rintro E0 c pre V hD hpre ⟨⟨rfl, ⟨s, hs, hps⟩⟩, hi3⟩ hK
    have R1 := Lib.hid (And.intro (HP.out.putObj (.deferred none) hps (show w.heap.size ≤ E0 by simp at hD; omega)) (hi3.trans (belowK_b (w := w) (Nat.le_of_lt hq) V E0 _ (.deferred none) (by simp at hD; omega) hK rfl rfl)))
    have e1 : Hid ((D.asks st (s0, false) L).1 = s) := by
      obtain ⟨t, rfl⟩ := hpre
      show _ = _; rw [D.asks_ended st s0 s pre t hs]
    clear hps hi3 hs hpre
    gi_wp2
    refine ⟨by simp, .inl ⟨_, _, rfl, run_takeDeferred hK, ?_⟩⟩
    exact ⟨_, results_none rfl _ _ _, ⟨_, rfl⟩, by rw [e1.out]; exact R1.out.1, R1.out.2⟩
end Go.Proofs.Ytmbgcbgbdjiacaa
/- ShiftQs -/
namespace Go.Proofs.Ytmbgcbgbdjiacaa
open Go.RowKit

theorem S.ret_bool {a b : Bool} (h : a = b) : Ending.returned (.bool a) = .returned (.bool b) := by rw [h]
set_option maxHeartbeats 1000000 in
theorem kept_any (x : D.S4) (V : World) : Calls Try.prog 105 #[.agg #[.int .i64 x.a, .int .i64 x.b], .agg #[.int .i64 x.c, .int .i64 x.d]] V fun e w' => e = .returned (.bool x.kept) ∧ Below V.heap.size V w' := by
  obtain ⟨a, b, c, d⟩ := x
  have hk : Hid (D.S4.kept ⟨a, b, c, d⟩ = (decide (a < b) && decide (c < d))) := rfl
  dsimp only
  rw [hk.out]
  by_cases h : a < b
  · rw [decide_eq_true h]
    go_enter Try.func105, Try.ntmps105
    go_wp2
    go_ret
    exact ⟨S.ret_bool (by simp), ((Below.refl _ _).alloc (Nat.le_refl _) _).alloc (by simp) _⟩
  · rw [decide_eq_false h]
    go_enter Try.func105, Try.ntmps105
    go_wp2
    go_ret
    exact ⟨rfl, ((Below.refl _ _).alloc (Nat.le_refl _) _).alloc (by simp) _⟩
def S.Pos (q p m : Nat) (W : World) : Prop := W.heap[q]? = some (.cells #[.int .i64 p, .int .i64 m] 128 (0, 0))
theorem S.Pos.cells {q p m : Nat} {W : World} (h : S.Pos q p m W) : W.cell? ⟨q, 0, none⟩ = some (.int .i64 p) ∧ W.cell? ⟨q, 1, none⟩ = some (.int .i64 m) ∧ ∀ i, W.frozen? ⟨q, i, none⟩ = false :=
  ⟨Lib.cell_of_heap h 0, Lib.cell_of_heap h 1, fun _ => frozen_of_row _ _ _ _ _ h⟩
theorem S.Pos.lt {q p m : Nat} {W : World} (h : S.Pos q p m W) : q < W.heap.size := (Array.getElem?_eq_some_iff.1 h).1
theorem S.Pos.alloc {q p m : Nat} {W : World} (h : S.Pos q p m W) (o : Obj) : S.Pos q p m (W.alloc o) := (Below.heap_alloc W o q h.lt).trans h
theorem S.Pos.below {q p m : Nat} {W W' : World} (h : S.Pos q p m W) (hb : Below W.heap.size W W') : S.Pos q p m W' := (hb.block q h.lt).trans h
theorem S.Pos.set1 {q p m : Nat} {W : World} (h : S.Pos q p m W) (m' : Nat) : S.Pos q p m' (W.setCell ⟨q, 1, none⟩ (.int .i64 m')) := by
  obtain ⟨hlt, hk⟩ := Array.getElem?_eq_some_iff.1 h
  show (W.heap.modify q _)[q]? = _
  rw [Array.getElem?_eq_getElem (by rw [Array.size_modify]; exact hlt), Array.getElem_modify_self, hk]
  rfl
theorem S.grown_below {W V : World} (q : Nat) (h : Below W.heap.size W V) : W.grownBy V (some q) := ⟨h.os, h.tape, h.output, h.size, fun k hk _ => h.block k hk⟩
theorem S.grown_trans {U V W : World} {q : Nat} (h : U.grownBy V (some q)) (k : V.grownBy W (some q)) : U.grownBy W (some q) :=
  ⟨k.os.trans h.os, k.tape.trans h.tape, k.output.trans h.output, Nat.le_trans h.size k.size, fun j hj hne => (k.block j (Nat.lt_of_lt_of_le hj h.size) hne).trans (h.block j hj hne)⟩
theorem S.grown_drew {U V : World} {row : Option Nat} (h : U.grownBy V row) : U.grownBy V.drew row := ⟨h.os, h.tape, h.output, h.size, h.block⟩
theorem S.grown_set (W : World) (q o : Nat) (v : Value) : W.grownBy (W.setCell ⟨q, o, none⟩ v) (some q) :=
  ⟨rfl, rfl, rfl, (KeepsWalks.setCell W _ v).size, fun k _ hk => Below.heap_setCell _ _ _ k (fun e => hk (by rw [e]))⟩
/-- A question's two arguments, each in a box of its own: what every question begins with. -/
def S.W2 (V : World) (x : D.S4) : World := (V.alloc (.cells #[.int .i64 x.a, .int .i64 x.b] 132)).alloc (.cells #[.int .i64 x.c, .int .i64 x.d] 132)
theorem S.w2 (V : World) (x : D.S4) (q : Nat) (hq : q < V.heap.size) : S.Box (S.W2 V x) V.heap.size x.a x.b ∧ S.Box (S.W2 V x) (V.heap.size + 1) x.c x.d ∧ (S.W2 V x).heap[q]? = V.heap[q]? ∧ Below V.heap.size V (S.W2 V x) := by
  have n2 : S.Box (S.W2 V x) (V.heap.size + 1) x.c x.d := by
    have := World.alloc_heap_new (V.alloc (.cells #[.int .i64 x.a, .int .i64 x.b] 132)) (.cells #[.int .i64 x.c, .int .i64 x.d] 132)
    rwa [World.size_alloc] at this
  have hb : Below V.heap.size V (S.W2 V x) := ((Below.refl _ V).alloc (Nat.le_refl _) _).alloc (by simp) _
  exact ⟨S.Box.alloc (World.alloc_heap_new V _) _, n2, hb.block q hq, hb⟩
/-- .. and behind a call that makes memory. -/
theorem S.w2_on {V w1 : World} {x : D.S4} {q : Nat} (hq : q < V.heap.size) (h : Below (S.W2 V x).heap.size (S.W2 V x) w1) : S.Box w1 V.heap.size x.a x.b ∧ S.Box w1 (V.heap.size + 1) x.c x.d ∧ w1.heap[q]? = V.heap[q]? ∧ Below V.heap.size V w1 := by
  obtain ⟨n1, n2, n3, n4⟩ := S.w2 V x q hq
  exact ⟨(h.block _ n1.lt).trans n1, (h.block _ n2.lt).trans n2, (h.block q (Nat.lt_of_lt_of_le hq n4.size)).trans n3, n4.trans (h.mono n4.size)⟩
set_option maxRecDepth 100000 in
set_option maxHeartbeats 2000000 in
theorem left_any (q p m : Nat) (x : D.S4) (V : World) (h : S.Pos q p m V) (hp : p ≤ 1048576) (hab : x.a ≤ x.b) (h2 : x.b ≤ 1048576) (h3 : x.c ≤ 1048576) :
    Calls Try.prog 93 #[.pointer (some ⟨q, 0, none⟩), .agg #[.int .i64 x.a, .int .i64 x.b], .agg #[.int .i64 x.c, .int .i64 x.d]] V fun e V' => e = .returned (.bool (D.stL p m x).2) ∧ S.Pos q p (D.stL p m x).1 V' ∧ V.grownBy V' (some q) := by
  have HK : Hid (∀ W, Calls Try.prog 105 #[.agg #[.int .i64 x.a, .int .i64 x.b], .agg #[.int .i64 x.c, .int .i64 x.d]] W fun e w' => e = .returned (.bool x.kept) ∧ Below W.heap.size W w') := fun W => kept_any x W
  have hst := Lib.hid (show D.stL p m x = if p ≤ x.a then (m, true) else if x.kept then (x.c + min p x.b - x.a, false) else (m, false) from rfl)
  obtain ⟨a, b, c, d⟩ := x
  dsimp only at *
  generalize D.S4.kept ⟨a, b, c, d⟩ = k at HK hst
  generalize D.stL p m ⟨a, b, c, d⟩ = r at hst
  have hq := h.lt
  have H := Lib.hid h
  obtain ⟨c0, c1, cf⟩ := h.cells
  clear h
  by_cases hpa : p ≤ a
  · have R1 : Hid (r = (m, true)) := by show _ = _; rw [hst.out, if_pos hpa]
    rw [R1.out]
    have hpa' : (p : Int) ≤ (a : Int) := by omega
    clear hst
    go_enter Try.func93, Try.ntmps93
    go_wp2
    go_region
    all_goals
      go_wp2
      go_ret
      exact ⟨rfl, (H.out.alloc _).alloc _, S.grown_below q (((Below.refl _ V).alloc (Nat.le_refl _) _).alloc (by simp) _).drew⟩
  · have hpa' : (a : Int) < (p : Int) := by omega
    have n1 : S.Box ((V.alloc (.cells #[.int .i64 a, .int .i64 b] 132)).alloc (.cells #[.int .i64 c, .int .i64 d] 132)) V.heap.size a b := (S.Box.alloc (World.alloc_heap_new V _) _)
    have n2 : S.Box ((V.alloc (.cells #[.int .i64 a, .int .i64 b] 132)).alloc (.cells #[.int .i64 c, .int .i64 d] 132)) (V.heap.size + 1) c d := by
      have := World.alloc_heap_new (V.alloc (.cells #[.int .i64 a, .int .i64 b] 132)) (.cells #[.int .i64 c, .int .i64 d] 132)
      rwa [World.size_alloc] at this
    have NB := Lib.hid (And.intro n1 (And.intro n2 ((H.out.alloc (.cells #[.int .i64 a, .int .i64 b] 132)).alloc (.cells #[.int .i64 c, .int .i64 d] 132))))
    have NG := Lib.hid (S.grown_below q (((Below.refl _ V).alloc (Nat.le_refl _) (.cells #[.int .i64 a, .int .i64 b] 132)).alloc (by simp) (.cells #[.int .i64 c, .int .i64 d] 132)).drew)
    have HN1 := Lib.hid (fun w' (h : Below (((V.alloc (.cells #[.int .i64 a, .int .i64 b] 132)).alloc (.cells #[.int .i64 c, .int .i64 d] 132)).drew).heap.size (((V.alloc (.cells #[.int .i64 a, .int .i64 b] 132)).alloc (.cells #[.int .i64 c, .int .i64 d] 132)).drew) w') => And.intro ((h.block V.heap.size NB.out.1.lt).trans NB.out.1) (And.intro ((h.block (V.heap.size + 1) NB.out.2.1.lt).trans NB.out.2.1) (And.intro ((h.block q NB.out.2.2.lt).trans NB.out.2.2) (S.grown_trans NG.out (S.grown_below q h)))))
    clear n1 n2
    go_enter Try.func93, Try.ntmps93
    go_wp2
    go_region
    all_goals
      go_wp2_with fail
      refine (HK.out _).mono ?_
      rintro e w1 ⟨rfl, hb⟩
      have N3 := Lib.hid (HN1.out w1 hb)
      clear hb c0 c1 cf
      cases k with
      | false =>
        have R1 : Hid (r = (m, false)) := by show _ = _; rw [hst.out, if_neg hpa, if_neg (by decide)]
        go_wp2
        go_ret
        rw [R1.out]
        exact ⟨rfl, N3.out.2.2.1, N3.out.2.2.2⟩
      | true =>
        have R1 : Hid (r = (c + min p b - a, false)) := by show _ = _; rw [hst.out, if_neg hpa, if_pos rfl]
        obtain ⟨x0, x1, xf⟩ := S.Box.cells (show S.Box w1 V.heap.size a b from N3.out.1)
        obtain ⟨y0, y1, yf⟩ := S.Box.cells (show S.Box w1 (V.heap.size + 1) c d from N3.out.2.1)
        obtain ⟨c0, c1, cf⟩ := S.Pos.cells (show S.Pos q p m w1 from N3.out.2.2.1)
        go_wp2
        go_region
        all_goals
          go_wp2
          go_ret
          rw [R1.out]
          have e1 : (c : Int) + min (p : Int) b - a = ((c + min p b - a : Nat) : Int) := by omega
          rw [e1]
          exact ⟨rfl, S.Pos.set1 (show S.Pos q p m w1 from N3.out.2.2.1) _, S.grown_drew (S.grown_trans N3.out.2.2.2 (S.grown_set _ _ _ _))⟩
set_option maxRecDepth 100000 in
set_option maxHeartbeats 2000000 in
theorem right_any (q p m : Nat) (x : D.S4) (V : World) (h : S.Pos q p m V) (hp : p ≤ 1048576) (hab : x.a ≤ x.b) (h2 : x.b ≤ 1048576) (h3 : x.c ≤ 1048576) :
    Calls Try.prog 94 #[.pointer (some ⟨q, 0, none⟩), .agg #[.int .i64 x.a, .int .i64 x.b], .agg #[.int .i64 x.c, .int .i64 x.d]] V fun e V' => e = .returned (.bool (D.stR p m x).2) ∧ S.Pos q p (D.stR p m x).1 V' ∧ V.grownBy V' (some q) := by
  have HK : Hid (∀ W, Calls Try.prog 105 #[.agg #[.int .i64 x.a, .int .i64 x.b], .agg #[.int .i64 x.c, .int .i64 x.d]] W fun e w' => e = .returned (.bool x.kept) ∧ Below W.heap.size W w') := fun W => kept_any x W
  have hst := Lib.hid (show D.stR p m x = if x.b ≤ p then (m, false) else if x.kept then (x.c + max p x.a - x.a, true) else (m, false) from rfl)
  have hq := h.lt
  have HN := Lib.hid (fun w' (g : Below (S.W2 V x).heap.size (S.W2 V x) w') => S.w2_on hq g)
  have H := Lib.hid h
  have H0 := Lib.hid ((h.alloc (.cells #[.int .i64 x.a, .int .i64 x.b] 132)).alloc (.cells #[.int .i64 x.c, .int .i64 x.d] 132))
  obtain ⟨a, b, c, d⟩ := x
  dsimp only at *
  simp only [S.W2] at HN
  generalize D.S4.kept ⟨a, b, c, d⟩ = k at HK hst
  generalize D.stR p m ⟨a, b, c, d⟩ = r at hst
  obtain ⟨c0, c1, cf⟩ := h.cells
  clear h
  by_cases hpa : b ≤ p
  · have R1 : Hid (r = (m, false)) := by show _ = _; rw [hst.out, if_pos hpa]
    have hpa' : decide ((b : Int) ≤ (p : Int)) = true := by simpa using hpa
    clear hst
    go_enter Try.func94, Try.ntmps94
    go_wp2
    go_region
    all_goals
      go_wp2
      go_ret
      rw [R1.out]
      exact ⟨rfl, H0.out, S.grown_below q (((Below.refl _ V).alloc (Nat.le_refl _) _).alloc (by simp) _).drew⟩
  · have hpa' : decide ((b : Int) ≤ (p : Int)) = false := by simp; omega
    go_enter Try.func94, Try.ntmps94
    go_wp2
    go_region_with (refine (HK.out _).mono ?_; rintro e w1 ⟨rfl, hb⟩; have N3 := Lib.hid (HN.out w1 ⟨hb.os, hb.tape, hb.output, hb.size, hb.block⟩); clear hb c0 c1 cf)
    all_goals
      cases k with
      | false =>
        have R1 : Hid (r = (m, false)) := by show _ = _; rw [hst.out, if_neg hpa, if_neg (by decide)]
        go_wp2
        go_ret
        rw [R1.out]
        exact ⟨rfl, N3.out.2.2.1.trans H.out, S.grown_below q N3.out.2.2.2⟩
      | true =>
        have R1 : Hid (r = (c + max p a - a, true)) := by show _ = _; rw [hst.out, if_neg hpa, if_pos rfl]
        obtain ⟨x0, x1, xf⟩ := S.Box.cells (show S.Box w1 V.heap.size a b from N3.out.1)
        obtain ⟨y0, y1, yf⟩ := S.Box.cells (show S.Box w1 (V.heap.size + 1) c d from N3.out.2.1)
        have hP : S.Pos q p m w1 := N3.out.2.2.1.trans H.out
        obtain ⟨c0, c1, cf⟩ := hP.cells
        have HP := Lib.hid hP
        clear hP
        go_wp2
        go_region
        all_goals
          go_wp2
          go_ret
          rw [R1.out]
          have e1 : (c : Int) + max (p : Int) a - a = ((c + max p a - a : Nat) : Int) := by omega
          rw [e1]
          exact ⟨rfl, S.Pos.set1 HP.out _, S.grown_drew (S.grown_trans (S.grown_below q N3.out.2.2.2) (S.grown_set _ _ _ _))⟩
end Go.Proofs.Ytmbgcbgbdjiacaa
/- ShiftQs2 -/
namespace Go.Proofs.Ytmbgcbgbdjiacaa
open Go.RowKit

end Go.Proofs.Ytmbgcbgbdjiacaa
