/- Package shift's iterators as contracts, and the function that asks them: pieces, swapped, ask. -/
import Derived.Test.YtampekldlnlhdaaShiftPieces
namespace Go.Proofs.Ytampekldlnlhdaa
open Go.RowKit Go.Shelf
attribute [local go_sem] Oper.semAt_some

theorem pieces_seq (Bd : Nat) (ao : Option Addr) (cap : Nat) (a : List D.Q) (R : Nat → Prop) (w : World)
    (hc : w.cell? ⟨Bd, 0, none⟩ = some (.slice ao a.length cap)) (hr : D.Row w ao (a.map D.raw)) (hRr : ∀ b o, ao = some ⟨b, o, none⟩ → a.map D.raw ≠ [] → ¬ R b) (hR : ∀ k, R k → k < w.heap.size) (hp : D.allPos a = true) (hi : D.inL a ≤ 1048576) (ho : D.outL a ≤ 1048576) (hl : a.length ≤ 4096) :
    It.Seq Try.prog 66 #[.pointer (some ⟨Bd, 0, none⟩)] S.encs R (D.spans 0 0 a) w := fun l J Jx Rx W _ hW hJ _ hY h0 =>
  pieces1 l Bd ao cap a R J Jx Rx W hJ ((hW.cell (p := ⟨Bd, 0, none⟩) (S.lt_of_cell hc)).trans hc) (hr.below hW) hRr (fun k h => Nat.lt_of_lt_of_le (hR k h) hW.size) hp hi ho hl hY h0
set_option maxHeartbeats 400000 in
theorem swapped_any (gf : Nat) (lb : Array Value) (w : World) :
    Calls Try.prog 39 #[.func (.func gf) #[] lb] w fun e w' => e = .returned (.func (.func 69) #[] #[.pointer (some ⟨w.heap.size, 0, none⟩)]) ∧ w.alloc (.cells #[.func (.func gf) #[] lb] 55) = w' := by
  go_enter Try.func39, Try.ntmps39
  go_wp2
  go_ret
  exact ⟨rfl, rfl⟩
/-- The two ranges of a round, each in a box of its own. -/
def S.Two (x : D.S4) (u v : Nat) (W : World) : Prop := S.Box W u x.a x.b ∧ S.Box W v x.c x.d
theorem S.Two.put {x : D.S4} {u v : Nat} {W : World} (h : S.Two x u v W) {l : Nat} {o : Obj} (o' : Obj) (hl : W.heap[l]? = some o) (hn : o.isCells = false) : S.Two x u v (W.putObj l o') := by
  have key : ∀ b p q, S.Box W b p q → S.Box (W.putObj l o') b p q := fun b p q hb => by
    refine (World.putObj_heap_other (fun e => ?_)).trans hb
    subst e
    rw [show W.heap[b]? = _ from hb] at hl; cases hl; cases hn
  exact ⟨key _ _ _ h.1, key _ _ _ h.2⟩
set_option maxRecDepth 100000 in
set_option maxHeartbeats 2000000 in
theorem swapped1 (l Bs gf : Nat) (lb : Array Value) (heg : ∀ args w, (callFunc gf args).run Try.prog w = .ok (.enter gf args) w) (L : List D.S4) (R : Nat → Prop) (J Jx : List D.S4 → World → Prop) (Rx : Nat → Prop) (W w0 : World) (hb0 : Below w0.heap.size w0 W) (hseq : It.Seq Try.prog gf lb S.encs R L w0) (hJ : It.Stable W.heap.size J) (hJx : It.Stable W.heap.size Jx)
    (hc : W.cell? ⟨Bs, 0, none⟩ = some (.func (.func gf) #[] lb)) (hR : ∀ k, R k → k < W.heap.size) (hRx : ∀ k, Rx k → k < W.heap.size)
    (hY : ∀ pre x t W1, L.map D.S4.flip = pre ++ x :: t → J pre W1 → YieldAt Fence.wide 1 Try.prog l (S.encs x) W1 fun e W' => (e = .returned (.bool true) ∧ J (pre ++ [x]) W' ∧ It.But R W1 W') ∨ (e = .returned (.bool false) ∧ Jx (pre ++ [x]) W' ∧ It.But Rx W1 W')) (h0 : J [] W) :
    Calls Try.prog 69 #[.func (.yield l) #[] #[], .pointer (some ⟨Bs, 0, none⟩)] W fun e W' => (∃ v, e = .returned v) ∧ (J (L.map D.S4.flip) W' ∨ ∃ pre, pre <+: L.map D.S4.flip ∧ Jx pre W') := by
  refine (callsIn_wide (n := 3)).1 (callsIn_of_wp_marks Try.func69 rfl trivial ?_ rfl)
  simp only [Try.ntmps69, List.size_toArray, List.length_cons, List.length_nil, Nat.reduceAdd, Nat.reduceSub, Array.replicate_succ, Array.replicate_zero, List.push_toArray, List.append_toArray, List.nil_append, List.cons_append]
  have hBs := S.lt_of_cell hc
  have HY := Lib.hid hY
  have HR := Lib.hid hR
  have HJ := Lib.hid hJ
  have HX := Lib.hid hJx
  have HRx := Lib.hid hRx
  have HS := Lib.hid hseq
  have HE := Lib.hid heg
  clear hY hR hRx hJ hJx hseq heg
  gi_wp2
  have hyb := World.alloc_heap_new W (.cells #[.func (.yield l) #[] #[]] 70)
  refine It.range (n := 3) (by omega) (gf := gf) (lb := lb) (encs := S.encs) (R := R) (L := L) (w0 := w0) rfl HE.out HS.out (fun k => R k ∨ Rx k) (fun k h => .inl h) (fun k h => by rcases h with h | h; (· have := HR.out k h; simp; omega); (· have := HRx.out k h; simp; omega)) (hb0.trans (((Below.refl _ W).alloc (Nat.le_refl _) _).mono hb0.size)) (fun _ => rfl)
    (fun pre V => J (pre.map D.S4.flip) V ∧ V.heap[W.heap.size]? = some (.cells #[.func (.yield l) #[] #[]] 70 (0, 0)))
    (fun c pre V => c = .ret ∧ Jx (pre.map D.S4.flip) V)
    (It.Stable.and (fun s A B row h hg hr => HJ.out (s.map D.S4.flip) A B row h hg (fun r e => by have := hr r e; simp at this; omega)) (It.stable_block (fun _ => .cells #[.func (.yield l) #[] #[]] 70 (0, 0)) (by simp)))
    (fun c => It.Stable.and (It.stable_pure _ (fun _ => c = .ret)) (fun s A B row h hg hr => HX.out (s.map D.S4.flip) A B row h hg (fun r e => by have := hr r e; simp at this; omega)))
    ⟨HJ.out.alloc _ h0, hyb⟩
    (fun x a' V => ∃ u v, S.Two x u v V ∧ a' = { tmps := #[.func (.yield l) #[] #[], .pointer (some ⟨Bs, 0, none⟩), .pointer (some ⟨W.heap.size, 0, none⟩), .pointer (some ⟨u, 0, none⟩), .pointer (some ⟨v, 0, none⟩), .func (.func gf) #[] lb, .agg #[.int .i64 x.a, .int .i64 x.b], .agg #[.int .i64 x.c, .int .i64 x.d], undef, undef, undef, undef, undef], defers := [] })
    (fun x a' V k o o' _ hk hn ⟨u, v, ht, he⟩ => ⟨u, v, ht.put o' hk hn, he⟩) ?assign ?body ?done ?stop
  case assign =>
    rintro k pre x V K ⟨hi1, hi2⟩ hK
    have hK := Lib.hid hK
    have hi1 := Lib.hid hi1
    simp only [S.encs]
    gi_wp2
    have n1 : S.Box ((V.alloc (.cells #[.int .i64 x.a, .int .i64 x.b] 74)).alloc (.cells #[.int .i64 x.c, .int .i64 x.d] 74)) V.heap.size x.a x.b := (S.Box.alloc (World.alloc_heap_new V _) _)
    have n2 : S.Box ((V.alloc (.cells #[.int .i64 x.a, .int .i64 x.b] 74)).alloc (.cells #[.int .i64 x.c, .int .i64 x.d] 74)) (V.heap.size + 1) x.c x.d := by
      have := World.alloc_heap_new (V.alloc (.cells #[.int .i64 x.a, .int .i64 x.b] 74)) (.cells #[.int .i64 x.c, .int .i64 x.d] 74)
      rwa [World.size_alloc] at this
    have hs : W.heap.size < V.heap.size := (Array.getElem?_eq_some_iff.1 hi2).1
    exact hK.out _ _ (((It.But.refl R V).alloc _).alloc _) ⟨HJ.out.alloc _ (HJ.out.alloc _ hi1.out), (Below.heap_alloc _ _ _ (by simp; omega)).trans ((Below.heap_alloc _ _ _ hs).trans hi2)⟩ ⟨_, _, ⟨n1, n2⟩, rfl⟩
  case body =>
    rintro k pre x t a' V hx ⟨hi1, hi2⟩ ⟨u, v, ⟨b1, b2⟩, rfl⟩
    obtain ⟨p0, p1, pf⟩ := b1.cells
    obtain ⟨q0, q1, qf⟩ := b2.cells
    have hyc : V.cell? ⟨W.heap.size, 0, none⟩ = some (.func (.yield l) #[] #[]) := Lib.cell_of_heap hi2 0
    have hx2 : L.map D.S4.flip = pre.map D.S4.flip ++ x.flip :: t.map D.S4.flip := by rw [hx]; simp
    obtain ⟨fn, tmps, assign, body, hy, hR'⟩ := It.anyDepth 0 (HY.out _ _ _ V hx2 hi1)
    have HR2 := Lib.hid hR'
    have Hi2 := Lib.hid hi2
    have hny : ¬ R W.heap.size := fun h => by have := HR.out _ h; omega
    simp only [S.encs, D.S4.flip] at hy
    clear hR' hi1 hi2 b1 b2 hx hx2
    gi_wp2
    refine HR2.out.mono ?_
    rintro e W3 (⟨rfl, hJ3, hk3⟩ | ⟨rfl, hJx3, hx3⟩)
    · have YS := Lib.hid (And.intro hk3 (And.intro hJ3 (hk3.same _ _ hny Hi2.out)))
      clear hk3 hJ3 p0 p1 pf q0 q1 qf hyc
      gi_wp2
      exact ⟨YS.out.1, by simpa using YS.out.2.1, YS.out.2.2⟩
    · have YS := Lib.hid (And.intro hJx3 hx3)
      clear hJx3 hx3 p0 p1 pf q0 q1 qf hyc
      gi_wp2
      exact ⟨⟨YS.out.2.size, fun k o hk ho => YS.out.2.same k o (fun h => hk (.inr h)) ho⟩, rfl, by simpa using YS.out.1⟩
  case done =>
    rintro E0 V hD ⟨hi1, hi2⟩ hK
    have R1 := Lib.hid (HJ.out.putObj (.deferred none) hi1 (show W.heap.size ≤ E0 by simp at hD; omega))
    clear hi1 hi2
    gi_wp2
    refine ⟨by simp, .inl ⟨_, _, rfl, run_takeDeferred hK, ?_⟩⟩
    exact ⟨_, results_none rfl _ _ _, ⟨_, rfl⟩, .inl R1.out⟩
  case stop =>
    rintro E0 c pre V hD hpre ⟨rfl, hx⟩ hK
    have R1 := Lib.hid (HX.out.putObj (.deferred none) hx (show W.heap.size ≤ E0 by simp at hD; omega))
    have R2 : Hid (pre.map D.S4.flip <+: L.map D.S4.flip) := by obtain ⟨t, rfl⟩ := hpre; exact ⟨t.map D.S4.flip, by simp⟩
    clear hx hpre
    gi_wp2
    refine ⟨by simp, .inl ⟨_, _, rfl, run_takeDeferred hK, ?_⟩⟩
    exact ⟨_, results_none rfl _ _ _, ⟨_, rfl⟩, .inr ⟨_, R2.out, R1.out⟩⟩
theorem swapped_seq (Bs gf : Nat) (lb : Array Value) (heg : ∀ args w, (callFunc gf args).run Try.prog w = .ok (.enter gf args) w) (L : List D.S4) (R : Nat → Prop) (w w0 : World) (hb0 : Below w0.heap.size w0 w) (hseq : It.Seq Try.prog gf lb S.encs R L w0)
    (hc : w.cell? ⟨Bs, 0, none⟩ = some (.func (.func gf) #[] lb)) (hR : ∀ k, R k → k < w.heap.size) :
    It.Seq Try.prog 69 #[.pointer (some ⟨Bs, 0, none⟩)] S.encs R (L.map D.S4.flip) w := fun l J Jx Rx W hRx hW hJ hJx hY h0 =>
  swapped1 l Bs gf lb heg L R J Jx Rx W w0 (hb0.trans (hW.mono hb0.size)) hseq hJ hJx ((hW.cell (p := ⟨Bs, 0, none⟩) (S.lt_of_cell hc)).trans hc) (fun k h => Nat.lt_of_lt_of_le (hR k h) hW.size) hRx hY h0
/-- Where the asking stands: nobody has answered yet (b is false), or the last one has. -/
def S.At {σ : Type} (st : σ → D.S4 → σ × Bool) (Pq : σ → World → Prop) (s0 : σ) (b : Bool) (pre : List D.S4) (V : World) : Prop := ∃ s, D.asks st (s0, false) pre = (s, b) ∧ Pq s V
theorem S.At.stable {σ : Type} {st : σ → D.S4 → σ × Bool} {Pq : σ → World → Prop} {s0 : σ} {b : Bool} {B : Nat} (h : It.Stable B Pq) : It.Stable B (S.At st Pq s0 b) := fun _ A C row ⟨s, e, hs⟩ hg hr => ⟨s, e, h s A C row hs hg hr⟩
set_option maxRecDepth 100000 in
set_option maxHeartbeats 2000000 in
theorem ask_any {σ : Type} (gf gq q : Nat) (lb : Array Value) (heg : ∀ args w, (callFunc gf args).run Try.prog w = .ok (.enter gf args) w) (hegq : ∀ args w, (callFunc gq args).run Try.prog w = .ok (.enter gq args) w)
    (L : List D.S4) (st : σ → D.S4 → σ × Bool) (Pq : σ → World → Prop) (s0 : σ) (w w0 : World) (hb0 : Below w0.heap.size w0 w) (hseq : It.Seq Try.prog gf lb S.encs (fun k => k = q) L w0) (hq : q < w.heap.size) (hP : It.Stable w.heap.size Pq)
    (hQ : ∀ s x V, x ∈ L → Pq s V → Calls Try.prog gq #[.pointer (some ⟨q, 0, none⟩), .agg #[.int .i64 x.a, .int .i64 x.b], .agg #[.int .i64 x.c, .int .i64 x.d]] V fun e V' => e = .returned (.bool (st s x).2) ∧ Pq (st s x).1 V' ∧ V.grownBy V' (some q)) (h0 : Pq s0 w) :
    Calls Try.prog 44 #[.func (.func gf) #[] lb, .func (.func gq) #[.pointer (some ⟨q, 0, none⟩)] #[]] w fun e W' => (∃ v, e = .returned v) ∧ Pq (D.asks st (s0, false) L).1 W' ∧ Below q w W' := by
  refine (callsIn_wide (n := 3)).1 (callsIn_of_wp_marks Try.func44 rfl trivial ?_ rfl)
  simp only [Try.ntmps44, List.size_toArray, List.length_cons, List.length_nil, Nat.reduceAdd, Nat.reduceSub, Array.replicate_succ, Array.replicate_zero, List.push_toArray, List.append_toArray, List.nil_append, List.cons_append]
  have HP := Lib.hid hP
  have HQ := Lib.hid hQ
  have HS := Lib.hid hseq
  have HE := Lib.hid heg
  clear hP hQ hseq heg
  gi_wp2
  have hyb := World.alloc_heap_new w (.cells #[.func (.func gq) #[.pointer (some ⟨q, 0, none⟩)] #[]] 70)
  refine It.range (n := 3) (by omega) (gf := gf) (lb := lb) (encs := S.encs) (R := fun k => k = q) (L := L) (w0 := w0) rfl HE.out HS.out (fun k => k = q) (fun k h => h) (fun k h => by subst h; simp; omega) (hb0.trans (((Below.refl _ w).alloc (Nat.le_refl _) _).mono hb0.size)) (fun _ => rfl)
    (fun pre V => (S.At st Pq s0 false pre V ∧ V.heap[w.heap.size]? = some (.cells #[.func (.func gq) #[.pointer (some ⟨q, 0, none⟩)] #[]] 70 (0, 0))) ∧ Below q w V)
    (fun c pre V => (c = .ret ∧ S.At st Pq s0 true pre V) ∧ Below q w V)
    (It.Stable.and (It.Stable.and (S.At.stable (HP.out.mono (by simp))) (It.stable_block (fun _ => .cells #[.func (.func gq) #[.pointer (some ⟨q, 0, none⟩)] #[]] 70 (0, 0)) (by simp))) (It.stable_below (by omega) (by simp; omega)))
    (fun c => It.Stable.and (It.Stable.and (It.stable_pure _ (fun _ => c = .ret)) (S.At.stable (HP.out.mono (by simp)))) (It.stable_below (by omega) (by simp; omega)))
    ⟨⟨⟨s0, rfl, HP.out.alloc _ h0⟩, hyb⟩, ((Below.refl _ w).alloc (by omega) _)⟩
    (fun x a' V => ∃ u v, S.Two x u v V ∧ a' = { tmps := #[.func (.func gf) #[] lb, .func (.func gq) #[.pointer (some ⟨q, 0, none⟩)] #[], undef, .pointer (some ⟨w.heap.size, 0, none⟩), .pointer (some ⟨u, 0, none⟩), .pointer (some ⟨v, 0, none⟩), .func (.func gf) #[] lb, .agg #[.int .i64 x.a, .int .i64 x.b], .agg #[.int .i64 x.c, .int .i64 x.d], undef, undef, undef, undef], defers := [] })
    (fun x a' V k o o' _ hk hn ⟨u, v, ht, he⟩ => ⟨u, v, ht.put o' hk hn, he⟩) ?assign ?body ?done ?stop
  case assign =>
    rintro k pre x V K ⟨⟨hi1, hi2⟩, hi3⟩ hK
    have hK := Lib.hid hK
    have hi1 := Lib.hid hi1
    simp only [S.encs]
    gi_wp2
    have n1 : S.Box ((V.alloc (.cells #[.int .i64 x.a, .int .i64 x.b] 74)).alloc (.cells #[.int .i64 x.c, .int .i64 x.d] 74)) V.heap.size x.a x.b := (S.Box.alloc (World.alloc_heap_new V _) _)
    have n2 : S.Box ((V.alloc (.cells #[.int .i64 x.a, .int .i64 x.b] 74)).alloc (.cells #[.int .i64 x.c, .int .i64 x.d] 74)) (V.heap.size + 1) x.c x.d := by
      have := World.alloc_heap_new (V.alloc (.cells #[.int .i64 x.a, .int .i64 x.b] 74)) (.cells #[.int .i64 x.c, .int .i64 x.d] 74)
      rwa [World.size_alloc] at this
    have hs : w.heap.size < V.heap.size := (Array.getElem?_eq_some_iff.1 hi2).1
    exact hK.out _ _ (((It.But.refl _ V).alloc _).alloc _) ⟨⟨(S.At.stable HP.out).alloc _ ((S.At.stable HP.out).alloc _ hi1.out), (Below.heap_alloc _ _ _ (by simp; omega)).trans ((Below.heap_alloc _ _ _ hs).trans hi2)⟩, (hi3.alloc (by omega) _).alloc (by simp; omega) _⟩ ⟨_, _, ⟨n1, n2⟩, rfl⟩
  case body =>
    rintro k pre x t a' V hx ⟨⟨⟨s, hs, hps⟩, hi2⟩, hi3⟩ ⟨u, v, ⟨b1, b2⟩, rfl⟩
    obtain ⟨p0, p1, pf⟩ := b1.cells
    obtain ⟨q0, q1, qf⟩ := b2.cells
    have hyc : V.cell? ⟨w.heap.size, 0, none⟩ = some (.func (.func gq) #[.pointer (some ⟨q, 0, none⟩)] #[]) := Lib.cell_of_heap hi2 0
    have HC := Lib.hid (HQ.out s x V (by rw [hx]; simp) hps)
    have Hi := Lib.hid (And.intro hi2 hi3)
    have hs2 := Lib.hid (D.asks_snoc st s0 s pre x hs)
    obtain ⟨s', hs'⟩ : ∃ s', Hid ((st s x).1 = s') := ⟨_, rfl⟩
    rw [show st s x = (s', (st s x).2) by rw [← hs'.out]] at hs2
    rw [hs'.out] at HC
    clear hps hi2 hi3 b1 b2 hx hs
    cases hb : (st s x).2 with
    | false =>
      rw [hb] at HC hs2
      clear hb
      gi_wp2
      refine ⟨trivial, (CallsIn.inRound k (callsIn_wide.2 HC.out)).mono ?_⟩
      rintro e V' ⟨rfl, hp3, hg⟩
      have hne : w.heap.size ≠ q := by omega
      have YS := Lib.hid (And.intro (It.But.grown (R := fun k => k = q) hg (fun r e => by cases e; rfl)) (And.intro hp3 (And.intro ((It.But.grown (R := fun k => k = q) hg (fun r e => by cases e; rfl)).same _ _ hne Hi.out.1) (Hi.out.2.grown hg (Nat.le_trans (Nat.le_of_lt hq) Hi.out.2.size) (fun r e => by cases e; exact Nat.le_refl _)))))
      clear hp3 hg p0 p1 pf q0 q1 qf hyc
      gi_wp2
      exact ⟨YS.out.1, ⟨⟨s', hs2.out, YS.out.2.1⟩, YS.out.2.2.1⟩, YS.out.2.2.2⟩
    | true =>
      rw [hb] at HC hs2
      clear hb
      gi_wp2
      refine ⟨trivial, (CallsIn.inRound k (callsIn_wide.2 HC.out)).mono ?_⟩
      rintro e V' ⟨rfl, hp3, hg⟩
      have YS := Lib.hid (And.intro (It.But.grown (R := fun k => k = q) hg (fun r e => by cases e; rfl)) (And.intro hp3 (Hi.out.2.grown hg (Nat.le_trans (Nat.le_of_lt hq) Hi.out.2.size) (fun r e => by cases e; exact Nat.le_refl _))))
      clear hp3 hg p0 p1 pf q0 q1 qf hyc
      gi_wp2
      exact ⟨YS.out.1, ⟨rfl, ⟨s', hs2.out, YS.out.2.1⟩⟩, YS.out.2.2⟩
  case done =>
    rintro E0 V hD ⟨⟨⟨s, hs, hps⟩, hi2⟩, hi3⟩ hK
    have R1 := Lib.hid (And.intro (HP.out.putObj (.deferred none) hps (show w.heap.size ≤ E0 by simp at hD; omega)) (hi3.trans (belowK_b (w := w) (Nat.le_of_lt hq) V E0 _ (.deferred none) (by simp at hD; omega) hK rfl rfl)))
    have e1 : Hid ((D.asks st (s0, false) L).1 = s) := by show _ = _; rw [hs]
    clear hps hi2 hi3 hs
    gi_wp2
    refine ⟨by simp, .inl ⟨_, _, rfl, run_takeDeferred hK, ?_⟩⟩
    exact ⟨_, results_none rfl _ _ _, ⟨_, rfl⟩, by rw [e1.out]; exact R1.out.1, R1.out.2⟩
  case stop =>
    rintro E0 c pre V hD hpre ⟨⟨rfl, ⟨s, hs, hps⟩⟩, hi3⟩ hK
    have R1 := Lib.hid (And.intro (HP.out.putObj (.deferred none) hps (show w.heap.size ≤ E0 by simp at hD; omega)) (hi3.trans (belowK_b (w := w) (Nat.le_of_lt hq) V E0 _ (.deferred none) (by simp at hD; omega) hK rfl rfl)))
    have e1 : Hid ((D.asks st (s0, false) L).1 = s) := by
      obtain ⟨t, rfl⟩ := hpre
      show _ = _; rw [D.asks_ended st s0 s pre t hs]
    clear hps hi3 hs hpre
    gi_wp2
    refine ⟨by simp, .inl ⟨_, _, rfl, run_takeDeferred hK, ?_⟩⟩
    exact ⟨_, results_none rfl _ _ _, ⟨_, rfl⟩, by rw [e1.out]; exact R1.out.1, R1.out.2⟩
end Go.Proofs.Ytampekldlnlhdaa
