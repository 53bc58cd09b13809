/- Texts joined: IterLaw -/
import Derived.RangeFuncNested
import Derived.RangeFuncBound
import Derived.RangeFuncCalls
import Derived.RangeFuncLeaves
import Derived.RangeFuncFrom
import Derived.Lib.Hide
/- IterLaw -/
namespace Go.Proofs.Ytmbgcbgbdjiacaa
open Go.RowKit

/-- Whatever block at B or beyond is turned, and whatever is made: J stands. -/
def It.Stable {β : Type} (B : Nat) (J : β → World → Prop) : Prop := ∀ s W W' row, J s W → W.grownBy W' row → (∀ r, row = some r → B ≤ r) → J s W'
/-- All blocks but those of R are as they were. -/
structure It.But (R : Nat → Prop) (W W' : World) : Prop where
  size : W.heap.size ≤ W'.heap.size
  same : ∀ k o, ¬ R k → W.heap[k]? = some o → W'.heap[k]? = some o
theorem It.But.refl (R : Nat → Prop) (W : World) : It.But R W W := ⟨Nat.le_refl _, fun _ _ _ h => h⟩
theorem It.But.trans {R : Nat → Prop} {A B C : World} (h : It.But R A B) (k : It.But R B C) : It.But R A C := ⟨Nat.le_trans h.size k.size, fun i o hi ho => k.same i o hi (h.same i o hi ho)⟩
theorem It.But.grown {R : Nat → Prop} {W W' : World} {row : Option Nat} (hg : W.grownBy W' row) (hr : ∀ r, row = some r → R r) : It.But R W W' :=
  ⟨hg.size, fun k _ hk ho => (hg.block k (Array.getElem?_eq_some_iff.1 ho).1 (fun e => hk (hr k e.symm))).trans ho⟩
theorem It.But.below {R : Nat → Prop} {W W' : World} (h : Below W.heap.size W W') : It.But R W W' := ⟨h.size, fun k _ _ ho => (h.block k (Array.getElem?_eq_some_iff.1 ho).1).trans ho⟩
theorem It.But.cell {R : Nat → Prop} {W W' : World} (h : It.But R W W') {b o : Nat} (hb : ¬ R b) (hl : b < W.heap.size) : W'.cell? ⟨b, o, none⟩ = W.cell? ⟨b, o, none⟩ :=
  World.cell?_of_block (w := W) (a := ⟨b, o, none⟩) (by
    show W'.heap[b]? = W.heap[b]?
    rw [Array.getElem?_eq_getElem hl]
    exact h.same b _ hb (Array.getElem?_eq_getElem hl))
theorem It.But.set {R : Nat → Prop} {W V : World} (h : It.But R W V) {b o : Nat} (v : Value) (hb : W.heap.size ≤ b) : It.But R W (V.setCell ⟨b, o, none⟩ v) :=
  ⟨Nat.le_trans h.size (KeepsWalks.setCell V _ v).size, fun k u hk hu => (Below.heap_setCell V ⟨b, o, none⟩ v k (fun e => by have := (Array.getElem?_eq_some_iff.1 hu).1; simp only at e; omega)).trans (h.same k u hk hu)⟩
theorem It.But.alloc {R : Nat → Prop} {W V : World} (h : It.But R W V) (o : Obj) : It.But R W (V.alloc o) := h.trans (It.But.below ((Below.refl _ _).alloc (Nat.le_refl _) _))
theorem It.Stable.putObj {β : Type} {B : Nat} {J : β → World → Prop} (h : It.Stable B J) {s : β} {W : World} {l : Nat} (o' : Obj) (hs : J s W) (hB : B ≤ l) : J s (W.putObj l o') := h s W _ (some l) hs (grownBy_putObj' W l o') (fun r e => by cases e; exact hB)
theorem It.Stable.alloc {β : Type} {B : Nat} {J : β → World → Prop} (h : It.Stable B J) {s : β} {W : World} (o : Obj) (hs : J s W) : J s (W.alloc o) := h s W _ none hs (World.grownBy_alloc W o none) (fun r e => by cases e)
theorem It.Stable.set {β : Type} {B : Nat} {J : β → World → Prop} (h : It.Stable B J) {s : β} {W : World} {b o : Nat} (v : Value) (hs : J s W) (hB : B ≤ b) : J s (W.setCell ⟨b, o, none⟩ v) :=
  h s W _ (some b) hs ⟨rfl, rfl, rfl, (KeepsWalks.setCell W _ v).size, fun k _ hk => Below.heap_setCell _ _ _ k (fun e => hk (by rw [e]))⟩ (fun r e => by cases e; exact hB)
theorem It.Stable.drew {β : Type} {B : Nat} {J : β → World → Prop} (h : It.Stable B J) {s : β} {W : World} (hs : J s W) : J s W.drew := h s W _ none hs ⟨rfl, rfl, rfl, Nat.le_refl _, fun _ _ _ => rfl⟩ (fun r e => by cases e)
theorem It.Stable.mono {β : Type} {B B' : Nat} {J : β → World → Prop} (h : It.Stable B J) (hB : B ≤ B') : It.Stable B' J := fun s W W' row hs hg hr => h s W W' row hs hg (fun r e => Nat.le_trans hB (hr r e))
theorem It.Stable.and {β : Type} {B : Nat} {J J' : β → World → Prop} (h : It.Stable B J) (h' : It.Stable B J') : It.Stable B (fun s W => J s W ∧ J' s W) := fun s W W' row hs hg hr => ⟨h s W W' row hs.1 hg hr, h' s W W' row hs.2 hg hr⟩
theorem It.stable_block {β : Type} {B b : Nat} (f : β → Obj) (hb : b < B) : It.Stable B (fun s W => W.heap[b]? = some (f s)) := fun s W W' row hs hg hr =>
  (hg.block b (Array.getElem?_eq_some_iff.1 hs).1 (fun e => by have := hr b e.symm; omega)).trans hs
theorem It.stable_below {β : Type} {n₀ B : Nat} {w₀ : World} (hn : n₀ ≤ w₀.heap.size) (hB : n₀ ≤ B) : It.Stable B (fun (_ : β) W => Below n₀ w₀ W) := fun _ _ _ _ hs hg hr => hs.grown hg (Nat.le_trans hn hs.size) (fun k e => Nat.le_trans hB (hr k e))
theorem It.stable_pure {β : Type} (B : Nat) (p : β → Prop) : It.Stable B (fun s (_ : World) => p s) := fun _ _ _ _ hs _ _ => hs

theorem It.anyDepth {m : Nat} (m' : Nat) {P : Program} {l : Nat} {args : Array Value} {W : World} {R : Ending → World → Prop} (h : YieldAt Fence.wide m P l args W R) : YieldAt Fence.wide m' P l args W R := by
  obtain ⟨fn, tmps, assign, body, hy, hR⟩ := h
  exact ⟨fn, tmps, assign, body, hy, hR.1, fun c cs _ => hR.2 c cs (room_wide _)⟩

/-- An iterator's contract: the list that comes, whatever rounds that keep all blocks but R's. -/
def It.Seq {α : Type} (P : Program) (g : Nat) (lb : Array Value) (encs : α → Array Value) (R : Nat → Prop) (L : List α) (w : World) : Prop :=
  ∀ (l : Nat) (J Jx : List α → World → Prop) (Rx : Nat → Prop) (W : World), (∀ k, Rx k → k < W.heap.size) → Below w.heap.size w W → It.Stable W.heap.size J → It.Stable W.heap.size Jx →
    (∀ pre x t W1, L = pre ++ x :: t → J pre W1 → YieldAt Fence.wide 1 P l (encs x) W1 fun e W' =>
      (e = .returned (.bool true) ∧ J (pre ++ [x]) W' ∧ It.But R W1 W') ∨ (e = .returned (.bool false) ∧ Jx (pre ++ [x]) W' ∧ It.But Rx W1 W')) →
    J [] W →
    Calls P g (#[.func (.yield l) #[] #[]] ++ lb) W fun e W' => (∃ v, e = .returned v) ∧ (J L W' ∨ ∃ pre, pre <+: L ∧ Jx pre W')

/-- How a round's body may be left. -/
def It.Post {α : Type} (R Rx : Nat → Prop) (I : List α → World → Prop) (Ix : Code → List α → World → Prop) (xs : List α) (W : World) : Exit → Act → World → Prop
  | .normal, _, W' => It.But R W W' ∧ I xs W'
  | .ret, _, W' => It.But Rx W W' ∧ Ix .ret xs W'
  | .exit id, _, W' => It.But Rx W W' ∧ Ix (.exit id) xs W'
  | .goto t, _, W' => It.But Rx W W' ∧ Ix (.goto t) xs W'
  | .panic _, _, _ => False
  | .outgrown, _, _ => False

/-- The loop that ranges over such an iterator. -/
theorem It.range {α : Type} {P : Program} {n : Nat} {g : Operand} {ps : Array Tmp} {assign body : Code} {Q : Exit → Act → World → Prop} {a : Act} {w : World}
    (h1 : 1 ≤ n) {gf : Nat} {lb : Array Value} (hg : a.eval g = .func (.func gf) #[] lb) (eg : ∀ args w, (callFunc gf args).run P w = .ok (.enter gf args) w)
    {encs : α → Array Value} {R : Nat → Prop} {L : List α} {w0 : World} (hseq : It.Seq P gf lb encs R L w0) (Rx : Nat → Prop) (hRR : ∀ k, R k → Rx k) (hRx : ∀ k, Rx k → k < w.heap.size) (hb0 : Below w0.heap.size w0 w) (hps : ∀ x, (encs x).size = ps.size)
    (I : List α → World → Prop) (Ix : Code → List α → World → Prop) (hI : It.Stable w.heap.size I) (hIx : ∀ c, It.Stable w.heap.size (Ix c)) (h0 : I [] w)
    (Ax : α → Act → World → Prop) (hAx : ∀ x a' W l o o', w.heap.size ≤ l → W.heap[l]? = some o → o.isCells = false → Ax x a' W → Ax x a' (W.putObj l o'))
    (hassign : ∀ (l : Nat) (pre : List α) (x : α) (W : World) (K : Act → World → Prop), I pre W → (∀ a' W', It.But R W W' → I pre W' → Ax x a' W' → K a' W') →
      assign.wpIn (Fence.wide.inRound l) (n - 1 - 1) P (Exit.then K (fun _ _ _ => False)) { tmps := (ps.zip (encs x)).foldl (fun t (p, v) => t.setIfInBounds p v) a.tmps, defers := [] } W)
    (hbody : ∀ (l : Nat) (pre : List α) (x : α) (t : List α) (a' : Act) (W : World), L = pre ++ x :: t → I pre W → Ax x a' W → body.wpIn (Fence.wide.inRound l) (n - 1 - 1) P (It.Post R Rx I Ix (pre ++ [x]) W) a' W)
    (hdone : ∀ (D : Nat) (W : World), w.heap.size ≤ D → I L W → W.heap[D]? = some (.deferred (some [])) → Q .normal { a with defers := { target := .collected D, args := #[] } :: a.defers } W)
    (hstop : ∀ (D : Nat) (c : Code) (pre : List α) (W : World), w.heap.size ≤ D → pre <+: L → Ix c pre W → W.heap[D]? = some (.deferred (some [])) → c.wpIn Fence.wide n P Q { a with defers := { target := .collected D, args := #[] } :: a.defers } W) :
    (Code.rangeFunc g ps assign body).wpIn Fence.wide n P Q a w := by
  refine wpIn_rangeFunc ?_
  intro fn hfn
  rw [show Fence.wide.round = none from rfl]
  obtain ⟨rec, hrec⟩ : ∃ rec : LoopState → Option Code → Loop, rec = fun st pe => { state := st, pending := pe, fn, tmps := a.tmps, params := ps, assign, body, defers := w.heap.size } := ⟨_, rfl⟩
  obtain ⟨W1, hW1⟩ : ∃ W1, (w.alloc (.deferred (some []))).alloc (.loop (rec .ready none)) = W1 := ⟨_, rfl⟩
  have hz : W1.heap.size = w.heap.size + 2 := by rw [← hW1]; simp
  have hL1 : W1.heap[w.heap.size + 1]? = some (.loop (rec .ready none)) := by
    rw [← hW1]; have := World.alloc_heap_new (w.alloc (.deferred (some []))) (.loop (rec .ready none)); rwa [World.size_alloc] at this
  have hK1 : W1.heap[w.heap.size]? = some (.deferred (some [])) := by
    rw [← hW1]; exact (Below.heap_alloc _ _ _ (by simp)).trans (World.alloc_heap_new w _)
  have hI1 : I [] W1 := by rw [← hW1]; exact hI.alloc _ (hI.alloc _ h0)
  have hb1 : Below w0.heap.size w0 W1 := by
    rw [← hW1]; exact hb0.trans ((((Below.refl _ w).alloc (Nat.le_refl _) _).alloc (by simp) _).mono hb0.size)
  have hrl : ¬ Rx (w.heap.size + 1) := fun h => by have := hRx _ h; omega
  have hrd : ¬ Rx w.heap.size := fun h => by have := hRx _ h; omega
  have toX : ∀ {A B : World}, It.But R A B → It.But Rx A B := fun h => ⟨h.size, fun k o hk ho => h.same k o (fun e => hk (hRR k e)) ho⟩
  refine ⟨w.heap.size + 1, [{ target := .collected w.heap.size, args := #[] }], W1, { target := .fn (.func gf) lb, args := #[.func (.yield (w.heap.size + 1)) #[] #[]] }, W1, gf,
    #[.func (.yield (w.heap.size + 1)) #[] #[]] ++ lb, W1, ?_, ?_, fun _ _ => trivial, ?_, fun _ => h1, ?_⟩
  · rw [← hW1, hrec]; exact run_enterLoop_outer _ _ _ _ _
  · simp only [resolve, hg]
    simp [go_sem]
  · simp [invoke, go_sem, eg]
  · refine callsIn_wide.2 (Calls.mono (hseq (w.heap.size + 1)
      (fun pre W => (I pre W ∧ W.heap[w.heap.size + 1]? = some (.loop (rec .ready none))) ∧ W.heap[w.heap.size]? = some (.deferred (some [])))
      (fun pre W => ∃ c, (Ix c pre W ∧ W.heap[w.heap.size + 1]? = some (.loop (rec .done (some c)))) ∧ W.heap[w.heap.size]? = some (.deferred (some [])))
      (fun k => Rx k ∨ k = w.heap.size + 1) W1 (fun k h => by rcases h with h | rfl; (· have := hRx k h; omega); (· omega)) hb1
      (It.Stable.and (It.Stable.and (hI.mono (by omega)) (It.stable_block _ (by omega))) (It.stable_block _ (by omega)))
      (fun s A B row ⟨c, hs⟩ hg' hr => ⟨c, It.Stable.and (It.Stable.and ((hIx c).mono (by omega)) (It.stable_block (fun _ => .loop (rec .done (some c))) (by omega))) (It.stable_block (fun _ => .deferred (some [])) (by omega)) s A B row hs hg' hr⟩)
      ?_ ⟨⟨hI1, hL1⟩, hK1⟩) ?_)
    · rintro pre x t W hx ⟨⟨hi, hl⟩, hk⟩
      have hy := run_yield (P := P) (args := encs x) hl (by rw [hrec]; exact hps x)
      rw [hrec] at hy
      refine It.anyDepth (m := n - 1 - 1) 1 ⟨fn, _, assign, body, hy, roundIn_of_wpIn hfn (hassign _ pre x W _ hi ?_)⟩
      clear hy
      intro a' Wa hba hia hax
      have hla := (toX hba).same _ _ hrl hl
      have hka := (toX hba).same _ _ hrd hk
      have hlt : w.heap.size + 1 < Wa.heap.size := (Array.getElem?_eq_some_iff.1 hla).1
      refine ⟨_, run_beginRound hla (by rw [hrec]), ?_⟩
      have hl2 : (Wa.putObj (w.heap.size + 1) (.loop { rec .ready none with state := .busy })).heap[w.heap.size + 1]? = some (.loop { rec .ready none with state := .busy }) := World.putObj_heap_same hlt
      have hk2 : (Wa.putObj (w.heap.size + 1) (.loop { rec .ready none with state := .busy })).heap[w.heap.size]? = some (.deferred (some [])) := (World.putObj_heap_other (by omega)).trans hka
      refine wpIn_mono (hbody _ pre x t a' _ hx (hI.putObj _ hia (by omega)) (hAx x a' _ _ _ _ (by omega) hla rfl hax)) ?_
      have fin : ∀ (jump : Option Code) (W3 : World), It.But Rx (Wa.putObj (w.heap.size + 1) (.loop { rec .ready none with state := .busy })) W3 →
          (Instr.endRound (w.heap.size + 1) jump).run P W3 = .ok (.bool jump.isNone) (W3.putObj (w.heap.size + 1) (.loop (rec (if jump.isNone then .ready else .done) jump))) ∧
          (W3.putObj (w.heap.size + 1) (.loop (rec (if jump.isNone then .ready else .done) jump))).heap[w.heap.size + 1]? = some (.loop (rec (if jump.isNone then .ready else .done) jump)) ∧
          (W3.putObj (w.heap.size + 1) (.loop (rec (if jump.isNone then .ready else .done) jump))).heap[w.heap.size]? = some (.deferred (some [])) := fun jump W3 hb3 => by
        have hl3 := hb3.same _ _ hrl hl2
        have := run_endRound (P := P) jump hl3
        rw [hrec] at this ⊢
        exact ⟨this, World.putObj_heap_same (Array.getElem?_eq_some_iff.1 hl3).1, (World.putObj_heap_other (by omega)).trans (hb3.same _ _ hrd hk2)⟩
      have goes : ∀ W3, It.But R (Wa.putObj (w.heap.size + 1) (.loop { rec .ready none with state := .busy })) W3 → It.But R W (W3.putObj (w.heap.size + 1) (.loop (rec .ready none))) := fun W3 hb3 => by
        refine hba.trans ⟨?_, fun k o hk ho => ?_⟩
        · have := hb3.size; simpa using this
        · by_cases e : k = w.heap.size + 1
          · subst e
            rw [hla] at ho
            cases ho
            exact World.putObj_heap_same (Array.getElem?_eq_some_iff.1 ((toX hb3).same _ _ hrl hl2)).1
          · exact (World.putObj_heap_other e).trans (hb3.same k o hk ((World.putObj_heap_other e).trans ho))
      have left : ∀ W3 (o' : Obj), It.But Rx (Wa.putObj (w.heap.size + 1) (.loop { rec .ready none with state := .busy })) W3 → It.But (fun k => Rx k ∨ k = w.heap.size + 1) W (W3.putObj (w.heap.size + 1) o') := fun W3 o' hb3 => by
        refine ⟨?_, fun k o hk ho => ?_⟩
        · have := hb3.size; have h2 := hba.size; simp at this ⊢; omega
        · have e : k ≠ w.heap.size + 1 := fun e => hk (.inr e)
          exact (World.putObj_heap_other e).trans (hb3.same k o (fun h => hk (.inl h)) ((World.putObj_heap_other e).trans ((toX hba).same k o (fun h => hk (.inl h)) ho)))
      rintro e a3 W3 hp
      cases e with
      | normal =>
        obtain ⟨hb3, hi3⟩ := hp
        obtain ⟨hr, hl4, hk4⟩ := fin none W3 (toX hb3)
        exact ⟨_, _, hr, .inl ⟨rfl, ⟨⟨hI.putObj _ hi3 (by omega), hl4⟩, hk4⟩, goes W3 hb3⟩⟩
      | ret =>
        obtain ⟨hb3, hi3⟩ := hp
        obtain ⟨hr, hl4, hk4⟩ := fin (some .ret) W3 hb3
        exact ⟨_, _, hr, .inr ⟨rfl, ⟨.ret, ⟨(hIx _).putObj _ hi3 (by omega), hl4⟩, hk4⟩, left W3 _ hb3⟩⟩
      | exit id =>
        obtain ⟨hb3, hi3⟩ := hp
        obtain ⟨hr, hl4, hk4⟩ := fin (some (.exit id)) W3 hb3
        exact ⟨_, _, hr, .inr ⟨rfl, ⟨.exit id, ⟨(hIx _).putObj _ hi3 (by omega), hl4⟩, hk4⟩, left W3 _ hb3⟩⟩
      | goto u =>
        obtain ⟨hb3, hi3⟩ := hp
        obtain ⟨hr, hl4, hk4⟩ := fin (some (.goto u)) W3 hb3
        exact ⟨_, _, hr, .inr ⟨rfl, ⟨.goto u, ⟨(hIx _).putObj _ hi3 (by omega), hl4⟩, hk4⟩, left W3 _ hb3⟩⟩
      | panic ch => exact hp.elim
      | outgrown => exact hp.elim
    · rintro e W2 ⟨⟨v, rfl⟩, (⟨⟨hi, hl⟩, hk⟩ | ⟨pre, hpre, c, ⟨hi, hl⟩, hk⟩)⟩
      · exact ⟨none, _, by have := run_endLoop (P := P) hl (by rw [hrec]; simp); rw [hrec] at this; exact this, hdone _ _ (Nat.le_refl _) (hI.putObj _ hi (by omega)) ((World.putObj_heap_other (by omega)).trans hk)⟩
      · exact ⟨some c, _, by have := run_endLoop (P := P) hl (by rw [hrec]; simp); rw [hrec] at this; exact this, hstop _ c pre _ (Nat.le_refl _) hpre ((hIx c).putObj _ hi (by omega)) ((World.putObj_heap_other (by omega)).trans hk)⟩
end Go.Proofs.Ytmbgcbgbdjiacaa
