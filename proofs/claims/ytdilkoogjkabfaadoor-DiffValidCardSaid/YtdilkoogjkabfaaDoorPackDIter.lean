/- Texts joined: IterLaw IterLaw2 DiffIter DiffCol -/
import Derived.RangeFuncNested
import Derived.RangeFuncBound
import Derived.RangeFuncCalls
import Derived.RangeFuncLeaves
import Derived.RangeFuncFrom
import Derived.Lib.Hide
import Derived.Test.YtdilkoogjkabfaaDoorDiffLib
import Derived.Test.YtdilkoogjkabfaaDoorPackDTab
import Derived.Test.YtdilkoogjkabfaaDoorRunesLeaf
import Derived.RangeFuncBox
import Derived.Shelf.Abstract
import Derived.Shelf.RegionOpen
import Derived.WalkKit
import Derived.OwnWalkIn
import Derived.TacticsInMore
import Derived.LoopNIn
import Derived.LoopIn
import Derived.Maps.AppendAt
/- IterLaw -/
namespace Go.Proofs.YtdilkoogjkabfaaDoor
open Go.RowKit

/-- Whatever block at B or beyond is turned, and whatever is made: J stands. -/
def It.Stable {β : Type} (B : Nat) (J : β → World → Prop) : Prop := ∀ s W W' row, J s W → W.grownBy W' row → (∀ r, row = some r → B ≤ r) → J s W'
/-- All blocks but those of R are as they were. -/
structure It.But (R : Nat → Prop) (W W' : World) : Prop where
  size : W.heap.size ≤ W'.heap.size
  same : ∀ k o, ¬ R k → W.heap[k]? = some o → W'.heap[k]? = some o
theorem It.But.refl (R : Nat → Prop) (W : World) : It.But R W W := ⟨Nat.le_refl _, fun _ _ _ h => h⟩
theorem It.But.trans {R : Nat → Prop} {A B C : World} (h : It.But R A B) (k : It.But R B C) : It.But R A C := ⟨Nat.le_trans h.size k.size, fun i o hi ho => k.same i o hi (h.same i o hi ho)⟩
theorem It.But.grown {R : Nat → Prop} {W W' : World} {row : Option Nat} (hg : W.grownBy W' row) (hr : ∀ r, row = some r → R r) : It.But R W W' :=
  ⟨hg.size, fun k _ hk ho => (hg.block k (Array.getElem?_eq_some_iff.1 ho).1 (fun e => hk (hr k e.symm))).trans ho⟩
theorem It.But.below {R : Nat → Prop} {W W' : World} (h : Below W.heap.size W W') : It.But R W W' := ⟨h.size, fun k _ _ ho => (h.block k (Array.getElem?_eq_some_iff.1 ho).1).trans ho⟩
theorem It.But.cell {R : Nat → Prop} {W W' : World} (h : It.But R W W') {b o : Nat} (hb : ¬ R b) (hl : b < W.heap.size) : W'.cell? ⟨b, o, none⟩ = W.cell? ⟨b, o, none⟩ :=
  World.cell?_of_block (w := W) (a := ⟨b, o, none⟩) (by
    show W'.heap[b]? = W.heap[b]?
    rw [Array.getElem?_eq_getElem hl]
    exact h.same b _ hb (Array.getElem?_eq_getElem hl))
theorem It.But.set {R : Nat → Prop} {W V : World} (h : It.But R W V) {b o : Nat} (v : Value) (hb : W.heap.size ≤ b) : It.But R W (V.setCell ⟨b, o, none⟩ v) :=
  ⟨Nat.le_trans h.size (KeepsWalks.setCell V _ v).size, fun k u hk hu => (Below.heap_setCell V ⟨b, o, none⟩ v k (fun e => by have := (Array.getElem?_eq_some_iff.1 hu).1; simp only at e; omega)).trans (h.same k u hk hu)⟩
theorem It.But.alloc {R : Nat → Prop} {W V : World} (h : It.But R W V) (o : Obj) : It.But R W (V.alloc o) := h.trans (It.But.below ((Below.refl _ _).alloc (Nat.le_refl _) _))
theorem It.Stable.putObj {β : Type} {B : Nat} {J : β → World → Prop} (h : It.Stable B J) {s : β} {W : World} {l : Nat} (o' : Obj) (hs : J s W) (hB : B ≤ l) : J s (W.putObj l o') := h s W _ (some l) hs (grownBy_putObj' W l o') (fun r e => by cases e; exact hB)
theorem It.Stable.alloc {β : Type} {B : Nat} {J : β → World → Prop} (h : It.Stable B J) {s : β} {W : World} (o : Obj) (hs : J s W) : J s (W.alloc o) := h s W _ none hs (World.grownBy_alloc W o none) (fun r e => by cases e)
theorem It.Stable.set {β : Type} {B : Nat} {J : β → World → Prop} (h : It.Stable B J) {s : β} {W : World} {b o : Nat} (v : Value) (hs : J s W) (hB : B ≤ b) : J s (W.setCell ⟨b, o, none⟩ v) :=
  h s W _ (some b) hs ⟨rfl, rfl, rfl, (KeepsWalks.setCell W _ v).size, fun k _ hk => Below.heap_setCell _ _ _ k (fun e => hk (by rw [e]))⟩ (fun r e => by cases e; exact hB)
theorem It.Stable.drew {β : Type} {B : Nat} {J : β → World → Prop} (h : It.Stable B J) {s : β} {W : World} (hs : J s W) : J s W.drew := h s W _ none hs ⟨rfl, rfl, rfl, Nat.le_refl _, fun _ _ _ => rfl⟩ (fun r e => by cases e)
theorem It.Stable.mono {β : Type} {B B' : Nat} {J : β → World → Prop} (h : It.Stable B J) (hB : B ≤ B') : It.Stable B' J := fun s W W' row hs hg hr => h s W W' row hs hg (fun r e => Nat.le_trans hB (hr r e))
theorem It.Stable.and {β : Type} {B : Nat} {J J' : β → World → Prop} (h : It.Stable B J) (h' : It.Stable B J') : It.Stable B (fun s W => J s W ∧ J' s W) := fun s W W' row hs hg hr => ⟨h s W W' row hs.1 hg hr, h' s W W' row hs.2 hg hr⟩
theorem It.stable_block {β : Type} {B b : Nat} (f : β → Obj) (hb : b < B) : It.Stable B (fun s W => W.heap[b]? = some (f s)) := fun s W W' row hs hg hr =>
  (hg.block b (Array.getElem?_eq_some_iff.1 hs).1 (fun e => by have := hr b e.symm; omega)).trans hs
theorem It.stable_below {β : Type} {n₀ B : Nat} {w₀ : World} (hn : n₀ ≤ w₀.heap.size) (hB : n₀ ≤ B) : It.Stable B (fun (_ : β) W => Below n₀ w₀ W) := fun _ _ _ _ hs hg hr => hs.grown hg (Nat.le_trans hn hs.size) (fun k e => Nat.le_trans hB (hr k e))
theorem It.stable_pure {β : Type} (B : Nat) (p : β → Prop) : It.Stable B (fun s (_ : World) => p s) := fun _ _ _ _ hs _ _ => hs

theorem It.anyDepth {m : Nat} (m' : Nat) {P : Program} {l : Nat} {args : Array Value} {W : World} {R : Ending → World → Prop} (h : YieldAt Fence.wide m P l args W R) : YieldAt Fence.wide m' P l args W R := by
  obtain ⟨fn, tmps, assign, body, hy, hR⟩ := h
  exact ⟨fn, tmps, assign, body, hy, hR.1, fun c cs _ => hR.2 c cs (room_wide _)⟩

/-- An iterator's contract: the list that comes, whatever rounds that keep all blocks but R's. -/
def It.Seq {α : Type} (P : Program) (g : Nat) (lb : Array Value) (encs : α → Array Value) (R : Nat → Prop) (L : List α) (w : World) : Prop :=
  ∀ (l : Nat) (J Jx : List α → World → Prop) (Rx : Nat → Prop) (W : World), (∀ k, Rx k → k < W.heap.size) → Below w.heap.size w W → It.Stable W.heap.size J → It.Stable W.heap.size Jx →
    (∀ pre x t W1, L = pre ++ x :: t → J pre W1 → YieldAt Fence.wide 1 P l (encs x) W1 fun e W' =>
      (e = .returned (.bool true) ∧ J (pre ++ [x]) W' ∧ It.But R W1 W') ∨ (e = .returned (.bool false) ∧ Jx (pre ++ [x]) W' ∧ It.But Rx W1 W')) →
    J [] W →
    Calls P g (#[.func (.yield l) #[] #[]] ++ lb) W fun e W' => (∃ v, e = .returned v) ∧ (J L W' ∨ ∃ pre, pre <+: L ∧ Jx pre W')

/-- How a round's body may be left. -/
def It.Post {α : Type} (R Rx : Nat → Prop) (I : List α → World → Prop) (Ix : Code → List α → World → Prop) (xs : List α) (W : World) : Exit → Act → World → Prop
  | .normal, _, W' => It.But R W W' ∧ I xs W'
  | .ret, _, W' => It.But Rx W W' ∧ Ix .ret xs W'
  | .exit id, _, W' => It.But Rx W W' ∧ Ix (.exit id) xs W'
  | .goto t, _, W' => It.But Rx W W' ∧ Ix (.goto t) xs W'
  | .panic _, _, _ => False
  | .outgrown, _, _ => False

/-- The loop that ranges over such an iterator. -/
theorem It.range {α : Type} {P : Program} {n : Nat} {g : Operand} {ps : Array Tmp} {assign body : Code} {Q : Exit → Act → World → Prop} {a : Act} {w : World}
    (h1 : 1 ≤ n) {gf : Nat} {lb : Array Value} (hg : a.eval g = .func (.func gf) #[] lb) (eg : ∀ args w, (callFunc gf args).run P w = .ok (.enter gf args) w)
    {encs : α → Array Value} {R : Nat → Prop} {L : List α} {w0 : World} (hseq : It.Seq P gf lb encs R L w0) (Rx : Nat → Prop) (hRR : ∀ k, R k → Rx k) (hRx : ∀ k, Rx k → k < w.heap.size) (hb0 : Below w0.heap.size w0 w) (hps : ∀ x, (encs x).size = ps.size)
    (I : List α → World → Prop) (Ix : Code → List α → World → Prop) (hI : It.Stable w.heap.size I) (hIx : ∀ c, It.Stable w.heap.size (Ix c)) (h0 : I [] w)
    (Ax : α → Act → World → Prop) (hAx : ∀ x a' W l o o', w.heap.size ≤ l → W.heap[l]? = some o → o.isCells = false → Ax x a' W → Ax x a' (W.putObj l o'))
    (hassign : ∀ (l : Nat) (pre : List α) (x : α) (W : World) (K : Act → World → Prop), I pre W → (∀ a' W', It.But R W W' → I pre W' → Ax x a' W' → K a' W') →
      assign.wpIn (Fence.wide.inRound l) (n - 1 - 1) P (Exit.then K (fun _ _ _ => False)) { tmps := (ps.zip (encs x)).foldl (fun t (p, v) => t.setIfInBounds p v) a.tmps, defers := [] } W)
    (hbody : ∀ (l : Nat) (pre : List α) (x : α) (t : List α) (a' : Act) (W : World), L = pre ++ x :: t → I pre W → Ax x a' W → body.wpIn (Fence.wide.inRound l) (n - 1 - 1) P (It.Post R Rx I Ix (pre ++ [x]) W) a' W)
    (hdone : ∀ (D : Nat) (W : World), w.heap.size ≤ D → I L W → W.heap[D]? = some (.deferred (some [])) → Q .normal { a with defers := { target := .collected D, args := #[] } :: a.defers } W)
    (hstop : ∀ (D : Nat) (c : Code) (pre : List α) (W : World), w.heap.size ≤ D → pre <+: L → Ix c pre W → W.heap[D]? = some (.deferred (some [])) → c.wpIn Fence.wide n P Q { a with defers := { target := .collected D, args := #[] } :: a.defers } W) :
    (Code.rangeFunc g ps assign body).wpIn Fence.wide n P Q a w := by
  refine wpIn_rangeFunc ?_
  intro fn hfn
  rw [show Fence.wide.round = none from rfl]
  obtain ⟨rec, hrec⟩ : ∃ rec : LoopState → Option Code → Loop, rec = fun st pe => { state := st, pending := pe, fn, tmps := a.tmps, params := ps, assign, body, defers := w.heap.size } := ⟨_, rfl⟩
  obtain ⟨W1, hW1⟩ : ∃ W1, (w.alloc (.deferred (some []))).alloc (.loop (rec .ready none)) = W1 := ⟨_, rfl⟩
  have hz : W1.heap.size = w.heap.size + 2 := by rw [← hW1]; simp
  have hL1 : W1.heap[w.heap.size + 1]? = some (.loop (rec .ready none)) := by
    rw [← hW1]; have := World.alloc_heap_new (w.alloc (.deferred (some []))) (.loop (rec .ready none)); rwa [World.size_alloc] at this
  have hK1 : W1.heap[w.heap.size]? = some (.deferred (some [])) := by
    rw [← hW1]; exact (Below.heap_alloc _ _ _ (by simp)).trans (World.alloc_heap_new w _)
  have hI1 : I [] W1 := by rw [← hW1]; exact hI.alloc _ (hI.alloc _ h0)
  have hb1 : Below w0.heap.size w0 W1 := by
    rw [← hW1]; exact hb0.trans ((((Below.refl _ w).alloc (Nat.le_refl _) _).alloc (by simp) _).mono hb0.size)
  have hrl : ¬ Rx (w.heap.size + 1) := fun h => by have := hRx _ h; omega
  have hrd : ¬ Rx w.heap.size := fun h => by have := hRx _ h; omega
  have toX : ∀ {A B : World}, It.But R A B → It.But Rx A B := fun h => ⟨h.size, fun k o hk ho => h.same k o (fun e => hk (hRR k e)) ho⟩
  refine ⟨w.heap.size + 1, [{ target := .collected w.heap.size, args := #[] }], W1, { target := .fn (.func gf) lb, args := #[.func (.yield (w.heap.size + 1)) #[] #[]] }, W1, gf,
    #[.func (.yield (w.heap.size + 1)) #[] #[]] ++ lb, W1, ?_, ?_, fun _ _ => trivial, ?_, fun _ => h1, ?_⟩
  · rw [← hW1, hrec]; exact run_enterLoop_outer _ _ _ _ _
  · simp only [resolve, hg]
    simp [go_sem]
  · simp [invoke, go_sem, eg]
  · refine callsIn_wide.2 (Calls.mono (hseq (w.heap.size + 1)
      (fun pre W => (I pre W ∧ W.heap[w.heap.size + 1]? = some (.loop (rec .ready none))) ∧ W.heap[w.heap.size]? = some (.deferred (some [])))
      (fun pre W => ∃ c, (Ix c pre W ∧ W.heap[w.heap.size + 1]? = some (.loop (rec .done (some c)))) ∧ W.heap[w.heap.size]? = some (.deferred (some [])))
      (fun k => Rx k ∨ k = w.heap.size + 1) W1 (fun k h => by rcases h with h | rfl; (· have := hRx k h; omega); (· omega)) hb1
      (It.Stable.and (It.Stable.and (hI.mono (by omega)) (It.stable_block _ (by omega))) (It.stable_block _ (by omega)))
      (fun s A B row ⟨c, hs⟩ hg' hr => ⟨c, It.Stable.and (It.Stable.and ((hIx c).mono (by omega)) (It.stable_block (fun _ => .loop (rec .done (some c))) (by omega))) (It.stable_block (fun _ => .deferred (some [])) (by omega)) s A B row hs hg' hr⟩)
      ?_ ⟨⟨hI1, hL1⟩, hK1⟩) ?_)
    · rintro pre x t W hx ⟨⟨hi, hl⟩, hk⟩
      have hy := run_yield (P := P) (args := encs x) hl (by rw [hrec]; exact hps x)
      rw [hrec] at hy
      refine It.anyDepth (m := n - 1 - 1) 1 ⟨fn, _, assign, body, hy, roundIn_of_wpIn hfn (hassign _ pre x W _ hi ?_)⟩
      clear hy
      intro a' Wa hba hia hax
      have hla := (toX hba).same _ _ hrl hl
      have hka := (toX hba).same _ _ hrd hk
      have hlt : w.heap.size + 1 < Wa.heap.size := (Array.getElem?_eq_some_iff.1 hla).1
      refine ⟨_, run_beginRound hla (by rw [hrec]), ?_⟩
      have hl2 : (Wa.putObj (w.heap.size + 1) (.loop { rec .ready none with state := .busy })).heap[w.heap.size + 1]? = some (.loop { rec .ready none with state := .busy }) := World.putObj_heap_same hlt
      have hk2 : (Wa.putObj (w.heap.size + 1) (.loop { rec .ready none with state := .busy })).heap[w.heap.size]? = some (.deferred (some [])) := (World.putObj_heap_other (by omega)).trans hka
      refine wpIn_mono (hbody _ pre x t a' _ hx (hI.putObj _ hia (by omega)) (hAx x a' _ _ _ _ (by omega) hla rfl hax)) ?_
      have fin : ∀ (jump : Option Code) (W3 : World), It.But Rx (Wa.putObj (w.heap.size + 1) (.loop { rec .ready none with state := .busy })) W3 →
          (Instr.endRound (w.heap.size + 1) jump).run P W3 = .ok (.bool jump.isNone) (W3.putObj (w.heap.size + 1) (.loop (rec (if jump.isNone then .ready else .done) jump))) ∧
          (W3.putObj (w.heap.size + 1) (.loop (rec (if jump.isNone then .ready else .done) jump))).heap[w.heap.size + 1]? = some (.loop (rec (if jump.isNone then .ready else .done) jump)) ∧
          (W3.putObj (w.heap.size + 1) (.loop (rec (if jump.isNone then .ready else .done) jump))).heap[w.heap.size]? = some (.deferred (some [])) := fun jump W3 hb3 => by
        have hl3 := hb3.same _ _ hrl hl2
        have := run_endRound (P := P) jump hl3
        rw [hrec] at this ⊢
        exact ⟨this, World.putObj_heap_same (Array.getElem?_eq_some_iff.1 hl3).1, (World.putObj_heap_other (by omega)).trans (hb3.same _ _ hrd hk2)⟩
      have goes : ∀ W3, It.But R (Wa.putObj (w.heap.size + 1) (.loop { rec .ready none with state := .busy })) W3 → It.But R W (W3.putObj (w.heap.size + 1) (.loop (rec .ready none))) := fun W3 hb3 => by
        refine hba.trans ⟨?_, fun k o hk ho => ?_⟩
        · have := hb3.size; simpa using this
        · by_cases e : k = w.heap.size + 1
          · subst e
            rw [hla] at ho
            cases ho
            exact World.putObj_heap_same (Array.getElem?_eq_some_iff.1 ((toX hb3).same _ _ hrl hl2)).1
          · exact (World.putObj_heap_other e).trans (hb3.same k o hk ((World.putObj_heap_other e).trans ho))
      have left : ∀ W3 (o' : Obj), It.But Rx (Wa.putObj (w.heap.size + 1) (.loop { rec .ready none with state := .busy })) W3 → It.But (fun k => Rx k ∨ k = w.heap.size + 1) W (W3.putObj (w.heap.size + 1) o') := fun W3 o' hb3 => by
        refine ⟨?_, fun k o hk ho => ?_⟩
        · have := hb3.size; have h2 := hba.size; simp at this ⊢; omega
        · have e : k ≠ w.heap.size + 1 := fun e => hk (.inr e)
          exact (World.putObj_heap_other e).trans (hb3.same k o (fun h => hk (.inl h)) ((World.putObj_heap_other e).trans ((toX hba).same k o (fun h => hk (.inl h)) ho)))
      rintro e a3 W3 hp
      cases e with
      | normal =>
        obtain ⟨hb3, hi3⟩ := hp
        obtain ⟨hr, hl4, hk4⟩ := fin none W3 (toX hb3)
        exact ⟨_, _, hr, .inl ⟨rfl, ⟨⟨hI.putObj _ hi3 (by omega), hl4⟩, hk4⟩, goes W3 hb3⟩⟩
      | ret =>
        obtain ⟨hb3, hi3⟩ := hp
        obtain ⟨hr, hl4, hk4⟩ := fin (some .ret) W3 hb3
        exact ⟨_, _, hr, .inr ⟨rfl, ⟨.ret, ⟨(hIx _).putObj _ hi3 (by omega), hl4⟩, hk4⟩, left W3 _ hb3⟩⟩
      | exit id =>
        obtain ⟨hb3, hi3⟩ := hp
        obtain ⟨hr, hl4, hk4⟩ := fin (some (.exit id)) W3 hb3
        exact ⟨_, _, hr, .inr ⟨rfl, ⟨.exit id, ⟨(hIx _).putObj _ hi3 (by omega), hl4⟩, hk4⟩, left W3 _ hb3⟩⟩
      | goto u =>
        obtain ⟨hb3, hi3⟩ := hp
        obtain ⟨hr, hl4, hk4⟩ := fin (some (.goto u)) W3 hb3
        exact ⟨_, _, hr, .inr ⟨rfl, ⟨.goto u, ⟨(hIx _).putObj _ hi3 (by omega), hl4⟩, hk4⟩, left W3 _ hb3⟩⟩
      | panic ch => exact hp.elim
      | outgrown => exact hp.elim
    · rintro e W2 ⟨⟨v, rfl⟩, (⟨⟨hi, hl⟩, hk⟩ | ⟨pre, hpre, c, ⟨hi, hl⟩, hk⟩)⟩
      · exact ⟨none, _, by have := run_endLoop (P := P) hl (by rw [hrec]; simp); rw [hrec] at this; exact this, hdone _ _ (Nat.le_refl _) (hI.putObj _ hi (by omega)) ((World.putObj_heap_other (by omega)).trans hk)⟩
      · exact ⟨some c, _, by have := run_endLoop (P := P) hl (by rw [hrec]; simp); rw [hrec] at this; exact this, hstop _ c pre _ (Nat.le_refl _) hpre ((hIx c).putObj _ hi (by omega)) ((World.putObj_heap_other (by omega)).trans hk)⟩
end Go.Proofs.YtdilkoogjkabfaaDoor
/- IterLaw2 -/
namespace Go.Proofs.YtdilkoogjkabfaaDoor
open Go.RowKit

/-- Whatever block of T is turned, and whatever is made: J stands. -/
def Is.Stable {β : Type} (T : Nat → Prop) (J : β → World → Prop) : Prop := ∀ s W W' row, J s W → W.grownBy W' row → (∀ r, row = some r → T r) → J s W'
theorem Is.Stable.putObj {β : Type} {T : Nat → Prop} {J : β → World → Prop} (h : Is.Stable T J) {s : β} {W : World} {l : Nat} (o' : Obj) (hs : J s W) (hB : T l) : J s (W.putObj l o') := h s W _ (some l) hs (grownBy_putObj' W l o') (fun r e => by cases e; exact hB)
theorem Is.Stable.alloc {β : Type} {T : Nat → Prop} {J : β → World → Prop} (h : Is.Stable T J) {s : β} {W : World} (o : Obj) (hs : J s W) : J s (W.alloc o) := h s W _ none hs (World.grownBy_alloc W o none) (fun r e => by cases e)
theorem Is.Stable.set {β : Type} {T : Nat → Prop} {J : β → World → Prop} (h : Is.Stable T J) {s : β} {W : World} {b o : Nat} (v : Value) (hs : J s W) (hB : T b) : J s (W.setCell ⟨b, o, none⟩ v) :=
  h s W _ (some b) hs ⟨rfl, rfl, rfl, (KeepsWalks.setCell W _ v).size, fun k _ hk => Below.heap_setCell _ _ _ k (fun e => hk (by rw [e]))⟩ (fun r e => by cases e; exact hB)
theorem Is.Stable.drew {β : Type} {T : Nat → Prop} {J : β → World → Prop} (h : Is.Stable T J) {s : β} {W : World} (hs : J s W) : J s W.drew := h s W _ none hs ⟨rfl, rfl, rfl, Nat.le_refl _, fun _ _ _ => rfl⟩ (fun r e => by cases e)
theorem Is.Stable.mono {β : Type} {T T' : Nat → Prop} {J : β → World → Prop} (h : Is.Stable T J) (hB : ∀ k, T' k → T k) : Is.Stable T' J := fun _ _ _ _ hs hg hr => h _ _ _ _ hs hg (fun r e => hB r (hr r e))
theorem Is.Stable.and {β : Type} {T : Nat → Prop} {J J' : β → World → Prop} (h : Is.Stable T J) (h' : Is.Stable T J') : Is.Stable T (fun s W => J s W ∧ J' s W) := fun s W W' row hs hg hr => ⟨h s W W' row hs.1 hg hr, h' s W W' row hs.2 hg hr⟩
theorem Is.stable_block {β : Type} {T : Nat → Prop} {b : Nat} (f : β → Obj) (hb : ¬ T b) : Is.Stable T (fun s W => W.heap[b]? = some (f s)) := fun _ _ _ _ hs hg hr =>
  (hg.block b (Array.getElem?_eq_some_iff.1 hs).1 (fun e => hb (hr b e.symm))).trans hs
theorem Is.stable_below {β : Type} {n₀ : Nat} {T : Nat → Prop} {w₀ : World} (hn : n₀ ≤ w₀.heap.size) (hB : ∀ k, T k → n₀ ≤ k) : Is.Stable T (fun (_ : β) W => Below n₀ w₀ W) := fun _ _ _ _ hs hg hr => hs.grown hg (Nat.le_trans hn hs.size) (fun k e => hB k (hr k e))
theorem Is.stable_pure {β : Type} (T : Nat → Prop) (p : β → Prop) : Is.Stable T (fun s (_ : World) => p s) := fun _ _ _ _ hs _ _ => hs
/-- An iterator's contract: the list that comes, whatever rounds that keep all blocks but R's. -/
def Is.Seq {α : Type} (P : Program) (g : Nat) (lb : Array Value) (encs : α → Array Value) (T R : Nat → Prop) (L : List α) (w : World) : Prop :=
  ∀ (l : Nat) (J Jx : List α → World → Prop) (Rx : Nat → Prop) (W : World), Below w.heap.size w W → Is.Stable T J → Is.Stable T Jx →
    (∀ pre x t W1, L = pre ++ x :: t → J pre W1 → YieldAt Fence.wide 1 P l (encs x) W1 fun e W' =>
      (e = .returned (.bool true) ∧ J (pre ++ [x]) W' ∧ It.But R W1 W') ∨ (e = .returned (.bool false) ∧ Jx (pre ++ [x]) W' ∧ It.But Rx W1 W')) →
    J [] W →
    Calls P g (#[.func (.yield l) #[] #[]] ++ lb) W fun e W' => (∃ v, e = .returned v) ∧ (J L W' ∨ ∃ pre, pre <+: L ∧ Jx pre W')

/-- The loop that ranges over such an iterator. -/
theorem Is.range {α : Type} {P : Program} {n : Nat} {g : Operand} {ps : Array Tmp} {assign body : Code} {Q : Exit → Act → World → Prop} {a : Act} {w : World}
    (h1 : 1 ≤ n) {gf : Nat} {lb : Array Value} (hg : a.eval g = .func (.func gf) #[] lb) (eg : ∀ args w, (callFunc gf args).run P w = .ok (.enter gf args) w)
    {encs : α → Array Value} {T R : Nat → Prop} {L : List α} {w0 : World} (hseq : Is.Seq P gf lb encs T R L w0) (hT : ∀ k, T k → k < w.heap.size) (Rx : Nat → Prop) (hRR : ∀ k, R k → Rx k) (hrd : ¬ Rx w.heap.size) (hrl : ¬ Rx (w.heap.size + 1)) (hb0 : Below w0.heap.size w0 w) (hps : ∀ x, (encs x).size = ps.size)
    (I : List α → World → Prop) (Ix : Code → List α → World → Prop) (hI : Is.Stable (fun k => T k ∨ k = w.heap.size ∨ k = w.heap.size + 1) I) (hIx : ∀ c, Is.Stable (fun k => T k ∨ k = w.heap.size ∨ k = w.heap.size + 1) (Ix c)) (h0 : I [] w)
    (Ax : α → Act → World → Prop) (hAx : ∀ x a' W l o o', w.heap.size ≤ l → W.heap[l]? = some o → o.isCells = false → Ax x a' W → Ax x a' (W.putObj l o'))
    (hassign : ∀ (l : Nat) (pre : List α) (x : α) (W : World) (K : Act → World → Prop), w.heap.size + 2 ≤ W.heap.size → I pre W → (∀ a' W', It.But R W W' → I pre W' → Ax x a' W' → K a' W') →
      assign.wpIn (Fence.wide.inRound l) (n - 1 - 1) P (Exit.then K (fun _ _ _ => False)) { tmps := (ps.zip (encs x)).foldl (fun t (p, v) => t.setIfInBounds p v) a.tmps, defers := [] } W)
    (hbody : ∀ (l : Nat) (pre : List α) (x : α) (t : List α) (a' : Act) (W : World), w.heap.size + 2 ≤ W.heap.size → L = pre ++ x :: t → I pre W → Ax x a' W → body.wpIn (Fence.wide.inRound l) (n - 1 - 1) P (It.Post R Rx I Ix (pre ++ [x]) W) a' W)
    (hdone : ∀ (D : Nat) (W : World), w.heap.size ≤ D → I L W → W.heap[D]? = some (.deferred (some [])) → Q .normal { a with defers := { target := .collected D, args := #[] } :: a.defers } W)
    (hstop : ∀ (D : Nat) (c : Code) (pre : List α) (W : World), w.heap.size ≤ D → pre <+: L → Ix c pre W → W.heap[D]? = some (.deferred (some [])) → c.wpIn Fence.wide n P Q { a with defers := { target := .collected D, args := #[] } :: a.defers } W) :
    (Code.rangeFunc g ps assign body).wpIn Fence.wide n P Q a w := by
  refine wpIn_rangeFunc ?_
  intro fn hfn
  rw [show Fence.wide.round = none from rfl]
  obtain ⟨rec, hrec⟩ : ∃ rec : LoopState → Option Code → Loop, rec = fun st pe => { state := st, pending := pe, fn, tmps := a.tmps, params := ps, assign, body, defers := w.heap.size } := ⟨_, rfl⟩
  obtain ⟨W1, hW1⟩ : ∃ W1, (w.alloc (.deferred (some []))).alloc (.loop (rec .ready none)) = W1 := ⟨_, rfl⟩
  have hz : W1.heap.size = w.heap.size + 2 := by rw [← hW1]; simp
  have hL1 : W1.heap[w.heap.size + 1]? = some (.loop (rec .ready none)) := by
    rw [← hW1]; have := World.alloc_heap_new (w.alloc (.deferred (some []))) (.loop (rec .ready none)); rwa [World.size_alloc] at this
  have hK1 : W1.heap[w.heap.size]? = some (.deferred (some [])) := by
    rw [← hW1]; exact (Below.heap_alloc _ _ _ (by simp)).trans (World.alloc_heap_new w _)
  have hI1 : I [] W1 := by rw [← hW1]; exact hI.alloc _ (hI.alloc _ h0)
  have hb1 : Below w0.heap.size w0 W1 := by
    rw [← hW1]; exact hb0.trans ((((Below.refl _ w).alloc (Nat.le_refl _) _).alloc (by simp) _).mono hb0.size)
  have toX : ∀ {A B : World}, It.But R A B → It.But Rx A B := fun h => ⟨h.size, fun k o hk ho => h.same k o (fun e => hk (hRR k e)) ho⟩
  refine ⟨w.heap.size + 1, [{ target := .collected w.heap.size, args := #[] }], W1, { target := .fn (.func gf) lb, args := #[.func (.yield (w.heap.size + 1)) #[] #[]] }, W1, gf,
    #[.func (.yield (w.heap.size + 1)) #[] #[]] ++ lb, W1, ?_, ?_, fun _ _ => trivial, ?_, fun _ => h1, ?_⟩
  · rw [← hW1, hrec]; exact run_enterLoop_outer _ _ _ _ _
  · simp only [resolve, hg]
    simp [go_sem]
  · simp [invoke, go_sem, eg]
  · refine callsIn_wide.2 (Calls.mono (hseq (w.heap.size + 1)
      (fun pre W => (I pre W ∧ W.heap[w.heap.size + 1]? = some (.loop (rec .ready none))) ∧ W.heap[w.heap.size]? = some (.deferred (some [])))
      (fun pre W => ∃ c, (Ix c pre W ∧ W.heap[w.heap.size + 1]? = some (.loop (rec .done (some c)))) ∧ W.heap[w.heap.size]? = some (.deferred (some [])))
      (fun k => Rx k ∨ k = w.heap.size + 1) W1 hb1
      (Is.Stable.and (Is.Stable.and (hI.mono (fun _ h => .inl h)) (Is.stable_block _ (fun h => by have := hT _ h; omega))) (Is.stable_block _ (fun h => by have := hT _ h; omega)))
      (fun s A B row ⟨c, hs⟩ hg' hr => ⟨c, Is.Stable.and (Is.Stable.and ((hIx c).mono (fun _ h => .inl h)) (Is.stable_block (fun _ => .loop (rec .done (some c))) (fun h => by have := hT _ h; omega))) (Is.stable_block (fun _ => .deferred (some [])) (fun h => by have := hT _ h; omega)) s A B row hs hg' hr⟩)
      ?_ ⟨⟨hI1, hL1⟩, hK1⟩) ?_)
    · rintro pre x t W hx ⟨⟨hi, hl⟩, hk⟩
      have hy := run_yield (P := P) (args := encs x) hl (by rw [hrec]; exact hps x)
      rw [hrec] at hy
      refine It.anyDepth (m := n - 1 - 1) 1 ⟨fn, _, assign, body, hy, roundIn_of_wpIn hfn (hassign _ pre x W _ (by have := (Array.getElem?_eq_some_iff.1 hl).1; omega) hi ?_)⟩
      clear hy
      intro a' Wa hba hia hax
      have hla := (toX hba).same _ _ hrl hl
      have hka := (toX hba).same _ _ hrd hk
      have hlt : w.heap.size + 1 < Wa.heap.size := (Array.getElem?_eq_some_iff.1 hla).1
      refine ⟨_, run_beginRound hla (by rw [hrec]), ?_⟩
      have hl2 : (Wa.putObj (w.heap.size + 1) (.loop { rec .ready none with state := .busy })).heap[w.heap.size + 1]? = some (.loop { rec .ready none with state := .busy }) := World.putObj_heap_same hlt
      have hk2 : (Wa.putObj (w.heap.size + 1) (.loop { rec .ready none with state := .busy })).heap[w.heap.size]? = some (.deferred (some [])) := (World.putObj_heap_other (by omega)).trans hka
      refine wpIn_mono (hbody _ pre x t a' _ (by simp; omega) hx (hI.putObj _ hia (.inr (by omega))) (hAx x a' _ _ _ _ (by omega) hla rfl hax)) ?_
      have fin : ∀ (jump : Option Code) (W3 : World), It.But Rx (Wa.putObj (w.heap.size + 1) (.loop { rec .ready none with state := .busy })) W3 →
          (Instr.endRound (w.heap.size + 1) jump).run P W3 = .ok (.bool jump.isNone) (W3.putObj (w.heap.size + 1) (.loop (rec (if jump.isNone then .ready else .done) jump))) ∧
          (W3.putObj (w.heap.size + 1) (.loop (rec (if jump.isNone then .ready else .done) jump))).heap[w.heap.size + 1]? = some (.loop (rec (if jump.isNone then .ready else .done) jump)) ∧
          (W3.putObj (w.heap.size + 1) (.loop (rec (if jump.isNone then .ready else .done) jump))).heap[w.heap.size]? = some (.deferred (some [])) := fun jump W3 hb3 => by
        have hl3 := hb3.same _ _ hrl hl2
        have := run_endRound (P := P) jump hl3
        rw [hrec] at this ⊢
        exact ⟨this, World.putObj_heap_same (Array.getElem?_eq_some_iff.1 hl3).1, (World.putObj_heap_other (by omega)).trans (hb3.same _ _ hrd hk2)⟩
      have goes : ∀ W3, It.But R (Wa.putObj (w.heap.size + 1) (.loop { rec .ready none with state := .busy })) W3 → It.But R W (W3.putObj (w.heap.size + 1) (.loop (rec .ready none))) := fun W3 hb3 => by
        refine hba.trans ⟨?_, fun k o hk ho => ?_⟩
        · have := hb3.size; simpa using this
        · by_cases e : k = w.heap.size + 1
          · subst e
            rw [hla] at ho
            cases ho
            exact World.putObj_heap_same (Array.getElem?_eq_some_iff.1 ((toX hb3).same _ _ hrl hl2)).1
          · exact (World.putObj_heap_other e).trans (hb3.same k o hk ((World.putObj_heap_other e).trans ho))
      have left : ∀ W3 (o' : Obj), It.But Rx (Wa.putObj (w.heap.size + 1) (.loop { rec .ready none with state := .busy })) W3 → It.But (fun k => Rx k ∨ k = w.heap.size + 1) W (W3.putObj (w.heap.size + 1) o') := fun W3 o' hb3 => by
        refine ⟨?_, fun k o hk ho => ?_⟩
        · have := hb3.size; have h2 := hba.size; simp at this ⊢; omega
        · have e : k ≠ w.heap.size + 1 := fun e => hk (.inr e)
          exact (World.putObj_heap_other e).trans (hb3.same k o (fun h => hk (.inl h)) ((World.putObj_heap_other e).trans ((toX hba).same k o (fun h => hk (.inl h)) ho)))
      rintro e a3 W3 hp
      cases e with
      | normal =>
        obtain ⟨hb3, hi3⟩ := hp
        obtain ⟨hr, hl4, hk4⟩ := fin none W3 (toX hb3)
        exact ⟨_, _, hr, .inl ⟨rfl, ⟨⟨hI.putObj _ hi3 (.inr (by omega)), hl4⟩, hk4⟩, goes W3 hb3⟩⟩
      | ret =>
        obtain ⟨hb3, hi3⟩ := hp
        obtain ⟨hr, hl4, hk4⟩ := fin (some .ret) W3 hb3
        exact ⟨_, _, hr, .inr ⟨rfl, ⟨.ret, ⟨(hIx _).putObj _ hi3 (.inr (by omega)), hl4⟩, hk4⟩, left W3 _ hb3⟩⟩
      | exit id =>
        obtain ⟨hb3, hi3⟩ := hp
        obtain ⟨hr, hl4, hk4⟩ := fin (some (.exit id)) W3 hb3
        exact ⟨_, _, hr, .inr ⟨rfl, ⟨.exit id, ⟨(hIx _).putObj _ hi3 (.inr (by omega)), hl4⟩, hk4⟩, left W3 _ hb3⟩⟩
      | goto u =>
        obtain ⟨hb3, hi3⟩ := hp
        obtain ⟨hr, hl4, hk4⟩ := fin (some (.goto u)) W3 hb3
        exact ⟨_, _, hr, .inr ⟨rfl, ⟨.goto u, ⟨(hIx _).putObj _ hi3 (.inr (by omega)), hl4⟩, hk4⟩, left W3 _ hb3⟩⟩
      | panic ch => exact hp.elim
      | outgrown => exact hp.elim
    · rintro e W2 ⟨⟨v, rfl⟩, (⟨⟨hi, hl⟩, hk⟩ | ⟨pre, hpre, c, ⟨hi, hl⟩, hk⟩)⟩
      · exact ⟨none, _, by have := run_endLoop (P := P) hl (by rw [hrec]; simp); rw [hrec] at this; exact this, hdone _ _ (Nat.le_refl _) (hI.putObj _ hi (.inr (by omega))) ((World.putObj_heap_other (by omega)).trans hk)⟩
      · exact ⟨some c, _, by have := run_endLoop (P := P) hl (by rw [hrec]; simp); rw [hrec] at this; exact this, hstop _ c pre _ (Nat.le_refl _) hpre ((hIx c).putObj _ hi (.inr (by omega))) ((World.putObj_heap_other (by omega)).trans hk)⟩
end Go.Proofs.YtdilkoogjkabfaaDoor
/- DiffIter -/
namespace Go.Proofs.YtdilkoogjkabfaaDoor
open Go.RowKit Go.Shelf
attribute [local go_sem] Oper.semAt_some

theorem F.line_first : ∀ cur : List UInt8, (Lib.indexByte cur 10 = -1 ∧ (cur = [] ∨ F.rows cur = [cur])) ∨ ∃ k : Nat, Lib.indexByte cur 10 = (k : Int) ∧ k < cur.length ∧ F.rows cur = cur.take (k + 1) :: F.rows (cur.drop (k + 1))
  | [] => .inl ⟨rfl, .inl rfl⟩
  | b :: l => by
    by_cases h : b = 10
    · subst h
      exact .inr ⟨0, rfl, by simp, by rw [F.rows, if_pos rfl]; rfl⟩
    · have hb : (b == 10) = false := by simpa using h
      have ih := F.line_first l
      rcases ih with ⟨h1, h2⟩ | ⟨k, h1, h2, h3⟩
      · left
        refine ⟨by unfold Lib.indexByte; rw [hb, h1]; rfl, .inr ?_⟩
        rcases h2 with rfl | h2
        · rw [F.rows, if_neg h]; rfl
        · rw [F.rows, if_neg h, h2]
      · right
        refine ⟨k + 1, ?_, by simp; omega, ?_⟩
        · unfold Lib.indexByte
          have hk : (((k : Nat) : Int) == -1) = false := by simp
          rw [hb, h1, hk]; rfl
        · rw [F.rows, if_neg h, h3]
          simp
/-- How much is left in a box. -/
def F.boxLen (W : World) (b : Nat) : Nat := match W.cell? ⟨b, 0, none⟩ with
  | some (.string s) => s.size
  | _ => 0
theorem F.boxLen_of {W : World} {b : Nat} {s : ByteArray} (h : W.cell? ⟨b, 0, none⟩ = some (.string s)) : F.boxLen W b = s.size := by unfold F.boxLen; rw [h]
def F.encL (l : List UInt8) : Array Value := #[.string ⟨l.toArray⟩]
theorem F.indexByte' (s : ByteArray) (w : World) : Calls Tryd.prog 39 #[.string s, .int .u8 10] w fun e w' => e = .returned (.int .i64 (Lib.indexByte s.data.toList 10)) ∧ w = w' :=
  (F.indexByte s 10 w).mono fun _ _ h => ⟨h.1, h.2.symm⟩
theorem F.str_list (s : ByteArray) : (⟨s.data.toList.toArray⟩ : ByteArray) = s := D.bytes_eq s
theorem F.encL_of (s : ByteArray) : F.encL s.data.toList = #[.string s] := by unfold F.encL; rw [F.str_list]
set_option maxRecDepth 100000 in
set_option maxHeartbeats 4000000 in
theorem lines1 (l Bs : Nat) (s : ByteArray) (R : Nat → Prop) (J Jx : List (List UInt8) → World → Prop) (Rx : Nat → Prop) (W : World) (hs : s.size ≤ 140737488351232) (hJ : Is.Stable (fun k => k = Bs) J)
    (hc : Boxed W Bs 9 (.string s)) (hR : ¬ R Bs)
    (hY : ∀ pre x t W1, F.rows s.data.toList = pre ++ x :: t → J pre W1 → YieldAt Fence.wide 1 Tryd.prog l (F.encL x) W1 fun e W' => (e = .returned (.bool true) ∧ J (pre ++ [x]) W' ∧ It.But R W1 W') ∨ (e = .returned (.bool false) ∧ Jx (pre ++ [x]) W' ∧ It.But Rx W1 W')) (h0 : J [] W) :
    Calls Tryd.prog 38 #[.func (.yield l) #[] #[], .pointer (some ⟨Bs, 0, none⟩)] W fun e W' => (∃ v, e = .returned v) ∧ (J (F.rows s.data.toList) W' ∨ ∃ pre, pre <+: F.rows s.data.toList ∧ Jx pre W') := by
  refine (callsIn_wide (n := 2)).1 (callsIn_of_wp Tryd.func38 rfl trivial ?_ rfl)
  simp only [Tryd.ntmps38, List.size_toArray, List.length_cons, List.length_nil, Nat.reduceAdd, Nat.reduceSub, Array.replicate_succ, Array.replicate_zero, List.push_toArray, List.append_toArray, List.nil_append, List.cons_append]
  obtain ⟨L, hL⟩ : ∃ L, Hid (F.rows s.data.toList = L) := ⟨_, rfl⟩
  rw [hL.out] at hY ⊢
  have HY := Lib.hid hY
  have HJ := Lib.hid hJ
  have HR := Lib.hid hR
  have HC := Lib.hid hc
  clear hY hJ hR hc
  gi_wp2
  gi_loopw [3] (fun _ wr => ∃ (pre : List (List UInt8)) (cur : ByteArray), cur.size ≤ 140737488351232 ∧ Hid (L = pre ++ F.rows cur.data.toList) ∧ Hid (J pre wr) ∧ Hid (Boxed wr Bs 9 (.string cur)) ∧ Hid (F.boxLen wr Bs = cur.size)) (fun _ wr => F.boxLen wr Bs)
  case atStart => exact ⟨[], s, hs, hL.out.symm, h0, HC, F.boxLen_of HC.out.cell⟩
  case round =>
    obtain ⟨pre, cur, hz, hpre, hj, hb, hm⟩ := hrel
    have hc := hb.out.cell
    have hf := hb.out.frozen
    by_cases h0 : cur.size = 0
    · have hz0 : (cur.size : Int) = 0 := by omega
      have e : F.rows cur.data.toList = [] := by
        rw [F.rows_nil, ← List.length_eq_zero_iff]; rw [U.len]; exact h0
      have E : Hid (L = pre) := by show _ = _; rw [hpre.out, e, List.append_nil]
      clear e
      gi_wp2
      go_end0
      exact ⟨⟨_, rfl⟩, .inl (by rw [E.out]; exact hj.out)⟩
    · have hz1 : 0 < cur.size := by omega
      have hz2 : ¬ cur.size = 0 := h0
      have HI := Lib.hid (F.indexByte' cur wr)
      rcases F.line_first cur.data.toList with ⟨e1, e2⟩ | ⟨k, e1, e2, e3⟩
      · rw [e1] at HI
        have e2 : F.rows cur.data.toList = [cur.data.toList] := by
          rcases e2 with e2 | e2
          · have := congrArg List.length e2; rw [U.len, List.length_nil] at this; omega
          · exact e2
        have HN : Hid (L = (pre ++ [cur.data.toList]) ++ F.rows []) := by show _ = _; rw [hpre.out, e2]; simp [F.rows]
        obtain ⟨WY, hWY⟩ : ∃ WY, Hid (wr.setCell ⟨Bs, 0, none⟩ (.string ⟨#[]⟩) = WY) := ⟨_, rfl⟩
        have X3 : J pre WY := by rw [← hWY.out]; exact HJ.out.set _ hj.out rfl
        have XB : Boxed WY Bs 9 (.string ⟨#[]⟩) := by rw [← hWY.out]; exact hb.out.set _
        obtain ⟨fn, tmps, assign, body, hy, hR'⟩ := HY.out pre cur.data.toList [] WY (by rw [HN.out]; simp [F.rows]) X3
        rw [F.encL_of] at hy
        have HR2 := Lib.hid hR'
        have HXB := Lib.hid XB
        clear e1 e2 hpre hj hb X3 XB hR'
        gi_wp2
        refine ⟨trivial, ?_⟩
        refine (callsIn_wide.2 HI.out).mono ?_
        rintro e w' ⟨rfl, rfl⟩
        gi_wp2
        rw [hWY.out, hy]
        clear hc hf hWY
        gi_wp2
        refine HR2.out.mono ?_
        rintro e W3 (⟨rfl, hJ3, hk3⟩ | ⟨rfl, hJx3, _⟩)
        · have Y0 : Boxed W3 Bs 9 (.string ⟨#[]⟩) := hk3.same _ _ HR.out HXB.out
          have hm' : F.boxLen W3 Bs = 0 := F.boxLen_of Y0.cell
          have YS := Lib.hid (And.intro hJ3 (And.intro Y0 hm'))
          clear hk3 hJ3 Y0 hm'
          gi_wp2
          go_roundw
          case rel => exact ⟨_, ⟨#[]⟩, by decide, HN, YS.out.1, YS.out.2.1, YS.out.2.2⟩
          case measure => have := hm.out; have := YS.out.2.2; omega
        · have R := Lib.hid hJx3
          clear hJx3
          gi_wp2
          refine bodyPost_ret (results_none rfl _ _ _) rfl ?_
          exact ⟨⟨_, rfl⟩, .inr ⟨_, ⟨_, HN.out.symm⟩, R.out⟩⟩
      · rw [e1] at HI
        have hk : k < cur.size := by rwa [U.len] at e2
        obtain ⟨T1, hT1⟩ : ∃ T1 : ByteArray, T1 = cur.extract 0 (k + 1) := ⟨_, rfl⟩
        obtain ⟨T2, hT2⟩ : ∃ T2 : ByteArray, T2 = cur.extract (k + 1) cur.size := ⟨_, rfl⟩
        have s1 : ∀ V, (Instr.slice 9 (.string cur) none (some (.int .i64 ((k : Int) + 1))) none).run Tryd.prog V = .ok (.string T1) V := fun V => by
          rw [hT1]; exact run_slice_string_h V 9 cur Tryd.underlying9 .i64 ((k : Int) + 1) (by omega) (by omega)
        have s2 : ∀ V, (Instr.slice 9 (.string cur) (some (.int .i64 ((k : Int) + 1))) none none).run Tryd.prog V = .ok (.string T2) V := fun V => by
          rw [hT2]; exact run_slice_string_l V 9 cur Tryd.underlying9 .i64 ((k : Int) + 1) (by omega) (by omega)
        have f1 : T1.data.toList = cur.data.toList.take (k + 1) := by rw [hT1]; simp
        have f2 : T2.data.toList = cur.data.toList.drop (k + 1) := by
          rw [hT2]
          simp only [ByteArray.data_extract, Array.toList_extract, List.extract_eq_take_drop]
          exact List.take_of_length_le (by simp)
        have z2 : T2.size ≤ 140737488351232 ∧ T2.size < cur.size := by
          have : T2.data.toList.length = cur.size - (k + 1) := by rw [f2, List.length_drop, U.len]
          rw [U.len] at this; omega
        have HN : Hid (L = (pre ++ [T1.data.toList]) ++ F.rows T2.data.toList) := by show _ = _; rw [hpre.out, e3, f1, f2]; simp
        have wr1 : IntKind.i64.wrap ((k : Int) + 1) = (k : Int) + 1 := IntWalk.i64_in _ (by omega)
        obtain ⟨WY, hWY⟩ : ∃ WY, Hid ((wr.setCell ⟨Bs, 0, none⟩ (.string T2)).drew = WY) := ⟨_, rfl⟩
        have X3 : J pre WY := by rw [← hWY.out]; exact HJ.out.drew (HJ.out.set _ hj.out rfl)
        have XB : Boxed WY Bs 9 (.string T2) := by rw [← hWY.out]; exact hb.out.set _
        obtain ⟨fn, tmps, assign, body, hy, hR'⟩ := HY.out pre T1.data.toList (F.rows T2.data.toList) WY (by rw [HN.out]; simp) X3
        rw [F.encL_of] at hy
        have HR2 := Lib.hid hR'
        have HXB := Lib.hid XB
        have Z2 := Lib.hid z2
        clear e1 e2 e3 hpre hj hb X3 XB hR' hT1 hT2 f1 f2 z2
        gi_wp2
        refine ⟨trivial, ?_⟩
        refine (callsIn_wide.2 HI.out).mono ?_
        rintro e w' ⟨rfl, rfl⟩
        gi_wp2
        gi_region
        rw [hWY.out]
        clear hc hf hWY s1 s2
        gi_wp2
        refine HR2.out.mono ?_
        rintro e W3 (⟨rfl, hJ3, hk3⟩ | ⟨rfl, hJx3, _⟩)
        · have Y0 : Boxed W3 Bs 9 (.string T2) := hk3.same _ _ HR.out HXB.out
          have hm' : F.boxLen W3 Bs = T2.size := F.boxLen_of Y0.cell
          have YS := Lib.hid (And.intro hJ3 (And.intro Y0 hm'))
          clear hk3 hJ3 Y0 hm'
          gi_wp2
          go_roundw
          case rel => exact ⟨_, T2, Z2.out.1, HN, YS.out.1, YS.out.2.1, YS.out.2.2⟩
          case measure => have := hm.out; have := YS.out.2.2; have := Z2.out; omega
        · have R := Lib.hid hJx3
          clear hJx3
          gi_wp2
          refine bodyPost_ret (results_none rfl _ _ _) rfl ?_
          exact ⟨⟨_, rfl⟩, .inr ⟨_, ⟨_, HN.out.symm⟩, R.out⟩⟩
end Go.Proofs.YtdilkoogjkabfaaDoor
/- DiffCol -/
namespace Go.Proofs.YtdilkoogjkabfaaDoor
open Go.RowKit Go.Shelf
attribute [local go_sem] Oper.semAt_some

theorem Tryd.infoStr8 : (Tryd.prog.info? 9).map (fun i => (i.zero, i.size, i.bytes)) = some (some (.string ⟨#[]⟩), 1, 16) := by kernel_rfl
theorem F.enters_lines : ∀ args w, (callFunc 38 args).run Tryd.prog w = .ok (.enter 38 args) w := enters_of Tryd.func38 (by kernel_rfl) rfl
theorem lines_seq (s : ByteArray) (w : World) (hs : s.size ≤ 140737488351232) (R : Nat → Prop) (hR : ¬ R w.heap.size) :
    Is.Seq Tryd.prog 38 #[.pointer (some ⟨w.heap.size, 0, none⟩)] F.encL (fun k => k = w.heap.size) R (F.rows s.data.toList) (w.alloc (.cells #[.string s] 9)) := fun l J Jx Rx W hW hJ _ hY h0 =>
  lines1 l w.heap.size s R J Jx Rx W hs hJ ((hW.block w.heap.size (by simp)).trans (World.alloc_heap_new w _)) hR hY h0
/-- What lies in memory between two lines. -/
def F.ColAt (w : World) (B2 nb : Nat) (pre : List (List UInt8)) (W : World) : Prop :=
  ∃ v, Boxed W B2 51 v ∧ W.ownsRow nb 9 1 v pre.length (pre.map V.str) ∧ Below w.heap.size w W
theorem F.col_stable (w : World) (B2 nb : Nat) (T : Nat → Prop) (h2 : ¬ T B2) (hn : ∀ k, T k → k < nb) (hw : ∀ k, T k → w.heap.size ≤ k) : Is.Stable T (F.ColAt w B2 nb) := by
  rintro pre W W' row ⟨v, h1, h3, h4⟩ hg hr
  refine ⟨v, h1.kept hg (fun e => h2 (hr _ e.symm)), h3.kept hg ?_, h4.grown hg h4.size (fun k e => hw k (hr k e))⟩
  cases hv : v.ownBlock with
  | none => exact .inl rfl
  | some k =>
    right
    intro e
    have h5 := (h3.lt k hv).1
    have h6 := hn k (hr k (by rw [← e]))
    omega
theorem F.col_put {w : World} {B2 nb : Nat} {pre : List (List UInt8)} {x : List UInt8} {W w1 : World} {v v' : Value} {tmp : Obj} (hw : w.heap.size ≤ B2) (hb : B2 < nb)
    (h1 : Boxed W B2 51 v) (h3 : W.ownsRow nb 9 1 v pre.length (pre.map V.str)) (h4 : Below w.heap.size w W)
    (hown : w1.ownsRow nb 9 1 v' (pre.length + 1) (pre.map V.str ++ [V.str x])) (hgrow : (W.alloc tmp).grownBy w1 v.ownBlock) :
    Boxed w1 B2 51 v ∧ It.But (fun k => k = B2 ∨ nb ≤ k) W (w1.setCell ⟨B2, 0, none⟩ v') ∧ F.ColAt w B2 nb (pre ++ [x]) (w1.setCell ⟨B2, 0, none⟩ v') := by
  have hne : some B2 ≠ v.ownBlock := fun e => by have := (h3.lt B2 e.symm).1; omega
  have hv1 : Boxed w1 B2 51 v := (h1.alloc tmp).kept hgrow hne
  refine ⟨hv1, ?_, v', hv1.set v', ?_, ?_⟩
  · exact (((It.But.refl _ W).alloc tmp).trans (It.But.grown hgrow (fun r e => .inr (h3.lt r e).1))).trans (It.But.grown (grownBy_setCell' w1 B2 v') (fun r e => by cases e; exact .inl rfl))
  · have := hown.kept (grownBy_setCell' w1 B2 v') (by
      cases hv : v'.ownBlock with
      | none => exact .inl rfl
      | some k => right; intro e; have h5 := (hown.lt k hv).1; cases e; omega)
    rw [List.length_append, List.map_append]; exact this
  · refine ((h4.alloc h4.size tmp).grown hgrow (by have := h4.size; simp; omega) (fun j e => by have := (h3.lt j e).1; omega)).setCell (p := ⟨B2, 0, none⟩) hw v'
set_option maxRecDepth 100000 in
set_option maxHeartbeats 4000000 in
theorem appendSeq8_any (s : ByteArray) (w : World) (hs : s.size ≤ 1048576) :
    Calls Tryd.prog 37 #[.slice none 0 0, .func (.func 38) #[] #[.pointer (some ⟨w.heap.size, 0, none⟩)]] (w.alloc (.cells #[.string s] 9)) fun e w' =>
      ∃ v, e = .returned v ∧ V.Made 9 ((F.rows s.data.toList).map V.str) w v w' := by
  obtain ⟨i0, hi, hz0, hz1, hz2⟩ := info_parts Tryd.infoStr8
  have hlen := F.rows_len s.data.toList
  rw [U.len] at hlen
  refine (callsIn_wide (n := 3)).1 (callsIn_of_wp_marks Tryd.func37 rfl trivial ?_ rfl)
  simp only [Tryd.ntmps37, List.size_toArray, List.length_cons, List.length_nil, Nat.reduceAdd, Nat.reduceSub, Array.replicate_succ, Array.replicate_zero, List.push_toArray, List.append_toArray, List.nil_append, List.cons_append]
  gi_wp2
  have B0 : Below w.heap.size w ((w.alloc (.cells #[.string s] 9)).alloc (.cells #[.slice none 0 0] 51)) := ((Below.refl _ w).alloc (Nat.le_refl _) _).alloc (by simp) _
  have bO : Boxed ((w.alloc (.cells #[.string s] 9)).alloc (.cells #[.slice none 0 0] 51)) (w.heap.size + 1) 51 (.slice none 0 0) := by
    have := Boxed.new (w.alloc (.cells #[.string s] 9)) 51 (.slice none 0 0)
    rwa [World.size_alloc] at this
  refine Is.range (n := 3) (by omega) (gf := 38) (lb := #[.pointer (some ⟨w.heap.size, 0, none⟩)]) (encs := F.encL) (T := fun k => k = w.heap.size) (R := fun k => k = w.heap.size + 1 ∨ w.heap.size + 4 ≤ k) (L := F.rows s.data.toList) (w0 := w.alloc (.cells #[.string s] 9)) rfl F.enters_lines
    (lines_seq s w (by omega) _ (by omega)) (fun k h => by subst h; simp; omega) (fun k => k = w.heap.size + 1 ∨ w.heap.size + 4 ≤ k) (fun k h => h) (by simp) (by simp; omega) ((Below.refl _ _).alloc (Nat.le_refl _) _) (fun _ => rfl)
    (F.ColAt w (w.heap.size + 1) (w.heap.size + 4)) (fun _ _ _ => False) (F.col_stable _ _ _ _ (by simp) (fun k h => by simp at h; omega) (fun k h => by simp at h; omega)) (fun _ _ _ _ _ hs _ _ => hs)
    ⟨_, bO, World.ownsRow_nil _ _ _ _, B0⟩
    (fun x a' W => a' = { tmps := #[.slice none 0 0, .func (.func 38) #[] #[.pointer (some ⟨w.heap.size, 0, none⟩)], .pointer (some ⟨w.heap.size + 1, 0, none⟩), undef, .slice none 0 0, .string ⟨x.toArray⟩, .func (.func 38) #[] #[.pointer (some ⟨w.heap.size, 0, none⟩)], .string ⟨x.toArray⟩, undef, undef, undef, undef, undef], defers := [] }) (fun _ _ _ _ _ _ _ _ _ h => h) ?assign ?body ?done ?stop
  case assign =>
    intro l pre x W K hlo hI hK
    unfold F.encL
    gi_wp2
    exact hK _ _ (It.But.refl _ _) hI rfl
  case body =>
    rintro l pre x t a' W hlo hx ⟨v, hv, hrow, hB⟩ rfl
    have hc := hv.cell
    have hpl : pre.length ≤ 1048576 := by
      have := congrArg List.length hx
      rw [List.length_append] at this
      omega
    have hml : (pre.map V.str).length = pre.length := List.length_map _
    obtain ⟨X, hX⟩ : ∃ X, Hid (pre.map V.str = X) := ⟨_, rfl⟩
    have hz3 : w.heap.size + 4 ≤ W.heap.size := by simp at hlo; omega
    have hva : ∃ ao c, v = .slice ao pre.length c := by
      have h3 := hrow
      rw [← hml] at h3
      obtain ⟨ao, c, h, _⟩ := V.row_of h3
      exact ⟨ao, c, by rw [h, hml]⟩
    obtain ⟨ao, c, rfl⟩ := hva
    have HV := Lib.hid (And.intro hv (And.intro hrow hB))
    rw [hX.out] at hrow
    clear hv hB hx hlo hml
    have hst : ∀ W1 (v' : Value), W1.ownsRow (w.heap.size + 4) 9 1 v' (pre.length + 1) (X ++ [.string ⟨x.toArray⟩]) → (W.alloc (.cells #[.string ⟨x.toArray⟩] 9)).grownBy W1 (Value.slice ao pre.length c).ownBlock →
        W1.cell? ⟨w.heap.size + 1, 0, none⟩ = some (.slice ao pre.length c) ∧ W1.frozen? ⟨w.heap.size + 1, 0, none⟩ = false ∧ It.But (fun k => k = w.heap.size + 1 ∨ w.heap.size + 4 ≤ k) W (W1.setCell ⟨w.heap.size + 1, 0, none⟩ v') ∧ F.ColAt w (w.heap.size + 1) (w.heap.size + 4) (pre ++ [x]) (W1.setCell ⟨w.heap.size + 1, 0, none⟩ v') := fun W1 v' h1 h2 => by
      rw [← hX.out] at h1
      obtain ⟨hv1, hbut, hcol⟩ := F.col_put (x := x) (by omega) (by omega) HV.out.1 HV.out.2.1 HV.out.2.2 h1 h2
      exact ⟨hv1.cell, hv1.frozen, hbut, hcol⟩
    have hst := Lib.hid hst
    gi_wp2_with (gi_at_builtin; refine wpListIn_append_own _ rfl _ _ 51 rfl (w.heap.size + 4) 9 i0 (.string ⟨#[]⟩) 1 16 Tryd.underlying51 hi hz0 hz1 hz2 rfl (by decide) _ _ _ rfl (hrow.alloc _) ⟨W.heap.size, 0, none⟩ 1 1 [.string ⟨x.toArray⟩] rfl rfl (cell_one_new _ _ _) (by simp [Value.oneCell']) (by unfold maxLen; omega) (by omega) (by simp; omega) ?_; intro v' w1 hown' hgrow _; obtain ⟨hc1, hf1, R⟩ := hst.out _ _ hown' hgrow; have R := Lib.hid R; obtain ⟨g', cap', rfl⟩ := ownsRow_succ hown'; clear hown' hgrow)
    exact R.out
  case done =>
    rintro D W hlo ⟨v, hv, hrow, hB⟩ hK
    have hc := hv.cell
    have R : Hid (V.Made 9 ((F.rows s.data.toList).map V.str) w v W) := ⟨by
      have := hrow
      rw [← List.length_map (f := V.str)] at this
      obtain ⟨h1, h2⟩ := this
      exact ⟨h1, h2.imp id (fun ⟨g, cap, cur, a, b, c⟩ => ⟨g, cap, cur, a, by omega, c⟩)⟩, hB⟩
    have HD := Lib.hid hlo
    gi_wp2
    refine ⟨by simp, .inl ⟨_, _, rfl, run_takeDeferred hK, ?_⟩⟩
    exact ⟨_, results_tmp rfl _ _ _, v, rfl, ownsRow_putObj R.out.own _ hK rfl, R.out.below.trans (belowK_b (w := w) (Nat.le_refl _) W D _ _ (by simp at hlo; omega) hK rfl rfl)⟩
  case stop =>
    rintro D c pre W _ _ h _
    exact h.elim
set_option maxHeartbeats 400000 in
theorem collect8_any (s : ByteArray) (w : World) (hs : s.size ≤ 1048576) :
    Calls Tryd.prog 28 #[.func (.func 38) #[] #[.pointer (some ⟨w.heap.size, 0, none⟩)]] (w.alloc (.cells #[.string s] 9)) fun e w' =>
      ∃ v, e = .returned v ∧ V.Made 9 ((F.rows s.data.toList).map V.str) w v w' := by
  have H := Lib.hid (appendSeq8_any s w hs)
  go_enter Tryd.func28, Tryd.ntmps28
  go_wp2_with fail
  refine H.out.mono ?_
  rintro e w1 ⟨v, rfl, hm⟩
  have R := Lib.hid hm
  clear hm H
  go_wp2
  go_ret
  exact ⟨_, rfl, R.out⟩
set_option maxHeartbeats 400000 in
theorem linesFn_any (s : ByteArray) (w : World) :
    Calls Tryd.prog 29 #[.string s] w fun e w' => e = .returned (.func (.func 38) #[] #[.pointer (some ⟨w.heap.size, 0, none⟩)]) ∧ w.alloc (.cells #[.string s] 9) = w' := by
  go_enter Tryd.func29, Tryd.ntmps29
  go_wp2
  go_ret
  exact ⟨rfl, rfl⟩
end Go.Proofs.YtdilkoogjkabfaaDoor
