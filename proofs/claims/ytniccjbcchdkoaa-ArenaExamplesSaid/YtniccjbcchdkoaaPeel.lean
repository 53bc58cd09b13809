/- A region whose last operation waits for all others: the others in whatever order, with a condition on the world that the last one may break. -/
import Derived.StillTail
import Derived.OrdersHeld
import Derived.Deep.RegionHeld
namespace Go.Proofs.Ytniccjbcchdkoaa
open Go

section
variable {P : Program} {ops : Array Oper} {Q : Exit → Act → World → Prop} {md : Region.Mode} {S : World → Prop}

/-- The operations below z, in whatever order; behind each of them S holds; then L. -/
def Pe.Run (P : Program) (md : Region.Mode) (ops : Array Oper) (Q : Exit → Act → World → Prop) (S : World → Prop) (z : Nat) (L : Array Bool → Act → World → Prop) : Nat → Array Bool → Act → World → Prop
  | 0, u, a, w => L u a w
  | f + 1, u, a, w => Region.ready md ops u ≠ [] ∧ ∀ i ∈ Region.ready md ops u, i < z ∧ wpOp P ops Q i (fun b V => S V ∧ Pe.Run P md ops Q S z L f (u.setIfInBounds i true) b V) a w

theorem Pe.Run.any {z g : Nat} {L : Array Bool → Act → World → Prop} (hL : ∀ u a w, L u a w → wpAny P md ops Q g u a w) :
    ∀ f u a w, Pe.Run P md ops Q S z L f u a w → wpAny P md ops Q (f + g) u a w := by
  intro f
  induction f with
  | zero => intro u a w h; rw [Nat.zero_add]; exact hL _ _ _ h
  | succ f ih =>
    intro u a w h
    rw [Nat.succ_add]
    exact ⟨fun e => absurd e h.1, fun i hi => wpOp_mono (fun b V r => ih _ b V r.2) (h.2 i hi).2⟩

/-- An operation that yields the same in every world that meets S, and that touches nobody's temporaries, may be taken first. -/
theorem Pe.Run.first {z i : Nat} {o : Oper} {v : Value} {L : Array Bool → Act → World → Prop} (hi : ops[i]? = some o) (hsel : Region.noSelect ops = true)
    (hQ : ∀ c a w, Q (.panic c) (a.put o.dst v) w → Q (.panic c) a w) (hs : Region.sinkB md ops z = true) (hc : Region.chainB md ops z = true) (hz : z < ops.size) (hiz : i < z)
    (hL : ∀ u a w, L u a w → ∀ j ∈ Region.ready md ops u, z ≤ j) : ∀ f u a w, HeadInv md ops z u →
      (∀ j p, ops[j]? = some p → j ≠ i → u.getD j true = false → (∀ e ∈ p.after, Region.binds md e = true → e.on ≠ i) → o.apart ops p = true) →
      i ∈ Region.ready md ops u → YieldsIf P ops S o v a → S w →
      Pe.Run P md ops Q S z L f (u.setIfInBounds i true) (a.put o.dst v) w → Pe.Run P md ops Q S z L (f + 1) u a w := by
  have sel := Region.noSelect_spec hsel
  intro f
  induction f with
  | zero =>
    intro u a w I _ hr hy hS H
    refine ⟨fun e => (by rw [e] at hr; cases hr), fun j hj => ?_⟩
    have hjz : j < z := Nat.lt_of_not_le fun h => tail_waits hs hc hz I _ i rfl hiz (mem_ready.1 hr).1 j h hj
    refine ⟨hjz, ?_⟩
    by_cases e : j = i
    · subst e; exact hy.wpOp hi hS ⟨hS, H⟩
    · exact absurd (hL _ _ _ H j (ready_mono hj e)) (Nat.not_le.2 hjz)
  | succ f ih =>
    intro u a w I hf hr hy hS H
    have hun := (mem_ready.1 hr).1
    refine ⟨fun e => (by rw [e] at hr; cases hr), fun j hj => ?_⟩
    have hjz : j < z := Nat.lt_of_not_le fun h => tail_waits hs hc hz I _ i rfl hiz hun j h hj
    refine ⟨hjz, ?_⟩
    by_cases e : j = i
    · subst e; exact hy.wpOp hi hS ⟨hS, H⟩
    · obtain ⟨hju, p, hp, hall⟩ := mem_ready.1 hj
      have hno : ∀ e ∈ p.after, Region.binds md e = true → e.on ≠ i := fun x hx hb he => by
        have h1 := hall x hx hb
        rw [he, getD_both hun] at h1
        cases h1
      have step := wpOp_putIf hp (hf j p hp e hju hno) (fun cs b => sel i o cs b hi) (fun cs b => sel j p cs b hp) hQ hy (H.2 j (ready_mono hj e)).2
      refine wpOp_mono (fun b V r => ⟨r.2.1, ih _ b V (I.set hj hjz) (fun k q hq hk hu hn => hf k q hq hk ?_ hn) (ready_mono hr (Ne.symm e)) r.1 r.2.1 ?_⟩) step
      · by_cases hjk : j = k
        · subst hjk; exact hju
        · rwa [getD_set_ne true hjk] at hu
      · rw [Array.setIfInBounds_comm _ _ e]; exact r.2.2

/-- What is left of a region while its last operation, number z, is still to come. -/
def Pe.Left (P : Program) (md : Region.Mode) (ops : Array Oper) (Q : Exit → Act → World → Prop) (S : World → Prop) (z f : Nat) (u : Array Bool) (a : Act) (w : World) : Prop :=
  HeadInv md ops z u → Pe.Run P md ops Q S z (fun u a w => Region.ready md ops u = [z] ∧ Region.ready md ops (u.setIfInBounds z true) = [] ∧ wpOp P ops Q z (fun b V => Q .normal b V) a w) f u a w

/-- Is z the last operation, and does it wait for all others? -/
def Pe.lastB (md : Region.Mode) (ops : Array Oper) (z : Nat) : Bool := Region.noSelect ops && decide (z + 1 = ops.size) && Region.sinkB md ops z

theorem Pe.start {id z : Nat} {a : Act} {w : World} (hm : P.follows .mixedOrders = true) (hB : Pe.lastB .any ops z = true) (W : World) (hW : W = w.drew) (hS : S W)
    (h : S W → Pe.Left P .any ops Q S z z (Array.replicate ops.size false) a W) : (Code.region id ops true).wp P Q a w := by
  subst hW
  simp only [Pe.lastB, Bool.and_eq_true, decide_eq_true_eq] at hB
  refine wp_region_any hm ?_
  have I : HeadInv .any ops z (Array.replicate ops.size false) :=
    ⟨by simp, fun j _ _ hl => (by rw [getD_replicate_false] at hl; cases hl), fun t _ ht => getD_in (by simpa using ht) (getD_replicate_false _ _)⟩
  have r := Pe.Run.any (g := 1) (fun u a w hl => ?_) _ _ _ _ (h hS I)
  · rwa [hB.1.2] at r
  · obtain ⟨h1, h2, h3⟩ := hl
    refine ⟨fun e => (by rw [h1] at e; cases e), fun i hi => ?_⟩
    rw [h1] at hi
    obtain rfl : i = z := by simpa using hi
    exact wpOp_mono (fun b V q => ⟨h2, q⟩) h3

theorem Pe.Left.take {z i : Nat} {o : Oper} {v : Value} {f : Nat} {u : Array Bool} {a : Act} {w : World} (hi : ops[i]? = some o) (hB : Pe.lastB md ops z = true) (hiz : i < z) (hf : Region.free md ops u i = true)
    (hr : (Region.ready md ops u).contains i = true) (hQ : ∀ c a w, Q (.panic c) (a.put o.dst v) w → Q (.panic c) a w) (hy : YieldsIf P ops S o v a) (hS : S w)
    (h : Pe.Left P md ops Q S z f (u.setIfInBounds i true) (a.put o.dst v) w) : Pe.Left P md ops Q S z (f + 1) u a w := by
  simp only [Pe.lastB, Bool.and_eq_true, decide_eq_true_eq] at hB
  have hr' : i ∈ Region.ready md ops u := by simpa using hr
  refine fun I => Pe.Run.first hi hB.1.1 hQ hB.2 ?_ (by omega) hiz (fun _ _ _ hl j hj => ?_) f u a w I (Region.free_spec hi hf) hr' hy hS (h (I.set hr' hiz))
  · refine List.all_eq_true.2 fun t ht => ?_
    have := List.mem_range.1 ht
    simp only [Bool.or_eq_true, decide_eq_true_eq]
    exact .inl (by omega)
  · rw [hl.1] at hj
    have : j = z := by simpa using hj
    omega

/-- One operation alone may come up. -/
theorem Pe.Left.one {z i : Nat} {o : Oper} {f : Nat} {u : Array Bool} {a : Act} {w : World} (ho : ops[i]? = some o) (hr : Region.ready md ops u = [i]) (hiz : i < z)
    (h : ∀ K : Act → World → Prop, Shut (∀ b V, S V → (S V → Pe.Left P md ops Q S z f (u.setIfInBounds i true) b V) → K b V) → if Region.wanted o (yielded ops a.tmps) = true then Oper.wp P o a w K Q else K (a.put o.dst undef) w) :
    Pe.Left P md ops Q S z (f + 1) u a w := fun I => by
  have hi : i ∈ Region.ready md ops u := by rw [hr]; exact List.mem_singleton.2 rfl
  refine ⟨fun e => (by rw [hr] at e; cases e), fun j hj => ?_⟩
  rw [hr] at hj
  obtain rfl : j = i := by simpa using hj
  exact ⟨hiz, wpOp_step ho fun K hK => h K fun b V hS hP => hK b V ⟨hS, hP hS (I.set hi hiz)⟩⟩
/-- The last one. -/
theorem Pe.Left.last {z : Nat} {o : Oper} {u : Array Bool} {a : Act} {w : World} (ho : ops[z]? = some o) (hr : Region.ready md ops u = [z]) (hn : Region.ready md ops (u.setIfInBounds z true) = [])
    (h : ∀ K : Act → World → Prop, Shut (∀ b V, Q .normal b V → K b V) → if Region.wanted o (yielded ops a.tmps) = true then Oper.wp P o a w K Q else K (a.put o.dst undef) w) :
    Pe.Left P md ops Q S z 0 u a w := fun _ => ⟨hr, hn, wpOp_step ho fun K hK => h K fun b V hq => hK b V hq⟩
end
end Go.Proofs.Ytniccjbcchdkoaa
