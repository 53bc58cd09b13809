/- Texts joined: NodeEnc1 NodeEnc2 NodeEnc3 -/
import Derived.Test.YtniccjbcchdkoaaPackNMake
import Derived.Test.YtniccjbcchdkoaaDeltaOwn
import Derived.Deep.AppendLies
import Derived.Deep.DeepCutAuto
import Derived.Deep.RegionLaw
import Derived.Test.YtniccjbcchdkoaaApplyRow
/- NodeEnc1 -/
namespace Go.Proofs.Ytniccjbcchdkoaa
open Go.RowKit

theorem N.be_head : ∀ (s n : Nat), N.be (s + 1) n = UInt8.ofNat (n / 256 ^ s % 256) :: N.be s n
  | 0, n => by simp [N.be]
  | s + 1, n => by
    rw [N.be, N.be_head s (n / 256), N.be, Nat.div_div_eq_div_mul, Nat.pow_succ, Nat.mul_comm 256, List.cons_append]
/-- A box that holds a row of bytes, and other blocks that are not the row's. -/
def N.Pt (B b : Nat) (K : List (Nat × Obj)) (X : List UInt8) (W : World) : Prop :=
  ∃ v, W.heap[b]? = some (.cells #[v] 111 (0, 0)) ∧ W.ownsRow B 5 1 v X.length (D.bytesL X) ∧ v.ownBlock ≠ some b ∧ (∀ p ∈ K, W.heap[p.1]? = some p.2 ∧ v.ownBlock ≠ some p.1 ∧ p.1 ≠ b) ∧ B ≤ b ∧ B ≤ W.heap.size
theorem N.Pt.put {B b : Nat} {K : List (Nat × Obj)} {X : List UInt8} {W w3 : World} {v v' : Value} {c : UInt8}
    (hb : W.heap[b]? = some (.cells #[v] 111 (0, 0))) (ho : W.ownsRow B 5 1 v X.length (D.bytesL X)) (h2 : v.ownBlock ≠ some b) (h3 : ∀ p ∈ K, W.heap[p.1]? = some p.2 ∧ v.ownBlock ≠ some p.1 ∧ p.1 ≠ b) (h5 : B ≤ b) (h6 : B ≤ W.heap.size)
    (hO : w3.ownsRow B 5 1 v' (X ++ [c]).length (D.bytesL (X ++ [c]))) (hg : W.grownBy w3 v.ownBlock) (ha : v'.ownBlock = v.ownBlock ∨ ∃ g, v'.ownBlock = some g ∧ W.heap.size ≤ g) :
    N.Pt B b K (X ++ [c]) (w3.setCell ⟨b, 0, none⟩ v') ∧ Below B W (w3.setCell ⟨b, 0, none⟩ v') := by
  have lb := (Array.getElem?_eq_some_iff.1 hb).1
  have hb3 : w3.heap[b]? = some (.cells #[v] 111 (0, 0)) := (hg.block _ lb (fun e => h2 e.symm)).trans hb
  have key : ∀ k, k < W.heap.size → v.ownBlock ≠ some k → v'.ownBlock ≠ some k := fun k hk hv => by
    rcases ha with ha | ⟨g, ha, hz⟩
    · rw [ha]; exact hv
    · rw [ha]; intro e; injection e with e; omega
  have hset : ∀ j, j ≠ b → (w3.setCell ⟨b, 0, none⟩ v').heap[j]? = w3.heap[j]? := fun j hj => Below.heap_setCell _ _ _ _ hj
  have hsz : (w3.setCell ⟨b, 0, none⟩ v').heap.size = w3.heap.size := by simp [World.setCell]
  refine ⟨⟨v', (heap_setCell_same w3 b 0 _ _ _ hb3).trans rfl, ?_, key b lb h2, fun p hp => ?_, h5, by rw [hsz]; exact Nat.le_trans h6 hg.size⟩, ?_⟩
  · exact hO.kept (row := some b) ⟨rfl, rfl, rfl, by rw [hsz]; exact Nat.le_refl _, fun j _ hj => hset j (fun e => hj (by rw [e]))⟩ (.inr (key b lb h2))
  · obtain ⟨k1, k2, k3⟩ := h3 p hp
    have lk := (Array.getElem?_eq_some_iff.1 k1).1
    exact ⟨(hset _ k3).trans ((hg.block _ lk (fun e => k2 e.symm)).trans k1), key _ lk k2, k3⟩
  · exact ((Below.refl B W).grown hg h6 (fun j hj => (ho.lt j hj).1)).setCell (p := ⟨b, 0, none⟩) h5 _
theorem N.Pt.below {B b : Nat} {K : List (Nat × Obj)} {X : List UInt8} {W W' : World} (h : N.Pt B b K X W) (hb : Below W.heap.size W W') : N.Pt B b K X W' := by
  obtain ⟨v, h1, h2, h3, h4, h5, h6⟩ := h
  exact ⟨v, (hb.block _ (Array.getElem?_eq_some_iff.1 h1).1).trans h1, D.own_below h2 hb, h3, fun p hp => ⟨(hb.block _ (Array.getElem?_eq_some_iff.1 (h4 p hp).1).1).trans (h4 p hp).1, (h4 p hp).2⟩, h5, Nat.le_trans h6 hb.size⟩
theorem N.Pt.add {B b : Nat} {K : List (Nat × Obj)} {X : List UInt8} {W : World} (h : N.Pt B b K X W) (cs : Array Value) (T : TypeId) : N.Pt B b ((W.heap.size, .cells cs T) :: K) X (W.alloc (.cells cs T)) := by
  obtain ⟨v, h1, h2, h3, h4, h5, h6⟩ := h.below ((Below.refl _ _).alloc (Nat.le_refl _) (.cells cs T))
  have hlt : ∀ j, v.ownBlock = some j → j < W.heap.size := fun j hj => by
    obtain ⟨v', g1, g2, _⟩ := h
    have e : v = v' := by
      have := ((Below.heap_alloc W (.cells cs T) b (Array.getElem?_eq_some_iff.1 g1).1).trans g1)
      rw [h1] at this; simpa using this
    rw [e] at hj; exact (g2.lt j hj).2
  have hbl : b < W.heap.size := by obtain ⟨v', g1, _⟩ := h; exact (Array.getElem?_eq_some_iff.1 g1).1
  refine ⟨v, h1, h2, h3, fun p hp => ?_, h5, h6⟩
  rcases List.mem_cons.1 hp with rfl | hp
  · exact ⟨heap_alloc_new W _, fun e => by have := hlt _ e; dsimp only at this; omega, by dsimp only; omega⟩
  · exact h4 p hp
theorem N.byte_eq (n m : Nat) : IntKind.u8.wrap ((n : Int) / 2 ^ (8 * (m : Int)).toNat) = ((UInt8.ofNat (n / 256 ^ m % 256)).toNat : Int) := by
  have e : (8 * (m : Int)).toNat = 8 * m := by omega
  have p : (2 : Int) ^ (8 * m) = ((256 ^ m : Nat) : Int) := by
    rw [show (256 : Nat) = 2 ^ 8 from rfl, ← Nat.pow_mul]; simp
  rw [e, p, ← Int.natCast_ediv, UInt8.toNat_ofNat']
  generalize n / 256 ^ m = q
  simp only [IntKind.wrap, IntKind.bits, IntKind.signed]
  simp
def N.PutEnd (B b : Nat) (K : List (Nat × Obj)) (X : List UInt8) (w : World) (e : Ending) (w' : World) : Prop := e = .returned (.tuple #[]) ∧ N.Pt B b K X w' ∧ Below B w w'
end Go.Proofs.Ytniccjbcchdkoaa
/- NodeEnc2 -/
namespace Go.Proofs.Ytniccjbcchdkoaa
open Go.RowKit

/-- The numbers of a measure, one after another. -/
def N.nums (k : N.K) : Nat → Nat
  | 0 => k.b.toNat
  | 1 => k.r.toNat
  | _ => k.l.toNat
/-- What is put behind the handle in so many rounds. -/
def N.encM (k : N.K) : Nat → List UInt8
  | 0 => N.be 6 k.at_
  | i + 1 => N.encM k i ++ N.be 2 (N.nums k i)
theorem N.encM_all (k : N.K) : N.encM k 3 = N.encK k := by simp [N.encM, N.encK, N.nums]
theorem N.encM_len (k : N.K) (i : Nat) : (N.encM k i).length = 6 + 2 * i := by
  induction i with
  | zero => exact N.be_len _ _
  | succ i ih => rw [N.encM, List.length_append, ih, N.be_len]; omega
def N.EkEnd (B : Nat) (X : List UInt8) (w : World) (e : Ending) (w' : World) : Prop := ∃ v, e = .returned v ∧ w'.ownsRow B 5 1 v X.length (D.bytesL X) ∧ Below B w w'
end Go.Proofs.Ytniccjbcchdkoaa
/- NodeEnc3 -/
namespace Go.Proofs.Ytniccjbcchdkoaa
open Go.RowKit

def N.EnEnd (x : N.Nd) (w : World) (e : Ending) (w' : World) : Prop := e = .returned (.tuple #[.string ⟨(N.enc x).toArray⟩, .int .i64 (N.chk x)]) ∧ Below w.heap.size w w'
/-- What Encode has put together when so many children are done. -/
def N.encU (c : UInt8) (t : List UInt8) (l : List N.K) (i : Nat) : List UInt8 := c :: (t ++ (l.take i).flatMap N.encK)
theorem N.encU_step {c : UInt8} {t : List UInt8} {l : List N.K} {i : Nat} {p : N.K} (h : l[i]? = some p) : N.encU c t l (i + 1) = N.encU c t l i ++ N.encK p := by
  unfold N.encU
  rw [List.take_add_one, h]
  simp [List.flatMap_append]
theorem N.encU_len {c : UInt8} {t : List UInt8} {l : List N.K} {i : Nat} (ht : t.length ≤ 16) (hl : l.length ≤ 4) : (N.encU c t l i).length ≤ 65 := by
  have h1 : (l.take i).length ≤ 4 := by rw [List.length_take]; omega
  have h2 : ∀ m : List N.K, (m.flatMap N.encK).length = m.length * 12 := by
    intro m
    induction m with
    | nil => rfl
    | cons p m ih => rw [List.flatMap_cons, List.length_append, N.encK_len, ih, List.length_cons]; omega
  unfold N.encU
  rw [List.length_cons, List.length_append, h2]; omega
theorem N.enc_byte {h : Int} {t : ByteArray} {l : List N.K} (hc : N.chk (N.nd h t l) = 0) : ∃ c : UInt8, h = (c.toNat : Int) ∧ N.enc (N.nd h t l) = N.encU c t.data.toList l l.length ∧ t.size ≤ 16 ∧ l.length ≤ 4 ∧ ∀ p ∈ l, 0 ≤ p.b ∧ 0 ≤ p.r ∧ 0 ≤ p.l := by
  have hh : 0 ≤ h ∧ h ≤ 16 ∧ t.size ≤ 16 ∧ l.length ≤ 4 ∧ ∀ p ∈ l, 0 ≤ p.b ∧ 0 ≤ p.r ∧ 0 ≤ p.l := by
    rcases N.chk_cases hc with k | k
    · have h0 : h = 0 := k.h
      have h1 : l = [] := k.ks
      have h2 : t.data.toList.length ≤ 16 := k.t2
      rw [N.len_data] at h2
      subst h1
      exact ⟨by omega, by omega, h2, Nat.zero_le _, fun p hp => by cases hp⟩
    · have h0 : 0 < h := k.h1
      have h1 : h ≤ 16 := k.h2
      have h2 : t.data.toList = [] := k.t
      have h3 := congrArg List.length h2
      rw [N.len_data] at h3
      exact ⟨by omega, h1, by rw [h3]; decide, k.k4, fun p hp => ⟨k.pos.1 p hp, k.pos.2.1 p hp, k.pos.2.2 p hp⟩⟩
  have e : (UInt8.ofNat h.toNat).toNat = h.toNat := by rw [UInt8.toNat_ofNat']; omega
  refine ⟨UInt8.ofNat h.toNat, by rw [e]; omega, ?_, hh.2.2⟩
  unfold N.enc
  rw [if_pos hc]
  unfold N.encU
  rw [List.take_length]
  rfl
theorem N.enc_bad {x : N.Nd} (hc : N.chk x ≠ 0) : N.enc x = [] := by unfold N.enc; rw [if_neg hc]
theorem N.own_byte (w : World) {base : Nat} (c : UInt8) (hb : base ≤ w.heap.size) : (w.alloc (.cells #[.int .u8 (c.toNat : Int)] 5)).ownsRow base 5 1 (.slice (some ⟨w.heap.size, 0, none⟩) 1 1) [c].length (D.bytesL [c]) :=
  ⟨by simp [D.bytesL], .inr ⟨w.heap.size, 1, #[.int .u8 (c.toNat : Int)], rfl, hb, heap_alloc_new w _, Nat.le_refl _, by decide, rfl, by simp [D.bytesL]⟩⟩
end Go.Proofs.Ytniccjbcchdkoaa
