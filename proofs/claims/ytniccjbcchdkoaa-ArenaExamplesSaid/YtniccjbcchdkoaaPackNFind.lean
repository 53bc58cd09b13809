/- Texts joined: NodeRef6 NodeRef7 NodeRef8 NodeRef9 -/
import Derived.Test.YtniccjbcchdkoaaPackNRef
import Derived.Test.YtniccjbcchdkoaaPackNMake
import Derived.Test.YtniccjbcchdkoaaPackNEnc
import Derived.Deep.RegionHeld3
/- NodeRef6 -/
namespace Go.Proofs.Ytniccjbcchdkoaa
open Go.RowKit

theorem N.fd_bad (f : N.K → Int) (first : Int) {x : N.Nd} (n : Int) (h : N.inE x ≠ 0) : N.fdE f first x n = N.inE x := by
  unfold N.inE at h
  unfold N.fdE N.inE
  by_cases hc : N.chk x = 0
  · rw [if_pos hc] at h
    by_cases h0 : x.h = 0
    · rw [if_pos hc, if_pos h0, if_pos hc, if_pos h0]
    · rw [if_neg h0] at h; exact absurd rfl h
  · rw [if_neg hc, if_neg hc]
/-- So many children's parts are not beyond n. -/
def N.Sle (f : N.K → Int) (l : List N.K) (k : Nat) (c n : Int) : Prop := N.sum f (l.take k) + c ≤ n
theorem N.in_ok {h : Int} {t : ByteArray} {l : List N.K} (hi : N.inE (N.nd h t l) = 0) : N.chk (N.nd h t l) = 0 ∧ h ≠ 0 := by
  unfold N.inE at hi
  by_cases hc : N.chk (N.nd h t l) = 0
  · rw [if_pos hc] at hi
    refine ⟨hc, fun h0 => ?_⟩
    rw [if_pos (show (N.nd h t l).h = 0 from h0)] at hi
    cases hi
  · rw [if_neg hc] at hi; exact absurd hi hc
end Go.Proofs.Ytniccjbcchdkoaa
/- NodeRef7 -/
namespace Go.Proofs.Ytniccjbcchdkoaa
open Go.RowKit

end Go.Proofs.Ytniccjbcchdkoaa
/- NodeRef8 -/
namespace Go.Proofs.Ytniccjbcchdkoaa
open Go.RowKit

theorem N.bytes_cons (c : UInt8) (X : List UInt8) : (⟨[c].toArray⟩ : ByteArray) ++ (⟨X.toArray⟩ : ByteArray) = ⟨(c :: X).toArray⟩ := by
  rw [← D.bytes_eq ((⟨[c].toArray⟩ : ByteArray) ++ (⟨X.toArray⟩ : ByteArray))]
  simp
theorem N.val_take {l : List UInt8} {i : Nat} {c : UInt8} (h : l[i]? = some c) : N.val (l.take (i + 1)) = 256 * N.val (l.take i) + c.toNat := by
  rw [List.take_add_one, h]; exact N.val_snoc _ _
end Go.Proofs.Ytniccjbcchdkoaa
/- NodeRef9 -/
namespace Go.Proofs.Ytniccjbcchdkoaa
open Go.RowKit

theorem N.bytes_app (X Y : List UInt8) : (⟨X.toArray⟩ : ByteArray) ++ (⟨Y.toArray⟩ : ByteArray) = ⟨(X ++ Y).toArray⟩ := by
  rw [← D.bytes_eq ((⟨X.toArray⟩ : ByteArray) ++ (⟨Y.toArray⟩ : ByteArray))]
  simp
/-- A box that holds a child, beside what has been made since w. -/
structure N.Kx (w : World) (bn : Nat) (h : Int) (t : ByteArray) (v : Value) (b : Nat) (k : N.K) (V : World) : Prop where
  lt : b < V.heap.size
  c0 : V.cell? ⟨b, 0, none⟩ = some (.int .u64 (k.at_ : Int))
  c1 : V.cell? ⟨b, 1, none⟩ = some (.int .i64 k.b)
  c2 : V.cell? ⟨b, 2, none⟩ = some (.int .i64 k.r)
  c3 : V.cell? ⟨b, 3, none⟩ = some (.int .i64 k.l)
  nb : N.Nb V bn h t v
  below : Below w.heap.size w V
theorem N.Kx.on {w : World} {bn : Nat} {h : Int} {t : ByteArray} {v : Value} {b : Nat} {k : N.K} {V V' : World} (x : N.Kx w bn h t v b k V) (hb : Below V.heap.size V V') : N.Kx w bn h t v b k V' := by
  have hc := (D.bcell hb).1
  exact ⟨Nat.lt_of_lt_of_le x.lt hb.size, (hc _ _ x.lt).trans x.c0, (hc _ _ x.lt).trans x.c1, (hc _ _ x.lt).trans x.c2, (hc _ _ x.lt).trans x.c3, x.nb.below hb, x.below.trans (hb.mono x.below.size)⟩
theorem N.Kx.drew {w : World} {bn : Nat} {h : Int} {t : ByteArray} {v : Value} {b : Nat} {k : N.K} {V : World} (x : N.Kx w bn h t v b k V) : N.Kx w bn h t v b k V.drew := x.on (Below.refl _ _).drew
end Go.Proofs.Ytniccjbcchdkoaa
