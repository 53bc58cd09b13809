/- The node of the chapter's examples: what the calls answer at it. -/
import Derived.Test.YtniccjbcchdkoaaPackNPkg
import Derived.Test.YtniccjbcchdkoaaPackNDec
import Derived.Test.YtniccjbcchdkoaaPackNMake
namespace Go.Proofs.Ytniccjbcchdkoaa
open Go.RowKit

def N.xK : List N.K := [⟨65536, 9, 8, 1⟩, ⟨65537, 8, 0, 0⟩, ⟨65538, 10, 10, 2⟩]
def N.xN : N.Nd := ⟨1, [], N.xK⟩
theorem N.xN_eq : N.nd 1 ⟨#[]⟩ N.xK = N.xN := rfl
set_option maxRecDepth 100000 in
theorem N.x_chk : N.chk N.xN = 0 := by decide
theorem N.x_mB : N.mB N.xN = 27 := by rw [N.mB, if_pos N.x_chk]; rfl
theorem N.x_mR : N.mR N.xN = 18 := by rw [N.mR, if_pos N.x_chk]; rfl
theorem N.x_mL : N.mL N.xN = 3 := by rw [N.mL, if_pos N.x_chk]; rfl
theorem N.x_one : N.chk (N.nd 1 ⟨#[]⟩ (N.xK.take 1)) = 23 := by decide
theorem N.z_chk : N.chk (N.nd 0 ⟨#[]⟩ []) = 23 := by decide
theorem N.x_fE (f : N.K → Int) (first n : Int) : N.fdE f first N.xN n = if first ≤ n ∧ n < first + N.sum f N.xK then 0 else 3 := by
  rw [N.fdE, if_pos N.x_chk, if_neg (by decide)]; rfl
theorem N.x_find (f : N.K → Int) (first n a b : Int) (h : first ≤ n ∧ n < first + N.sum f N.xK) (ha : ((N.fnd f N.xK (n - first)).1 : Int) = a) (hb : (N.fnd f N.xK (n - first)).2 + first = b) : N.fdI f first N.xN n = a ∧ N.fdR f first N.xN n = b ∧ N.fdE f first N.xN n = 0 := by
  have e : N.fdE f first N.xN n = 0 := by rw [N.x_fE, if_pos h]
  refine ⟨?_, ?_, e⟩
  · rw [N.fdI, if_pos e]; exact ha
  · rw [N.fdR, if_pos e]; exact hb
theorem N.x_miss (f : N.K → Int) (first n : Int) (h : ¬ (first ≤ n ∧ n < first + N.sum f N.xK)) : N.fdI f first N.xN n = 0 ∧ N.fdR f first N.xN n = 0 ∧ N.fdE f first N.xN n = 3 := by
  have e : N.fdE f first N.xN n = 3 := by rw [N.x_fE, if_neg h]
  refine ⟨?_, ?_, e⟩
  · rw [N.fdI, e]; rfl
  · rw [N.fdR, e]; rfl
theorem N.x_c9 : N.fdI N.K.b 0 N.xN 9 = 1 ∧ N.fdR N.K.b 0 N.xN 9 = 0 ∧ N.fdE N.K.b 0 N.xN 9 = 0 := N.x_find _ _ _ _ _ (by decide) (by decide) (by decide)
theorem N.x_c27 : N.fdI N.K.b 0 N.xN 27 = 0 ∧ N.fdR N.K.b 0 N.xN 27 = 0 ∧ N.fdE N.K.b 0 N.xN 27 = 3 := N.x_miss _ _ _ (by decide)
theorem N.x_r8 : N.fdI N.K.r 0 N.xN 8 = 2 ∧ N.fdR N.K.r 0 N.xN 8 = 0 ∧ N.fdE N.K.r 0 N.xN 8 = 0 := N.x_find _ _ _ _ _ (by decide) (by decide) (by decide)
theorem N.x_l2 : N.fdI N.K.l 1 N.xN 2 = 2 ∧ N.fdR N.K.l 1 N.xN 2 = 1 ∧ N.fdE N.K.l 1 N.xN 2 = 0 := N.x_find _ _ _ _ _ (by decide) (by decide) (by decide)
theorem N.x_l4 : N.fdI N.K.l 1 N.xN 4 = 0 ∧ N.fdR N.K.l 1 N.xN 4 = 0 ∧ N.fdE N.K.l 1 N.xN 4 = 3 := N.x_miss _ _ _ (by decide)
set_option maxRecDepth 100000 in
theorem N.x_enc : N.enc N.xN = [1, 0, 0, 0, 1, 0, 0, 0, 9, 0, 8, 0, 1, 0, 0, 0, 1, 0, 1, 0, 8, 0, 0, 0, 0, 0, 0, 0, 1, 0, 2, 0, 10, 0, 10, 0, 2] := by
  rw [N.enc, if_pos N.x_chk]; decide
def N.ab : ByteArray := ⟨#[97, 98]⟩
theorem N.ab_chk : N.chk (N.nd 0 N.ab []) = 0 := by decide
theorem N.ab_rT : N.rT N.ab = N.ab := by rw [N.rT, if_pos N.ab_chk]
theorem N.ab_enc : N.enc (N.nd 0 N.ab []) = [0, 97, 98] := by rw [N.enc, if_pos N.ab_chk]; decide
theorem N.ab_dec : N.dec [0, 97, 98] = some (N.nd 0 N.ab []) := by
  have := N.dec_enc N.ab_chk
  rwa [N.ab_enc] at this
theorem N.z_dec : N.dec [0] = none := by decide
theorem N.ab_c0 : N.fdI N.K.b 0 (N.nd 0 N.ab []) 0 = 0 ∧ N.fdR N.K.b 0 (N.nd 0 N.ab []) 0 = 0 ∧ N.fdE N.K.b 0 (N.nd 0 N.ab []) 0 = 8 := by
  have e : N.fdE N.K.b 0 (N.nd 0 N.ab []) 0 = 8 := by rw [N.fdE, if_pos N.ab_chk, if_pos (by decide)]
  refine ⟨?_, ?_, e⟩
  · rw [N.fdI, e]; rfl
  · rw [N.fdR, e]; rfl
theorem N.x_fit : ∀ p ∈ N.xK, N.Fit p := by
  intro p hp
  simp only [N.xK, List.mem_cons, List.not_mem_nil, or_false] at hp
  rcases hp with rfl | rfl | rfl <;> exact ⟨by decide, by decide, by decide, by decide, by decide, by decide, by decide⟩
end Go.Proofs.Ytniccjbcchdkoaa
