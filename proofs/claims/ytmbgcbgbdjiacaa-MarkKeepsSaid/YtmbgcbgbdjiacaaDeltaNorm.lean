/- The contracts of package delta: Normalize, Normal, Equivalent, Identity; slices.Equal at pieces. -/
import Derived.Test.YtmbgcbgbdjiacaaPackNf
import Derived.Test.YtmbgcbgbdjiacaaDeltaLen
namespace Go.Proofs.Ytmbgcbgbdjiacaa
open Go.RowKit

theorem normalForm_one (ao : Option Addr) (cap : Nat) (l : List D.P) (V : World) (h : D.chk l = 0) (hr : D.Row V ao l) :
    Calls Try.prog 75 #[.slice (some ⟨V.heap.size, 0, none⟩) 1 1] (V.alloc (.cells #[.slice ao l.length cap] 39)) (D.NfEnd (D.normP l) (V.alloc (.cells #[.slice ao l.length cap] 39))) := by
  obtain ⟨e, pa, h0, h1, h2, h3⟩ := D.valid_qs h
  have hf : D.flat [⟨ao, cap, l⟩] = l := by simp [D.flat]
  have hl : D.Lst (V.alloc (.cells #[.slice ao l.length cap] 39)) (some ⟨V.heap.size, 0, none⟩) [⟨ao, cap, l⟩] := fun i s hs => by
    cases i with
    | zero =>
      simp only [List.getElem?_cons_zero, Option.some.injEq] at hs
      subst hs
      exact ⟨V.heap.size, 0, rfl, by simp, World.cell?_alloc_new _ _ _ _, hr.below ((Below.refl _ _).alloc (Nat.le_refl _) _)⟩
    | succ i => simp at hs
  have := normalForm_any (some ⟨V.heap.size, 0, none⟩) 1 [⟨ao, cap, l⟩] _ hl (by simp) (fun p hp => by
    rw [hf] at hp
    obtain ⟨k, hk⟩ := List.getElem?_of_mem hp
    exact D.piece_of_chk h hk) (by rw [hf]; exact pa) (by rw [hf]; omega) (by rw [hf]; omega) (by rw [hf]; omega) (fun s hs => by simp at hs; subst hs; exact Nat.le_trans h1 (by omega))
  rw [hf] at this
  exact this
set_option maxHeartbeats 1000000 in
theorem normalize_any (ao : Option Addr) (cap : Nat) (l : List D.P) (w : World) (hn : l.length ≤ maxLen) (hr : D.Row w ao l) (ht : ∀ p ∈ l, p.t.size ≤ 140737488351232) :
    Calls Try.prog 54 #[.slice ao l.length cap] w (D.NormEnd l w) := by
  have Hc := Lib.hid (check_any ao cap l w hn hr ht)
  by_cases h : D.chk l = 0
  · have hF : Hid (∀ V, Below w.heap.size w V → Calls Try.prog 75 #[.slice (some ⟨V.heap.size, 0, none⟩) 1 1] (V.alloc (.cells #[.slice ao l.length cap] 39)) (D.NfEnd (D.normP l) (V.alloc (.cells #[.slice ao l.length cap] 39)))) := fun V hb => normalForm_one ao cap l V h (hr.below hb)
    have He : Hid (∀ v w' W, D.Made (D.normP l) W v w' → Below w.heap.size w W → D.NormEnd l w (.returned (.tuple #[v, .int .i64 0])) w') := fun v w' W hm hb => by
      refine ⟨v, by rw [h], ?_, hb.trans (hm.below.mono hb.size)⟩
      rw [if_pos h]
      exact D.own_mono hm.own hb.size
    rw [h] at Hc
    clear h hr ht
    go_enter Try.func54, Try.ntmps54
    go_wp2_with fail
    refine Hc.out.mono ?_
    rintro e w1 ⟨rfl, hb⟩
    have hb := Lib.hid hb
    go_wp2_with fail
    refine (hF.out _ hb.out).mono ?_
    rintro e w2 ⟨v, rfl, hm⟩
    have R := Lib.hid (He.out v w2 _ hm (hb.out.alloc hb.out.size _))
    clear hm
    go_wp2
    go_ret2
    exact R.out
  · have h' : (D.chk l != 0) = true := by simpa using h
    have He : Hid (∀ w', Below w.heap.size w w' → D.NormEnd l w (.returned (.tuple #[.slice none 0 0, .int .i64 (D.chk l)])) w') := fun w' hb => ⟨_, rfl, by rw [if_neg h]; exact D.Made.nil w hb⟩
    have H' := Lib.hid h
    clear h hr ht
    go_enter Try.func54, Try.ntmps54
    go_wp2_with fail
    refine Hc.out.mono ?_
    rintro e w1 ⟨rfl, hb⟩
    have R := Lib.hid (He.out w1 hb)
    go_wp2
    go_ret2
    exact R.out
/-- Pieces in normal form, one after another. -/
theorem D.isN_snoc (y : List D.Q) (p q : D.Q) : D.isN (y ++ [p, q]) = (D.isN (y ++ [p]) && D.ok p q) := by
  rw [D.isN_split y p [q]]
  simp [D.isN]
theorem D.normal_eq (l : List D.P) (h : D.chk l = 0) : D.normal l = D.isN (D.qs l) := by
  obtain ⟨e, _⟩ := D.valid_qs h
  unfold D.normal
  rw [decide_eq_true h, Bool.true_and, Bool.eq_iff_iff, D.same_iff, D.isN_iff]
  constructor
  · intro h2
    refine D.map_raw_inj ?_
    rw [e]; exact h2.symm
  · intro h2
    unfold D.normP
    rw [h2, e]
theorem D.ok_kinds {p q : D.P} (hp : D.vP p = true) (hq : D.vP q = true) : D.ok (D.toQ p) (D.toQ q) = !(p.k == q.k || (p.k == 3 && q.k == 2)) := by
  rcases D.vP_forms hp with ⟨n, _, rfl⟩ | ⟨t, _, rfl⟩ | ⟨n, _, rfl⟩ <;> rcases D.vP_forms hq with ⟨m, _, rfl⟩ | ⟨u, _, rfl⟩ | ⟨m, _, rfl⟩ <;> rfl
theorem D.isN_two {l : List D.P} {k : Nat} {p q : D.P} (hp : l[k]? = some p) (hq : l[k + 1]? = some q) : D.isN ((D.qs l).take (k + 2)) = (D.isN ((D.qs l).take (k + 1)) && D.ok (D.toQ p) (D.toQ q)) := by
  have e1 : (D.qs l)[k]? = some (D.toQ p) := by unfold D.qs; rw [List.getElem?_map, hp]; rfl
  have e2 : (D.qs l)[k + 1]? = some (D.toQ q) := by unfold D.qs; rw [List.getElem?_map, hq]; rfl
  have h1 : (D.qs l).take (k + 1) = (D.qs l).take k ++ [D.toQ p] := by rw [List.take_add_one, e1]; rfl
  have h2 : (D.qs l).take (k + 2) = (D.qs l).take k ++ [D.toQ p, D.toQ q] := by
    rw [show k + 2 = (k + 1) + 1 from rfl, List.take_add_one, e2, h1, List.append_assoc]; rfl
  rw [h2, D.isN_snoc, h1]
theorem D.isN_all {l : List D.P} {k : Nat} (h : D.isN ((D.qs l).take k) = false) : D.isN (D.qs l) = false := by
  cases hn : D.isN (D.qs l) with
  | false => rfl
  | true =>
    rw [← List.take_append_drop k (D.qs l)] at hn
    rw [D.isN_left hn] at h
    cases h
end Go.Proofs.Ytmbgcbgbdjiacaa
