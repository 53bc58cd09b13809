/- The library's contract on strings.Join at a row of texts and the empty separator, as layer 14's laws meet it. -/
import Derived.Test.YtniccjbcchdkoaaCkLib
import Derived.Test.YtniccjbcchdkoaaCkLaws2
namespace Go.Proofs.Ytniccjbcchdkoaa
open Go.RowKit

theorem Ck.join_flat (l : List (List UInt8)) : Lib.join l [] = l.flatten := by
  cases l with
  | nil => rfl
  | cons x r =>
    rw [Lib.join_cons]
    unfold Lib.joinTail
    simp
theorem Ck.cat_any (xs : List ByteArray) (ao : Option Addr) (ca n : Nat) (c : ByteArray) (W : World) (hr : V.Row W ao (xs.map Value.string)) (hn : xs.length = n) (cap : n ≤ ca) (hc : (xs.map (·.data.toList)).flatten = c.data.toList) (hx : n ≤ 1000000) (hl : c.size ≤ 140737488355328) :
    Calls Try.prog 37 #[.slice ao n ca, .string ⟨#[]⟩] W fun e w' => e = .returned (.string c) ∧ Below W.heap.size W w' := by
  subst hn
  cases xs with
  | nil =>
    refine (Ck.join_none ao ca ⟨#[]⟩ W).mono ?_
    rintro e w' ⟨rfl, rfl⟩
    have : c = ⟨#[]⟩ := by
      have h : c.data.toList = [] := hc.symm
      rw [← D.bytes_eq c, h]
    rw [this]
    exact ⟨rfl, Below.refl _ _⟩
  | cons x r =>
    obtain ⟨b, o, rfl, hb, _⟩ := hr 0 (.string x) rfl
    have e : Lib.join ((x :: r).map (·.data.toList)) (⟨#[]⟩ : ByteArray).data.toList = c.data.toList := by rw [← hc]; exact Ck.join_flat _
    refine (Ck.join_any b o ca (x :: r) ⟨#[]⟩ W (fun j y hy => ?_) hb (by omega) cap (by rw [e, Ck.len]; exact hl)).mono ?_
    · obtain ⟨b', o', e', _, hc'⟩ := hr j (.string y) (by rw [List.getElem?_map, hy]; rfl)
      cases e'
      exact hc'
    · rintro e2 w' ⟨rfl, hb2⟩
      rw [e, D.bytes_eq]
      exact ⟨rfl, hb2⟩
theorem Ck.strs_map (l : List (List UInt8)) : Ck.strs l = (l.map fun t => (⟨t.toArray⟩ : ByteArray)).map Value.string := by unfold Ck.strs; rw [List.map_map]; rfl
theorem Ck.flat_map (l : List (List UInt8)) : ((l.map fun t => (⟨t.toArray⟩ : ByteArray)).map (·.data.toList)) = l := by
  rw [List.map_map]
  exact List.map_id _
theorem Ck.Kn.madeC {w W W' : World} {rs : List (Option Addr × List Value)} (h : Ck.Kn w W rs) {e : TypeId} {l : List Value} {v : Value} (hm : V.Made e l W v W') {n : Nat} (hn : l.length = n) : ∃ ao c, v = .slice ao n c ∧ n ≤ c ∧ Hid (Ck.Kn w W' ((ao, l) :: rs)) := by
  obtain ⟨ao, c, hv, K⟩ := h.made hm hn
  refine ⟨ao, c, hv, ?_, K⟩
  obtain ⟨_, ⟨_, h0⟩ | ⟨g, cap, cur, e', _, _, hnc, _⟩⟩ := hm.own
  · omega
  · rw [hv] at e'
    simp only [Value.slice.injEq] at e'
    omega
end Go.Proofs.Ytniccjbcchdkoaa
