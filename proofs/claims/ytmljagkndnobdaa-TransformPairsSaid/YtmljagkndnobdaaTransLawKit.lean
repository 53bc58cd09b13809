/- The contracts of layer 7 as its laws meet them. -/
import Derived.Test.YtmljagkndnobdaaTransKnown
namespace Go.Proofs.Ytmljagkndnobdaa
open Go.RowKit

theorem L.made6 {w wr w' : World} {Ls : List (Option Addr × List D.P)} (h : D.Kn w wr Ls) {l l2 : List D.P} {v u : Value} (hm : D.Made l wr v w') (hm2 : D.Made l2 wr u w') : ∃ ao c bo d, v = .slice ao l.length c ∧ u = .slice bo l2.length d ∧ Hid ((ao = none → c = 0) ∧ l.length ≤ c) ∧ Hid ((bo = none → d = 0) ∧ l2.length ≤ d) ∧ Hid (D.Kn w w' ((bo, l2) :: (ao, l) :: Ls)) := by
  obtain ⟨ao, c, hv, n1, K1⟩ := L.made5 h hm
  obtain ⟨bo, d, hu, hr, hc⟩ := hm2.src
  obtain ⟨bo', d', hu', _, hd', _⟩ := C.made_src hm2
  rw [hu] at hu'
  simp only [Value.slice.injEq, true_and] at hu'
  exact ⟨ao, c, bo, d, hv, hu, n1, ⟨hc, by omega⟩, D.Kn.add K1.out bo l2 hr⟩
theorem L.hTr (f : Bool) (x y : List D.P) (hx : D.Bd x) (hy : D.Bd y) : Hid (∀ ao bo c d W, D.Row W ao x → D.Row W bo y → Calls Try.prog 16 #[.slice ao x.length c, .slice bo y.length d, .bool f] W (fun e w' => ∃ v, e = .returned (.tuple #[v, .int .i64 (D.trE f x y)]) ∧ D.Made (D.trP f x y) W v w')) := fun ao bo c d W h g => transform_any f ao bo c d x y W h g hx hy
theorem L.hTr' (f : Bool) (x y : List D.P) (hx : D.Bd x) (hy : D.Bd y) (hs : T.Sm x y) : Hid (∀ ao bo c d W, D.Row W ao x → D.Row W bo y → Calls Try.prog 15 #[.slice ao x.length c, .slice bo y.length d, .bool f] W (fun e w' => ∃ v, e = .returned (.tuple #[v, .int .i64 (D.trE f x y)]) ∧ D.Made (D.trP f x y) W v w')) := fun ao bo c d W h g => refTransform_any f ao bo c d x y W h g hx hy hs
theorem L.hPr (x y : List D.P) (hx : D.Bd x) (hy : D.Bd y) : Hid (∀ ao bo c d W, D.Row W ao x → D.Row W bo y → Calls Try.prog 18 #[.slice ao x.length c, .slice bo y.length d] W (fun e w' => ∃ v u, e = .returned (.tuple #[v, u, .int .i64 (D.prE x y)]) ∧ D.Made (D.prA x y) W v w' ∧ D.Made (D.prB x y) W u w')) := fun ao bo c d W h g => pair_any ao bo c d x y W h g hx hy
theorem L.hPr' (x y : List D.P) (hx : D.Bd x) (hy : D.Bd y) (hs : T.Sm x y) : Hid (∀ ao bo c d W, D.Row W ao x → D.Row W bo y → Calls Try.prog 19 #[.slice ao x.length c, .slice bo y.length d] W (fun e w' => ∃ v u, e = .returned (.tuple #[v, u, .int .i64 (D.prE x y)]) ∧ D.Made (D.prA x y) W v w' ∧ D.Made (D.prB x y) W u w')) := fun ao bo c d W h g => refPair_any ao bo c d x y W h g hx hy hs
theorem L.hMr (x y : List D.P) (hx : D.Bd x) (hy : D.Bd y) : Hid (∀ ao bo c d W, D.Row W ao x → D.Row W bo y → x.length ≤ c → y.length ≤ d → Calls Try.prog 20 #[.slice ao x.length c, .slice bo y.length d] W (fun e w' => ∃ v, e = .returned (.tuple #[v, .int .i64 (D.mrE x y)]) ∧ D.Made (D.mrP x y) W v w')) := fun ao bo c d W h g m _ => merge_any ao bo c d x y W h g hx hy m
theorem L.hMr' (x y : List D.P) (hx : D.Bd x) (hy : D.Bd y) (hs : T.Sm x y) (hi : D.Bas x y → D.inL (D.qs x) ≤ 100000) : Hid (∀ ao bo c d W, D.Row W ao x → D.Row W bo y → Calls Try.prog 21 #[.slice ao x.length c, .slice bo y.length d] W (fun e w' => ∃ v, e = .returned (.tuple #[v, .int .i64 (D.mrE x y)]) ∧ D.Made (D.mrP x y) W v w')) := fun ao bo c d W h g => refMerge_any ao bo c d x y W h g hx hy hs hi
theorem L.hDs (x y : List D.P) (hx : D.Bd x) (hy : D.Bd y) : Hid (∀ ao bo c d W, D.Row W ao x → D.Row W bo y → Calls Try.prog 24 #[.slice ao x.length c, .slice bo y.length d] W (fun e w' => e = .returned (.tuple #[.bool (D.dsB x y), .int .i64 (D.bas2 x y)]) ∧ Below W.heap.size W w')) := fun ao bo c d W h g => disjoint_any ao bo c d x y W h g hx hy
theorem L.hDs' (x y : List D.P) (hx : D.Bd x) (hy : D.Bd y) : Hid (∀ ao bo c d W, D.Row W ao x → D.Row W bo y → Calls Try.prog 25 #[.slice ao x.length c, .slice bo y.length d] W (fun e w' => e = .returned (.tuple #[.bool (D.dsB x y), .int .i64 (D.bas2 x y)]) ∧ Below W.heap.size W w')) := fun ao bo c d W h g => refDisjoint_any ao bo c d x y W h g hx hy
theorem L.hNormG (x : List D.P) (hx : D.Bd x) : Hid (∀ ao c W, D.Row W ao x → Calls Try.prog 30 #[.slice ao x.length c] W (fun e w' => ∃ v, e = .returned (.tuple #[v, .int .i64 (D.chk x)]) ∧ D.Made (if D.chk x = 0 then D.normP x else []) W v w')) := fun ao c W h => normalize_any ao c x W hx.1 h hx.2
theorem L.sm_of {x y : List D.P} (g1 : D.large x = false) (g2 : D.large y = false) : T.Sm x y := fun b => by
  have := (L.large_bd b.a g1).2
  have := (L.large_bd b.b g2).2
  omega
theorem T.tr_len (f : Bool) (x y : List D.P) : (D.trP f x y).length ≤ 4096 := D.trP_len f x y
theorem T.pr_bd (x y : List D.P) : D.Bd (D.prA x y) ∧ D.Bd (D.prB x y) := by
  have nilBd : D.Bd [] := ⟨Nat.zero_le _, fun p hp => by cases hp⟩
  by_cases h : D.prE x y = 0
  · obtain ⟨t1, t2, e1, e2⟩ := D.pr_of h
    rw [e1, e2]
    exact ⟨D.bd_of t2.ok, D.bd_of t1.ok⟩
  · have e1 : D.prA x y = [] := if_neg h
    have e2 : D.prB x y = [] := if_neg h
    rw [e1, e2]; exact ⟨nilBd, nilBd⟩
theorem T.mr_bd (x y : List D.P) : D.Bd (D.mrP x y) := by
  by_cases h : D.trE true x y = 0
  · rw [(D.mr_of h).2]; exact L.cmp_bd _ _
  · have e : D.mrP x y = [] := if_neg h
    rw [e]; exact ⟨Nat.zero_le _, fun p hp => by cases hp⟩
end Go.Proofs.Ytmljagkndnobdaa
