/- The contracts as the laws of stage 5 meet them: said over lists of pieces, whatever rows they lie in. -/
import Derived.Test.YteondigaklonpaaComposeKnown
import Derived.Test.YteondigaklonpaaComposeRefSplit
import Derived.Test.YteondigaklonpaaComposeRef2
import Derived.Test.YteondigaklonpaaDeltaJoinKit
import Derived.Test.YteondigaklonpaaDeltaArgs
import Derived.Test.YteondigaklonpaaApplyInv
namespace Go.Proofs.Yteondigaklonpaa
open Go.RowKit

theorem C.made5 {w wr w' : World} {L : List (Option Addr × List D.P)} (h : D.Kn w wr L) {l : List D.P} {v : Value} (hm : D.Made l wr v w') : ∃ ao c, v = .slice ao l.length c ∧ Hid ((ao = none → c = 0) ∧ l.length ≤ c) ∧ Hid (D.Kn w w' ((ao, l) :: L)) := by
  obtain ⟨ao, c, hv, hr, hc⟩ := hm.src
  obtain ⟨ao', c', hv', _, hc', _⟩ := C.made_src hm
  rw [hv] at hv'
  simp only [Value.slice.injEq, true_and] at hv'
  exact ⟨ao, c, hv, ⟨hc, by omega⟩, (h.on hm.below).add ao l hr⟩
theorem C.bd_arg {w : World} {s : D.Src} (h : D.ArgOk w s) : D.Bd s.x := ⟨h.src.len, h.src.txt⟩
theorem C.hOwn (x : List D.P) (hf : x.length * 32 ≤ 140737488351232) : Hid (∀ ao c W, D.Row W ao x → (ao = none → c = 0) → Calls Try.prog 14 #[.slice ao x.length c] W (fun e w' => ∃ v, e = .returned v ∧ D.Made x W v w')) := fun ao c W h n => own_any ao c x W h n hf
theorem C.hKnown : Hid (∀ W, Calls Try.prog 13 #[] W (fun e w' => e = .returned (.bool true) ∧ Below W.heap.size W w')) := fun W => cknown_any W
theorem C.hCmp (x y : List D.P) (hx : D.Bd x) (hy : D.Bd y) : Hid (∀ ao bo c d W, D.Row W ao x → D.Row W bo y → x.length ≤ c → y.length ≤ d → Calls Try.prog 18 #[.slice ao x.length c, .slice bo y.length d] W (fun e w' => ∃ v, e = .returned (.tuple #[v, .int .i64 (D.cmpE x y)]) ∧ D.Made (D.cmpP x y) W v w')) := fun ao bo c d W h g m n => compose_any ao bo c d x y W h g hx hy m n
theorem C.hCmp' (x y : List D.P) (hx : D.Bd x) (hy : D.Bd y) (hb : D.Fit x y → D.inL (D.qs x) ≤ 100000 ∧ D.outL (D.qs y) ≤ 100000) : Hid (∀ ao bo c d W, D.Row W ao x → D.Row W bo y → Calls Try.prog 15 #[.slice ao x.length c, .slice bo y.length d] W (fun e w' => ∃ v, e = .returned (.tuple #[v, .int .i64 (D.cmpE x y)]) ∧ D.Made (D.cmpP x y) W v w')) := fun ao bo c d W h g => refCompose_any ao bo c d x y W h g hx hy hb
theorem C.hFits (x y : List D.P) (hx : D.Bd x) (hy : D.Bd y) : Hid (∀ ao bo c d W, D.Row W ao x → D.Row W bo y → Calls Try.prog 16 #[.slice ao x.length c, .slice bo y.length d] W (fun e w' => e = .returned (.bool (D.fit2 x y == 0)) ∧ Below W.heap.size W w')) := fun ao bo c d W h g => fits_any ao bo c d x y W h g hx hy
theorem C.hFits' (x y : List D.P) (hx : D.Bd x) (hy : D.Bd y) : Hid (∀ ao bo c d W, D.Row W ao x → D.Row W bo y → Calls Try.prog 17 #[.slice ao x.length c, .slice bo y.length d] W (fun e w' => e = .returned (.bool (D.fit2 x y == 0)) ∧ Below W.heap.size W w')) := fun ao bo c d W h g => refFits5_any ao bo c d x y W h g hx hy
theorem C.hSplit (x : List D.P) (hx : D.Bd x) : Hid (∀ ao c W, D.Row W ao x → Calls Try.prog 23 #[.slice ao x.length c] W (fun e w' => ∃ va vb, e = .returned (.tuple #[va, vb, .int .i64 (D.spE x)]) ∧ D.Made (D.spI x) W va w' ∧ D.Made (D.spD x) W vb w')) := fun ao c W h => split_any ao c x W h hx
theorem C.hSplit' (x : List D.P) (hx : D.Bd x) : Hid (∀ ao c W, D.Row W ao x → Calls Try.prog 24 #[.slice ao x.length c] W (fun e w' => ∃ va vb, e = .returned (.tuple #[va, vb, .int .i64 (D.spE x)]) ∧ D.Made (D.spI x) W va w' ∧ D.Made (D.spD x) W vb w')) := fun ao c W h => refSplit_any ao c x W h hx
theorem C.hSame (x : List D.P) (hl : x.length ≤ maxLen) : Hid (∀ ao bo c d W, D.Row W ao x → D.Row W bo x → Calls Try.prog 19 #[.slice ao x.length c, .slice bo x.length d] W (fun e w' => e = .returned (.bool true) ∧ Below W.heap.size W w')) := fun ao bo c d W h g => by
  have := refSame_any ao bo c d x x W h g hl hl
  rwa [(D.same_iff x x).2 rfl] at this
theorem C.hSame2 (x y : List D.P) (hl : x.length ≤ maxLen) (hy : y.length ≤ maxLen) : Hid (∀ ao bo c d W, D.Row W ao x → D.Row W bo y → Calls Try.prog 19 #[.slice ao x.length c, .slice bo y.length d] W (fun e w' => e = .returned (.bool (D.same x y)) ∧ Below W.heap.size W w')) := fun ao bo c d W h g => refSame_any ao bo c d x y W h g hl hy
theorem C.hApp (z : ByteArray) (x : List D.P) (hz : z.size ≤ 140737488351232) (hx : D.Bd x) : Hid (∀ ao c W, D.Row W ao x → Calls Try.prog 25 #[.string z, .slice ao x.length c] W (fun e w' => e = .returned (.tuple #[.string ⟨(D.resP z.data.toList x).toArray⟩, .int .i64 (D.fitE z.data.toList x)]) ∧ Below W.heap.size W w')) := fun ao c W h => apply_any z ao c x W hz hx.1 h hx.2
theorem C.hRem (z : ByteArray) (x : List D.P) (hz : z.size ≤ 140737488351232) (hx : D.Bd x) : Hid (∀ ao c W, D.Row W ao x → Calls Try.prog 32 #[.string z, .slice ao x.length c] W (fun e w' => e = .returned (.tuple #[.string ⟨(D.remP z.data.toList x).toArray⟩, .int .i64 (D.fitE z.data.toList x)]) ∧ Below W.heap.size W w')) := fun ao c W h => removed_any z ao c x W hz hx.1 h hx.2
theorem C.hInv (z : ByteArray) (x : List D.P) (hz : z.size ≤ 140737488351232) (hx : D.Bd x) : Hid (∀ ao c W, D.Row W ao x → Calls Try.prog 31 #[.string z, .slice ao x.length c] W (fun e w' => ∃ v, e = .returned (.tuple #[v, .int .i64 (D.fitE z.data.toList x)]) ∧ D.Made (D.invP z.data.toList x) W v w')) := fun ao c W h => invert_any z ao c x W hz hx.1 h hx.2
theorem C.hNorm (x : List D.P) (h0 : D.chk x = 0) : Hid (∀ ao c W, D.Row W ao x → Calls Try.prog 28 #[.slice ao x.length c] W (fun e w' => ∃ v, e = .returned (.tuple #[v, .int .i64 0]) ∧ D.Made (D.normP x) W v w')) := fun ao c W h => by
  have := normalize_any ao c x W (D.bd_of h0).1 h (D.bd_of h0).2
  unfold D.NormEnd at this
  rw [h0, if_pos rfl] at this
  exact this
theorem C.hNormal (x : List D.P) (h0 : D.chk x = 0) (hn : D.normal x = true) : Hid (∀ ao c W, D.Row W ao x → Calls Try.prog 26 #[.slice ao x.length c] W (fun e w' => e = .returned (.bool true) ∧ Below W.heap.size W w')) := fun ao c W h => by
  have := normal_any ao c x W (D.bd_of h0).1 h (D.bd_of h0).2
  rwa [hn] at this
theorem C.hLen (x : List D.P) (hx : D.Bd x) : Hid (∀ ao c W, D.Row W ao x → Calls Try.prog 29 #[.slice ao x.length c] W (fun e w' => e = .returned (.tuple #[.int .i64 (D.lenI x), .int .i64 (D.lenO x), .int .i64 (D.chk x)]) ∧ Below W.heap.size W w')) := fun ao c W h => lengths_any ao c x W hx.1 h hx.2
theorem C.hId (n : Nat) (h : n ≤ 1048576) : Hid (∀ W, Calls Try.prog 30 #[.int .i64 n] W (fun e w' => ∃ v, e = .returned (.tuple #[v, .int .i64 0]) ∧ D.Made (D.idP n) W v w')) := fun W => by
  have := identity_any n (by omega) (by omega) W
  unfold D.IdEnd at this
  rwa [(D.idP_qs h).2.2.2] at this
theorem C.invP_len (S : List UInt8) (x : List D.P) : (D.invP S x).length ≤ 4096 := by
  by_cases h : D.fitE S x = 0
  · rw [D.invP_eq h, List.length_map]
    have := D.nf_length (D.inv S (D.qs x))
    rw [D.inv_length] at this
    have := (D.valid_qs (D.fitE_zero h).1).2.2
    omega
  · unfold D.invP; rw [if_neg h]; simp
theorem C.cmp_bd (x y : List D.P) : D.Bd (D.cmpP x y) := by
  by_cases h : D.cmpE x y = 0
  · exact D.bd_of (D.cmp_of h).ok
  · unfold D.cmpP; rw [if_neg h]; exact ⟨Nat.zero_le _, fun p hp => by cases hp⟩
theorem C.sp_len (x : List D.P) : (D.spI x).length ≤ 4096 ∧ (D.spD x).length ≤ 4096 := by
  by_cases h : D.spE x = 0
  · by_cases h0 : D.chk x = 0
    · obtain ⟨h1, h2, _⟩ := D.sp_chk h0
      have e1 : D.spI x = D.normP (((D.nf (D.qs x)).map D.insQ).map D.raw) := if_pos h
      have e2 : D.spD x = D.normP (((D.nf (D.qs x)).map D.delQ).map D.raw) := if_pos h
      rw [e1, e2]
      exact ⟨(D.valid_qs (D.chk_normP (by rw [h1]; exact h))).2.2.2.1, (D.valid_qs (D.chk_normP (h2 h))).2.2.2.1⟩
    · rw [(D.sp_bad h0).1] at h; exact absurd h h0
  · rw [(D.sp_long h).1, (D.sp_long h).2]; exact ⟨Nat.zero_le _, Nat.zero_le _⟩
end Go.Proofs.Yteondigaklonpaa
