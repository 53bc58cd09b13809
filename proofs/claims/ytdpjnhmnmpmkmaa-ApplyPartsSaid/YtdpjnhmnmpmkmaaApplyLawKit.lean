/- The contracts as the laws of stage 4 meet them: said over lists of pieces, whatever rows they lie in. -/
import Derived.Test.YtdpjnhmnmpmkmaaApplyKnown
import Derived.Test.YtdpjnhmnmpmkmaaDeltaJoinKit
import Derived.Test.YtdpjnhmnmpmkmaaDeltaArgs
import Derived.Test.YtdpjnhmnmpmkmaaDeltaGot
namespace Go.Proofs.Ytdpjnhmnmpmkmaa
open Go.RowKit

theorem A.bd_arg {w : World} {s : D.Src} (h : D.ArgOk w s) : D.Bd s.x := ⟨h.src.len, h.src.txt⟩
theorem A.hOwn (x : List D.P) (hf : x.length * 32 ≤ 140737488351232) : Hid (∀ ao c W, D.Row W ao x → (ao = none → c = 0) → Calls Try.prog 12 #[.slice ao x.length c] W (fun e w' => ∃ v, e = .returned v ∧ D.Made x W v w')) := fun ao c W h n => own_any ao c x W h n hf
theorem A.hKnown : Hid (∀ W, Calls Try.prog 18 #[] W (fun e w' => e = .returned (.bool true) ∧ Below W.heap.size W w')) := fun W => aknown_any W
theorem A.hApp (z : ByteArray) (x : List D.P) (hz : z.size ≤ 140737488351232) (hx : D.Bd x) : Hid (∀ ao c W, D.Row W ao x → Calls Try.prog 13 #[.string z, .slice ao x.length c] W (fun e w' => e = .returned (.tuple #[.string ⟨(D.resP z.data.toList x).toArray⟩, .int .i64 (D.fitE z.data.toList x)]) ∧ Below W.heap.size W w')) := fun ao c W h => apply_any z ao c x W hz hx.1 h hx.2
theorem A.hApp' (z : ByteArray) (x : List D.P) (hz : z.size ≤ 140737488351232) (hx : D.Bd x) : Hid (∀ ao c W, D.Row W ao x → Calls Try.prog 14 #[.string z, .slice ao x.length c] W (fun e w' => e = .returned (.tuple #[.string ⟨(D.resP z.data.toList x).toArray⟩, .int .i64 (D.fitE z.data.toList x)]) ∧ Below W.heap.size W w')) := fun ao c W h => refApply_any z ao c x W hz hx.1 h hx.2
theorem A.hRem (z : ByteArray) (x : List D.P) (hz : z.size ≤ 140737488351232) (hx : D.Bd x) : Hid (∀ ao c W, D.Row W ao x → Calls Try.prog 15 #[.string z, .slice ao x.length c] W (fun e w' => e = .returned (.tuple #[.string ⟨(D.remP z.data.toList x).toArray⟩, .int .i64 (D.fitE z.data.toList x)]) ∧ Below W.heap.size W w')) := fun ao c W h => removed_any z ao c x W hz hx.1 h hx.2
theorem A.hRem' (z : ByteArray) (x : List D.P) (hz : z.size ≤ 140737488351232) (hx : D.Bd x) : Hid (∀ ao c W, D.Row W ao x → Calls Try.prog 16 #[.string z, .slice ao x.length c] W (fun e w' => e = .returned (.tuple #[.string ⟨(D.remP z.data.toList x).toArray⟩, .int .i64 (D.fitE z.data.toList x)]) ∧ Below W.heap.size W w')) := fun ao c W h => refRemoved_any z ao c x W hz hx.1 h hx.2
theorem A.hIns (x : List D.P) (hx : D.Bd x) : Hid (∀ ao c W, D.Row W ao x → Calls Try.prog 19 #[.slice ao x.length c] W (fun e w' => e = .returned (.tuple #[.string ⟨(D.insP x).toArray⟩, .int .i64 (D.chk x)]) ∧ Below W.heap.size W w')) := fun ao c W h => inserted_any ao c x W hx.1 h hx.2
theorem A.hIns' (x : List D.P) (hx : D.Bd x) : Hid (∀ ao c W, D.Row W ao x → Calls Try.prog 20 #[.slice ao x.length c] W (fun e w' => e = .returned (.tuple #[.string ⟨(D.insP x).toArray⟩, .int .i64 (D.chk x)]) ∧ Below W.heap.size W w')) := fun ao c W h => refInserted_any ao c x W hx.1 h hx.2
theorem A.hInv (z : ByteArray) (x : List D.P) (hz : z.size ≤ 140737488351232) (hx : D.Bd x) : Hid (∀ ao c W, D.Row W ao x → Calls Try.prog 22 #[.string z, .slice ao x.length c] W (fun e w' => ∃ v, e = .returned (.tuple #[v, .int .i64 (D.fitE z.data.toList x)]) ∧ D.Made (D.invP z.data.toList x) W v w')) := fun ao c W h => invert_any z ao c x W hz hx.1 h hx.2
theorem A.hInv' (z : ByteArray) (x : List D.P) (hz : z.size ≤ 140737488351232) (hx : D.Bd x) : Hid (∀ ao c W, D.Row W ao x → Calls Try.prog 21 #[.string z, .slice ao x.length c] W (fun e w' => ∃ v, e = .returned (.tuple #[v, .int .i64 (D.fitE z.data.toList x)]) ∧ D.Made (D.invP z.data.toList x) W v w')) := fun ao c W h => refInvert_any z ao c x W hz hx.1 h hx.2
theorem A.hSame (x : List D.P) (hl : x.length ≤ maxLen) : Hid (∀ ao bo c d W, D.Row W ao x → D.Row W bo x → Calls Try.prog 17 #[.slice ao x.length c, .slice bo x.length d] W (fun e w' => e = .returned (.bool true) ∧ Below W.heap.size W w')) := fun ao bo c d W h g => by
  have := refSame_any ao bo c d x x W h g hl hl
  rwa [(D.same_iff x x).2 rfl] at this
theorem A.hNorm (x : List D.P) (h0 : D.chk x = 0) : Hid (∀ ao c W, D.Row W ao x → Calls Try.prog 27 #[.slice ao x.length c] W (fun e w' => ∃ v, e = .returned (.tuple #[v, .int .i64 0]) ∧ D.Made (D.normP x) W v w')) := fun ao c W h => by
  have := normalize_any ao c x W (D.bd_of h0).1 h (D.bd_of h0).2
  unfold D.NormEnd at this
  rw [h0, if_pos rfl] at this
  exact this
theorem A.hNormal (x : List D.P) (h0 : D.chk x = 0) (hn : D.normal x = true) : Hid (∀ ao c W, D.Row W ao x → Calls Try.prog 28 #[.slice ao x.length c] W (fun e w' => e = .returned (.bool true) ∧ Below W.heap.size W w')) := fun ao c W h => by
  have := normal_any ao c x W (D.bd_of h0).1 h (D.bd_of h0).2
  rwa [hn] at this
theorem A.hEqv (x y : List D.P) (hx : D.Bd x) (hy : D.Bd y) : Hid (∀ ao bo c d W, D.Row W ao x → D.Row W bo y → Calls Try.prog 29 #[.slice ao x.length c, .slice bo y.length d] W (fun e w' => e = .returned (.tuple #[.bool (D.eqv x y), .int .i64 (D.eqvE x y)]) ∧ Below W.heap.size W w')) := fun ao bo c d W h g => equivalent_any ao bo c d x y W hx.1 hy.1 h g hx.2 hy.2
theorem A.hLen (x : List D.P) (hx : D.Bd x) : Hid (∀ ao c W, D.Row W ao x → Calls Try.prog 30 #[.slice ao x.length c] W (fun e w' => e = .returned (.tuple #[.int .i64 (D.lenI x), .int .i64 (D.lenO x), .int .i64 (D.chk x)]) ∧ Below W.heap.size W w')) := fun ao c W h => lengths_any ao c x W hx.1 h hx.2
theorem A.nf_normal (a : List D.Q) (h : D.chk ((D.nf a).map D.raw) = 0) : D.normal ((D.nf a).map D.raw) = true := by
  rw [D.normal_eq _ h, D.qs_raw]; exact D.isN_nf _
theorem A.mkP_len (n a k : Int) (t : List UInt8) : (D.mkP n a k t).length ≤ 4 := by
  unfold D.mkP
  split
  · rw [List.length_map]
    exact Nat.le_trans (D.nf_length _) (D.edit_len _ _ _ _)
  · simp
theorem A.invP_len (S : List UInt8) (x : List D.P) : (D.invP S x).length ≤ 4096 := by
  by_cases h : D.fitE S x = 0
  · rw [D.invP_eq h, List.length_map]
    have := D.nf_length (D.inv S (D.qs x))
    rw [D.inv_length] at this
    have := (D.valid_qs (D.fitE_zero h).1).2.2
    omega
  · unfold D.invP; rw [if_neg h]; simp
end Go.Proofs.Ytdpjnhmnmpmkmaa
