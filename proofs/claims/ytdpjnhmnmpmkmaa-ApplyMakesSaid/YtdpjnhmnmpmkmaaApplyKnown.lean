/- The examples that every statement of stage 4 asks: they are met. -/
import Derived.Test.YtdpjnhmnmpmkmaaApplyInv
import Derived.Test.YtdpjnhmnmpmkmaaApplyIns
import Derived.Test.YtdpjnhmnmpmkmaaApplyRep
import Derived.Test.YtdpjnhmnmpmkmaaDeltaOwnLaw
namespace Go.Proofs.Ytdpjnhmnmpmkmaa
open Go.RowKit

def A.kd : List D.P := [⟨1, 1, ⟨#[]⟩⟩, ⟨2, 0, ⟨#[120, 121]⟩⟩, ⟨3, 2, ⟨#[]⟩⟩, ⟨1, 3, ⟨#[]⟩⟩]
def A.kv : List D.P := [⟨1, 1, ⟨#[]⟩⟩, ⟨2, 0, ⟨#[98, 99]⟩⟩, ⟨3, 2, ⟨#[]⟩⟩, ⟨1, 3, ⟨#[]⟩⟩]
def A.km : List D.P := [⟨1, 1, ⟨#[]⟩⟩, ⟨2, 0, ⟨#[120]⟩⟩, ⟨1, 2, ⟨#[]⟩⟩]
theorem A.kd_fit : D.fitE [97, 98, 99, 100, 101, 102] A.kd = 0 := by decide
theorem A.kd_chk : D.chk A.kd = 0 := by decide
theorem A.kd_res : D.resP [97, 98, 99, 100, 101, 102] A.kd = [97, 120, 121, 100, 101, 102] := by rw [D.resP_eq A.kd_fit]; rfl
theorem A.kd_rem : D.remP [97, 98, 99, 100, 101, 102] A.kd = [98, 99] := by rw [D.remP_eq A.kd_fit]; rfl
theorem A.kd_ins : D.insP A.kd = [120, 121] := by rw [D.insP_eq A.kd_chk]; rfl
theorem A.kd_inv : D.invP [97, 98, 99, 100, 101, 102] A.kd = A.kv := by rw [D.invP_eq A.kd_fit]; rfl
theorem A.k3_fit : D.fitE [97, 98, 99] [⟨1, 2, ⟨#[]⟩⟩] = 21 := by decide
theorem A.km_err : D.mkE 3 1 0 [120] = 0 := by decide
theorem A.km_mk : D.mkP 3 1 0 [120] = A.km := by unfold D.mkP; rw [A.km_err]; rfl
theorem A.kx_err : D.mkE 3 2 2 [] = 3 := by decide
theorem A.kx_mk : D.mkP 3 2 2 [] = [] := by unfold D.mkP; rw [A.kx_err]; rfl
theorem A.kd_txt : ∀ p ∈ A.kd, p.t.size ≤ 140737488351232 := by
  intro p hp
  simp only [A.kd, List.mem_cons, List.not_mem_nil, or_false] at hp
  rcases hp with rfl | rfl | rfl | rfl <;> decide
theorem ak1 (W : World) (ao : Option Addr) (h : D.Row W ao A.kd) : Calls Try.prog 13 #[.string ⟨#[97, 98, 99, 100, 101, 102]⟩, .slice ao 4 4] W (fun e w' => e = .returned (.tuple #[.string ⟨#[97, 120, 121, 100, 101, 102]⟩, .int .i64 0]) ∧ Below W.heap.size W w') := by
  have := apply_any ⟨#[97, 98, 99, 100, 101, 102]⟩ ao 4 A.kd W (by decide) (by decide) h A.kd_txt
  have e : (⟨#[97, 98, 99, 100, 101, 102]⟩ : ByteArray).data.toList = [97, 98, 99, 100, 101, 102] := rfl
  rw [e, A.kd_fit, A.kd_res] at this
  exact this
theorem ak2 (W : World) (ao : Option Addr) (h : D.Row W ao A.kd) : Calls Try.prog 22 #[.string ⟨#[97, 98, 99, 100, 101, 102]⟩, .slice ao 4 4] W (fun e w' => ∃ v, e = .returned (.tuple #[v, .int .i64 0]) ∧ D.Made A.kv W v w') := by
  have := invert_any ⟨#[97, 98, 99, 100, 101, 102]⟩ ao 4 A.kd W (by decide) (by decide) h A.kd_txt
  have e : (⟨#[97, 98, 99, 100, 101, 102]⟩ : ByteArray).data.toList = [97, 98, 99, 100, 101, 102] := rfl
  unfold A.InvEnd at this
  rw [e, A.kd_fit, A.kd_inv] at this
  exact this
theorem ak3 (W : World) (ao : Option Addr) (h : D.Row W ao A.kd) : Calls Try.prog 15 #[.string ⟨#[97, 98, 99, 100, 101, 102]⟩, .slice ao 4 4] W (fun e w' => e = .returned (.tuple #[.string ⟨#[98, 99]⟩, .int .i64 0]) ∧ Below W.heap.size W w') := by
  have := removed_any ⟨#[97, 98, 99, 100, 101, 102]⟩ ao 4 A.kd W (by decide) (by decide) h A.kd_txt
  have e : (⟨#[97, 98, 99, 100, 101, 102]⟩ : ByteArray).data.toList = [97, 98, 99, 100, 101, 102] := rfl
  rw [e, A.kd_fit, A.kd_rem] at this
  exact this
theorem ak4 (W : World) (ao : Option Addr) (h : D.Row W ao A.kd) : Calls Try.prog 19 #[.slice ao 4 4] W (fun e w' => e = .returned (.tuple #[.string ⟨#[120, 121]⟩, .int .i64 0]) ∧ Below W.heap.size W w') := by
  have := inserted_any ao 4 A.kd W (by decide) h A.kd_txt
  rw [A.kd_chk, A.kd_ins] at this
  exact this
theorem ak5 (W : World) (ao : Option Addr) (h : D.Row W ao [⟨1, 2, ⟨#[]⟩⟩]) : Calls Try.prog 13 #[.string ⟨#[97, 98, 99]⟩, .slice ao 1 1] W (fun e w' => e = .returned (.tuple #[.string ⟨#[]⟩, .int .i64 21]) ∧ Below W.heap.size W w') := by
  have := apply_any ⟨#[97, 98, 99]⟩ ao 1 [⟨1, 2, ⟨#[]⟩⟩] W (by decide) (by decide) h (by intro p hp; simp at hp; subst hp; decide)
  have e : (⟨#[97, 98, 99]⟩ : ByteArray).data.toList = [97, 98, 99] := rfl
  have e2 : D.resP [97, 98, 99] [⟨1, 2, ⟨#[]⟩⟩] = [] := if_neg (by rw [A.k3_fit]; decide)
  rw [e, A.k3_fit, e2] at this
  exact this
theorem ak6 (W : World) : Calls Try.prog 25 #[.int .i64 3, .int .i64 1, .string ⟨#[120]⟩] W (fun e w' => ∃ v, e = .returned (.tuple #[v, .int .i64 0]) ∧ D.Made A.km W v w') := by
  have := insert_any 3 1 ⟨#[120]⟩ W (by decide) (by decide) (by decide) (by decide) (by decide)
  have e : (⟨#[120]⟩ : ByteArray).data.toList = [120] := rfl
  unfold A.MkEnd at this
  rw [e, A.km_err, A.km_mk] at this
  exact this
theorem ak7 (W : World) : Calls Try.prog 26 #[.int .i64 3, .int .i64 2, .int .i64 2] W (fun e w' => ∃ v, e = .returned (.tuple #[v, .int .i64 3]) ∧ D.Made [] W v w') := by
  have := delete_any 3 2 2 W (by decide) (by decide) (by decide) (by decide) (by decide) (by decide)
  have e : (⟨#[]⟩ : ByteArray).data.toList = [] := rfl
  unfold A.MkEnd at this
  rw [e, A.kx_err, A.kx_mk] at this
  exact this
set_option maxRecDepth 100000 in
set_option maxHeartbeats 4000000 in
theorem aknown_any (w : World) : Calls Try.prog 18 #[] w fun e w' => e = .returned (.bool true) ∧ Below w.heap.size w w' := by
  have K0 : Hid (D.Kn w (w.alloc (.cells (D.cellsL A.kd).toArray 38)) [(some ⟨w.heap.size, 0, none⟩, A.kd)]) := D.Kn.add ⟨(Below.refl _ _).alloc (Nat.le_refl _) _, fun x hx => by cases hx⟩ _ _ (D.row_lit w A.kd)
  go_enter Try.func18, Try.ntmps18
  go_wp2_with fail
  change Calls _ _ _ (w.alloc (.cells (D.cellsL A.kd).toArray 38)) _
  generalize w.alloc (.cells (D.cellsL A.kd).toArray 38) = w1 at K0 ⊢
  refine (ak1 w1 _ K0.out.r0).mono ?_
  rintro e w2 ⟨rfl, hb⟩
  have K1 := Lib.hid (K0.out.on hb)
  clear hb K0
  go_wp2_with fail
  refine (ak2 w2 _ K1.out.r0).mono ?_
  rintro e w3 ⟨v, rfl, hm⟩
  obtain ⟨va, vc, hv, K2⟩ := K1.out.made hm
  subst hv
  change Hid (D.Kn w w3 [(va, A.kv), (some ⟨w.heap.size, 0, none⟩, A.kd)]) at K2
  clear hm K1
  go_wp2_with fail
  refine (ak3 w3 _ K2.out.tl.r0).mono ?_
  rintro e w4 ⟨rfl, hb⟩
  have K3 := Lib.hid (K2.out.on hb)
  clear hb K2
  go_wp2_with fail
  refine (ak4 w4 _ K3.out.tl.r0).mono ?_
  rintro e w5 ⟨rfl, hb⟩
  have K4 := Lib.hid (K3.out.on hb)
  clear hb K3
  have R4 := Lib.hid (D.row_lit w5 [⟨1, 2, ⟨#[]⟩⟩])
  have K5 : Hid (D.Kn w (w5.alloc (.cells (D.cellsL [⟨1, 2, ⟨#[]⟩⟩]).toArray 38)) _) := K4.out.on ((Below.refl _ _).alloc (Nat.le_refl _) _)
  clear K4
  go_wp2_with fail
  change Calls _ _ _ (w5.alloc (.cells (D.cellsL [⟨1, 2, ⟨#[]⟩⟩]).toArray 38)) _
  generalize w5.alloc (.cells (D.cellsL [⟨1, 2, ⟨#[]⟩⟩]).toArray 38) = w6 at R4 K5 ⊢
  refine (ak5 w6 _ R4.out).mono ?_
  rintro e w7 ⟨rfl, hb⟩
  have K6 := Lib.hid (K5.out.on hb)
  clear hb K5 R4
  go_wp2_with fail
  refine (ak6 w7).mono ?_
  rintro e w8 ⟨v, rfl, hm⟩
  obtain ⟨ma, mc, hv, K7⟩ := K6.out.made hm
  subst hv
  change Hid (D.Kn w w8 [(ma, A.km), (va, A.kv), (some ⟨w.heap.size, 0, none⟩, A.kd)]) at K7
  clear hm K6
  go_wp2_with fail
  refine (ak7 w8).mono ?_
  rintro e w9 ⟨v, rfl, hm⟩
  obtain ⟨xa, xc, hv, _⟩ := hm.form
  subst hv
  have K8 := Lib.hid (K7.out.on hm.below)
  clear hm K7
  obtain ⟨b1, o1, e1, _, c10, c11, c12⟩ := K8.out.tl.r0 1 ⟨2, 0, ⟨#[98, 99]⟩⟩ rfl
  obtain ⟨b2, o2, e2, _, c20, c21, c22⟩ := K8.out.tl.r0 2 ⟨3, 2, ⟨#[]⟩⟩ rfl
  obtain ⟨b3, o3, e3, _, i10, i11, i12⟩ := K8.out.r0 1 ⟨2, 0, ⟨#[120]⟩⟩ rfl
  subst e1
  cases e2
  subst e3
  have hrun : ∀ W : World, (Op.equalIn 10000 38 (.agg #[.int .u8 2, .int .i64 0, .string ⟨#[98, 99]⟩]) (.agg #[.int .u8 2, .int .i64 0, .string ⟨#[98, 99]⟩])).run Try.prog W = .ok true W := fun W => by rw [D.eqPiece]; simp
  have R := Lib.hid K8.out.below
  clear K8
  go_wp2
  go_ret
  exact ⟨rfl, R.out⟩
end Go.Proofs.Ytdpjnhmnmpmkmaa
