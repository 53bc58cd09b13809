/- The examples that every statement of stage 5 asks: they are met. -/
import Derived.Test.YteondigaklonpaaComposeSplit
import Derived.Test.YteondigaklonpaaPackOwn
import Derived.Test.YteondigaklonpaaPackRef
namespace Go.Proofs.Yteondigaklonpaa
open Go.RowKit

def C.ka : List D.P := [⟨1, 1, ⟨#[]⟩⟩, ⟨2, 0, ⟨#[120, 121]⟩⟩, ⟨1, 1, ⟨#[]⟩⟩]
def C.kb : List D.P := [⟨1, 2, ⟨#[]⟩⟩, ⟨3, 1, ⟨#[]⟩⟩, ⟨1, 1, ⟨#[]⟩⟩]
def C.kd : List D.P := [⟨1, 1, ⟨#[]⟩⟩, ⟨2, 0, ⟨#[120]⟩⟩, ⟨1, 1, ⟨#[]⟩⟩]
def C.ks : List D.P := [⟨1, 1, ⟨#[]⟩⟩, ⟨2, 0, ⟨#[120]⟩⟩, ⟨3, 2, ⟨#[]⟩⟩]
def C.ki : List D.P := [⟨1, 1, ⟨#[]⟩⟩, ⟨2, 0, ⟨#[120]⟩⟩, ⟨1, 2, ⟨#[]⟩⟩]
def C.kr : List D.P := [⟨1, 2, ⟨#[]⟩⟩, ⟨3, 2, ⟨#[]⟩⟩]
theorem C.k_fit : D.fit2 C.ka C.kb = 0 := by decide
theorem C.k_bb : D.fit2 C.kb C.kb = 21 := by decide
theorem C.k_cq : D.cqP C.ka C.kb = C.kd := by rfl
theorem C.k_err : D.cmpE C.ka C.kb = 0 := by unfold D.cmpE; rw [C.k_fit, if_pos rfl, C.k_cq]; rfl
theorem C.k_cmp : D.cmpP C.ka C.kb = C.kd := by unfold D.cmpP; rw [C.k_err, if_pos rfl, C.k_cq]
theorem C.k_ia : D.cmpE (D.idP 2) C.ka = 0 := by
  have h : D.fit2 (D.idP 2) C.ka = 0 := by decide
  have e : D.cqP (D.idP 2) C.ka = C.ka := by rfl
  unfold D.cmpE; rw [h, if_pos rfl, e]; rfl
theorem C.k_ip : D.cmpP (D.idP 2) C.ka = C.ka := by
  have e : D.cqP (D.idP 2) C.ka = C.ka := by rfl
  unfold D.cmpP; rw [C.k_ia, if_pos rfl, e]
theorem C.k_all : D.allS 2 [C.ka, C.kb] = (0, C.kd) := by
  show D.stepS (D.stepS (0, D.idP 2) C.ka) C.kb = _
  have e : D.stepS (0, D.idP 2) C.ka = (0, C.ka) := by
    show (D.cmpE (D.idP 2) C.ka, D.cmpP (D.idP 2) C.ka) = _
    rw [C.k_ia, C.k_ip]
  rw [e]
  show (D.cmpE C.ka C.kb, D.cmpP C.ka C.kb) = _
  rw [C.k_err, C.k_cmp]
theorem C.k_se : D.spE C.ks = 0 := by decide
theorem C.k_si : D.spI C.ks = C.ki := by unfold D.spI; rw [C.k_se, if_pos rfl]; rfl
theorem C.k_sd : D.spD C.ks = C.kr := by unfold D.spD; rw [C.k_se, if_pos rfl]; rfl
theorem C.bd3 {l : List D.P} (h : D.chk l = 0) : D.Bd l := D.bd_of h
theorem ck1 (W : World) (ao bo : Option Addr) (h : D.Row W ao C.ka) (g : D.Row W bo C.kb) : Calls Try.prog 18 #[.slice ao 3 3, .slice bo 3 3] W (fun e w' => ∃ v, e = .returned (.tuple #[v, .int .i64 0]) ∧ D.Made C.kd W v w') := by
  have := compose_any ao bo 3 3 C.ka C.kb W h g (D.bd_of (by decide)) (D.bd_of (by decide)) (Nat.le_refl _) (Nat.le_refl _)
  unfold C.CmpEnd at this
  rw [C.k_err, C.k_cmp] at this
  exact this
theorem ck2 (W : World) (bo : Option Addr) (g : D.Row W bo C.kb) : Calls Try.prog 18 #[.slice bo 3 3, .slice bo 3 3] W (fun e w' => ∃ v, e = .returned (.tuple #[v, .int .i64 21]) ∧ D.Made [] W v w') := by
  have := compose_any bo bo 3 3 C.kb C.kb W g g (D.bd_of (by decide)) (D.bd_of (by decide)) (Nat.le_refl _) (Nat.le_refl _)
  obtain ⟨e1, e2⟩ := D.cmpE_not (show D.fit2 C.kb C.kb ≠ 0 by rw [C.k_bb]; decide)
  unfold C.CmpEnd at this
  rw [e1, e2, C.k_bb] at this
  exact this
theorem ck3 (W : World) (ao bo : Option Addr) (h : D.Row W ao C.ka) (g : D.Row W bo C.kb) (ha : ao ≠ none) (hb : bo ≠ none) : Calls Try.prog 21 #[.int .i64 2, .slice (some ⟨W.heap.size, 0, none⟩) 2 2] (W.alloc (.cells #[.slice ao 3 3, .slice bo 3 3] 22)) (fun e w' => ∃ v, e = .returned (.tuple #[v, .int .i64 0]) ∧ D.Made C.kd W v w') := by
  have hok : ∀ s ∈ [(⟨ao, 3, C.ka⟩ : D.Src), ⟨bo, 3, C.kb⟩], D.SrcOk W s := fun s hs => by
    simp only [List.mem_cons, List.not_mem_nil, or_false] at hs
    rcases hs with rfl | rfl
    · exact ⟨h, (D.bd_of (x := C.ka) (by decide)).1, (D.bd_of (x := C.ka) (by decide)).2, fun e => absurd e ha⟩
    · exact ⟨g, (D.bd_of (x := C.kb) (by decide)).1, (D.bd_of (x := C.kb) (by decide)).2, fun e => absurd e hb⟩
  have := all_any 2 (by decide) (by decide) (some ⟨W.heap.size, 0, none⟩) 2 [(⟨ao, 3, C.ka⟩ : D.Src), ⟨bo, 3, C.kb⟩] _ (by show 2 ≤ maxLen; decide) (D.rows_lit W _ 22 hok) (fun s hs => by
    simp only [List.mem_cons, List.not_mem_nil, or_false] at hs
    rcases hs with rfl | rfl <;> exact Nat.le_refl _)
  have e : [(⟨ao, 3, C.ka⟩ : D.Src), ⟨bo, 3, C.kb⟩].map D.Src.x = [C.ka, C.kb] := rfl
  unfold C.AllEnd at this
  rw [e, C.k_all] at this
  refine Calls.mono this fun e w' hh => ?_
  obtain ⟨v, he, hm⟩ := hh
  exact ⟨v, he, C.made_trans ((Below.refl _ _).alloc (Nat.le_refl _) _) hm⟩
theorem ck4 (W : World) (ao : Option Addr) (h : D.Row W ao C.ks) : Calls Try.prog 23 #[.slice ao 3 3] W (fun e w' => ∃ va vb, e = .returned (.tuple #[va, vb, .int .i64 0]) ∧ D.Made C.ki W va w' ∧ D.Made C.kr W vb w') := by
  have := split_any ao 3 C.ks W h (D.bd_of (by decide))
  unfold C.SplitEnd at this
  rw [C.k_se, C.k_si, C.k_sd] at this
  exact this
theorem ck5 (W : World) (ao bo : Option Addr) (c d : Nat) (h : D.Row W ao C.kd) (g : D.Row W bo C.kd) : Calls Try.prog 19 #[.slice ao 3 c, .slice bo 3 d] W (fun e w' => e = .returned (.bool true) ∧ Below W.heap.size W w') := by
  have := refSame_any ao bo c d C.kd C.kd W h g (by decide) (by decide)
  rwa [(D.same_iff C.kd C.kd).2 rfl] at this
theorem ck6 (W : World) (ao bo : Option Addr) (h : D.Row W ao C.ka) (g : D.Row W bo C.kb) : Calls Try.prog 16 #[.slice ao 3 3, .slice bo 3 3] W (fun e w' => e = .returned (.bool true) ∧ Below W.heap.size W w') := by
  have := fits_any ao bo 3 3 C.ka C.kb W h g (D.bd_of (by decide)) (D.bd_of (by decide))
  rw [C.k_fit] at this
  exact this
theorem ck7 (W : World) (bo : Option Addr) (g : D.Row W bo C.kb) : Calls Try.prog 16 #[.slice bo 3 3, .slice bo 3 3] W (fun e w' => e = .returned (.bool false) ∧ Below W.heap.size W w') := by
  have := fits_any bo bo 3 3 C.kb C.kb W g g (D.bd_of (by decide)) (D.bd_of (by decide))
  rw [C.k_bb] at this
  exact this
set_option maxRecDepth 100000 in
set_option maxHeartbeats 4000000 in
theorem cknown_any (w : World) : Calls Try.prog 13 #[] w fun e w' => e = .returned (.bool true) ∧ Below w.heap.size w w' := by
  have K0 : Hid (D.Kn w (w.alloc (.cells (D.cellsL C.ka).toArray 31)) [(some ⟨w.heap.size, 0, none⟩, C.ka)]) := D.Kn.add ⟨(Below.refl _ _).alloc (Nat.le_refl _) _, fun x hx => by cases hx⟩ _ _ (D.row_lit w C.ka)
  have K1 : Hid (D.Kn w ((w.alloc (.cells (D.cellsL C.ka).toArray 31)).alloc (.cells (D.cellsL C.kb).toArray 31)) [(some ⟨w.heap.size + 1, 0, none⟩, C.kb), (some ⟨w.heap.size, 0, none⟩, C.ka)]) := by
    have h := (K0.out.on ((Below.refl _ _).alloc (Nat.le_refl _) (.cells (D.cellsL C.kb).toArray 31)))
    have r := D.row_lit (w.alloc (.cells (D.cellsL C.ka).toArray 31)) C.kb
    rw [World.size_alloc] at r
    exact h.add _ _ r
  clear K0
  go_enter Try.func13, Try.ntmps13
  go_wp2_with fail
  change Calls _ _ _ ((w.alloc (.cells (D.cellsL C.ka).toArray 31)).alloc (.cells (D.cellsL C.kb).toArray 31)) _
  generalize ((w.alloc (.cells (D.cellsL C.ka).toArray 31)).alloc (.cells (D.cellsL C.kb).toArray 31)) = w1 at K1 ⊢
  refine (ck1 w1 _ _ K1.out.tl.r0 K1.out.r0).mono ?_
  rintro e w2 ⟨v, rfl, hm⟩
  obtain ⟨da, dc, hv, K2⟩ := K1.out.made hm
  subst hv
  change Hid (D.Kn w w2 [(da, C.kd), (some ⟨w.heap.size + 1, 0, none⟩, C.kb), (some ⟨w.heap.size, 0, none⟩, C.ka)]) at K2
  clear hm K1
  go_wp2_with fail
  refine (ck2 w2 _ K2.out.tl.r0).mono ?_
  rintro e w3 ⟨v, rfl, hm⟩
  obtain ⟨xa, xc, hv, _⟩ := hm.form
  subst hv
  have K3 := Lib.hid (K2.out.on hm.below)
  clear hm K2
  go_wp2_with fail
  refine (ck3 w3 _ _ K3.out.tl.tl.r0 K3.out.tl.r0 (by simp) (by simp)).mono ?_
  rintro e w4 ⟨v, rfl, hm⟩
  obtain ⟨la, lc, hv, K4⟩ := K3.out.made hm
  subst hv
  change Hid (D.Kn w w4 [(la, C.kd), (da, C.kd), (some ⟨w.heap.size + 1, 0, none⟩, C.kb), (some ⟨w.heap.size, 0, none⟩, C.ka)]) at K4
  clear hm K3
  have R4 := Lib.hid (D.row_lit w4 C.ks)
  have K5 : Hid (D.Kn w (w4.alloc (.cells (D.cellsL C.ks).toArray 31)) _) := K4.out.on ((Below.refl _ _).alloc (Nat.le_refl _) _)
  clear K4
  go_wp2_with fail
  change Calls _ _ _ (w4.alloc (.cells (D.cellsL C.ks).toArray 31)) _
  generalize w4.alloc (.cells (D.cellsL C.ks).toArray 31) = w5 at R4 K5 ⊢
  refine (ck4 w5 _ R4.out).mono ?_
  rintro e w6 ⟨v, u, rfl, hm, hn⟩
  obtain ⟨ia, ic, hv, K6⟩ := K5.out.made hm
  subst hv
  obtain ⟨ra, rc, hv, hrr⟩ := hn.form
  subst hv
  have K7 := Lib.hid (D.Kn.add K6.out ra C.kr hrr)
  change Hid (D.Kn w w6 [(ra, C.kr), (ia, C.ki), (la, C.kd), (da, C.kd), (some ⟨w.heap.size + 1, 0, none⟩, C.kb), (some ⟨w.heap.size, 0, none⟩, C.ka)]) at K7
  clear hm hn hrr K5 K6 R4
  obtain ⟨b1, o1, e1, _, c10, c11, c12⟩ := K7.out.tl.tl.tl.r0 1 ⟨2, 0, ⟨#[120]⟩⟩ rfl
  obtain ⟨b2, o2, e2, _, c20, c21, c22⟩ := K7.out.tl.tl.tl.r0 2 ⟨1, 1, ⟨#[]⟩⟩ rfl
  subst e1
  cases e2
  have hrun : ∀ W : World, (Op.equalIn 10000 31 (.agg #[.int .u8 2, .int .i64 0, .string ⟨#[120]⟩]) (.agg #[.int .u8 2, .int .i64 0, .string ⟨#[120]⟩])).run Try.prog W = .ok true W := fun W => by rw [D.eqPiece]; simp
  go_wp2_with fail
  refine (ck5 w6 _ _ _ _ K7.out.tl.tl.r0 K7.out.tl.tl.tl.r0).mono ?_
  rintro e w7 ⟨rfl, hb⟩
  have K8 := Lib.hid (K7.out.on hb)
  clear hb K7 c10 c11 c12 c20 c21 c22
  obtain ⟨b3, o3, e3, _, i10, i11, i12⟩ := K8.out.tl.r0 2 ⟨1, 2, ⟨#[]⟩⟩ rfl
  obtain ⟨b4, o4, e4, _, r10, r11, r12⟩ := K8.out.r0 1 ⟨3, 2, ⟨#[]⟩⟩ rfl
  subst e3
  subst e4
  go_wp2_with fail
  refine (ck6 w7 _ _ K8.out.tl.tl.tl.tl.tl.r0 K8.out.tl.tl.tl.tl.r0).mono ?_
  rintro e w8 ⟨rfl, hb⟩
  have K9 := Lib.hid (K8.out.on hb)
  clear hb K8
  go_wp2_with fail
  refine (ck7 w8 _ K9.out.tl.tl.tl.tl.r0).mono ?_
  rintro e w9 ⟨rfl, hb⟩
  have R := Lib.hid (K9.out.on hb).below
  clear hb K9
  go_wp2
  go_ret
  exact ⟨rfl, R.out⟩
end Go.Proofs.Yteondigaklonpaa
