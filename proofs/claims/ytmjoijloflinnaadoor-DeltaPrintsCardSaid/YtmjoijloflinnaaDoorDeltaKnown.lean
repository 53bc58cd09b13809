/- The examples that every statement of stage 3 asks: they are met. -/
import Derived.Test.YtmjoijloflinnaaDoorDeltaDelText
import Derived.Test.YtmjoijloflinnaaDoorDeltaEqv
import Derived.Test.YtmjoijloflinnaaDoorDeltaParse
namespace Go.Proofs.YtmjoijloflinnaaDoor
open Go.RowKit

/-- Rows of pieces that outlive what is made behind them. -/
structure D.Kn (w wr : World) (L : List (Option Addr × List D.P)) : Prop where
  below : Below w.heap.size w wr
  rows : ∀ x ∈ L, D.Row wr x.1 x.2
theorem D.Kn.on {w wr w' : World} {L : List (Option Addr × List D.P)} (h : D.Kn w wr L) (hb : Below wr.heap.size wr w') : D.Kn w w' L := ⟨h.below.trans (hb.mono h.below.size), fun x hx => (h.rows x hx).below hb⟩
theorem D.Kn.add {w wr : World} {L : List (Option Addr × List D.P)} (h : D.Kn w wr L) (ao : Option Addr) (l : List D.P) (hr : D.Row wr ao l) : D.Kn w wr ((ao, l) :: L) := ⟨h.below, fun x hx => by
  rcases List.mem_cons.1 hx with rfl | hx
  · exact hr
  · exact h.rows x hx⟩
theorem D.Kn.r0 {w wr : World} {L : List (Option Addr × List D.P)} {ao : Option Addr} {l : List D.P} (h : D.Kn w wr ((ao, l) :: L)) : D.Row wr ao l := h.rows (ao, l) (by simp)
theorem D.Kn.tl {w wr : World} {L : List (Option Addr × List D.P)} {x : Option Addr × List D.P} (h : D.Kn w wr (x :: L)) : D.Kn w wr L := ⟨h.below, fun y hy => h.rows y (List.mem_cons_of_mem _ hy)⟩
theorem D.Kn.made {w wr w' : World} {L : List (Option Addr × List D.P)} (h : D.Kn w wr L) {l : List D.P} {v : Value} (hm : D.Made l wr v w') : ∃ ao c, v = .slice ao l.length c ∧ Hid (D.Kn w w' ((ao, l) :: L)) := by
  obtain ⟨ao, c, hv, hr⟩ := hm.form
  exact ⟨ao, c, hv, (h.on hm.below).add ao l hr⟩
theorem D.row_lit (w : World) (l : List D.P) : D.Row (w.alloc (.cells (D.cellsL l).toArray 38)) (some ⟨w.heap.size, 0, none⟩) l := fun i p hp => by
  obtain ⟨h0, h1, h2⟩ := D.cellsL_at l i p hp
  have key : ∀ j u, (D.cellsL l)[j]? = some u → (w.alloc (.cells (D.cellsL l).toArray 38)).cell? ⟨w.heap.size, j, none⟩ = some u := fun j u hu => by
    rw [World.cell?_alloc_new]
    simpa using hu
  refine ⟨w.heap.size, 0, rfl, by simp, ?_⟩
  rw [Nat.zero_add]
  exact ⟨key _ _ h0, key _ _ h1, key _ _ h2⟩
def D.kd : List D.P := [⟨1, 1, ⟨#[]⟩⟩, ⟨1, 2, ⟨#[]⟩⟩, ⟨3, 1, ⟨#[]⟩⟩, ⟨2, 0, ⟨#[97]⟩⟩, ⟨3, 2, ⟨#[]⟩⟩, ⟨2, 0, ⟨#[98]⟩⟩]
def D.kn : List D.P := [⟨1, 3, ⟨#[]⟩⟩, ⟨2, 0, ⟨#[97, 98]⟩⟩, ⟨3, 3, ⟨#[]⟩⟩]
theorem D.kd_chk : D.chk D.kd = 0 := by decide
theorem D.kn_chk : D.chk D.kn = 0 := by decide
theorem D.kd_norm : D.normP D.kd = D.kn := by rfl
theorem D.kd_txt : ∀ p ∈ D.kd, p.t.size ≤ 140737488351232 := by
  intro p hp
  simp only [D.kd, List.mem_cons, List.not_mem_nil, or_false] at hp
  rcases hp with rfl | rfl | rfl | rfl | rfl | rfl <;> decide
theorem D.kn_txt : ∀ p ∈ D.kn, p.t.size ≤ 140737488351232 := by
  intro p hp
  simp only [D.kn, List.mem_cons, List.not_mem_nil, or_false] at hp
  rcases hp with rfl | rfl | rfl <;> decide
theorem D.kd_len : D.lenI D.kd = 6 ∧ D.lenO D.kd = 5 := by decide
theorem D.kn_text : D.txtP D.kn = [61, 51, 32, 43, 54, 49, 54, 50, 32, 45, 51] := by
  have e : D.qs D.kn = [.R 3, .I [97, 98], .D 3] := rfl
  unfold D.txtP
  rw [if_pos D.kn_chk, e]
  simp only [D.text, D.form1, D.digs_lt (show 3 < 10 by decide), List.flatMap_cons, List.flatMap_nil]
  rfl
theorem D.kp1 : D.parse [61, 51, 32, 43, 54, 49, 54, 50, 32, 45, 51] = some [.R 3, .I [97, 98], .D 3] := by rfl
theorem D.kp2 : D.parse [61, 48, 51] = none := by rfl
theorem D.kn_same : D.same D.kn D.kn = true := (D.same_iff _ _).2 rfl
theorem D.kn_normal : D.normal D.kn = true := by rw [D.normal_eq _ D.kn_chk]; rfl
theorem D.kd_normal : D.normal D.kd = false := by rw [D.normal_eq _ D.kd_chk]; rfl
theorem dk1 (W : World) (ao : Option Addr) (h : D.Row W ao D.kd) : Calls Tryd.prog 24 #[.slice ao 6 6] W (fun e w' => ∃ v, e = .returned (.tuple #[v, .int .i64 0]) ∧ D.Made D.kn W v w') := by
  have := normalize_any ao 6 D.kd W (by decide) h D.kd_txt
  unfold D.NormEnd at this
  rw [D.kd_chk, if_pos rfl, D.kd_norm] at this
  exact this
theorem dk2 (W : World) (ao : Option Addr) (h : D.Row W ao D.kd) : Calls Tryd.prog 15 #[.slice ao 6 6] W (fun e w' => e = .returned (.tuple #[.int .i64 6, .int .i64 5, .int .i64 0]) ∧ Below W.heap.size W w') := by
  have := lengths_any ao 6 D.kd W (by decide) h D.kd_txt
  unfold D.LenEnd at this
  rw [D.kd_chk, D.kd_len.1, D.kd_len.2] at this
  exact this
theorem dk3 (W : World) (ao : Option Addr) (c : Nat) (h : D.Row W ao D.kn) (hp : D.Pow W.heap.size W) : Calls Tryd.prog 31 #[.slice ao 3 c] W (fun e w' => e = .returned (.tuple #[.string ⟨#[61, 51, 32, 43, 54, 49, 54, 50, 32, 45, 51]⟩, .int .i64 0]) ∧ Below W.heap.size W w') := by
  have := delText_any ao c D.kn W (by decide) h D.kn_txt hp
  unfold D.TextEnd at this
  rw [D.kn_chk, D.kn_text] at this
  exact this
theorem dk4 (W : World) : Calls Tryd.prog 33 #[.string ⟨#[61, 51, 32, 43, 54, 49, 54, 50, 32, 45, 51]⟩] W (fun e w' => ∃ v, e = .returned (.tuple #[v, .int .i64 0]) ∧ D.Made D.kn W v w') := by
  have := parse_any [61, 51, 32, 43, 54, 49, 54, 50, 32, 45, 51] W (by decide)
  unfold D.ParEnd D.parseE D.parseP at this
  rw [D.kp1] at this
  have e : [D.Q.R 3, .I [97, 98], .D 3].map D.raw = D.kn := rfl
  dsimp only at this
  rw [e, D.kn_chk, if_pos rfl] at this
  exact this
theorem dk5 (W : World) : Calls Tryd.prog 33 #[.string ⟨#[61, 48, 51]⟩] W (fun e w' => ∃ v, e = .returned (.tuple #[v, .int .i64 4]) ∧ D.Made [] W v w') := by
  have := parse_any [61, 48, 51] W (by decide)
  unfold D.ParEnd D.parseE D.parseP at this
  rw [D.kp2] at this
  exact this
theorem dk6 (W : World) : Calls Tryd.prog 29 #[.int .i64 4] W (fun e w' => ∃ v, e = .returned (.tuple #[v, .int .i64 0]) ∧ D.Made [⟨1, 4, ⟨#[]⟩⟩] W v w') := identity_any 4 (by decide) (by decide) W
theorem dk7 (W : World) (ao bo : Option Addr) (c d : Nat) (h : D.Row W ao D.kn) (g : D.Row W bo D.kn) : Calls Tryd.prog 21 #[.slice ao 3 c, .slice bo 3 d] W (fun e w' => e = .returned (.bool true) ∧ Below W.heap.size W w') := by
  have := refSame_any ao bo c d D.kn D.kn W h g (by decide) (by decide)
  rw [D.kn_same] at this
  exact this
theorem dk8 (W : World) (ao : Option Addr) (h : D.Row W ao [⟨1, 0, ⟨#[]⟩⟩]) : Calls Tryd.prog 17 #[.slice ao 1 1] W (fun e w' => e = .returned (.int .i64 2) ∧ Below W.heap.size W w') :=
  check_any ao 1 [⟨1, 0, ⟨#[]⟩⟩] W (by decide) h (by intro p hp; simp at hp; subst hp; decide)
theorem dk9 (W : World) (ao : Option Addr) (c : Nat) (h : D.Row W ao D.kn) : Calls Tryd.prog 19 #[.slice ao 3 c] W (fun e w' => e = .returned (.bool true) ∧ Below W.heap.size W w') := by
  have := normal_any ao c D.kn W (by decide) h D.kn_txt
  rw [D.kn_normal] at this
  exact this
theorem dk10 (W : World) (ao : Option Addr) (h : D.Row W ao D.kd) : Calls Tryd.prog 19 #[.slice ao 6 6] W (fun e w' => e = .returned (.bool false) ∧ Below W.heap.size W w') := by
  have := normal_any ao 6 D.kd W (by decide) h D.kd_txt
  rw [D.kd_normal] at this
  exact this
set_option maxRecDepth 100000 in
set_option maxHeartbeats 4000000 in
theorem dknown_any (w : World) (hp : D.Pow w.heap.size w) : Calls Tryd.prog 22 #[] w fun e w' => e = .returned (.bool true) ∧ Below w.heap.size w w' := by
  have Hp := Lib.hid hp
  have K0 : Hid (D.Kn w (w.alloc (.cells (D.cellsL D.kd).toArray 38)) [(some ⟨w.heap.size, 0, none⟩, D.kd)]) := D.Kn.add ⟨(Below.refl _ _).alloc (Nat.le_refl _) _, fun x hx => by cases hx⟩ _ _ (D.row_lit w D.kd)
  clear hp
  go_enter Tryd.func22, Tryd.ntmps22
  go_wp2_with fail
  change Calls _ _ _ (w.alloc (.cells (D.cellsL D.kd).toArray 38)) _
  generalize w.alloc (.cells (D.cellsL D.kd).toArray 38) = w1 at K0 ⊢
  refine (dk1 w1 _ K0.out.r0).mono ?_
  rintro e w2 ⟨v, rfl, hm⟩
  obtain ⟨na, nc, hv, K⟩ := K0.out.made hm
  subst hv
  change Hid (D.Kn w w2 [(na, D.kn), (some ⟨w.heap.size, 0, none⟩, D.kd)]) at K
  clear hm K0
  go_wp2_with fail
  refine (dk2 w2 _ K.out.tl.r0).mono ?_
  rintro e w3 ⟨rfl, hb⟩
  replace K := Lib.hid (K.out.on hb)
  clear hb
  go_wp2_with fail
  refine (dk3 w3 _ nc K.out.r0 ((Hp.out.on K.out.below).mono K.out.below.size)).mono ?_
  rintro e w4 ⟨rfl, hb⟩
  replace K := Lib.hid (K.out.on hb)
  clear hb
  go_wp2_with fail
  refine (dk4 w4).mono ?_
  rintro e w5 ⟨v, rfl, hm⟩
  obtain ⟨pa, pc, hv, K5⟩ := K.out.made hm
  subst hv
  change Hid (D.Kn w w5 [(pa, D.kn), (na, D.kn), (some ⟨w.heap.size, 0, none⟩, D.kd)]) at K5
  clear hm K
  go_wp2_with fail
  refine (dk5 w5).mono ?_
  rintro e w6 ⟨v, rfl, hm⟩
  obtain ⟨ba, bc, hv, _⟩ := hm.form
  subst hv
  have K6 := Lib.hid (K5.out.on hm.below)
  clear hm K5
  go_wp2_with fail
  refine (dk6 w6).mono ?_
  rintro e w7 ⟨v, rfl, hm⟩
  obtain ⟨ia, ic, hv, K7⟩ := K6.out.made hm
  subst hv
  clear hm K6
  obtain ⟨b1, o1, e1, _, c10, c11, c12⟩ := K7.out.tl.tl.r0 1 ⟨2, 0, ⟨#[97, 98]⟩⟩ rfl
  obtain ⟨b2, o2, e2, _, i10, i11, i12⟩ := K7.out.r0 0 ⟨1, 4, ⟨#[]⟩⟩ rfl
  subst e1
  subst e2
  have hrun : ∀ W : World, (Op.equalIn 10000 38 (.agg #[.int .u8 2, .int .i64 0, .string ⟨#[97, 98]⟩]) (.agg #[.int .u8 2, .int .i64 0, .string ⟨#[97, 98]⟩])).run Tryd.prog W = .ok true W := fun W => by rw [D.eqPiece]; simp
  go_wp2_with fail
  refine (dk7 w7 _ _ pc nc K7.out.tl.r0 K7.out.tl.tl.r0).mono ?_
  rintro e w8 ⟨rfl, hb⟩
  have K8 := Lib.hid (K7.out.on hb)
  clear hb K7 i10 i11 i12 c10 c11 c12
  obtain ⟨b3, o3, e3, _, i10, i11, i12⟩ := K8.out.r0 0 ⟨1, 4, ⟨#[]⟩⟩ rfl
  cases e3
  have R8 := Lib.hid (D.row_lit w8 [⟨1, 0, ⟨#[]⟩⟩])
  have K9 : Hid (D.Kn w (w8.alloc (.cells (D.cellsL [⟨1, 0, ⟨#[]⟩⟩]).toArray 38)) _) := K8.out.on ((Below.refl _ _).alloc (Nat.le_refl _) _)
  clear K8
  go_wp2_with fail
  change Calls _ _ _ (w8.alloc (.cells (D.cellsL [⟨1, 0, ⟨#[]⟩⟩]).toArray 38)) _
  generalize w8.alloc (.cells (D.cellsL [⟨1, 0, ⟨#[]⟩⟩]).toArray 38) = w9 at R8 K9 ⊢
  refine (dk8 w9 _ R8.out).mono ?_
  rintro e w10 ⟨rfl, hb⟩
  have K10 := Lib.hid (K9.out.on hb)
  clear hb K9 R8 i10 i11 i12
  go_wp2_with fail
  refine (dk9 w10 _ nc K10.out.tl.tl.r0).mono ?_
  rintro e w11 ⟨rfl, hb⟩
  have K11 := Lib.hid (K10.out.on hb)
  clear hb K10
  go_wp2_with fail
  refine (dk10 w11 _ K11.out.tl.tl.tl.r0).mono ?_
  rintro e w12 ⟨rfl, hb⟩
  have K12 := Lib.hid (K11.out.on hb).below
  clear hb K11
  go_wp2
  go_ret
  exact ⟨rfl, K12.out⟩
end Go.Proofs.YtmjoijloflinnaaDoor
