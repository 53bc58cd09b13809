/- Texts joined: FreeRef1 FreeRef2 FreeRef3 FreeRef4 -/
import Derived.Test.YtniccjbcchdkoaaPackFPkg
import Derived.Test.YtniccjbcchdkoaaPackHand
import Derived.BigQuiet
import Derived.BigRegion
import Derived.RegionTactic
import Derived.ChangeAlike
import Derived.IntWalk
import Derived.Deep.DeepCutAuto
import Derived.Deep.CutBlock
import Derived.Maps.AppendAt
/- FreeRef1 -/
namespace Go.Proofs.Ytniccjbcchdkoaa
open Go.RowKit

theorem FL.st_at {s : FL.S} {i : Nat} (h : i < s.st.length) : s.st[i]? = some (s.at_ i) := by
  unfold FL.S.at_; rw [List.getD_eq_getElem?_getD, List.getElem?_eq_getElem h]; rfl
theorem FL.now_at {s : FL.S} (v : FL.Inv s) {i : Nat} (h : i < s.st.length) : s.now[i]? = some (s.gn i) := by
  unfold FL.S.gn; rw [List.getD_eq_getElem?_getD, List.getElem?_eq_getElem (by rw [v.len]; exact h)]; rfl
theorem FL.ROwn.inv {W : World} {p : Nat} {s : FL.S} {R : Nat → Prop} (h : FL.ROwn W p s R) : FL.Inv s := by obtain ⟨_, _, _, _, _, _, ha, _⟩ := h; exact ha.inv
set_option maxHeartbeats 1000000 in
theorem refLive11_any (p b1 b2 b3 c1 c2 c3 : Nat) (s : FL.S) (h : Nat) (h1 : h ≤ 18446744073709551615) (w : World) (hA : FL.RAt w p b1 b2 b3 c1 c2 c3 s) :
    Calls Try.prog 102 #[FL.ptr p, .int .u64 (h : Int)] w fun e w' => e = .returned (.bool (s.live h)) ∧ w = w' := by
  unfold FL.ptr
  have HS := Lib.hid (refSlot10_any h h1 w)
  have HG := Lib.hid (refGen10_any h h1 w)
  obtain ⟨d0, d1, d2, d3, _⟩ := hA.cells
  by_cases k : H.Ok h
  · obtain ⟨e1, e2, e3⟩ := H.ck_ok k
    rw [e1, e2] at HS
    rw [e1, e3] at HG
    clear e1 e2 e3
    by_cases hs : H.slot h < s.st.length
    · have ct := (hA.r1.cell (FL.ints_at (FL.st_at hs))).1
      have cg := (hA.r2.cell (FL.u_at (FL.now_at hA.inv hs))).1
      have q1 : decide ((s.st.length : Int) ≤ (H.slot h : Nat)) = false := by simp <;> omega
      by_cases ha : s.at_ (H.slot h) = 1
      · have E : Hid (s.live h = ((H.gen h : Int) == ((s.gn (H.slot h) : Nat) : Int))) := by
          show _ = _
          unfold FL.S.live
          have e : ((H.gen h : Int) == ((s.gn (H.slot h) : Nat) : Int)) = decide (H.gen h = s.gn (H.slot h)) := by
            rw [Bool.eq_iff_iff]; simp; omega
          rw [e]; simp [k, hs, ha]
        rw [ha] at ct
        clear k ha hA
        generalize H.gen h = g at *
        generalize H.slot h = x at *
        generalize s.gn x = y at *
        rw [E.out]
        go_enter Try.func102, Try.ntmps102
        go_wp2_with (first | (go_at_call 103; refine HS.out.mono ?_; rintro e w1 ⟨rfl, rfl⟩) | (go_at_call 124; refine HG.out.mono ?_; rintro e w1 ⟨rfl, rfl⟩))
        go_ret
        exact ⟨rfl, rfl⟩
      · have E : Hid (s.live h = false) := by show _ = _; unfold FL.S.live; simp [ha]
        have q2 : (((s.at_ (H.slot h) : Nat) : Int) != 1) = true := by simp; omega
        clear k ha hA cg
        generalize s.at_ (H.slot h) = y at *
        generalize H.slot h = x at *
        rw [E.out]
        go_enter Try.func102, Try.ntmps102
        go_wp2_with (first | (go_at_call 103; refine HS.out.mono ?_; rintro e w1 ⟨rfl, rfl⟩))
        go_ret
        exact ⟨rfl, rfl⟩
    · have E : Hid (s.live h = false) := by show _ = _; unfold FL.S.live; simp [hs]
      have q1 : decide ((s.st.length : Int) ≤ (H.slot h : Nat)) = true := by simp; omega
      clear k hA
      generalize H.slot h = x at *
      rw [E.out]
      go_enter Try.func102, Try.ntmps102
      go_wp2_with (first | (go_at_call 103; refine HS.out.mono ?_; rintro e w1 ⟨rfl, rfl⟩))
      go_ret
      exact ⟨rfl, rfl⟩
  · obtain ⟨e1, e2, _⟩ := H.ck_bad k
    rw [e1, e2] at HS
    have E : Hid (s.live h = false) := by show _ = _; unfold FL.S.live; simp [k]
    rw [E.out]
    clear e1 e2 k hA
    go_enter Try.func102, Try.ntmps102
    go_wp2_with (first | (go_at_call 103; refine HS.out.mono ?_; rintro e w1 ⟨rfl, rfl⟩))
    go_ret
    exact ⟨rfl, rfl⟩
/-- What Take leaves. -/
theorem FL.RAt.take {W : World} {p b1 b2 b3 c1 c2 c3 : Nat} {s : FL.S} (h : FL.RAt W p b1 b2 b3 c1 c2 c3 s) {x : Nat} {r : List Nat} (e : s.stk = x :: r) :
    FL.RAt ((W.setCell ⟨p, 3, none⟩ (.slice (some ⟨b3, 0, none⟩) r.length c3)).setCell ⟨b1, x, none⟩ (.int .i64 1)) p b1 b2 b3 c1 c2 c3 s.tk ∧
    FL.But (FL.foot p b1 b2 b3) W ((W.setCell ⟨p, 3, none⟩ (.slice (some ⟨b3, 0, none⟩) r.length c3)).setCell ⟨b1, x, none⟩ (.int .i64 1)) := by
  have t := FL.tk_cons h.inv e
  obtain ⟨⟨n1, n2, n3⟩, n4, n5, n6⟩ := h.ne
  have es : s.tk.st = s.st.set x 1 := by unfold FL.S.tk; rw [e]
  have en : s.tk.now = s.now := by unfold FL.S.tk; rw [e]
  refine ⟨⟨FL.inv_tk h.inv, FL.wd_tk h.inv h.wd, ?_, ?_, ?_, ?_, by rw [t.len]; exact h.room, h.ne⟩, (FL.But.set W _ (.inl rfl)).trans (FL.But.set _ _ (.inr (.inl rfl)))⟩
  · rw [FL.heap_off _ _ n1, FL.set_obj h.obj 3, t.gens, t.rest, t.len]; rfl
  · rw [t.len, es]
    have := (h.r1.off (b := p) (o := 3) (.slice (some ⟨b3, 0, none⟩) r.length c3) n1.symm).set x (.int .i64 ((1 : Nat) : Int))
    rw [FL.ints_set] at this
    exact this
  · rw [t.len, en]
    exact (h.r2.off _ n2.symm).off _ n4.symm
  · have a := h.r3.cut (m := r.length) (by rw [e]; simp)
    rw [t.rest]
    have eq : (FL.ints s.stk.reverse).take r.length = FL.ints r.reverse := by unfold FL.ints; rw [← List.map_take, e, List.reverse_cons, List.take_left' (by simp)]
    rw [eq] at a
    exact (a.off _ n3.symm).off _ n5.symm
set_option maxHeartbeats 2000000 in
theorem refTake11_any (p : Nat) (s : FL.S) (R : Nat → Prop) (w : World) (hO : FL.ROwn w p s R) :
    Calls Try.prog 82 #[FL.ptr p] w fun e w' => e = .returned (.tuple #[.int .u64 (s.tkH : Nat), .int .i64 s.tkE]) ∧ FL.ROwn w' p s.tk R ∧ FL.But R w w' := by
  obtain ⟨b1, b2, b3, c1, c2, c3, hA, rfl⟩ := hO
  obtain ⟨d0, d1, d2, d3, fz⟩ := hA.cells
  unfold FL.ptr
  cases e : s.stk with
  | nil =>
    obtain ⟨k1, k2, k3⟩ := FL.tk_nil e
    rw [k1, k2, k3]
    have E : Hid (FL.ROwn w p s (FL.foot p b1 b2 b3) ∧ FL.But (FL.foot p b1 b2 b3) w w) := ⟨⟨b1, b2, b3, c1, c2, c3, hA, rfl⟩, FL.But.refl _ _⟩
    rw [e] at d3
    clear hA k1 k2 k3 e
    go_enter Try.func82, Try.ntmps82
    go_wp2
    go_ret2
    exact ⟨rfl, E.out⟩
  | cons x r =>
    have t := FL.tk_cons hA.inv e
    have hx := t.lt
    have hl := hA.inv.n2
    have hn := FL.ok_lt hA.inv t.lt
    have h1n := (hA.inv.now x t.lt).1
    have HM := fun W => refMake10_any (x : Nat) (s.gn x : Nat) (by omega) (by omega) (by omega) (by omega) W
    rw [H.mkV_nat ((H.mkE_iff _ _).2 ⟨by omega, by omega, by omega, by omega⟩), (H.mkE_iff _ _).2 ⟨by omega, by omega, by omega, by omega⟩, ← t.hand] at HM
    have HM := Lib.hid HM
    rw [t.err]
    have hn3 : s.stk.length = r.length + 1 := by rw [e]; rfl
    have hcx : r.length < s.stk.length := by omega
    have HA : Hid (∀ V, Below w.heap.size w V → FL.RAt V p b1 b2 b3 c1 c2 c3 s) := fun V hb => hA.but (R := fun _ => False) (FL.But.below hb) (fun _ _ => id)
    have HC : Hid (∀ V, FL.RAt V p b1 b2 b3 c1 c2 c3 s → V.cell? ⟨b3, r.length, none⟩ = some (.int .i64 (x : Int)) ∧ V.cell? ⟨p, 3, none⟩ = some (.slice (some ⟨b3, 0, none⟩) (r.length + 1) c3)) := fun V h => by
      obtain ⟨_, _, _, f3, _⟩ := h.cells
      rw [hn3] at f3
      exact ⟨(h.r3.cell (FL.ints_at (l := s.stk.reverse) (i := r.length) (x := x) (by rw [e, List.reverse_cons, List.getElem?_append_right (by simp)]; simp))).1, f3⟩
    obtain ⟨cx, e3⟩ := HC.out w hA
    have hc : r.length + 1 ≤ c3 := by obtain ⟨_, _, h, _⟩ := hA.r3.block; omega
    have hr : r.length ≤ 16384 := by have := FL.stk_len hA.inv; omega
    have s1 : IntKind.i64.wrap ((r.length : Int) + 1 - 1) = (r.length : Int) := by rw [Int.add_sub_cancel]; exact IntWalk.i64_in _ (by omega)
    clear d0 d1 d2 d3 hcx
    go_enter Try.func82, Try.ntmps82
    go_wp2_with fail
    go_quiet (fail)
    have hB1 : Hid (Below w.heap.size w (w.drewN nq)) := H.drewN (Below.refl _ _) nq
    have hA1 := Lib.hid (HA.out _ hB1.out)
    generalize w.drewN nq = V1 at hB1 hA1 ⊢
    obtain ⟨x1, y1⟩ := HC.out _ hA1.out
    obtain ⟨_, _, _, _, fz1⟩ := hA1.out.cells
    clear cx e3 fz HA
    go_wp2_with fail
    go_region
    rw [show (V1.setCell ⟨p, 3, none⟩ (.slice (some ⟨b3, 0, none⟩) r.length c3)).drew = V1.drew.setCell ⟨p, 3, none⟩ (.slice (some ⟨b3, 0, none⟩) r.length c3) from rfl]
    have hB2 : Hid (Below w.heap.size w V1.drew) := hB1.out.drew
    have hA2 : Hid (FL.RAt V1.drew p b1 b2 b3 c1 c2 c3 s) := hA1.out.but (R := fun _ => False) (FL.But.below (Below.refl _ _).drew) (fun _ _ => id)
    clear x1 y1 fz1 hA1 hB1
    generalize V1.drew = V2 at hA2 hB2 ⊢
    obtain ⟨_, d1, d2, _, _⟩ := hA2.out.cells
    obtain ⟨hT, hB⟩ := hA2.out.take e
    have E : Hid (FL.ROwn ((V2.setCell ⟨p, 3, none⟩ (.slice (some ⟨b3, 0, none⟩) r.length c3)).setCell ⟨b1, x, none⟩ (.int .i64 1)) p s.tk (FL.foot p b1 b2 b3) ∧ FL.But (FL.foot p b1 b2 b3) w ((V2.setCell ⟨p, 3, none⟩ (.slice (some ⟨b3, 0, none⟩) r.length c3)).setCell ⟨b1, x, none⟩ (.int .i64 1))) :=
      ⟨⟨b1, b2, b3, c1, c2, c3, hT, rfl⟩, (FL.But.below hB2.out).trans hB⟩
    obtain ⟨ct, ft⟩ := hA2.out.r1.cell (FL.ints_at (FL.st_at hx))
    obtain ⟨_, _, f2, _, _⟩ := hT.cells
    rw [t.len] at f2
    have cg := (hT.r2.cell (FL.u_at (FL.now_at (s := s.tk) (FL.inv_tk hA.inv) (i := x) (by rw [t.len]; exact hx)))).1
    rw [t.gn] at cg
    obtain ⟨⟨n1, _, _⟩, _⟩ := hA.ne
    clear hA hA2 hB2 hT hB t e s1 HC
    generalize s.gn x = y at *
    go_wp2_with fail
    refine (HM.out _).mono ?_
    rintro e w1 ⟨rfl, rfl⟩
    go_wp2
    go_ret2
    exact ⟨rfl, E.out⟩
end Go.Proofs.Ytniccjbcchdkoaa
/- FreeRef2 -/
namespace Go.Proofs.Ytniccjbcchdkoaa
open Go.RowKit

theorem FL.gv_last {s : FL.S} {h : Nat} (k : s.live h = true) (e : s.gn (H.slot h) = s.gens) : s.gv h = { s with st := s.st.set (H.slot h) 2 } := by unfold FL.S.gv; rw [if_pos k, if_pos e]
theorem FL.gv_next {s : FL.S} {h : Nat} (k : s.live h = true) (e : s.gn (H.slot h) ≠ s.gens) : s.gv h = { s with st := s.st.set (H.slot h) 0, now := s.now.set (H.slot h) (s.gn (H.slot h) + 1), stk := H.slot h :: s.stk } := by unfold FL.S.gv; rw [if_pos k, if_neg e]
theorem FL.RAt.gone {W : World} {p b1 b2 b3 c1 c2 c3 : Nat} {s : FL.S} (a : FL.RAt W p b1 b2 b3 c1 c2 c3 s) {h : Nat} (k : s.live h = true) {x : Nat} (hx : H.slot h = x) (e : s.gn x = s.gens) :
    FL.RAt (W.setCell ⟨b1, x, none⟩ (.int .i64 2)) p b1 b2 b3 c1 c2 c3 (s.gv h) ∧ FL.But (FL.foot p b1 b2 b3) W (W.setCell ⟨b1, x, none⟩ (.int .i64 2)) := by
  subst hx
  have i := FL.inv_gv a.inv h
  have d := FL.wd_gv a.inv a.wd h
  rw [FL.gv_last k e] at *
  obtain ⟨⟨n1, n2, n3⟩, n4, n5, n6⟩ := a.ne
  refine ⟨⟨i, d, ?_, ?_, ?_, a.r3.off _ n5.symm, ?_, a.ne⟩, FL.But.set _ _ (.inr (.inl rfl))⟩
  · rw [FL.heap_off _ _ n1]; simpa using a.obj
  · have := a.r1.set (H.slot h) (.int .i64 ((2 : Nat) : Int))
    rw [FL.ints_set] at this
    show FL.Rw _ _ (s.st.set _ _).length _ _ _
    rw [List.length_set]; exact this
  · show FL.Rw _ _ (s.st.set _ _).length _ _ _
    rw [List.length_set]; exact a.r2.off _ n4.symm
  · show (s.st.set _ _).length ≤ _
    rw [List.length_set]; exact a.room
/-- A list of the reference in the midst of Give. -/
structure FL.RMid (W : World) (p b1 b2 b3 : Nat) (c1 c2 c3 : Nat) (s : FL.S) (x : Nat) : Prop where
  obj : W.heap[p]? = some (.cells #[.int .u64 (s.gens : Int), .slice (some ⟨b1, 0, none⟩) s.st.length c1, .slice (some ⟨b2, 0, none⟩) s.st.length c2, .slice (some ⟨b3, 0, none⟩) s.stk.length c3] 152 (0, 0))
  r1 : FL.Rw W b1 s.st.length c1 3 (FL.ints (s.st.set x 0))
  r2 : FL.Rw W b2 s.st.length c2 23 (H.row (s.now.set x (s.gn x + 1)))
  r3 : FL.Rw W b3 s.stk.length c3 3 (FL.ints s.stk.reverse)
theorem FL.RAt.mid {W : World} {p b1 b2 b3 c1 c2 c3 : Nat} {s : FL.S} (a : FL.RAt W p b1 b2 b3 c1 c2 c3 s) (x : Nat) {z : Int} (hz : ((s.gn x : Nat) : Int) + 1 = z) :
    FL.RMid ((W.setCell ⟨b2, x, none⟩ (.int .u64 z)).setCell ⟨b1, x, none⟩ (.int .i64 0)) p b1 b2 b3 c1 c2 c3 s x ∧ FL.But (FL.foot p b1 b2 b3) W ((W.setCell ⟨b2, x, none⟩ (.int .u64 z)).setCell ⟨b1, x, none⟩ (.int .i64 0)) := by
  subst hz
  obtain ⟨⟨n1, n2, n3⟩, n4, n5, n6⟩ := a.ne
  refine ⟨⟨?_, ?_, ?_, (a.r3.off _ n6.symm).off _ n5.symm⟩, (FL.But.set _ _ (.inr (.inr (.inl rfl)))).trans (FL.But.set _ _ (.inr (.inl rfl)))⟩
  · rw [FL.heap_off _ _ n1, FL.heap_off _ _ n2]; exact a.obj
  · rw [← FL.ints_set]; exact (a.r1.off _ n4).set _ _
  · rw [← FL.u_set, Int.natCast_add]; exact (a.r2.set _ _).off _ n4.symm
theorem FL.RMid.push {W V W' : World} {p b1 b2 b3 c1 c2 c3 : Nat} {s : FL.S} (a : FL.RAt V p b1 b2 b3 c1 c2 c3 s) {h : Nat} (k : s.live h = true) {x : Nat} (hx : H.slot h = x) (m : FL.RMid W p b1 b2 b3 c1 c2 c3 s x) (e : s.gn x ≠ s.gens)
    (hr : FL.Rw W' b3 (s.stk.length + 1) c3 3 (FL.ints s.stk.reverse ++ [.int .i64 (x : Int)])) (hb : FL.But (fun k => k = b3) W W') :
    FL.RAt (W'.setCell ⟨p, 3, none⟩ (.slice (some ⟨b3, 0, none⟩) (s.stk.length + 1) c3)) p b1 b2 b3 c1 c2 c3 (s.gv h) := by
  subst hx
  have i := FL.inv_gv a.inv h
  have d := FL.wd_gv a.inv a.wd h
  rw [FL.gv_next k e] at *
  obtain ⟨⟨n1, n2, n3⟩, n4, n5, n6⟩ := a.ne
  have ho : W'.heap[p]? = _ := (hb.block p (Array.getElem?_eq_some_iff.1 m.obj).1 n3).trans m.obj
  have hl : ∀ v, (s.st.set (H.slot h) v).length = s.st.length := fun v => List.length_set
  refine ⟨i, d, ?_, ?_, ?_, ?_, ?_, a.ne⟩
  · rw [FL.set_obj ho 3]; simp
  · show FL.Rw _ _ (s.st.set _ _).length _ _ _
    rw [hl]; exact (m.r1.but hb n5).off _ n1.symm
  · show FL.Rw _ _ (s.st.set _ _).length _ _ _
    rw [hl]; exact (m.r2.but hb n6).off _ n2.symm
  · have eq : FL.ints (H.slot h :: s.stk).reverse = FL.ints s.stk.reverse ++ [.int .i64 ((H.slot h : Nat) : Int)] := by unfold FL.ints; rw [List.reverse_cons, List.map_append]; rfl
    show FL.Rw _ _ (s.stk.length + 1) _ _ (FL.ints (H.slot h :: s.stk).reverse)
    rw [eq]
    exact hr.off _ n3.symm
  · show (s.st.set _ _).length ≤ _
    rw [hl]; exact a.room
set_option maxHeartbeats 2000000 in
theorem refGive11_any (p : Nat) (s : FL.S) (R : Nat → Prop) (h : Nat) (h1 : h ≤ 18446744073709551615) (w : World) (hO : FL.ROwn w p s R) :
    Calls Try.prog 84 #[FL.ptr p, .int .u64 (h : Int)] w fun e w' => e = .returned (.tuple #[.bool (s.gvB h), .int .i64 (s.gvE h)]) ∧ FL.ROwn w' p (s.gv h) R ∧ FL.But R w w' := by
  obtain ⟨b1, b2, b3, c1, c2, c3, hA, rfl⟩ := hO
  have HL := Lib.hid (refLive11_any p b1 b2 b3 c1 c2 c3 s h h1 w hA)
  obtain ⟨d0, d1, d2, d3, fz⟩ := hA.cells
  unfold FL.ptr at HL ⊢
  cases k : s.live h with
  | false =>
    have E : Hid (FL.ROwn w p (s.gv h) (FL.foot p b1 b2 b3) ∧ FL.But (FL.foot p b1 b2 b3) w w) := ⟨⟨b1, b2, b3, c1, c2, c3, by rw [FL.gv_no k]; exact hA, rfl⟩, FL.But.refl _ _⟩
    have e1 : s.gvB h = false := by unfold FL.S.gvB; rw [k]; rfl
    have e2 : s.gvE h = 10 := by unfold FL.S.gvE; rw [k]; rfl
    rw [k] at HL
    rw [e1, e2]
    clear hA k e1 e2
    go_enter Try.func84, Try.ntmps84
    go_wp2_with fail
    refine HL.out.mono ?_
    rintro e w1 ⟨rfl, rfl⟩
    go_wp2
    go_ret2
    exact ⟨rfl, E.out⟩
  | true =>
    have HS := Lib.hid (refSlot10_any h h1 w)
    obtain ⟨k1, k2, k3, k4⟩ := FL.live_iff.1 k
    obtain ⟨e1, e2, _⟩ := H.ck_ok k1
    rw [e1, e2] at HS
    have e3 : s.gvE h = 0 := by unfold FL.S.gvE; rw [k]; rfl
    have e4 : s.gvB h = decide (s.gn (H.slot h) = s.gens) := by unfold FL.S.gvB; rw [k, Bool.true_and]
    rw [k] at HL
    rw [e3, e4]
    have nw := hA.inv.now _ k2
    have g2 := hA.inv.g2
    obtain ⟨x, hx⟩ : ∃ x, H.slot h = x := ⟨_, rfl⟩
    rw [hx] at HS k2 k3 nw ⊢
    obtain ⟨z, hz⟩ : ∃ z : Int, ((s.gn x : Nat) : Int) + 1 = z := ⟨_, rfl⟩
    have cg := (hA.r2.cell (FL.u_at (FL.now_at hA.inv k2))).1
    obtain ⟨⟨n1, n2, n3⟩, n4, n5, n6⟩ := hA.ne
    have zw : IntKind.u64.wrap (((s.gn x : Nat) : Int) + 1) = z := by rw [← hz]; exact H.u64_in (s.gn x + 1) (by omega)
    have HA : Hid (∀ V, Below w.heap.size w V → FL.RAt V p b1 b2 b3 c1 c2 c3 s) := fun V hb => hA.but (R := fun _ => False) (FL.But.below hb) (fun _ _ => id)
    have HC : Hid (∀ V, FL.RAt V p b1 b2 b3 c1 c2 c3 s → V.cell? ⟨b2, x, none⟩ = some (.int .u64 ((s.gn x : Nat) : Int)) ∧ V.frozen? ⟨b2, x, none⟩ = false ∧ V.cell? ⟨b1, x, none⟩ = some (.int .i64 ((s.at_ x : Nat) : Int)) ∧ V.frozen? ⟨b1, x, none⟩ = false ∧ V.cell? ⟨p, 1, none⟩ = some (.slice (some ⟨b1, 0, none⟩) s.st.length c1) ∧ V.cell? ⟨p, 2, none⟩ = some (.slice (some ⟨b2, 0, none⟩) s.st.length c2)) := fun V a =>
      have a1 := a.r2.cell (FL.u_at (FL.now_at a.inv k2))
      have a2 := a.r1.cell (FL.ints_at (FL.st_at k2))
      ⟨a1.1, a1.2, a2.1, a2.2, a.cells.2.1, a.cells.2.2.1⟩
    by_cases e : s.gn x = s.gens
    · have q1 : (((s.gn x : Nat) : Int) == (s.gens : Int)) = true := by simp; omega
      have RF : Hid (∀ V, FL.RAt V p b1 b2 b3 c1 c2 c3 s → Below w.heap.size w V → FL.ROwn (V.setCell ⟨b1, x, none⟩ (.int .i64 2)) p (s.gv h) (FL.foot p b1 b2 b3) ∧ FL.But (FL.foot p b1 b2 b3) w (V.setCell ⟨b1, x, none⟩ (.int .i64 2))) := fun V a hb =>
        ⟨⟨b1, b2, b3, c1, c2, c3, (a.gone k hx e).1, rfl⟩, (FL.But.below hb).trans (a.gone k hx e).2⟩
      rw [decide_eq_true e]
      clear hA k k1 e nw g2 hz k3 zw n1 n2 n3 n4 n5 n6
      generalize s.gn x = y at *
      generalize ((s.gens : Nat) : Int) = gi at *
      go_enter Try.func84, Try.ntmps84
      go_wp2_with fail
      refine HL.out.mono ?_
      rintro e w1 ⟨rfl, rfl⟩
      go_wp2_with fail
      refine HS.out.mono ?_
      rintro e w1 ⟨rfl, rfl⟩
      go_wp2_with fail
      go_quiet (fail)
      have hB1 : Hid (Below w.heap.size w (w.drewN nq)) := H.drewN (Below.refl _ _) nq
      have hA1 := Lib.hid (HA.out _ hB1.out)
      generalize w.drewN nq = V1 at hB1 hA1 ⊢
      obtain ⟨a1, a2, a3, a4, a5, a6⟩ := HC.out _ hA1.out
      have R3 := Lib.hid (RF.out _ hA1.out hB1.out)
      clear hA1 hB1
      go_wp2
      go_ret2
      exact ⟨rfl, R3.out⟩
    · have q1 : (((s.gn x : Nat) : Int) == (s.gens : Int)) = false := by simp; omega
      have room : s.stk.length < c3 := by
        have h1 := FL.stk_len (FL.inv_gv hA.inv h)
        have t := FL.gv_yes hA.inv k
        rw [t.stk, if_neg (by rw [hx]; exact e), t.len, List.length_cons] at h1
        have := hA.room
        omega
      have HM : Hid (∀ V, FL.RAt V p b1 b2 b3 c1 c2 c3 s → FL.RMid ((V.setCell ⟨b2, x, none⟩ (.int .u64 z)).setCell ⟨b1, x, none⟩ (.int .i64 0)) p b1 b2 b3 c1 c2 c3 s x ∧ FL.But (FL.foot p b1 b2 b3) V ((V.setCell ⟨b2, x, none⟩ (.int .u64 z)).setCell ⟨b1, x, none⟩ (.int .i64 0))) := fun V a => a.mid x hz
      have RF : Hid (∀ W, FL.RMid W p b1 b2 b3 c1 c2 c3 s x → FL.But (FL.foot p b1 b2 b3) w W → ∀ w4, FL.Rw w4 b3 (s.stk.length + 1) c3 3 (FL.ints s.stk.reverse ++ [.int .i64 (x : Int)]) → FL.But (fun k => k = b3) W w4 →
          FL.ROwn (w4.setCell ⟨p, 3, none⟩ (.slice (some ⟨b3, 0, none⟩) (s.stk.length + 1) c3)) p (s.gv h) (FL.foot p b1 b2 b3) ∧ FL.But (FL.foot p b1 b2 b3) w (w4.setCell ⟨p, 3, none⟩ (.slice (some ⟨b3, 0, none⟩) (s.stk.length + 1) c3))) := fun W m b w4 hr hb =>
        ⟨⟨b1, b2, b3, c1, c2, c3, FL.RMid.push hA k hx m e hr hb, rfl⟩, (b.trans ⟨hb.os, hb.tape, hb.output, hb.size, fun i hi hn => hb.block i hi (fun c => hn (.inr (.inr (.inr c))))⟩).trans (FL.But.set _ _ (.inl rfl))⟩
      rw [decide_eq_false e]
      clear hA k k1 e nw g2 hz k3
      generalize s.gn x = y at *
      generalize ((s.gens : Nat) : Int) = gi at *
      obtain ⟨ip, hp, hp0, hp1, hp2⟩ := info_parts Try.infoInt11
      go_enter Try.func84, Try.ntmps84
      go_wp2_with fail
      refine HL.out.mono ?_
      rintro e w1 ⟨rfl, rfl⟩
      go_wp2_with fail
      refine HS.out.mono ?_
      rintro e w1 ⟨rfl, rfl⟩
      go_wp2_with fail
      go_quiet (fail)
      have hB1 : Hid (Below w.heap.size w (w.drewN nq)) := H.drewN (Below.refl _ _) nq
      have hA1 := Lib.hid (HA.out _ hB1.out)
      clear d0 d1 d2 d3 fz cg
      generalize w.drewN nq = V1 at hB1 hA1 ⊢
      obtain ⟨a1, a2, a3, a4, a5, a6⟩ := HC.out _ hA1.out
      go_wp2_with fail
      go_region
      rw [show (V1.setCell ⟨b2, x, none⟩ (.int .u64 z)).drew = V1.drew.setCell ⟨b2, x, none⟩ (.int .u64 z) from rfl]
      have hB2 : Hid (Below w.heap.size w V1.drew) := hB1.out.drew
      have hA2 : Hid (FL.RAt V1.drew p b1 b2 b3 c1 c2 c3 s) := hA1.out.but (R := fun _ => False) (FL.But.below (Below.refl _ _).drew) (fun _ _ => id)
      clear a1 a2 a3 a4 a5 a6 hA1 hB1
      generalize V1.drew = V2 at hA2 hB2 ⊢
      obtain ⟨a1, a2, a3, a4, a5, a6⟩ := HC.out _ hA2.out
      obtain ⟨m, b⟩ := HM.out _ hA2.out
      have c1' : ((V2.setCell ⟨b2, x, none⟩ (.int .u64 z)).setCell ⟨b1, x, none⟩ (.int .i64 0)).cell? ⟨p, 3, none⟩ = some (.slice (some ⟨b3, 0, none⟩) s.stk.length c3) := by rw [cell_of_row _ p _ _ _ _ m.obj]; rfl
      have RF := Lib.hid (RF.out _ m ((FL.But.below hB2.out).trans b))
      have pf := m.obj
      have mr := Lib.hid m.r3
      clear m b HM HC HA hA2 hB2 zw
      go_upto_region 11 with (fail)
      generalize (V2.setCell ⟨b2, x, none⟩ (.int .u64 z)).setCell ⟨b1, x, none⟩ (.int .i64 0) = W3 at c1' RF pf mr ⊢
      clear a1 a2 a3 a4 a5 a6
      go_wp2_with (at_builtin; refine FL.append_fit Try.underlying33 hp hp1 rfl _ _ rfl b3 s.stk.length c3 _ ?a0 mr.out (.int .i64 (x : Int)) rfl 1 ?a1 room ?_)
      case a0 => rfl
      case a1 => rfl
      intro w4 hr hb
      have R4 := Lib.hid (RF.out w4 hr hb)
      have pf4 := (hb.block p (Array.getElem?_eq_some_iff.1 pf).1 n3).trans pf
      have fz4 : w4.frozen? ⟨p, 3, none⟩ = false := frozen_of_row _ _ _ _ _ pf4
      have c4 : w4.cell? ⟨p, 3, none⟩ = some (.slice (some ⟨b3, 0, none⟩) s.stk.length c3) := by rw [cell_of_row _ p _ _ _ _ pf4]; rfl
      clear hr hb RF mr pf pf4
      go_wp2
      go_ret2
      exact ⟨rfl, R4.out⟩
end Go.Proofs.Ytniccjbcchdkoaa
/- FreeRef3 -/
namespace Go.Proofs.Ytniccjbcchdkoaa
open Go.RowKit

set_option maxHeartbeats 2000000 in
theorem refFree11_any (p b1 b2 b3 c1 c2 c3 : Nat) (s : FL.S) (w : World) (hA : FL.RAt w p b1 b2 b3 c1 c2 c3 s) :
    Calls Try.prog 104 #[FL.ptr p] w fun e w' => ∃ v, e = .returned v ∧ FL.MI s.stk w v w' := by
  have hl : s.stk.length ≤ 16384 := Nat.le_trans (FL.stk_len hA.inv) hA.inv.n2
  have hp := (Array.getElem?_eq_some_iff.1 hA.obj).1
  have HA := Lib.hid hA
  obtain ⟨_, _, _, d3, _⟩ := hA.cells
  have hR : Hid (FL.MI (s.stk.take 0) w (.slice none 0 0) w) := V.Made.nil _ w (Below.refl _ _)
  clear hA
  unfold FL.ptr
  go_enter Try.func104, Try.ntmps104
  go_wp2
  go_loopw [3, 4] (fun v j wr => ∃ (m : Nat) (iz : Int), m ≤ s.stk.length ∧ j = .int .i64 iz ∧ iz = (s.stk.length : Int) - 1 - m ∧ Hid (FL.MI (s.stk.take m) w v wr)) (fun _ j _ => (intOf j + 1).toNat)
  case atStart => exact ⟨0, _, Nat.zero_le _, rfl, by omega, hR.out⟩
  case round =>
    obtain ⟨m, iz, hm, rfl, hiz, hL⟩ := hrel
    by_cases hlt : m < s.stk.length
    · have hb := Lib.hid hL.out.below
      have hbs := hb.out.size
      obtain ⟨x, hx⟩ : ∃ x, s.stk.length - 1 - m = x := ⟨_, rfl⟩
      obtain rfl : iz = (x : Int) := by omega
      have x1 : x < s.stk.length := by omega
      obtain ⟨q, hq⟩ : ∃ q, s.stk[m]? = some q := ⟨_, List.getElem?_eq_getElem hlt⟩
      have hq2 : s.stk.reverse[x]? = some q := by rw [List.getElem?_reverse x1, ← hq]; congr 1; omega
      have cx := ((D.bcell hb.out).1 _ x HA.out.r3.lt).trans (HA.out.r3.cell (FL.ints_at hq2)).1
      have e3 := ((D.bcell hb.out).1 _ 3 hp).trans d3
      have hst : Hid (s.stk.take (m + 1) = s.stk.take m ++ [q]) := by show _ = _; rw [List.take_add_one, hq]; rfl
      obtain ⟨X, hX⟩ : ∃ X, Hid (s.stk.take m = X) := ⟨_, rfl⟩
      have hle : X.length ≤ 1000000000 := by rw [← hX.out, List.length_take]; omega
      rw [hX.out] at hst hL
      have hlen : ∃ L : Nat, s.stk.length = L := ⟨_, rfl⟩
      obtain ⟨z, hz⟩ : ∃ z : Int, Hid ((q : Int) = z) := ⟨_, rfl⟩
      rw [hz.out] at cx
      clear hq hq2
      obtain ⟨vo, vc, hv, _⟩ := hL.out.row
      subst hv
      obtain ⟨W0, rfl⟩ : ∃ W0 : World, W0 = wr := ⟨_, rfl⟩
      go_wp2_with (at_builtin; refine FL.append_int rfl _ _ rfl w.heap.size (.slice vo X.length vc) X ?hs hL.out.own q z hz.out 1 ?a0 hle hbs ?_)
      case hs => rfl
      case a0 => rfl
      intro Z v' w3 hZ hO hg
      have R : Hid (FL.MI (s.stk.take (m + 1)) w v' w3) := by
        show FL.MI _ _ _ _
        rw [hst.out, ← hZ.out]
        exact V.Made.on hL.out hO hg
      clear hO hg hL
      go_wp2
      go_roundw
      case rel => exact ⟨m + 1, _, by omega, rfl, by omega, R⟩
      case measure => simp [intOf]; omega
    · obtain rfl : m = s.stk.length := by omega
      obtain rfl : iz = -1 := by omega
      rw [List.take_length] at hL
      go_wp2
      go_ret
      exact ⟨_, rfl, hL.out⟩
set_option maxHeartbeats 2000000 in
theorem refHandles11_any (p b1 b2 b3 c1 c2 c3 : Nat) (s : FL.S) (w : World) (hA : FL.RAt w p b1 b2 b3 c1 c2 c3 s) :
    Calls Try.prog 106 #[FL.ptr p] w fun e w' => ∃ v, e = .returned v ∧ H.Made s.hands w v w' := by
  have hn := hA.inv.n2
  have hp := (Array.getElem?_eq_some_iff.1 hA.obj).1
  have HA := Lib.hid hA
  obtain ⟨_, d1, d2, _, _⟩ := hA.cells
  have hR : Hid (H.Made (s.hk 0) w (.slice none 0 0) w) := H.Made.nil w (Below.refl _ _)
  clear hA
  unfold FL.ptr
  go_enter Try.func106, Try.ntmps106
  go_wp2
  go_loopw [3, 4] (fun v j wr => ∃ k : Nat, k ≤ s.st.length ∧ j = .int .i64 k ∧ Hid (H.Made (s.hk k) w v wr)) (fun _ j _ => s.st.length - (intOf j).toNat)
  case atStart => exact ⟨0, Nat.zero_le _, rfl, hR.out⟩
  case round =>
    obtain ⟨k, hk, rfl, hL⟩ := hrel
    have hb := Lib.hid hL.out.below
    have hbs := hb.out.size
    have e1 := ((D.bcell hb.out).1 _ 1 hp).trans d1
    have e2 := ((D.bcell hb.out).1 _ 2 hp).trans d2
    by_cases hlt : k < s.st.length
    · have ct := ((D.bcell hb.out).1 _ k HA.out.r1.lt).trans (HA.out.r1.cell (FL.ints_at (FL.st_at hlt))).1
      have cg := ((D.bcell hb.out).1 _ k HA.out.r2.lt).trans (HA.out.r2.cell (FL.u_at (FL.now_at HA.out.inv hlt))).1
      have nw := HA.out.inv.now k hlt
      have g2 := HA.out.inv.g2
      by_cases ha : s.at_ k = 1
      · rw [ha] at ct
        have hst := Lib.hid (FL.hk_yes ha)
        have mE : H.mkE (k : Int) ((s.gn k : Nat) : Int) = 0 := (H.mkE_iff _ _).2 ⟨by omega, by omega, by omega, by omega⟩
        have HM : Hid (∀ W, Calls Try.prog 101 #[.int .i64 (k : Int), .int .u64 ((s.gn k : Nat) : Int)] W fun e w' => e = .returned (.tuple #[.int .u64 ((H.pack k (s.gn k) : Nat) : Int), .int .i64 0]) ∧ W = w') := fun W => by
          have := refMake10_any (k : Int) ((s.gn k : Nat) : Int) (by omega) (by omega) (by omega) (by omega) W
          rwa [H.mkV_nat mE, mE] at this
        obtain ⟨X, hX⟩ : ∃ X, Hid (s.hk k = X) := ⟨_, rfl⟩
        have hle : X.length ≤ 1000000000 := by have := FL.hk_len s k; rw [hX.out] at this; omega
        rw [hX.out] at hst hL
        clear mE ha nw g2
        generalize s.gn k = y at *
        obtain ⟨q, hq⟩ : ∃ q : Nat, H.pack k y = q := ⟨_, rfl⟩
        rw [hq] at hst HM
        obtain ⟨z, hz⟩ : ∃ z : Int, Hid ((q : Int) = z) := ⟨_, rfl⟩
        rw [hz.out] at HM
        obtain ⟨vo, vc, hv, _⟩ := hL.out.row
        subst hv
        obtain ⟨W0, rfl⟩ : ∃ W0 : World, W0 = wr := ⟨_, rfl⟩
        go_wp2_with fail
        refine (HM.out _).mono ?_
        rintro e w1 ⟨rfl, rfl⟩
        go_wp2_with (at_builtin; refine H.append_one rfl _ _ rfl w.heap.size (.slice vo X.length vc) X ?hs hL.out.own z q hz.out 1 ?a0 hle hbs ?_)
        case hs => rfl
        case a0 => rfl
        intro Z v' w3 hZ hO hg
        have R : Hid (H.Made (s.hk (k + 1)) w v' w3) := by
          show H.Made _ _ _ _
          rw [hst.out, ← hZ.out]
          exact V.Made.on hL.out hO hg
        clear hO hg hL
        go_wp2
        go_roundw
        case rel => exact ⟨k + 1, by omega, by go_num, R⟩
        case measure => simp [intOf]; omega
      · obtain ⟨vo, vc, hv, _⟩ := hL.out.row
        subst hv
        have R : Hid (H.Made (s.hk (k + 1)) w (.slice vo (s.hk k).length vc) wr) := by
          show H.Made _ _ _ _
          rw [FL.hk_no ha]; exact hL.out
        have q2 : (((s.at_ k : Nat) : Int) == 1) = false := by simp; omega
        clear cg ha
        generalize s.at_ k = y at *
        go_wp2
        go_roundw
        case rel => exact ⟨k + 1, by omega, by go_num, R⟩
        case measure => simp [intOf]; omega
    · obtain rfl : k = s.st.length := by omega
      go_wp2
      go_ret
      exact ⟨_, rfl, by rw [← FL.hk_all]; exact hL.out⟩
set_option maxHeartbeats 2000000 in
theorem refWithdrawn11_any (p b1 b2 b3 c1 c2 c3 : Nat) (s : FL.S) (w : World) (hA : FL.RAt w p b1 b2 b3 c1 c2 c3 s) :
    Calls Try.prog 105 #[FL.ptr p] w fun e w' => ∃ v, e = .returned v ∧ FL.MI (s.those 2) w v w' := by
  have hn := hA.inv.n2
  have hp := (Array.getElem?_eq_some_iff.1 hA.obj).1
  have HA := Lib.hid hA
  obtain ⟨_, d1, _, _, _⟩ := hA.cells
  have hR : Hid (FL.MI (s.wk 0) w (.slice none 0 0) w) := V.Made.nil _ w (Below.refl _ _)
  clear hA
  unfold FL.ptr
  go_enter Try.func105, Try.ntmps105
  go_wp2
  go_loopw [3, 4] (fun v j wr => ∃ k : Nat, k ≤ s.st.length ∧ j = .int .i64 k ∧ Hid (FL.MI (s.wk k) w v wr)) (fun _ j _ => s.st.length - (intOf j).toNat)
  case atStart => exact ⟨0, Nat.zero_le _, rfl, hR.out⟩
  case round =>
    obtain ⟨k, hk, rfl, hL⟩ := hrel
    have hb := Lib.hid hL.out.below
    have hbs := hb.out.size
    have e1 := ((D.bcell hb.out).1 _ 1 hp).trans d1
    by_cases hlt : k < s.st.length
    · have ct := ((D.bcell hb.out).1 _ k HA.out.r1.lt).trans (HA.out.r1.cell (FL.ints_at (FL.st_at hlt))).1
      by_cases ha : s.at_ k = 2
      · rw [ha] at ct
        have hst := Lib.hid (FL.wk_yes ha)
        obtain ⟨X, hX⟩ : ∃ X, Hid (s.wk k = X) := ⟨_, rfl⟩
        have hle : X.length ≤ 1000000000 := by have := FL.wk_len s k; rw [hX.out] at this; omega
        rw [hX.out] at hst hL
        clear ha
        obtain ⟨vo, vc, hv, _⟩ := hL.out.row
        subst hv
        obtain ⟨W0, rfl⟩ : ∃ W0 : World, W0 = wr := ⟨_, rfl⟩
        go_wp2_with (at_builtin; refine FL.append_int rfl _ _ rfl w.heap.size (.slice vo X.length vc) X ?hs hL.out.own k (k : Int) rfl 1 ?a0 hle hbs ?_)
        case hs => rfl
        case a0 => rfl
        intro Z v' w3 hZ hO hg
        have R : Hid (FL.MI (s.wk (k + 1)) w v' w3) := by
          show FL.MI _ _ _ _
          rw [hst.out, ← hZ.out]
          exact V.Made.on hL.out hO hg
        clear hO hg hL
        go_wp2
        go_roundw
        case rel => exact ⟨k + 1, by omega, by go_num, R⟩
        case measure => simp [intOf]; omega
      · obtain ⟨vo, vc, hv, _⟩ := hL.out.row
        subst hv
        have R : Hid (FL.MI (s.wk (k + 1)) w (.slice vo (s.wk k).length vc) wr) := by
          show FL.MI _ _ _ _
          rw [FL.wk_no ha]; exact hL.out
        have q2 : (((s.at_ k : Nat) : Int) == 2) = false := by simp; omega
        clear ha
        generalize s.at_ k = y at *
        go_wp2
        go_roundw
        case rel => exact ⟨k + 1, by omega, by go_num, R⟩
        case measure => simp [intOf]; omega
    · obtain rfl : k = s.st.length := by omega
      go_wp2
      go_ret
      exact ⟨_, rfl, by rw [← FL.wk_all]; exact hL.out⟩
end Go.Proofs.Ytniccjbcchdkoaa
/- FreeRef4 -/
namespace Go.Proofs.Ytniccjbcchdkoaa
open Go.RowKit

/-- An append of one value, with the place of the new row. -/
theorem FL.append_at {e se : TypeId} {i : TypeInfo} {z : Value} (hse : Try.prog.underlying se = some (.slice e)) (hi : Try.prog.info? e = some i) (hz : i.zero = some z) (hs1 : i.size = 1) (hby : i.bytes = 8) (hzc : z.cells.size = 1)
    {W : World} {ops : Array Oper} {rest : List Oper} {o : Oper} {a : Act} {Q : Exit → Act → World → Prop} (hgd : o.guard = none) (s x : Operand)
    (ho : o.op = .call { callee := .builtin .append, args := #[s, x], argTypes := #[se, se] })
    (base : Nat) (v : Value) (k : Nat) (X : List Value) (hs : a.eval s = v) (hown : W.ownsRow base e 1 v k X) (u : Value) (h1 : u.oneCell' = true) (cc : Nat) (hx : a.eval x = .slice (some ⟨W.heap.size, 0, none⟩) 1 cc) (hn : k ≤ 1000000000) (hbase : base ≤ W.heap.size)
    (h : ∀ v' w', w'.ownsRow base e 1 v' (k + 1) (X ++ [u]) → W.grownBy w' v.ownBlock → (v'.ownBlock = v.ownBlock ∨ v'.ownBlock = some (W.heap.size + 1)) → wpList Try.prog ops Q rest (a.put o.dst v') w') :
    wpList Try.prog ops Q (o :: rest) a (W.alloc (.cells #[u] e)) := by
  refine wpList_append_own_at _ hgd s x se ho base e i z 1 8 hse hi hz hs1 hby hzc (by decide) v k X hs (hown.alloc _) ⟨W.heap.size, 0, none⟩ 1 cc [u] hx rfl ?_ (fun y hy => by rw [List.mem_singleton.1 hy]; exact h1) (by unfold maxLen; omega) (by omega) (by simp only [World.size_alloc]; omega) ?_
  · exact D.news W [u] e
  · intro v' w' h1 h2 _ h4
    rw [World.size_alloc] at h4
    exact h v' w' h1 ⟨h2.os, h2.tape, h2.output, Nat.le_trans (by simp only [World.size_alloc]; omega) h2.size, fun k hk hne => (h2.block k (by simp only [World.size_alloc]; omega) hne).trans (Lib.alloc_old W _ k hk)⟩ h4
def FL.apart (v u : Value) : Prop := ∀ b, v.ownBlock = some b → u.ownBlock ≠ some b
/-- A list of the reference in the midst of New. -/
structure FL.RFill (w : World) (n g : Nat) (v1 v2 v3 : Value) (k1 k2 k3 : Nat) (W : World) : Prop where
  obj : W.heap[w.heap.size]? = some (.cells #[.int .u64 (g : Int), v1, v2, v3] 152 (0, 0))
  r1 : W.ownsRow (w.heap.size + 1) 3 1 v1 k1 (FL.ints (List.replicate k1 0))
  r2 : W.ownsRow (w.heap.size + 1) 23 1 v2 k2 (H.row (List.replicate k2 1))
  r3 : W.ownsRow (w.heap.size + 1) 3 1 v3 k3 (FL.ints ((List.range k3).map fun i => n - 1 - i))
  a12 : FL.apart v1 v2
  a13 : FL.apart v1 v3
  a23 : FL.apart v2 v3
  below : Below w.heap.size w W
theorem FL.apart.symm {v u : Value} (h : FL.apart v u) : FL.apart u v := fun b hb c => h b c hb
/-- A row outlives that another one grows and that a field of the object is written. -/
theorem FL.row_grown {W w' : World} {p base : Nat} {e : TypeId} {v u v' : Value} {k : Nat} {X : List Value} {o : Nat} (h : W.ownsRow base e 1 u k X) (hg : W.grownBy w' v.ownBlock) (ha : FL.apart v u) (hp : p < base) : (w'.setCell ⟨p, o, none⟩ v').ownsRow base e 1 u k X := by
  have h2 : w'.ownsRow base e 1 u k X := h.kept hg (by
    cases hu : u.ownBlock with
    | none => exact .inl rfl
    | some b => exact .inr (fun c => ha b c.symm hu))
  exact (FL.But.set (R := fun k => k = p) w' v' rfl).row h2 (fun b hb c => by have := (h2.lt b hb).1; omega)
theorem FL.row_field {w' : World} {p base : Nat} {e : TypeId} {u v' : Value} {k : Nat} {X : List Value} {o : Nat} (h2 : w'.ownsRow base e 1 u k X) (hp : p < base) : (w'.setCell ⟨p, o, none⟩ v').ownsRow base e 1 u k X :=
  (FL.But.set (R := fun k => k = p) w' v' rfl).row h2 (fun b hb c => by have := (h2.lt b hb).1; omega)
theorem FL.apart_new {W : World} {base : Nat} {e : TypeId} {v v' u : Value} {k : Nat} {X : List Value} (h : W.ownsRow base e 1 u k X) (ha : FL.apart v u) (hat : v'.ownBlock = v.ownBlock ∨ v'.ownBlock = some (W.heap.size + 1)) : FL.apart v' u := by
  intro b hb
  rcases hat with hat | hat
  · rw [hat] at hb; exact ha b hb
  · rw [hat] at hb
    cases hb
    intro c
    have := (h.lt _ c).2
    omega
theorem FL.RFill.step1 {w W w' : World} {n g : Nat} {v1 v2 v3 v' : Value} {k1 k2 k3 : Nat} (f : FL.RFill w n g v1 v2 v3 k1 k2 k3 W) (h1 : w'.ownsRow (w.heap.size + 1) 3 1 v' (k1 + 1) (FL.ints (List.replicate k1 0) ++ [.int .i64 0])) (h2 : W.grownBy w' v1.ownBlock) (h3 : v'.ownBlock = v1.ownBlock ∨ v'.ownBlock = some (W.heap.size + 1)) :
    FL.RFill w n g v' v2 v3 (k1 + 1) k2 k3 (w'.setCell ⟨w.heap.size, 1, none⟩ v') ∧ w'.heap[w.heap.size]? = some (.cells #[.int .u64 (g : Int), v1, v2, v3] 152 (0, 0)) := by
  have ho : w'.heap[w.heap.size]? = _ := (h2.block _ (Array.getElem?_eq_some_iff.1 f.obj).1 (fun c => by have := (f.r1.lt _ c.symm).1; omega)).trans f.obj
  refine ⟨⟨FL.set_obj ho 1 v', ?_, FL.row_grown f.r2 h2 f.a12 (by omega), FL.row_grown f.r3 h2 f.a13 (by omega), FL.apart_new f.r2 f.a12 h3, FL.apart_new f.r3 f.a13 h3, f.a23, ?_⟩, ho⟩
  · refine FL.row_field ?_ (by omega)
    have : FL.ints (List.replicate (k1 + 1) 0) = FL.ints (List.replicate k1 0) ++ [.int .i64 0] := by rw [List.replicate_succ']; unfold FL.ints; rw [List.map_append]; rfl
    rw [this]; exact h1
  · exact (f.below.grown h2 f.below.size (fun k e => by have := (f.r1.lt k e).1; omega)).setCell (p := ⟨w.heap.size, 1, none⟩) (Nat.le_refl _) _
theorem FL.RFill.step2 {w W w' : World} {n g : Nat} {v1 v2 v3 v' : Value} {k1 k2 k3 : Nat} (f : FL.RFill w n g v1 v2 v3 k1 k2 k3 W) (h1 : w'.ownsRow (w.heap.size + 1) 23 1 v' (k2 + 1) (H.row (List.replicate k2 1) ++ [.int .u64 1])) (h2 : W.grownBy w' v2.ownBlock) (h3 : v'.ownBlock = v2.ownBlock ∨ v'.ownBlock = some (W.heap.size + 1)) :
    FL.RFill w n g v1 v' v3 k1 (k2 + 1) k3 (w'.setCell ⟨w.heap.size, 2, none⟩ v') ∧ w'.heap[w.heap.size]? = some (.cells #[.int .u64 (g : Int), v1, v2, v3] 152 (0, 0)) := by
  have ho : w'.heap[w.heap.size]? = _ := (h2.block _ (Array.getElem?_eq_some_iff.1 f.obj).1 (fun c => by have := (f.r2.lt _ c.symm).1; omega)).trans f.obj
  refine ⟨⟨FL.set_obj ho 2 v', FL.row_grown f.r1 h2 f.a12.symm (by omega), ?_, FL.row_grown f.r3 h2 f.a23 (by omega), (FL.apart_new f.r1 f.a12.symm h3).symm, f.a13, FL.apart_new f.r3 f.a23 h3, ?_⟩, ho⟩
  · refine FL.row_field ?_ (by omega)
    have : H.row (List.replicate (k2 + 1) 1) = H.row (List.replicate k2 1) ++ [.int .u64 1] := by rw [List.replicate_succ']; unfold H.row; rw [List.map_append]; rfl
    rw [this]; exact h1
  · exact (f.below.grown h2 f.below.size (fun k e => by have := (f.r2.lt k e).1; omega)).setCell (p := ⟨w.heap.size, 2, none⟩) (Nat.le_refl _) _
theorem FL.RFill.step3 {w W w' : World} {n g : Nat} {v1 v2 v3 v' : Value} {k1 k2 k3 : Nat} (f : FL.RFill w n g v1 v2 v3 k1 k2 k3 W) {x : Nat} (hx : n - 1 - k3 = x) (h1 : w'.ownsRow (w.heap.size + 1) 3 1 v' (k3 + 1) (FL.ints ((List.range k3).map fun i => n - 1 - i) ++ [.int .i64 (x : Int)])) (h2 : W.grownBy w' v3.ownBlock) (h3 : v'.ownBlock = v3.ownBlock ∨ v'.ownBlock = some (W.heap.size + 1)) :
    FL.RFill w n g v1 v2 v' k1 k2 (k3 + 1) (w'.setCell ⟨w.heap.size, 3, none⟩ v') ∧ w'.heap[w.heap.size]? = some (.cells #[.int .u64 (g : Int), v1, v2, v3] 152 (0, 0)) := by
  subst hx
  have ho : w'.heap[w.heap.size]? = _ := (h2.block _ (Array.getElem?_eq_some_iff.1 f.obj).1 (fun c => by have := (f.r3.lt _ c.symm).1; omega)).trans f.obj
  refine ⟨⟨FL.set_obj ho 3 v', FL.row_grown f.r1 h2 f.a13.symm (by omega), FL.row_grown f.r2 h2 f.a23.symm (by omega), ?_, f.a12, (FL.apart_new f.r1 f.a13.symm h3).symm, (FL.apart_new f.r2 f.a23.symm h3).symm, ?_⟩, ho⟩
  · refine FL.row_field ?_ (by omega)
    have : FL.ints ((List.range (k3 + 1)).map fun i => n - 1 - i) = FL.ints ((List.range k3).map fun i => n - 1 - i) ++ [.int .i64 ((n - 1 - k3 : Nat) : Int)] := by rw [List.range_succ, List.map_append]; unfold FL.ints; rw [List.map_append]; rfl
    rw [this]; exact h1
  · exact (f.below.grown h2 f.below.size (fun k e => by have := (f.r3.lt k e).1; omega)).setCell (p := ⟨w.heap.size, 3, none⟩) (Nat.le_refl _) _
theorem FL.rw_of {W : World} {base n : Nat} {e : TypeId} {v : Value} {X : List Value} (h : W.ownsRow base e 1 v n X) (hn : 1 ≤ n) : ∃ g c, v = .slice (some ⟨g, 0, none⟩) n c ∧ FL.Rw W g n c e X ∧ base ≤ g ∧ n ≤ c := by
  obtain ⟨hl, ⟨_, h0⟩ | ⟨g, cap, cur, rfl, hb, hg, hnc, hcm, hcs, ht⟩⟩ := h
  · omega
  · exact ⟨g, cap, rfl, ⟨hl, .inr ⟨g, cap, cur, rfl, Nat.le_refl _, hg, hnc, hcm, hcs, ht⟩⟩, hb, hnc⟩
theorem FL.RFill.done {w W : World} {n g : Nat} {v1 v2 v3 : Value} (f : FL.RFill w n g v1 v2 v3 n n n W) (h1 : 1 ≤ n) (h2 : n ≤ 16384) (h3 : 1 ≤ g) (h4 : g ≤ 4294967295) : ∃ R, FL.ROwn W w.heap.size (FL.new n g) R ∧ Below w.heap.size w W ∧ ∀ k, R k → w.heap.size ≤ k := by
  obtain ⟨obj, r1, r2, r3, a12, a13, a23, bel⟩ := f
  obtain ⟨b1, c1, rfl, s1, t1, _⟩ := FL.rw_of r1 h1
  obtain ⟨b2, c2, rfl, s2, t2, _⟩ := FL.rw_of r2 h1
  obtain ⟨b3, c3, rfl, s3, t3, u3⟩ := FL.rw_of r3 h1
  have l : (FL.new n g).st.length = n := List.length_replicate
  have ls : (FL.new n g).stk.length = n := List.length_range
  have n4 : b1 ≠ b2 := fun c => a12 b1 rfl (by rw [c]; rfl)
  have n5 : b1 ≠ b3 := fun c => a13 b1 rfl (by rw [c]; rfl)
  have n6 : b2 ≠ b3 := fun c => a23 b2 rfl (by rw [c]; rfl)
  refine ⟨FL.foot w.heap.size b1 b2 b3, ⟨b1, b2, b3, c1, c2, c3, ⟨FL.inv_new h1 h2 h3 h4, FL.wd_new n g, ?_, ?_, ?_, ?_, by rw [l]; exact u3, ⟨by omega, by omega, by omega⟩, n4, n5, n6⟩, rfl⟩, bel, ?_⟩
  · rw [l, ls]; exact obj
  · rw [l]; exact s1
  · rw [l]; exact s2
  · rw [ls]
    have e : (List.range n).map (fun i => n - 1 - i) = (FL.new n g).stk.reverse := by
      show _ = (List.range n).reverse
      apply List.ext_getElem?
      intro i
      by_cases hi : i < n
      · rw [FL.range_at _ hi, List.getElem?_reverse (by simpa using hi), List.length_range, List.getElem?_range (by omega)]
      · rw [List.getElem?_eq_none (by simp; omega), List.getElem?_eq_none (by simp; omega)]
    rw [← e]; exact s3
  · rintro k (rfl | rfl | rfl | rfl) <;> omega
set_option maxHeartbeats 4000000 in
theorem refNew11_ok (n g : Nat) (h1 : 1 ≤ n) (h2 : n ≤ 16384) (h3 : 1 ≤ g) (h4 : g ≤ 4294967295) (w : World) :
    Calls Try.prog 77 #[.int .i64 (n : Int), .int .u64 (g : Int)] w fun e w' => ∃ p R, e = .returned (.tuple #[FL.ptr p, .int .i64 0]) ∧ FL.ROwn w' p (FL.new n g) R ∧ Below w.heap.size w w' ∧ ∀ k, R k → w.heap.size ≤ k := by
  have q1 : decide ((n : Int) < 1) = false := by simp; omega
  have q2 : decide (16384 < (n : Int)) = false := by simp; omega
  have q3 : decide ((g : Int) < 1) = false := by simp; omega
  have q4 : decide (4294967295 < (g : Int)) = false := by simp; omega
  have F0 : Hid (FL.RFill w n g (.slice none 0 0) (.slice none 0 0) (.slice none 0 0) 0 0 0 (w.alloc (.cells #[.int .u64 (g : Int), .slice none 0 0, .slice none 0 0, .slice none 0 0] 152))) :=
    ⟨heap_alloc_new w _, World.ownsRow_nil _ _ _ _, World.ownsRow_nil _ _ _ _, World.ownsRow_nil _ _ _ _, fun _ h => (by cases h), fun _ h => (by cases h), fun _ h => (by cases h), (Below.refl _ _).alloc (Nat.le_refl _) _⟩
  have FD : Hid (∀ v1 v2 v3 W, FL.RFill w n g v1 v2 v3 n n n W → ∃ R, FL.ROwn W w.heap.size (FL.new n g) R ∧ Below w.heap.size w W ∧ ∀ k, R k → w.heap.size ≤ k) := fun v1 v2 v3 W f => f.done h1 h2 h3 h4
  have hgp : ∃ gi : Int, (g : Int) = gi := ⟨_, rfl⟩
  have HO : Hid (∀ v1 v2 v3 k1 k2 k3 W, FL.RFill w n g v1 v2 v3 k1 k2 k3 W → W.cell? ⟨w.heap.size, 1, none⟩ = some v1 ∧ W.cell? ⟨w.heap.size, 2, none⟩ = some v2 ∧ W.cell? ⟨w.heap.size, 3, none⟩ = some v3) := fun v1 v2 v3 k1 k2 k3 W f => ⟨by rw [cell_of_row _ _ _ _ _ _ f.obj]; rfl, by rw [cell_of_row _ _ _ _ _ _ f.obj]; rfl, by rw [cell_of_row _ _ _ _ _ _ f.obj]; rfl⟩
  have HZ : Hid (∀ v1 v2 v3 k1 k2 k3 W, FL.RFill w n g v1 v2 v3 k1 k2 k3 W → w.heap.size + 1 ≤ W.heap.size) := fun v1 v2 v3 k1 k2 k3 W f => (Array.getElem?_eq_some_iff.1 f.obj).1
  obtain ⟨ip, hp, hp0, hp1, hp2⟩ := info_parts Try.infoInt11
  obtain ⟨iu, hu, hu0, hu1, hu2⟩ := info_parts FL.infoU64
  go_enter Try.func77, Try.ntmps77
  go_upto_region 6 with (fail)
  generalize w.alloc (.cells #[.int .u64 (g : Int), .slice none 0 0, .slice none 0 0, .slice none 0 0] 152) = W1 at F0 ⊢
  clear h1 h3 h4
  go_wp2
  go_loopw [7] (fun j wr => ∃ k : Nat, k ≤ n ∧ j = .int .i64 k ∧ Hid (∃ v1 v2 v3, FL.RFill w n g v1 v2 v3 k k k wr)) (fun j _ => n - (intOf j).toNat)
  case atStart => exact ⟨0, Nat.zero_le _, rfl, ⟨_, _, _, F0.out⟩⟩
  case round =>
    obtain ⟨k, hk, rfl, hL⟩ := hrel
    clear F0
    by_cases hlt : k < n
    · obtain ⟨v1, v2, v3, f⟩ := hL.out
      obtain ⟨x, hx⟩ : ∃ x, n - 1 - k = x := ⟨_, rfl⟩
      have ex : (n : Int) - 1 - (k : Int) = (x : Int) := by omega
      have hk9 : k ≤ 1000000000 := by omega
      obtain ⟨a1, c1, rfl⟩ := D.slice_of_own f.r1
      obtain ⟨a2, c2, rfl⟩ := D.slice_of_own f.r2
      obtain ⟨a3, c3, rfl⟩ := D.slice_of_own f.r3
      have F1 := Lib.hid f
      have hs1 := HZ.out _ _ _ _ _ _ _ f
      obtain ⟨d1, _, _⟩ := HO.out _ _ _ _ _ _ _ f
      obtain ⟨W0, rfl⟩ : ∃ W0 : World, W0 = wr := ⟨_, rfl⟩
      clear f hL
      go_wp2_with (at_builtin; refine FL.append_at Try.underlying33 hp hp0 hp1 hp2 rfl rfl _ _ rfl (w.heap.size + 1) (.slice a1 k c1) k _ ?hs F1.out.r1 (.int .i64 0) rfl 1 ?a0 hk9 hs1 ?_)
      case hs => rfl
      case a0 => rfl
      intro v' w2 hO hg hat
      obtain ⟨f, o⟩ := F1.out.step1 hO hg hat
      obtain ⟨b1, e1, rfl⟩ := D.slice_of_own f.r1
      have F2 := Lib.hid f
      have z2 : w2.frozen? ⟨w.heap.size, 1, none⟩ = false := frozen_of_row _ _ _ _ _ o
      have y2 : w2.cell? ⟨w.heap.size, 1, none⟩ = some (.slice a1 k c1) := by rw [cell_of_row _ _ _ _ _ _ o]; rfl
      clear hO hg hat o f F1 d1 hs1
      go_upto_region 10 with (fail)
      generalize w2.setCell ⟨w.heap.size, 1, none⟩ (.slice b1 (k + 1) e1) = W2 at F2 ⊢
      clear z2 y2
      have hs2 := HZ.out _ _ _ _ _ _ _ F2.out
      obtain ⟨_, d2, _⟩ := HO.out _ _ _ _ _ _ _ F2.out
      go_wp2_with (at_builtin; refine FL.append_at Try.underlying122 hu hu0 hu1 hu2 rfl rfl _ _ rfl (w.heap.size + 1) (.slice a2 k c2) k _ ?hs2 F2.out.r2 (.int .u64 1) rfl 1 ?a02 hk9 hs2 ?_)
      case hs2 => rfl
      case a02 => rfl
      intro v' w3 hO hg hat
      obtain ⟨f, o⟩ := F2.out.step2 hO hg hat
      obtain ⟨b2, e2, rfl⟩ := D.slice_of_own f.r2
      have F3 := Lib.hid f
      have z2 : w3.frozen? ⟨w.heap.size, 2, none⟩ = false := frozen_of_row _ _ _ _ _ o
      have y2 : w3.cell? ⟨w.heap.size, 2, none⟩ = some (.slice a2 k c2) := by rw [cell_of_row _ _ _ _ _ _ o]; rfl
      clear hO hg hat o f F2 d2 hs2
      go_upto_region 11 with (fail)
      generalize w3.setCell ⟨w.heap.size, 2, none⟩ (.slice b2 (k + 1) e2) = W3 at F3 ⊢
      clear z2 y2
      have hs3 := HZ.out _ _ _ _ _ _ _ F3.out
      obtain ⟨_, _, d3⟩ := HO.out _ _ _ _ _ _ _ F3.out
      go_wp2_with (at_builtin; refine FL.append_at Try.underlying33 hp hp0 hp1 hp2 rfl rfl _ _ rfl (w.heap.size + 1) (.slice a3 k c3) k _ ?hs3 F3.out.r3 (.int .i64 (x : Int)) rfl 1 ?a03 hk9 hs3 ?_)
      case hs3 => rfl
      case a03 => rfl
      intro v' w4 hO hg hat
      obtain ⟨f, o⟩ := F3.out.step3 hx hO hg hat
      obtain ⟨b3, e3, rfl⟩ := D.slice_of_own f.r3
      have F4 := Lib.hid f
      have z2 : w4.frozen? ⟨w.heap.size, 3, none⟩ = false := frozen_of_row _ _ _ _ _ o
      have y2 : w4.cell? ⟨w.heap.size, 3, none⟩ = some (.slice a3 k c3) := by rw [cell_of_row _ _ _ _ _ _ o]; rfl
      clear hO hg hat o f F3 d3 hs3
      go_wp2
      go_roundw
      case rel => exact ⟨k + 1, by omega, by go_num, ⟨_, _, _, F4.out⟩⟩
      case measure => simp [intOf]; omega
    · obtain rfl : k = n := by omega
      obtain ⟨v1, v2, v3, f⟩ := hL.out
      obtain ⟨R, hR⟩ := FD.out _ _ _ _ f
      have hR := Lib.hid hR
      clear f hL
      go_wp2
      go_ret2
      exact ⟨_, R, rfl, hR.out⟩
set_option maxHeartbeats 1000000 in
theorem refNew11_bad (n g : Int) (h : n < 1 ∨ 16384 < n ∨ g < 1 ∨ 4294967295 < g) (w : World) :
    Calls Try.prog 77 #[.int .i64 n, .int .u64 g] w fun e w' => e = .returned (.tuple #[.pointer none, .int .i64 3]) ∧ w = w' := by
  by_cases h1 : n < 1
  · clear h
    go_enter Try.func77, Try.ntmps77
    go_wp2
    go_ret2
    exact ⟨rfl, rfl⟩
  · by_cases h2 : 16384 < n
    · clear h
      go_enter Try.func77, Try.ntmps77
      go_wp2
      go_ret2
      exact ⟨rfl, rfl⟩
    · by_cases h3 : g < 1
      · clear h
        go_enter Try.func77, Try.ntmps77
        go_wp2
        go_ret2
        exact ⟨rfl, rfl⟩
      · have h4 : 4294967295 < g := by omega
        clear h
        go_enter Try.func77, Try.ntmps77
        go_wp2
        go_ret2
        exact ⟨rfl, rfl⟩
end Go.Proofs.Ytniccjbcchdkoaa
