/- Texts joined: FreePkg1 FreePkg2 FreePkg3 FreePkg4 FreePkg5 -/
import Derived.Test.YtniccjbcchdkoaaFreeMem
import Derived.Test.YtniccjbcchdkoaaPackHand
import Derived.BigQuiet
import Derived.Test.YtniccjbcchdkoaaHandLibR
import Derived.Laws.CopyOwn
import Derived.BigRegion
import Derived.RegionTactic
import Derived.ChangeAlike
import Derived.Deep.DeepCutAuto
import Derived.Deep.CutBlock
import Derived.IntWalk
/- FreePkg1 -/
namespace Go.Proofs.Ytniccjbcchdkoaa
open Go.RowKit

def FL.ptr (p : Nat) : Value := .pointer (some ⟨p, 0, none⟩)
theorem FL.ok_lt {s : FL.S} (v : FL.Inv s) {i : Nat} (h : i < s.st.length) : s.gn i ≤ 4294967295 := by have := v.now i h; have := v.g2; omega
set_option maxHeartbeats 1000000 in
theorem wdn11_any (p b2 n c2 i : Nat) (g lim : Int) (w : World) (d0 : w.cell? ⟨p, 0, none⟩ = some (.int .u64 lim)) (d2 : w.cell? ⟨p, 2, none⟩ = some (.slice (some ⟨b2, 0, none⟩) n c2)) (hi : i < n) (hc : w.cell? ⟨b2, i, none⟩ = some (.int .u64 g)) :
    Calls Try.prog 73 #[FL.ptr p, .int .i64 (i : Int)] w fun e w' => e = .returned (.bool (decide (lim < g))) ∧ Below w.heap.size w w' := by
  unfold FL.ptr
  go_enter Try.func73, Try.ntmps73
  go_wp2_with fail
  go_quiet (fail)
  go_wp2
  go_ret
  exact ⟨rfl, H.drewN (Below.refl _ _) _⟩
set_option maxHeartbeats 1000000 in
theorem live11_any (p b1 b2 b3 c1 c2 c3 : Nat) (s : FL.S) (h : Nat) (h1 : h ≤ 18446744073709551615) (w : World) (hA : FL.At w p b1 b2 b3 c1 c2 c3 s) :
    Calls Try.prog 74 #[FL.ptr p, .int .u64 (h : Int)] w fun e w' => e = .returned (.bool (s.live h)) ∧ w = w' := by
  unfold FL.ptr
  have HS := Lib.hid (slot10_any h h1 w)
  have HG := Lib.hid (gen10_any h h1 w)
  obtain ⟨d0, d1, d2, d3, _⟩ := hA.cells
  by_cases k : H.Ok h
  · obtain ⟨e1, e2, e3⟩ := H.ck_ok k
    rw [e1, e2] at HS
    rw [e1, e3] at HG
    clear e1 e2 e3
    by_cases hs : H.slot h < s.st.length
    · have ct := (hA.r3.cell (FL.b_at (FL.tl_at hs))).1
      have cg := (hA.r2.cell (FL.u_at (FL.gl_at hs))).1
      have q1 : decide ((s.st.length : Int) ≤ (H.slot h : Nat)) = false := by simp <;> omega
      by_cases ha : s.at_ (H.slot h) = 1
      · have E : Hid (s.live h = ((H.gen h : Int) == ((s.gn (H.slot h) : Nat) : Int))) := by
          show _ = _
          unfold FL.S.live
          have e : ((H.gen h : Int) == ((s.gn (H.slot h) : Nat) : Int)) = decide (H.gen h = s.gn (H.slot h)) := by
            rw [Bool.eq_iff_iff]; simp; omega
          rw [e]; simp [k, hs, ha]
        rw [decide_eq_true ha] at ct
        rw [if_neg (by omega)] at cg
        clear k ha hA
        generalize H.gen h = g at *
        generalize H.slot h = x at *
        generalize s.gn x = y at *
        rw [E.out]
        go_enter Try.func74, Try.ntmps74
        go_wp2_with (first | (go_at_call 75; refine HS.out.mono ?_; rintro e w1 ⟨rfl, rfl⟩) | (go_at_call 95; refine HG.out.mono ?_; rintro e w1 ⟨rfl, rfl⟩))
        go_ret
        exact ⟨rfl, rfl⟩
      · have E : Hid (s.live h = false) := by show _ = _; unfold FL.S.live; simp [ha]
        rw [decide_eq_false ha] at ct
        clear k ha hA cg
        generalize H.slot h = x at *
        rw [E.out]
        go_enter Try.func74, Try.ntmps74
        go_wp2_with (first | (go_at_call 75; refine HS.out.mono ?_; rintro e w1 ⟨rfl, rfl⟩))
        go_ret
        exact ⟨rfl, rfl⟩
    · have E : Hid (s.live h = false) := by show _ = _; unfold FL.S.live; simp [hs]
      have q1 : decide ((s.st.length : Int) ≤ (H.slot h : Nat)) = true := by simp <;> omega
      clear k hA
      generalize H.slot h = x at *
      rw [E.out]
      go_enter Try.func74, Try.ntmps74
      go_wp2_with (first | (go_at_call 75; refine HS.out.mono ?_; rintro e w1 ⟨rfl, rfl⟩))
      go_ret
      exact ⟨rfl, rfl⟩
  · obtain ⟨e1, e2, _⟩ := H.ck_bad k
    rw [e1, e2] at HS
    have E : Hid (s.live h = false) := by show _ = _; unfold FL.S.live; simp [k]
    rw [E.out]
    clear e1 e2 k hA
    go_enter Try.func74, Try.ntmps74
    go_wp2_with (first | (go_at_call 75; refine HS.out.mono ?_; rintro e w1 ⟨rfl, rfl⟩))
    go_ret
    exact ⟨rfl, rfl⟩
end Go.Proofs.Ytniccjbcchdkoaa
/- FreePkg2 -/
namespace Go.Proofs.Ytniccjbcchdkoaa
open Go.RowKit

theorem FL.set_obj {W : World} {p : Nat} {cur : Array Value} {e : TypeId} (h : W.heap[p]? = some (.cells cur e (0, 0))) (i : Nat) (v : Value) : (W.setCell ⟨p, i, none⟩ v).heap[p]? = some (.cells (cur.setIfInBounds i v) e (0, 0)) := heap_setCell_same W p i cur e v h
/-- What Take leaves. -/
theorem FL.At.take {W : World} {p b1 b2 b3 c1 c2 c3 : Nat} {s : FL.S} (h : FL.At W p b1 b2 b3 c1 c2 c3 s) {x : Nat} {r : List Nat} (e : s.stk = x :: r) :
    FL.At ((W.setCell ⟨p, 1, none⟩ (.slice (some ⟨b1, 0, none⟩) r.length c1)).setCell ⟨b3, x, none⟩ (.bool true)) p b1 b2 b3 c1 c2 c3 s.tk ∧
    FL.But (FL.foot p b1 b2 b3) W ((W.setCell ⟨p, 1, none⟩ (.slice (some ⟨b1, 0, none⟩) r.length c1)).setCell ⟨b3, x, none⟩ (.bool true)) := by
  have t := FL.tk_cons h.inv e
  obtain ⟨⟨n1, n2, n3⟩, n4, n5, n6⟩ := h.ne
  refine ⟨⟨FL.inv_tk h.inv, FL.wd_tk h.inv h.wd, ?_, ?_, ?_, ?_, by rw [t.len]; exact h.room, h.ne⟩, (FL.But.set W _ (.inl rfl)).trans (FL.But.set _ _ (.inr (.inr (.inr rfl))))⟩
  · rw [FL.heap_off _ _ n3, FL.set_obj h.obj 1, t.gens, t.rest, t.len]; rfl
  · have a := h.r1.cut (m := r.length) (by rw [e]; simp)
    rw [t.rest]
    have eq : (FL.ints s.stk.reverse).take r.length = FL.ints r.reverse := by unfold FL.ints; rw [← List.map_take, e, List.reverse_cons, List.take_left' (by simp)]
    rw [eq] at a
    exact (a.off _ n1.symm).off _ n5
  · rw [t.len, FL.gl_tk h.inv e]
    exact (h.r2.off _ n2.symm).off _ n6
  · rw [t.len, ← FL.tl_tk h.inv e, ← FL.b_set]
    exact (h.r3.off _ n3.symm).set _ _
set_option maxHeartbeats 1000000 in
theorem take11_any (p : Nat) (s : FL.S) (R : Nat → Prop) (w : World) (hO : FL.Own w p s R) :
    Calls Try.prog 41 #[FL.ptr p] w fun e w' => e = .returned (.tuple #[.int .u64 (s.tkH : Nat), .int .i64 s.tkE]) ∧ FL.Own w' p s.tk R ∧ FL.But R w w' := by
  obtain ⟨b1, b2, b3, c1, c2, c3, hA, rfl⟩ := hO
  obtain ⟨d0, d1, d2, d3, fz⟩ := hA.cells
  unfold FL.ptr
  cases e : s.stk with
  | nil =>
    obtain ⟨k1, k2, k3⟩ := FL.tk_nil e
    rw [k1, k2, k3]
    have E : Hid (FL.Own w p s (FL.foot p b1 b2 b3) ∧ FL.But (FL.foot p b1 b2 b3) w w) := ⟨⟨b1, b2, b3, c1, c2, c3, hA, rfl⟩, FL.But.refl _ _⟩
    rw [e] at d1
    clear hA k1 k2 k3 e
    go_enter Try.func41, Try.ntmps41
    go_wp2
    go_ret2
    exact ⟨rfl, E.out⟩
  | cons x r =>
    have t := FL.tk_cons hA.inv e
    have E : Hid (FL.Own ((w.setCell ⟨p, 1, none⟩ (.slice (some ⟨b1, 0, none⟩) r.length c1)).setCell ⟨b3, x, none⟩ (.bool true)) p s.tk (FL.foot p b1 b2 b3) ∧ FL.But (FL.foot p b1 b2 b3) w ((w.setCell ⟨p, 1, none⟩ (.slice (some ⟨b1, 0, none⟩) r.length c1)).setCell ⟨b3, x, none⟩ (.bool true))) :=
      ⟨⟨b1, b2, b3, c1, c2, c3, (hA.take e).1, rfl⟩, (hA.take e).2⟩
    have HT := (hA.take e).1
    have hn := FL.ok_lt hA.inv t.lt
    have h1n := (hA.inv.now x t.lt).1
    have hx := t.lt
    have hl := hA.inv.n2
    have HM := fun W => make10_any (x : Nat) (s.gn x : Nat) (by omega) (by omega) (by omega) (by omega) W
    rw [H.mkV_nat ((H.mkE_iff _ _).2 ⟨by omega, by omega, by omega, by omega⟩), (H.mkE_iff _ _).2 ⟨by omega, by omega, by omega, by omega⟩, ← t.hand] at HM
    have HM := Lib.hid HM
    rw [t.err]
    have cx := (hA.r1.cell (FL.ints_at (l := s.stk.reverse) (i := r.length) (x := x) (by rw [e, List.reverse_cons, List.getElem?_append_right (by simp)]; simp))).1
    rw [e, List.length_cons] at d1
    have cg := (HT.r2.cell (FL.u_at (FL.gl_at (s := s.tk) (i := x) (by rw [t.len]; exact hx)))).1
    rw [t.at_, if_pos rfl, if_neg (by decide), t.gn] at cg
    obtain ⟨_, _, f2, _, _⟩ := HT.cells
    rw [t.len] at f2
    have hc : r.length ≤ c1 := by obtain ⟨_, _, h, _⟩ := hA.r1.block; rw [e] at h; simp at h; omega
    obtain ⟨cb, fb⟩ := (hA.r3.cell (FL.b_at (FL.tl_at hx)))
    obtain ⟨⟨_, _, n3⟩, _⟩ := hA.ne
    have rl : (r.length : Int) + 1 - 1 = (r.length : Int) := by omega
    have rb : r.length ≤ 16384 := by have := FL.stk_len hA.inv; rw [e] at this; simp at this; omega
    clear HT hA t e
    generalize s.gn x = y at *
    go_enter Try.func41, Try.ntmps41
    go_wp2_with fail
    refine (HM.out _).mono ?_
    rintro e w1 ⟨rfl, rfl⟩
    go_wp2
    go_ret2
    exact ⟨rfl, E.out⟩
/-- An append of one value to a row in which there is room. -/
theorem FL.append_fit {P : Program} {e se : TypeId} {i : TypeInfo} (hse : P.underlying se = some (.slice e)) (hi : P.info? e = some i) (hs1 : i.size = 1)
    {W : World} {ops : Array Oper} {rest : List Oper} {o : Oper} {a : Act} {Q : Exit → Act → World → Prop} (hgd : o.guard = none) (s x : Operand)
    (ho : o.op = .call { callee := .builtin .append, args := #[s, x], argTypes := #[se, se] })
    (g n c : Nat) (X : List Value) (hs : a.eval s = .slice (some ⟨g, 0, none⟩) n c) (hown : FL.Rw W g n c e X) (u : Value) (h1 : u.oneCell' = true) (cc : Nat) (hx : a.eval x = .slice (some ⟨W.heap.size, 0, none⟩) 1 cc) (hroom : n < c)
    (h : ∀ w', FL.Rw w' g (n + 1) c e (X ++ [u]) → FL.But (fun k => k = g) W w' → wpList P ops Q rest (a.put o.dst (.slice (some ⟨g, 0, none⟩) (n + 1) c)) w') :
    wpList P ops Q (o :: rest) a (W.alloc (.cells #[u] e)) := by
  obtain ⟨cur, hg, h2, h3, h4, h5, h6⟩ := hown.block
  have hlt := (Array.getElem?_eq_some_iff.1 hg).1
  have hg' : (W.alloc (.cells #[u] e)).heap[g]? = some (.cells cur e (0, 0)) := (Lib.alloc_old W _ g hlt).trans hg
  have hr := run_append_room (P := P) (W.alloc (.cells #[u] e)) se o.type e i hse hi g n c cur hg' ⟨W.heap.size, 0, none⟩ 1 cc [u] (by rw [hs1]; rfl) (D.news W [u] e) (fun y hy => by rw [List.mem_singleton.1 hy]; exact h1) (by omega) (by rw [hs1]; simp; omega)
  rw [hs1] at hr
  refine wpList_plain hgd fun K hK => ?_
  unfold Oper.wp execOp
  simp only [ho, resolve, invoke, builtin, Sem.run_bind, Sem.run_pure, Result.andThen_ok, List.map_toArray, List.map_cons, List.map_nil, hs, hx, hr]
  refine hK _ _ (h _ (FL.Rw.mk (setRow_heap _ g cur _ e _ hg') (by omega) h3 ?_ ?_ ?_) ⟨rfl, rfl, rfl, ?_, fun k hk hne => ?_⟩)
  · simp; omega
  · rw [Nat.mul_one, h5, List.take_append_of_le_length (by simp; omega), List.take_of_length_le (by simp; omega)]
  · simp; omega
  · simp [World.setRow]
  · exact (setRow_other _ g k _ (fun e => hne e)).trans (Lib.alloc_old W _ k hk)
theorem Try.infoInt11 : (Try.prog.info? 3).map (fun i => (i.zero, i.size, i.bytes)) = some (some (.int .i64 0), 1, 8) := by kernel_rfl
/-- A list in the midst of Give: its slot is no longer taken, its generation is the next one. -/
structure FL.Mid (W : World) (p b1 b2 b3 : Nat) (c1 c2 c3 : Nat) (s : FL.S) (h : Nat) : Prop where
  obj : W.heap[p]? = some (.cells #[.int .u64 (s.gens : Int), .slice (some ⟨b1, 0, none⟩) s.stk.length c1, .slice (some ⟨b2, 0, none⟩) s.st.length c2, .slice (some ⟨b3, 0, none⟩) s.st.length c3] 125 (0, 0))
  r1 : FL.Rw W b1 s.stk.length c1 3 (FL.ints s.stk.reverse)
  r2 : FL.Rw W b2 s.st.length c2 23 (H.row (s.gv h).gl)
  r3 : FL.Rw W b3 s.st.length c3 4 (FL.bools (s.gv h).tl)
theorem FL.Mid.below {W W' : World} {p b1 b2 b3 c1 c2 c3 h : Nat} {s : FL.S} (m : FL.Mid W p b1 b2 b3 c1 c2 c3 s h) (hb : Below W.heap.size W W') : FL.Mid W' p b1 b2 b3 c1 c2 c3 s h :=
  have b : FL.But (fun _ => False) W W' := FL.But.below hb
  ⟨(b.block p (Array.getElem?_eq_some_iff.1 m.obj).1 id).trans m.obj, m.r1.but b id, m.r2.but b id, m.r3.but b id⟩
theorem FL.At.mid {W : World} {p b1 b2 b3 c1 c2 c3 : Nat} {s : FL.S} (a : FL.At W p b1 b2 b3 c1 c2 c3 s) {h : Nat} (k : s.live h = true) {x : Nat} (hx : H.slot h = x) {z : Int} (hz : ((s.gn x : Nat) : Int) + 1 = z) :
    FL.Mid ((W.setCell ⟨b3, x, none⟩ (.bool false)).setCell ⟨b2, x, none⟩ (.int .u64 z)) p b1 b2 b3 c1 c2 c3 s h ∧
    FL.But (FL.foot p b1 b2 b3) W ((W.setCell ⟨b3, x, none⟩ (.bool false)).setCell ⟨b2, x, none⟩ (.int .u64 z)) := by
  subst hx
  subst hz
  obtain ⟨⟨n1, n2, n3⟩, n4, n5, n6⟩ := a.ne
  refine ⟨⟨?_, ?_, ?_, ?_⟩, (FL.But.set W _ (.inr (.inr (.inr rfl)))).trans (FL.But.set _ _ (.inr (.inr (.inl rfl))))⟩
  · rw [FL.heap_off _ _ n2, FL.heap_off _ _ n3]; exact a.obj
  · exact (a.r1.off _ n5).off _ n4
  · rw [← FL.gl_gv a.inv k, ← FL.u_set, Int.natCast_add]
    exact (a.r2.off _ n6).set _ _
  · rw [← FL.tl_gv a.inv k, ← FL.b_set]
    exact (a.r3.set _ _).off _ n6.symm
theorem FL.Mid.gone {W V : World} {p b1 b2 b3 c1 c2 c3 : Nat} {s : FL.S} (a : FL.At V p b1 b2 b3 c1 c2 c3 s) {h : Nat} (k : s.live h = true) (m : FL.Mid W p b1 b2 b3 c1 c2 c3 s h) (e : s.gn (H.slot h) = s.gens) : FL.At W p b1 b2 b3 c1 c2 c3 (s.gv h) := by
  have t := FL.gv_yes a.inv k
  have es := t.stk
  rw [if_pos e] at es
  exact ⟨FL.inv_gv a.inv h, FL.wd_gv a.inv a.wd h, by rw [t.gens, es, t.len]; exact m.obj, by rw [es]; exact m.r1, by rw [t.len]; exact m.r2, by rw [t.len]; exact m.r3, by rw [t.len]; exact a.room, a.ne⟩
theorem FL.Mid.push {W V W' : World} {p b1 b2 b3 c1 c2 c3 : Nat} {s : FL.S} (a : FL.At V p b1 b2 b3 c1 c2 c3 s) {h : Nat} (k : s.live h = true) (m : FL.Mid W p b1 b2 b3 c1 c2 c3 s h) (e : s.gn (H.slot h) ≠ s.gens) {x : Nat} (hx : H.slot h = x)
    (hr : FL.Rw W' b1 (s.stk.length + 1) c1 3 (FL.ints s.stk.reverse ++ [.int .i64 (x : Int)])) (hb : FL.But (fun k => k = b1) W W') :
    FL.At (W'.setCell ⟨p, 1, none⟩ (.slice (some ⟨b1, 0, none⟩) (s.stk.length + 1) c1)) p b1 b2 b3 c1 c2 c3 (s.gv h) := by
  subst hx
  have t := FL.gv_yes a.inv k
  have es := t.stk
  rw [if_neg e] at es
  obtain ⟨⟨n1, n2, n3⟩, n4, n5, n6⟩ := a.ne
  have ho : W'.heap[p]? = _ := (hb.block p (Array.getElem?_eq_some_iff.1 m.obj).1 n1).trans m.obj
  refine ⟨FL.inv_gv a.inv h, FL.wd_gv a.inv a.wd h, ?_, ?_, by rw [t.len]; exact (m.r2.but hb n4.symm).off _ n2.symm, by rw [t.len]; exact (m.r3.but hb n5.symm).off _ n3.symm, by rw [t.len]; exact a.room, a.ne⟩
  · rw [FL.set_obj ho 1, t.gens, es, t.len]; rfl
  · rw [es]
    have eq : FL.ints (H.slot h :: s.stk).reverse = FL.ints s.stk.reverse ++ [.int .i64 ((H.slot h : Nat) : Int)] := by unfold FL.ints; rw [List.reverse_cons, List.map_append]; rfl
    rw [eq]
    exact hr.off _ n1.symm
set_option maxHeartbeats 2000000 in
theorem give11_any (p : Nat) (s : FL.S) (R : Nat → Prop) (h : Nat) (h1 : h ≤ 18446744073709551615) (w : World) (hO : FL.Own w p s R) :
    Calls Try.prog 47 #[FL.ptr p, .int .u64 (h : Int)] w fun e w' => e = .returned (.tuple #[.bool (s.gvB h), .int .i64 (s.gvE h)]) ∧ FL.Own w' p (s.gv h) R ∧ FL.But R w w' := by
  obtain ⟨b1, b2, b3, c1, c2, c3, hA, rfl⟩ := hO
  have HL := Lib.hid (live11_any p b1 b2 b3 c1 c2 c3 s h h1 w hA)
  obtain ⟨d0, d1, d2, d3, fz⟩ := hA.cells
  unfold FL.ptr at HL ⊢
  cases k : s.live h with
  | false =>
    have E : Hid (FL.Own w p (s.gv h) (FL.foot p b1 b2 b3) ∧ FL.But (FL.foot p b1 b2 b3) w w) := ⟨⟨b1, b2, b3, c1, c2, c3, by rw [FL.gv_no k]; exact hA, rfl⟩, FL.But.refl _ _⟩
    have e1 : s.gvB h = false := by unfold FL.S.gvB; rw [k]; rfl
    have e2 : s.gvE h = 10 := by unfold FL.S.gvE; rw [k]; rfl
    rw [k] at HL
    rw [e1, e2]
    clear hA k e1 e2
    go_enter Try.func47, Try.ntmps47
    go_wp2_with fail
    refine HL.out.mono ?_
    rintro e w1 ⟨rfl, rfl⟩
    go_wp2
    go_ret2
    exact ⟨rfl, E.out⟩
  | true =>
    have HS := Lib.hid (slot10_any h h1 w)
    obtain ⟨k1, k2, k3, k4⟩ := FL.live_iff.1 k
    obtain ⟨e1, e2, _⟩ := H.ck_ok k1
    rw [e1, e2] at HS
    have e3 : s.gvE h = 0 := by unfold FL.S.gvE; rw [k]; rfl
    have e4 : s.gvB h = decide (s.gn (H.slot h) = s.gens) := by unfold FL.S.gvB; rw [k, Bool.true_and]
    rw [k] at HL
    rw [e3, e4]
    have nw := hA.inv.now _ k2
    have g2 := hA.inv.g2
    obtain ⟨x, hx⟩ : ∃ x, H.slot h = x := ⟨_, rfl⟩
    rw [hx] at HS k2 k3 nw ⊢
    obtain ⟨z, hz⟩ : ∃ z : Int, ((s.gn x : Nat) : Int) + 1 = z := ⟨_, rfl⟩
    obtain ⟨M, B⟩ := hA.mid k hx hz
    have cb := hA.r3.cell (FL.b_at (FL.tl_at k2))
    obtain ⟨cg, fg⟩ := hA.r2.cell (FL.u_at (FL.gl_at k2))
    rw [if_neg (by omega)] at cg
    obtain ⟨⟨n1, n2, n3⟩, n4, n5, n6⟩ := hA.ne
    have cz : ((w.setCell ⟨b3, x, none⟩ (.bool false)).setCell ⟨b2, x, none⟩ (.int .u64 z)).cell? ⟨b2, x, none⟩ = some (.int .u64 z) := by
      refine (M.r2.cell (u := .int .u64 z) ?_).1
      rw [← FL.gl_gv hA.inv k, hx, ← hz]
      exact FL.u_at (x := s.gn x + 1) (by rw [List.getElem?_set, if_pos rfl, if_pos (by rw [FL.gl_len]; exact k2)])
    have HW := wdn11_any p b2 s.st.length c2 x z s.gens _ (by rw [cell_of_row _ p _ _ _ _ M.obj]; rfl) (by rw [cell_of_row _ p _ _ _ _ M.obj]; rfl) k2 cz
    unfold FL.ptr at HW
    have EW : decide ((s.gens : Int) < z) = decide (s.gn x = s.gens) := by rw [← hz]; congr 1; apply propext; omega
    rw [EW] at HW
    have zw : IntKind.u64.wrap (((s.gn x : Nat) : Int) + 1) = z := by rw [← hz]; exact H.u64_in (s.gn x + 1) (by omega)
    have HE : Hid (∀ w3, Below ((w.setCell ⟨b3, x, none⟩ (.bool false)).setCell ⟨b2, x, none⟩ (.int .u64 z)).heap.size ((w.setCell ⟨b3, x, none⟩ (.bool false)).setCell ⟨b2, x, none⟩ (.int .u64 z)) w3 → FL.Mid w3 p b1 b2 b3 c1 c2 c3 s h ∧ FL.But (FL.foot p b1 b2 b3) w w3) := fun w3 hb => ⟨M.below hb, B.trans (FL.But.below hb)⟩
    clear M cz EW
    by_cases e : s.gn x = s.gens
    · have RF : Hid (∀ w3, FL.Mid w3 p b1 b2 b3 c1 c2 c3 s h → FL.But (FL.foot p b1 b2 b3) w w3 → FL.Own w3 p (s.gv h) (FL.foot p b1 b2 b3) ∧ FL.But (FL.foot p b1 b2 b3) w w3) := fun w3 m b => ⟨⟨b1, b2, b3, c1, c2, c3, FL.Mid.gone hA k m (by rw [hx]; exact e), rfl⟩, b⟩
      rw [decide_eq_true e] at HW ⊢
      have HW := Lib.hid HW
      clear hA k k1 e nw g2 hz B k3
      generalize s.gn x = y at *
      go_enter Try.func47, Try.ntmps47
      go_wp2_with fail
      refine HL.out.mono ?_
      rintro e w1 ⟨rfl, rfl⟩
      go_wp2_with fail
      refine HS.out.mono ?_
      rintro e w1 ⟨rfl, rfl⟩
      go_wp2_with fail
      refine HW.out.mono ?_
      rintro e w3 ⟨rfl, hb⟩
      obtain ⟨m, b⟩ := HE.out w3 hb
      have R3 := Lib.hid (RF.out w3 m b)
      clear m b hb
      go_wp2
      go_ret2
      exact ⟨rfl, R3.out⟩
    · have RF : Hid (∀ w3, FL.Mid w3 p b1 b2 b3 c1 c2 c3 s h → FL.But (FL.foot p b1 b2 b3) w w3 → ∀ w4, FL.Rw w4 b1 (s.stk.length + 1) c1 3 (FL.ints s.stk.reverse ++ [.int .i64 (x : Int)]) → FL.But (fun k => k = b1) w3 w4 → FL.Own (w4.setCell ⟨p, 1, none⟩ (.slice (some ⟨b1, 0, none⟩) (s.stk.length + 1) c1)) p (s.gv h) (FL.foot p b1 b2 b3) ∧ FL.But (FL.foot p b1 b2 b3) w (w4.setCell ⟨p, 1, none⟩ (.slice (some ⟨b1, 0, none⟩) (s.stk.length + 1) c1))) := fun w3 m b w4 hr hb =>
        ⟨⟨b1, b2, b3, c1, c2, c3, FL.Mid.push hA k m (by rw [hx]; exact e) hx hr hb, rfl⟩, (b.trans ⟨hb.os, hb.tape, hb.output, hb.size, fun i hi hn => hb.block i hi (fun c => hn (.inr (.inl c)))⟩).trans (FL.But.set _ _ (.inl rfl))⟩
      have room : s.stk.length < c1 := by
        have h1 := FL.stk_len (FL.inv_gv hA.inv h)
        have t := FL.gv_yes hA.inv k
        rw [t.stk, if_neg (by rw [hx]; exact e), t.len, List.length_cons] at h1
        have := hA.room
        omega
      rw [decide_eq_false e] at HW ⊢
      have HW := Lib.hid HW
      clear hA k k1 e nw g2 hz B k3
      generalize s.gn x = y at *
      obtain ⟨ip, hp, hp0, hp1, hp2⟩ := info_parts Try.infoInt11
      go_enter Try.func47, Try.ntmps47
      go_wp2_with fail
      refine HL.out.mono ?_
      rintro e w1 ⟨rfl, rfl⟩
      go_wp2_with fail
      refine HS.out.mono ?_
      rintro e w1 ⟨rfl, rfl⟩
      go_wp2_with fail
      refine HW.out.mono ?_
      rintro e w3 ⟨rfl, hb⟩
      obtain ⟨m, b⟩ := HE.out w3 hb
      have RF := Lib.hid (RF.out w3 m b)
      have c1' : w3.cell? ⟨p, 1, none⟩ = some (.slice (some ⟨b1, 0, none⟩) s.stk.length c1) := by rw [cell_of_row _ p _ _ _ _ m.obj]; rfl
      have pf := m.obj
      have mr := Lib.hid m.r1
      clear hb m b HE HW
      go_wp2_with (at_builtin; refine FL.append_fit Try.underlying33 hp hp1 rfl _ _ rfl b1 s.stk.length c1 _ ?a0 mr.out (.int .i64 (x : Int)) rfl 1 ?a1 room ?_)
      case a0 => rfl
      case a1 => rfl
      intro w4 hr hb
      have R4 := Lib.hid (RF.out w4 hr hb)
      have pf4 := (hb.block p (Array.getElem?_eq_some_iff.1 pf).1 n1).trans pf
      have fz4 : w4.frozen? ⟨p, 1, none⟩ = false := frozen_of_row _ _ _ _ _ pf4
      have c4 : w4.cell? ⟨p, 1, none⟩ = some (.slice (some ⟨b1, 0, none⟩) s.stk.length c1) := by rw [cell_of_row _ p _ _ _ _ pf4]; rfl
      clear hr hb RF mr pf pf4
      go_wp2
      go_ret2
      exact ⟨rfl, R4.out⟩
end Go.Proofs.Ytniccjbcchdkoaa
/- FreePkg3 -/
namespace Go.Proofs.Ytniccjbcchdkoaa
open Go.RowKit

def FL.enc (n : Nat) : Value := .int .i64 (n : Int)
theorem FL.holds_of_block {w : World} {g : Nat} {cur : Array Value} {e : TypeId} {ss : List Nat} (hb : w.heap[g]? = some (.cells cur e (0, 0))) (ht : cur.toList.take ss.length = ss.map FL.enc) : Sort.Holds FL.enc w g 0 ss.toArray := by
  intro j hj
  have hj' : j < ss.length := by simpa using hj
  refine ⟨?_, by simp [World.frozen?, hb]⟩
  have h1 : (cur.toList.take ss.length)[j]? = (ss.map FL.enc)[j]? := by rw [ht]
  rw [List.getElem?_take_of_lt hj'] at h1
  simp only [World.cell?, hb, Nat.zero_add]
  simp only [Option.isSome_none, Bool.false_eq_true, if_false]
  rw [← Array.getElem?_toList, h1]
  simp [hj']
theorem FL.heap_put {w : World} {g n : Nat} {cur : Array Value} {e : TypeId} (d : Array Nat) (hb : w.heap[g]? = some (.cells cur e (0, 0))) :
    (Sort.putRow FL.enc (Sort.ahead w n) g 0 d).heap[g]? = some (.cells (Sort.putCells FL.enc 0 d cur) e (0, 0)) := by
  have hg : g < w.heap.size := (Array.getElem?_eq_some_iff.1 hb).1
  simp [Sort.putRow, Sort.mapBlock, Sort.ahead, Array.getElem?_modify, hb, Sort.onCells]
theorem FL.below_put {w u : World} {g n : Nat} (d : Array Nat) (hb : Below u.heap.size u w) (hg : u.heap.size ≤ g) : Below u.heap.size u (Sort.putRow FL.enc (Sort.ahead w n) g 0 d) :=
  hb.trans ⟨rfl, rfl, rfl, by simp [Sort.putRow, Sort.mapBlock, Sort.ahead], fun k hk => by
    have : g ≠ k := by omega
    simp [Sort.putRow, Sort.mapBlock, Sort.ahead, Array.getElem?_modify, this]⟩
theorem FL.put_all (cur : Array Value) (l : List Nat) (h : cur.size = l.length) : (Sort.putCells FL.enc 0 l.toArray cur).toList = FL.ints l := by
  apply List.ext_getElem?
  intro j
  unfold FL.ints
  rw [Array.getElem?_toList]
  by_cases hj : j < l.length
  · simp [Sort.putCells, hj, show j < cur.size by omega, FL.enc]
  · rw [Array.getElem?_eq_none (by simp [Sort.putCells]; omega), List.getElem?_eq_none (by simp; omega)]
theorem FL.put_size (cur : Array Value) (d : Array Nat) : (Sort.putCells FL.enc 0 d cur).size = cur.size := by simp [Sort.putCells]
theorem FL.reverse_any (g c : Nat) (l : List Nat) (hl : l.length ≤ 16384) (w u : World) (hub : Below u.heap.size u w) (hg : u.heap.size ≤ g) (cur : Array Value) (hb : w.heap[g]? = some (.cells cur 3 (0, 0))) (hc : cur.toList = FL.ints l) (hcc : c = l.length) :
    Calls Try.prog 72 #[.slice (some ⟨g, 0, none⟩) l.length c] w fun e w' => e = .returned (.tuple #[]) ∧ V.Made 3 (FL.ints l.reverse) u (.slice (some ⟨g, 0, none⟩) l.length c) w' := by
  have hs : cur.size = l.length := by rw [← Array.length_toList, hc]; simp [FL.ints]
  have hH := FL.holds_of_block (ss := l) hb (by rw [hc, List.take_of_length_le (by simp [FL.ints])]; rfl)
  have R := AnyE.slices_Reverse_arr H.laysReverse FL.enc (fun _ => rfl) g 0 c l.toArray w hH (by simp; omega)
  rw [show l.toArray.size = l.length by simp, show l.toArray.reverse = l.reverse.toArray by simp] at R
  refine Calls.mono R ?_
  rintro e w' ⟨rfl, n, rfl⟩
  refine ⟨rfl, ⟨by simp [FL.ints], .inr ⟨g, c, _, by simp [FL.ints], hg, FL.heap_put _ hb, by simp [FL.ints, hcc], by unfold maxLen; omega, by rw [FL.put_size, hs, hcc, Nat.mul_one], ?_⟩⟩, FL.below_put _ hub hg⟩
  rw [FL.put_all cur l.reverse (by simp [hs]), List.take_of_length_le (by simp [FL.ints])]
set_option maxHeartbeats 2000000 in
theorem free11_any (p b1 b2 b3 c1 c2 c3 : Nat) (s : FL.S) (w : World) (hA : FL.At w p b1 b2 b3 c1 c2 c3 s) :
    Calls Try.prog 44 #[FL.ptr p] w fun e w' => ∃ v, e = .returned v ∧ V.Made 3 (FL.ints s.stk) w v w' := by
  obtain ⟨_, d1, _, _, _⟩ := hA.cells
  have hl : s.stk.length ≤ 16384 := Nat.le_trans (FL.stk_len hA.inv) hA.inv.n2
  have hp := (Array.getElem?_eq_some_iff.1 hA.obj).1
  have hb1 := hA.r1.lt
  have hlen : s.stk.reverse.length = s.stk.length := List.length_reverse
  obtain ⟨L, hL⟩ : ∃ L, Hid (s.stk.reverse = L) := ⟨_, rfl⟩
  have hLl : Hid (L.length = s.stk.length) := by show _ = _; rw [← hL.out]; exact hlen
  have hrev : L.reverse = s.stk := by rw [← hL.out, List.reverse_reverse]
  have hsrc : Hid (∀ W, Below w.heap.size w W → ∀ j v, (FL.ints L)[j]? = some v → W.cell? ⟨b1, j, none⟩ = some v) := fun W hb j v hv => by
    rw [(D.bcell hb).1 _ _ hb1]
    rw [← hL.out] at hv
    exact (hA.r1.cell hv).1
  have hd : Hid (∀ W, Below w.heap.size w W → W.cell? ⟨p, 1, none⟩ = some (.slice (some ⟨b1, 0, none⟩) s.stk.length c1)) := fun W hb => ((D.bcell hb).1 _ _ hp).trans d1
  have hW : Hid ((w.alloc (.cells (madeCells #[.int .i64 0] s.stk.length) 3)).heap[w.heap.size]? = some (.cells (List.replicate s.stk.length (.int .i64 0)).toArray 3 (0, 0)) ∧ Below w.heap.size w (w.alloc (.cells (madeCells #[.int .i64 0] s.stk.length) 3))) := by
    refine ⟨?_, (Below.refl _ _).alloc (Nat.le_refl _) _⟩
    rw [heap_alloc_new]
    congr 2
    rw [← toList_madeCells_one]
  have HR : Hid (∀ W g k, k = s.stk.length → Below w.heap.size w W → w.heap.size ≤ g → W.heap[g]? = some (.cells (splice (List.replicate k (.int .i64 0)) 0 (FL.ints L)).toArray 3 (0, 0)) →
      Calls Try.prog 72 #[.slice (some ⟨g, 0, none⟩) k k] W fun e w' => e = .returned (.tuple #[]) ∧ V.Made 3 (FL.ints s.stk) w (.slice (some ⟨g, 0, none⟩) k k) w') := fun W g k hk hb hg hh => by
    subst hk
    have := FL.reverse_any g s.stk.length L (by rw [hLl.out]; exact hl) W w hb hg _ hh (by
      unfold splice
      rw [List.toList_toArray, List.take_zero, List.nil_append, List.drop_of_length_le (by simp [FL.ints, hLl.out]), List.append_nil]) hLl.out.symm
    rw [hrev, hLl.out] at this
    exact this
  have hn : (FL.ints L).length = s.stk.length := by unfold FL.ints; rw [List.length_map]; exact hLl.out
  have h1 : ∀ v ∈ FL.ints L, v.oneCell' = true := fun v hv => by
    unfold FL.ints at hv
    obtain ⟨_, _, rfl⟩ := List.mem_map.1 hv
    rfl
  clear hL hA hrev hLl
  generalize s.stk.length = k at *
  have hn := Lib.hid hn
  have h1 := Lib.hid h1
  generalize FL.ints L = X at *
  have hmk := run_make_row' (P := Try.prog) 33 3 (.int .i64 0) 8 Try.underlying33 Try.infoInt11 rfl .i64 .i64 k (by omega) (by omega)
  unfold FL.ptr
  go_enter Try.func44, Try.ntmps44
  go_upto_region 4 with (fail)
  have hd1 := hd.out _ hW.out.2
  generalize w.alloc (.cells (madeCells #[.int .i64 0] k) 3) = W1 at hW hd1 ⊢
  have hg1 : w.heap.size < W1.heap.size := (Array.getElem?_eq_some_iff.1 hW.out.1).1
  obtain ⟨g0, hg0⟩ : ∃ g0, Hid (w.heap.size = g0) := ⟨_, rfl⟩
  have hW1 := hW.out
  rw [hg0.out] at hW1 hg1 ⊢
  have hsz : (Try.prog.info? 3).map (·.size) = some 1 := by kernel_rfl
  go_wp2_with (with_reducible refine wpList_copy_splice (o := ⟨some 17, _, _, _, _, _⟩) rfl _ _ _ _ rfl 3 Try.underlying33 hsz (some ⟨g0, 0, none⟩) (some ⟨b1, 0, none⟩) k k k c1 ?a0 ?a1 g0 0 (List.replicate k (.int .i64 0)) 3 hW1.1 X ?a2 ?a3 ?a4 h1.out w.heap.size w ?a5 ?a6 ?_)
  case a0 => rfl
  case a1 => rfl
  case a2 => rw [hn.out]; simp
  case a3 => exact fun _ j v hv => hsrc.out _ (by rw [hg0.out]; exact hW1.2) j v hv
  case a4 => rw [hn.out]; simp
  case a5 => rw [hg0.out]; exact hW1.2
  case a6 => rw [hg0.out]; exact Nat.le_refl _
  intro w2 hc2 hb2
  have HR2 := Lib.hid (HR.out w2 g0 k rfl hb2 (by rw [hg0.out]; exact Nat.le_refl _) hc2.out)
  clear hc2 hb2
  go_wp2_with fail
  refine HR2.out.mono ?_
  rintro e w3 ⟨rfl, hm⟩
  have R3 := Lib.hid hm
  clear hm
  go_wp2
  go_ret
  exact ⟨_, rfl, R3.out⟩
end Go.Proofs.Ytniccjbcchdkoaa
/- FreePkg4 -/
namespace Go.Proofs.Ytniccjbcchdkoaa
open Go.RowKit

def FL.S.hk (s : FL.S) (k : Nat) : List Nat := ((List.range k).filter fun i => decide (s.at_ i = 1)).map fun i => H.pack i (s.gn i)
def FL.S.wk (s : FL.S) (k : Nat) : List Nat := (List.range k).filter fun i => decide (s.at_ i = 2)
theorem FL.hk_yes {s : FL.S} {k : Nat} (h : s.at_ k = 1) : s.hk (k + 1) = s.hk k ++ [H.pack k (s.gn k)] := by
  unfold FL.S.hk; rw [List.range_succ, List.filter_append, List.map_append]; simp [h]
theorem FL.hk_no {s : FL.S} {k : Nat} (h : s.at_ k ≠ 1) : s.hk (k + 1) = s.hk k := by
  unfold FL.S.hk; rw [List.range_succ, List.filter_append, List.map_append]; simp [h]
theorem FL.wk_yes {s : FL.S} {k : Nat} (h : s.at_ k = 2) : s.wk (k + 1) = s.wk k ++ [k] := by
  unfold FL.S.wk; rw [List.range_succ, List.filter_append]; simp [h]
theorem FL.wk_no {s : FL.S} {k : Nat} (h : s.at_ k ≠ 2) : s.wk (k + 1) = s.wk k := by
  unfold FL.S.wk; rw [List.range_succ, List.filter_append]; simp [h]
theorem FL.hk_len (s : FL.S) (k : Nat) : (s.hk k).length ≤ k := by
  unfold FL.S.hk; rw [List.length_map]
  have := List.length_filter_le (fun i => decide (s.at_ i = 1)) (List.range k)
  rwa [List.length_range] at this
theorem FL.wk_len (s : FL.S) (k : Nat) : (s.wk k).length ≤ k := by
  unfold FL.S.wk
  have := List.length_filter_le (fun i => decide (s.at_ i = 2)) (List.range k)
  rwa [List.length_range] at this
theorem FL.hk_all (s : FL.S) : s.hk s.st.length = s.hands := rfl
theorem FL.wk_all (s : FL.S) : s.wk s.st.length = s.those 2 := rfl
set_option maxHeartbeats 2000000 in
theorem handles11_any (p b1 b2 b3 c1 c2 c3 : Nat) (s : FL.S) (w : World) (hA : FL.At w p b1 b2 b3 c1 c2 c3 s) :
    Calls Try.prog 48 #[FL.ptr p] w fun e w' => ∃ v, e = .returned v ∧ H.Made s.hands w v w' := by
  have hn := hA.inv.n2
  have hp := (Array.getElem?_eq_some_iff.1 hA.obj).1
  have HA := Lib.hid hA
  obtain ⟨_, _, d2, d3, _⟩ := hA.cells
  have hR : Hid (H.Made (s.hk 0) w (.slice none 0 0) w) := H.Made.nil w (Below.refl _ _)
  clear hA
  unfold FL.ptr
  go_enter Try.func48, Try.ntmps48
  go_wp2
  go_loopw [3, 15] (fun v j wr => ∃ k : Nat, k ≤ s.st.length ∧ j = .int .i64 k ∧ Hid (H.Made (s.hk k) w v wr)) (fun _ j _ => s.st.length - (intOf j).toNat)
  case atStart => exact ⟨0, Nat.zero_le _, rfl, hR.out⟩
  case round =>
    obtain ⟨k, hk, rfl, hL⟩ := hrel
    by_cases hlt : k < s.st.length
    · have hb := Lib.hid hL.out.below
      have hbs := hb.out.size
      have ct := ((D.bcell hb.out).1 _ k HA.out.r3.lt).trans (HA.out.r3.cell (FL.b_at (FL.tl_at hlt))).1
      have cg := ((D.bcell hb.out).1 _ k HA.out.r2.lt).trans (HA.out.r2.cell (FL.u_at (FL.gl_at hlt))).1
      have e2 := ((D.bcell hb.out).1 _ 2 hp).trans d2
      have nw := HA.out.inv.now k hlt
      have g2 := HA.out.inv.g2
      by_cases ha : s.at_ k = 1
      · rw [decide_eq_true ha] at ct
        rw [if_neg (by omega)] at cg
        have hst := Lib.hid (FL.hk_yes ha)
        have mE : H.mkE (k : Int) ((s.gn k : Nat) : Int) = 0 := (H.mkE_iff _ _).2 ⟨by omega, by omega, by omega, by omega⟩
        have HM : Hid (∀ W, Calls Try.prog 71 #[.int .i64 (k : Int), .int .u64 ((s.gn k : Nat) : Int)] W fun e w' => e = .returned (.tuple #[.int .u64 ((H.pack k (s.gn k) : Nat) : Int), .int .i64 0]) ∧ W = w') := fun W => by
          have := make10_any (k : Int) ((s.gn k : Nat) : Int) (by omega) (by omega) (by omega) (by omega) W
          rwa [H.mkV_nat mE, mE] at this
        obtain ⟨X, hX⟩ : ∃ X, Hid (s.hk k = X) := ⟨_, rfl⟩
        have hle : X.length ≤ 1000000000 := by have := FL.hk_len s k; rw [hX.out] at this; omega
        rw [hX.out] at hst hL
        clear mE ha nw g2
        generalize s.gn k = y at *
        obtain ⟨q, hq⟩ : ∃ q : Nat, H.pack k y = q := ⟨_, rfl⟩
        rw [hq] at hst HM
        obtain ⟨z, hz⟩ : ∃ z : Int, Hid ((q : Int) = z) := ⟨_, rfl⟩
        rw [hz.out] at HM
        obtain ⟨vo, vc, hv, _⟩ := hL.out.row
        subst hv
        obtain ⟨W0, rfl⟩ : ∃ W0 : World, W0 = wr := ⟨_, rfl⟩
        go_wp2_with fail
        refine (HM.out _).mono ?_
        rintro e w1 ⟨rfl, rfl⟩
        go_wp2_with (at_builtin; refine H.append_one rfl _ _ rfl w.heap.size (.slice vo X.length vc) X ?hs hL.out.own z q hz.out 1 ?a0 hle hbs ?_)
        case hs => rfl
        case a0 => rfl
        intro Z v' w3 hZ hO hg
        have R : Hid (H.Made (s.hk (k + 1)) w v' w3) := by
          show H.Made _ _ _ _
          rw [hst.out, ← hZ.out]
          exact V.Made.on hL.out hO hg
        clear hO hg hL
        go_wp2
        go_roundw
        case rel => exact ⟨k + 1, by omega, by go_num, R⟩
        case measure => simp [intOf]; omega
      · rw [decide_eq_false ha] at ct
        obtain ⟨vo, vc, hv, _⟩ := hL.out.row
        subst hv
        have R : Hid (H.Made (s.hk (k + 1)) w (.slice vo (s.hk k).length vc) wr) := by
          show H.Made _ _ _ _
          rw [FL.hk_no ha]; exact hL.out
        clear cg
        go_wp2
        go_roundw
        case rel => exact ⟨k + 1, by omega, by go_num, R⟩
        case measure => simp [intOf]; omega
    · obtain rfl : k = s.st.length := by omega
      go_wp2
      go_ret
      exact ⟨_, rfl, by rw [← FL.hk_all]; exact hL.out⟩
/-- A row of ints that a call makes. -/
def FL.MI (l : List Nat) (w : World) (v : Value) (wr : World) : Prop := V.Made 3 (FL.ints l) w v wr
theorem FL.ints_len (l : List Nat) : (FL.ints l).length = l.length := List.length_map _
theorem FL.MI.row {l : List Nat} {w : World} {v : Value} {wr : World} (h : FL.MI l w v wr) : ∃ ao c, v = .slice ao l.length c ∧ V.Row wr ao (FL.ints l) := by
  obtain ⟨ao, c, e, r⟩ := V.Made.row h
  rw [FL.ints_len] at e
  exact ⟨ao, c, e, r⟩
theorem FL.made_below {e : TypeId} {l : List Value} {w : World} {v : Value} {wr wx : World} (h : V.Made e l w v wr) (hb : Below wr.heap.size wr wx) : V.Made e l w v wx := ⟨D.own_below h.own hb, h.below.trans (hb.mono h.below.size)⟩
theorem FL.append_int {W : World} {ops : Array Oper} {rest : List Oper} {o : Oper} {a : Act} {Q : Exit → Act → World → Prop} (hgd : o.guard = none) (s x : Operand)
    (ho : o.op = .call { callee := .builtin .append, args := #[s, x], argTypes := #[33, 33] })
    (base : Nat) (v : Value) (X : List Nat) (hs : a.eval s = v) (hown : W.ownsRow base 3 1 v (FL.ints X).length (FL.ints X)) (p : Nat) (z : Int) (hz : (p : Int) = z) (cc : Nat) (hx : a.eval x = .slice (some ⟨W.heap.size, 0, none⟩) 1 cc) (hn : X.length ≤ 1000000000) (hbase : base ≤ W.heap.size)
    (h : ∀ Z v' w', Hid (Z = X ++ [p]) → w'.ownsRow base 3 1 v' (FL.ints Z).length (FL.ints Z) → W.grownBy w' v.ownBlock → wpList Try.prog ops Q rest (a.put o.dst v') w') :
    wpList Try.prog ops Q (o :: rest) a (W.alloc (.cells #[.int .i64 z] 3)) := by
  subst hz
  obtain ⟨ip, hp, hp0, hp1, hp2⟩ := info_parts Try.infoInt11
  refine V.append_one Try.underlying33 hp hp0 hp1 hp2 rfl (by decide) hgd s x ho base v (FL.ints X) hs hown (.int .i64 (p : Int)) rfl cc hx (by rw [FL.ints_len]; exact hn) hbase ?_
  intro Z v' w' hZ h1 h2
  have e : Z = FL.ints (X ++ [p]) := by rw [hZ.out]; unfold FL.ints; rw [List.map_append]; rfl
  rw [e] at h1
  exact h (X ++ [p]) v' w' rfl h1 h2
set_option maxHeartbeats 2000000 in
theorem withdrawn11_any (p b1 b2 b3 c1 c2 c3 : Nat) (s : FL.S) (w : World) (hA : FL.At w p b1 b2 b3 c1 c2 c3 s) :
    Calls Try.prog 45 #[FL.ptr p] w fun e w' => ∃ v, e = .returned v ∧ FL.MI (s.those 2) w v w' := by
  have hn := hA.inv.n2
  have hp := (Array.getElem?_eq_some_iff.1 hA.obj).1
  have HA := Lib.hid hA
  obtain ⟨d0, _, d2, _, _⟩ := hA.cells
  have hR : Hid (FL.MI (s.wk 0) w (.slice none 0 0) w) := V.Made.nil _ w (Below.refl _ _)
  have HW : Hid (∀ k W, k < s.st.length → Below w.heap.size w W → Calls Try.prog 73 #[.pointer (some ⟨p, 0, none⟩), .int .i64 (k : Int)] W fun e w' => e = .returned (.bool (decide (s.at_ k = 2))) ∧ Below W.heap.size W w') := fun k W hk hb => by
    have h := wdn11_any p b2 s.st.length c2 k _ s.gens W (((D.bcell hb).1 _ 0 hp).trans d0) (((D.bcell hb).1 _ 2 hp).trans d2) hk (((D.bcell hb).1 _ k hA.r2.lt).trans (hA.r2.cell (FL.u_at (FL.gl_at hk))).1)
    have nw := hA.inv.now k hk
    have e : decide ((s.gens : Int) < ((if s.at_ k = 2 then s.gens + 1 else s.gn k : Nat) : Int)) = decide (s.at_ k = 2) := by
      congr 1; apply propext
      by_cases c : s.at_ k = 2
      · rw [if_pos c]; exact ⟨fun _ => c, fun _ => by omega⟩
      · rw [if_neg c]; exact ⟨fun _ => by omega, fun x => absurd x c⟩
    rw [e] at h
    exact h
  clear hA
  unfold FL.ptr
  go_enter Try.func45, Try.ntmps45
  go_wp2
  go_loopw [3, 12] (fun v j wr => ∃ k : Nat, k ≤ s.st.length ∧ j = .int .i64 k ∧ Hid (FL.MI (s.wk k) w v wr)) (fun _ j _ => s.st.length - (intOf j).toNat)
  case atStart => exact ⟨0, Nat.zero_le _, rfl, hR.out⟩
  case round =>
    obtain ⟨k, hk, rfl, hL⟩ := hrel
    by_cases hlt : k < s.st.length
    · have hb := Lib.hid hL.out.below
      have HC := HW.out k wr hlt hb.out
      by_cases ha : s.at_ k = 2
      · rw [decide_eq_true ha] at HC
        have HC := Lib.hid HC
        have hst := Lib.hid (FL.wk_yes ha)
        obtain ⟨X, hX⟩ : ∃ X, Hid (s.wk k = X) := ⟨_, rfl⟩
        have hle : X.length ≤ 1000000000 := by have := FL.wk_len s k; rw [hX.out] at this; omega
        rw [hX.out] at hst hL
        clear ha
        obtain ⟨z, hz⟩ : ∃ z : Int, Hid ((k : Int) = z) := ⟨_, rfl⟩
        obtain ⟨vo, vc, hv, _⟩ := hL.out.row
        subst hv
        obtain ⟨W0, rfl⟩ : ∃ W0 : World, W0 = wr := ⟨_, rfl⟩
        go_wp2_with fail
        refine HC.out.mono ?_
        rintro e w1 ⟨rfl, hb1⟩
        have hL1 : Hid (FL.MI X w (.slice vo X.length vc) w1) := FL.made_below hL.out hb1
        have hbs := hL1.out.below.size
        clear hb1 hL HC
        go_wp2_with (at_builtin; refine FL.append_int rfl _ _ rfl w.heap.size (.slice vo X.length vc) X ?hs hL1.out.own k (k : Int) rfl 1 ?a0 hle hbs ?_)
        case hs => rfl
        case a0 => rfl
        intro Z v' w3 hZ hO hg
        have R : Hid (FL.MI (s.wk (k + 1)) w v' w3) := by
          show FL.MI _ _ _ _
          rw [hst.out, ← hZ.out]
          exact V.Made.on hL1.out hO hg
        clear hO hg hL1
        go_wp2
        go_roundw
        case rel => exact ⟨k + 1, by omega, by go_num, R⟩
        case measure => simp [intOf]; omega
      · rw [decide_eq_false ha] at HC
        have HC := Lib.hid HC
        obtain ⟨vo, vc, hv, _⟩ := hL.out.row
        subst hv
        have R : Hid (∀ w1, Below wr.heap.size wr w1 → FL.MI (s.wk (k + 1)) w (.slice vo (s.wk k).length vc) w1) := fun w1 hb1 => by
          rw [FL.wk_no ha]; exact FL.made_below hL.out hb1
        go_wp2_with fail
        refine HC.out.mono ?_
        rintro e w1 ⟨rfl, hb1⟩
        have R1 := Lib.hid (R.out w1 hb1)
        clear hb1
        go_wp2
        go_roundw
        case rel => exact ⟨k + 1, by omega, by go_num, R1⟩
        case measure => simp [intOf]; omega
    · obtain rfl : k = s.st.length := by omega
      go_wp2
      go_ret
      exact ⟨_, rfl, by rw [← FL.wk_all]; exact hL.out⟩
end Go.Proofs.Ytniccjbcchdkoaa
/- FreePkg5 -/
namespace Go.Proofs.Ytniccjbcchdkoaa
open Go.RowKit

theorem FL.infoU64 : (Try.prog.info? 23).map (fun i => (i.zero, i.size, i.bytes)) = some (some (.int .u64 0), 1, 8) := by kernel_rfl
theorem FL.infoBool : (Try.prog.info? 4).map (fun i => (i.zero, i.size, i.bytes)) = some (some (.bool false), 1, 1) := by kernel_rfl
/-- The stack behind k rounds of New: from the top down. -/
def FL.fk (n k : Nat) : List Nat := (List.range n).map fun i => if n - 1 - i < k then n - 1 - i else 0
def FL.uk (n k : Nat) : List Nat := (List.range n).map fun i => if i < k then 1 else 0
theorem FL.fk_zero (n : Nat) : FL.ints (FL.fk n 0) = List.replicate n (.int .i64 0) := by
  have : FL.fk n 0 = List.replicate n 0 := by
    unfold FL.fk
    apply List.ext_getElem?
    intro i
    by_cases hi : i < n
    · rw [FL.range_at _ hi, List.getElem?_replicate, if_pos hi, if_neg (by omega)]
    · rw [List.getElem?_eq_none (by simp; omega), List.getElem?_eq_none (by simp; omega)]
  rw [this]; simp [FL.ints]
theorem FL.uk_zero (n : Nat) : H.row (FL.uk n 0) = List.replicate n (.int .u64 0) := by
  have : FL.uk n 0 = List.replicate n 0 := by
    unfold FL.uk
    apply List.ext_getElem?
    intro i
    by_cases hi : i < n
    · rw [FL.range_at _ hi, List.getElem?_replicate, if_pos hi, if_neg (by omega)]
    · rw [List.getElem?_eq_none (by simp; omega), List.getElem?_eq_none (by simp; omega)]
  rw [this]; simp [H.row, H.hv]
theorem FL.fk_next {n k : Nat} (h : k < n) : (FL.fk n k).set (n - 1 - k) k = FL.fk n (k + 1) := by
  unfold FL.fk
  refine FL.range_set _ _ _ _ _ (fun _ => ?_) (fun i hi hn => ?_)
  · rw [if_pos (by omega)]; omega
  · by_cases c : n - 1 - i < k
    · rw [if_pos c, if_pos (by omega)]
    · rw [if_neg c, if_neg (by omega)]
theorem FL.uk_next {n k : Nat} (_ : k < n) : (FL.uk n k).set k 1 = FL.uk n (k + 1) := by
  unfold FL.uk
  refine FL.range_set _ _ _ _ _ (fun _ => by rw [if_pos (by omega)]) (fun i hi hn => ?_)
  by_cases c : i < k
  · rw [if_pos c, if_pos (by omega)]
  · rw [if_neg c, if_neg (by omega)]
theorem FL.fk_all (n : Nat) : FL.fk n n = (List.range n).reverse := by
  unfold FL.fk
  apply List.ext_getElem?
  intro i
  by_cases hi : i < n
  · rw [FL.range_at _ hi, List.getElem?_reverse (by simpa using hi), List.length_range, List.getElem?_range (by omega), if_pos (by omega)]
  · rw [List.getElem?_eq_none (by simp; omega), List.getElem?_eq_none (by simp; omega)]
theorem FL.uk_all (n g : Nat) : FL.uk n n = (FL.new n g).gl := by
  rw [FL.gl_new]
  unfold FL.uk
  apply List.ext_getElem?
  intro i
  by_cases hi : i < n
  · rw [FL.range_at _ hi, List.getElem?_replicate, if_pos hi, if_pos hi]
  · rw [List.getElem?_eq_none (by simp; omega), List.getElem?_eq_none (by simp; omega)]
theorem FL.fk_len (n k : Nat) : (FL.fk n k).length = n := by simp [FL.fk]
theorem FL.uk_len (n k : Nat) : (FL.uk n k).length = n := by simp [FL.uk]
/-- A list in the midst of New. -/
structure FL.Fill (w : World) (p b1 b2 b3 n g k : Nat) (W : World) : Prop where
  obj : W.heap[p]? = some (.cells #[.int .u64 (g : Int), .slice (some ⟨b1, 0, none⟩) n n, .slice (some ⟨b2, 0, none⟩) n n, .slice (some ⟨b3, 0, none⟩) n n] 125 (0, 0))
  r1 : FL.Rw W b1 n n 3 (FL.ints (FL.fk n k))
  r2 : FL.Rw W b2 n n 23 (H.row (FL.uk n k))
  r3 : FL.Rw W b3 n n 4 (FL.bools (FL.new n g).tl)
  ne : (p ≠ b1 ∧ p ≠ b2 ∧ p ≠ b3) ∧ b1 ≠ b2 ∧ b1 ≠ b3 ∧ b2 ≠ b3
  below : Below w.heap.size w W
  new : ∀ k, FL.foot p b1 b2 b3 k → w.heap.size ≤ k
theorem FL.Fill.done {w W : World} {p b1 b2 b3 n g : Nat} (h : FL.Fill w p b1 b2 b3 n g n W) (h1 : 1 ≤ n) (h2 : n ≤ 16384) (h3 : 1 ≤ g) (h4 : g ≤ 4294967295) : FL.Own W p (FL.new n g) (FL.foot p b1 b2 b3) := by
  have l : (FL.new n g).st.length = n := List.length_replicate
  have ls : (FL.new n g).stk.length = n := List.length_range
  refine ⟨b1, b2, b3, n, n, n, ⟨FL.inv_new h1 h2 h3 h4, FL.wd_new n g, ?_, ?_, ?_, ?_, by rw [l]; exact Nat.le_refl _, h.ne⟩, rfl⟩
  · rw [l, ls]; exact h.obj
  · rw [ls]; have := h.r1; rw [FL.fk_all] at this; exact this
  · rw [l, ← FL.uk_all]; exact h.r2
  · rw [l]; exact h.r3
theorem FL.Fill.step {w W : World} {p b1 b2 b3 n g k : Nat} (h : FL.Fill w p b1 b2 b3 n g k W) (hk : k < n) {x : Nat} (hx : n - 1 - k = x) :
    FL.Fill w p b1 b2 b3 n g (k + 1) ((W.setCell ⟨b1, x, none⟩ (.int .i64 (k : Int))).setCell ⟨b2, k, none⟩ (.int .u64 1)) := by
  subst hx
  obtain ⟨⟨n1, n2, n3⟩, n4, n5, n6⟩ := h.ne
  refine ⟨?_, ?_, ?_, (h.r3.off _ n5.symm).off _ n6.symm, h.ne, ?_, h.new⟩
  · rw [FL.heap_off _ _ n2, FL.heap_off _ _ n1]; exact h.obj
  · rw [← FL.fk_next hk, ← FL.ints_set]; exact (h.r1.set _ _).off _ n4
  · rw [← FL.uk_next hk, ← FL.u_set]; exact (h.r2.off _ n4.symm).set _ _
  · exact (h.below.setCell (p := ⟨b1, _, none⟩) (h.new _ (.inr (.inl rfl))) _).setCell (p := ⟨b2, _, none⟩) (h.new _ (.inr (.inr (.inl rfl)))) _
theorem FL.rw_made (W : World) (n : Nat) (z : Value) (e : TypeId) (hn : n ≤ maxLen) {l : List Value} (hl : l = List.replicate n z) : FL.Rw (W.alloc (.cells (madeCells #[z] n) e)) W.heap.size n n e l := by
  subst hl
  exact V.own_made W W.heap.size n z e (Nat.le_refl _) hn
theorem FL.Rw.alloc {W : World} {g n c : Nat} {e : TypeId} {xs : List Value} (h : FL.Rw W g n c e xs) (o : Obj) : FL.Rw (W.alloc o) g n c e xs := World.ownsRow.alloc h o
theorem FL.Rw.drew {W : World} {g n c : Nat} {e : TypeId} {xs : List Value} (h : FL.Rw W g n c e xs) : FL.Rw W.drew g n c e xs := World.ownsRow.drew h
theorem FL.rwA (w : World) (B C : Obj) (n : Nat) (z : Value) (e : TypeId) (hn : n ≤ maxLen) : FL.Rw (((w.alloc (.cells (madeCells #[z] n) e)).alloc B).alloc C) w.heap.size n n e (List.replicate n z) := ((FL.rw_made w n z e hn rfl).alloc _).alloc _
theorem FL.rwB (w : World) (A C : Obj) (n : Nat) (z : Value) (e : TypeId) (hn : n ≤ maxLen) : FL.Rw (((w.alloc A).alloc (.cells (madeCells #[z] n) e)).alloc C) (w.heap.size + 1) n n e (List.replicate n z) := by
  have := (FL.rw_made (w.alloc A) n z e hn rfl).alloc C
  rwa [World.size_alloc] at this
theorem FL.rwC (w : World) (A B : Obj) (n : Nat) (z : Value) (e : TypeId) (hn : n ≤ maxLen) : FL.Rw (((w.alloc A).alloc B).alloc (.cells (madeCells #[z] n) e)) (w.heap.size + 1 + 1) n n e (List.replicate n z) := by
  have := FL.rw_made ((w.alloc A).alloc B) n z e hn rfl
  rwa [World.size_alloc, World.size_alloc] at this
theorem FL.fill_of {w : World} {A B C : Obj} {b1 b2 b3 n g : Nat} {gi : Int} (hg : (g : Int) = gi)
    (r1 : FL.Rw (((w.alloc A).alloc B).alloc C) b1 n n 3 (List.replicate n (.int .i64 0))) (r2 : FL.Rw (((w.alloc A).alloc B).alloc C) b2 n n 23 (List.replicate n (.int .u64 0))) (r3 : FL.Rw (((w.alloc A).alloc B).alloc C) b3 n n 4 (List.replicate n (.bool false)))
    (h1 : w.heap.size ≤ b1) (h2 : w.heap.size ≤ b2) (h3 : w.heap.size ≤ b3) (h4 : b1 ≠ b2) (h5 : b1 ≠ b3) (h6 : b2 ≠ b3) :
    FL.Fill w (w.heap.size + 1 + 1 + 1) b1 b2 b3 n g 0 ((((w.alloc A).alloc B).alloc C).alloc (.cells #[.int .u64 gi, .slice (some ⟨b1, 0, none⟩) n n, .slice (some ⟨b2, 0, none⟩) n n, .slice (some ⟨b3, 0, none⟩) n n] 125)).drew := by
  subst hg
  have hs : (((w.alloc A).alloc B).alloc C).heap.size = w.heap.size + 1 + 1 + 1 := by rw [World.size_alloc, World.size_alloc, World.size_alloc]
  have l1 := r1.lt
  have l2 := r2.lt
  have l3 := r3.lt
  rw [hs] at l1 l2 l3
  have hb : Below w.heap.size w (((w.alloc A).alloc B).alloc C) := (((Below.refl _ w).alloc (Nat.le_refl _) _).alloc (by simp) _).alloc (by simp; omega) _
  have ho := heap_alloc_new (((w.alloc A).alloc B).alloc C) (.cells #[.int .u64 (g : Int), .slice (some ⟨b1, 0, none⟩) n n, .slice (some ⟨b2, 0, none⟩) n n, .slice (some ⟨b3, 0, none⟩) n n] 125)
  rw [hs] at ho
  refine ⟨ho, ?_, ?_, ?_, ⟨⟨by omega, by omega, by omega⟩, h4, h5, h6⟩, (hb.alloc hb.size _).drew, ?_⟩
  · rw [FL.fk_zero]; exact (r1.alloc _).drew
  · rw [FL.uk_zero]; exact (r2.alloc _).drew
  · rw [FL.tl_new]; unfold FL.bools; rw [List.map_replicate]; exact (r3.alloc _).drew
  · rintro k (rfl | rfl | rfl | rfl) <;> omega
set_option maxHeartbeats 4000000 in
theorem new11_ok (n g : Nat) (h1 : 1 ≤ n) (h2 : n ≤ 16384) (h3 : 1 ≤ g) (h4 : g ≤ 4294967295) (w : World) :
    Calls Try.prog 76 #[.int .i64 (n : Int), .int .u64 (g : Int)] w fun e w' => ∃ p R, e = .returned (.tuple #[FL.ptr p, .int .i64 0]) ∧ FL.Own w' p (FL.new n g) R ∧ Below w.heap.size w w' ∧ ∀ k, R k → w.heap.size ≤ k := by
  have hm1 := run_make_row' (P := Try.prog) 33 3 (.int .i64 0) 8 Try.underlying33 Try.infoInt11 rfl .i64 .i64 n (by omega) (by omega)
  have hm2 := run_make_row' (P := Try.prog) 122 23 (.int .u64 0) 8 Try.underlying122 FL.infoU64 rfl .i64 .i64 n (by omega) (by omega)
  have hm3 := run_make_row' (P := Try.prog) 123 4 (.bool false) 1 Try.underlying123 FL.infoBool rfl .i64 .i64 n (by omega) (by omega)
  have q1 : decide ((n : Int) < 1) = false := by simp; omega
  have q2 : decide (16384 < (n : Int)) = false := by simp; omega
  have q3 : decide ((g : Int) < 1) = false := by simp; omega
  have q4 : decide (4294967295 < (g : Int)) = false := by simp; omega
  obtain ⟨gi, hgi⟩ : ∃ gi : Int, (g : Int) = gi := ⟨_, rfl⟩
  rw [hgi] at q3 q4 ⊢
  go_enter Try.func76, Try.ntmps76
  go_upto_region 5 with (fail)
  go_cut [6] (fun v wx => ∃ p b1 b2 b3, v = FL.ptr p ∧ Hid (FL.Fill w p b1 b2 b3 n g 0 wx))
  case first =>
    have hmx : n ≤ maxLen := by unfold maxLen; omega
    go_region
    all_goals
      go_wp2_with fail
      go_meet
      case rel =>
        refine ⟨_, _, _, _, rfl, FL.fill_of hgi ?_ ?_ ?_ ?_ ?_ ?_ ?_ ?_ ?_⟩
        · first | exact FL.rwA _ _ _ _ _ _ hmx | exact FL.rwB _ _ _ _ _ _ hmx | exact FL.rwC _ _ _ _ _ _ hmx
        · first | exact FL.rwA _ _ _ _ _ _ hmx | exact FL.rwB _ _ _ _ _ _ hmx | exact FL.rwC _ _ _ _ _ _ hmx
        · first | exact FL.rwA _ _ _ _ _ _ hmx | exact FL.rwB _ _ _ _ _ _ hmx | exact FL.rwC _ _ _ _ _ _ hmx
        all_goals omega
  case rest =>
    obtain ⟨p, b1, b2, b3, rfl, hF⟩ := hcut
    clear hm1 hm2 hm3
    unfold FL.ptr
    go_wp2
    go_loopw [30] (fun j wr => ∃ k : Nat, k ≤ n ∧ j = .int .i64 k ∧ Hid (FL.Fill w p b1 b2 b3 n g k wr)) (fun j _ => n - (intOf j).toNat)
    case atStart => exact ⟨0, Nat.zero_le _, rfl, hF.out⟩
    case round =>
      obtain ⟨k, hk, rfl, hL⟩ := hrel
      clear hF
      by_cases hlt : k < n
      · obtain ⟨x, hx⟩ : ∃ x, n - 1 - k = x := ⟨_, rfl⟩
        have R := Lib.hid (hL.out.step hlt hx)
        have x1 : x < n := by omega
        have d1 : wr.cell? ⟨p, 1, none⟩ = some (.slice (some ⟨b1, 0, none⟩) n n) := by rw [cell_of_row _ p _ _ _ _ hL.out.obj]; rfl
        have d2 : wr.cell? ⟨p, 2, none⟩ = some (.slice (some ⟨b2, 0, none⟩) n n) := by rw [cell_of_row _ p _ _ _ _ hL.out.obj]; rfl
        obtain ⟨y1, hy1⟩ : ∃ y, (FL.fk n k)[x]? = some y := ⟨_, List.getElem?_eq_getElem (by rw [FL.fk_len]; exact x1)⟩
        obtain ⟨y2, hy2⟩ : ∃ y, (FL.uk n k)[k]? = some y := ⟨_, List.getElem?_eq_getElem (by rw [FL.uk_len]; exact hlt)⟩
        have c1 := hL.out.r1.cell (FL.ints_at hy1)
        have c2 := hL.out.r2.cell (FL.u_at hy2)
        obtain ⟨⟨n1, n2, n3⟩, n4, n5, n6⟩ := hL.out.ne
        have ex : (n : Int) - 1 - (k : Int) = (x : Int) := by omega
        clear hL hx hy1 hy2 n3 n5 n6
        go_wp2
        go_roundw
        case rel => exact ⟨k + 1, by omega, by go_num, R⟩
        case measure => simp [intOf]; omega
      · obtain rfl : k = n := by omega
        have R : Hid (FL.Own wr p (FL.new k g) (FL.foot p b1 b2 b3) ∧ Below w.heap.size w wr ∧ ∀ i, FL.foot p b1 b2 b3 i → w.heap.size ≤ i) := ⟨hL.out.done h1 h2 h3 h4, hL.out.below, hL.out.new⟩
        go_wp2
        go_ret2
        exact ⟨p, _, rfl, R.out⟩
set_option maxHeartbeats 1000000 in
theorem new11_bad (n g : Int) (h : n < 1 ∨ 16384 < n ∨ g < 1 ∨ 4294967295 < g) (w : World) :
    Calls Try.prog 76 #[.int .i64 n, .int .u64 g] w fun e w' => e = .returned (.tuple #[.pointer none, .int .i64 3]) ∧ w = w' := by
  by_cases h1 : n < 1
  · clear h
    go_enter Try.func76, Try.ntmps76
    go_wp2
    go_ret2
    exact ⟨rfl, rfl⟩
  · by_cases h2 : 16384 < n
    · clear h
      go_enter Try.func76, Try.ntmps76
      go_wp2
      go_ret2
      exact ⟨rfl, rfl⟩
    · by_cases h3 : g < 1
      · clear h
        go_enter Try.func76, Try.ntmps76
        go_wp2
        go_ret2
        exact ⟨rfl, rfl⟩
      · have h4 : 4294967295 < g := by omega
        clear h
        go_enter Try.func76, Try.ntmps76
        go_wp2
        go_ret2
        exact ⟨rfl, rfl⟩
/-! ### Nil lists -/
theorem takeNil11_any (w : World) : Calls Try.prog 41 #[.pointer none] w fun e w' => e = .returned (.tuple #[.int .u64 0, .int .i64 1]) ∧ w = w' := by
  go_enter Try.func41, Try.ntmps41
  go_wp2
  go_ret2
  exact ⟨rfl, rfl⟩
theorem giveNil11_any (h : Int) (w : World) : Calls Try.prog 47 #[.pointer none, .int .u64 h] w fun e w' => e = .returned (.tuple #[.bool false, .int .i64 1]) ∧ w = w' := by
  go_enter Try.func47, Try.ntmps47
  go_wp2
  go_ret2
  exact ⟨rfl, rfl⟩
theorem liveNil11_any (h : Nat) (h1 : h ≤ 18446744073709551615) (w : World) : Calls Try.prog 74 #[.pointer none, .int .u64 (h : Int)] w fun e w' => e = .returned (.bool false) ∧ w = w' := by
  have HS := Lib.hid (slot10_any h h1 w)
  obtain ⟨hi, hhi⟩ : ∃ hi : Int, (h : Int) = hi := ⟨_, rfl⟩
  rw [hhi] at HS ⊢
  go_enter Try.func74, Try.ntmps74
  go_wp2_with fail
  refine HS.out.mono ?_
  rintro e w1 ⟨rfl, rfl⟩
  go_wp2
  go_ret
  exact ⟨rfl, rfl⟩
theorem freeNil11_any (w : World) : Calls Try.prog 44 #[.pointer none] w fun e w' => e = .returned (.slice none 0 0) ∧ w = w' := by
  go_enter Try.func44, Try.ntmps44
  go_wp2
  go_ret
  exact ⟨rfl, rfl⟩
theorem handlesNil11_any (w : World) : Calls Try.prog 48 #[.pointer none] w fun e w' => e = .returned (.slice none 0 0) ∧ w = w' := by
  go_enter Try.func48, Try.ntmps48
  go_wp2
  go_ret
  exact ⟨rfl, rfl⟩
theorem withdrawnNil11_any (w : World) : Calls Try.prog 45 #[.pointer none] w fun e w' => e = .returned (.slice none 0 0) ∧ w = w' := by
  go_enter Try.func45, Try.ntmps45
  go_wp2
  go_ret
  exact ⟨rfl, rfl⟩
end Go.Proofs.Ytniccjbcchdkoaa
