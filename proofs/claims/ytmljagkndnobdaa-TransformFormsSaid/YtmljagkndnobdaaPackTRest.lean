/- Texts joined: TransForm TransRest TransRest2 -/
import Derived.Test.YtmljagkndnobdaaPackTWalk
import Derived.Laws.EntriesVeiled
import Derived.Test.YtmljagkndnobdaaDeltaList
import Derived.Test.YtmljagkndnobdaaComposeAll
/- TransForm -/
namespace Go.Proofs.Ytmljagkndnobdaa
open Go.RowKit

def T.TrEnd (first : Bool) (x y : List D.P) (w : World) (e : Ending) (w' : World) : Prop := ∃ v, e = .returned (.tuple #[v, .int .i64 (D.trE first x y)]) ∧ D.Made (D.trP first x y) w v w'
/-- The world in which the walk begins. -/
theorem T.begin_ {w0 : World} {va vb : Value} {first : Bool} {ins cov : Value} (W5 : World) (hW : W5 = (((w0.alloc (.cells #[va, vb, .nilFunc, .nilFunc] 66)).alloc (.cells #[.bool first, .slice none 0 0] 62)).setCell ⟨w0.heap.size, 2, none⟩ ins).setCell ⟨w0.heap.size, 3, none⟩ cov) :
    W5.heap[w0.heap.size]? = some (.cells #[va, vb, ins, cov] 66 (0, 0)) ∧ T.RS w0.heap.size (w0.heap.size + 1) first [] W5 ∧ Below w0.heap.size w0 W5 ∧ ¬ T.RR (w0.heap.size + 1) W5 w0.heap.size := by
  subst hW
  have h1 : ((w0.alloc (.cells #[va, vb, .nilFunc, .nilFunc] 66)).alloc (.cells #[.bool first, .slice none 0 0] 62)).heap[w0.heap.size]? = some (.cells #[va, vb, .nilFunc, .nilFunc] 66 (0, 0)) := (Below.heap_alloc _ _ _ (by simp)).trans (heap_alloc_new w0 _)
  have h2 := (heap_setCell_same _ w0.heap.size 2 _ _ ins h1).trans (show _ = some (.cells #[va, vb, ins, .nilFunc] 66 (0, 0)) from rfl)
  have h3 := (heap_setCell_same _ w0.heap.size 3 _ _ cov h2).trans (show _ = some (.cells #[va, vb, ins, cov] 66 (0, 0)) from rfl)
  have r1 : ((((w0.alloc (.cells #[va, vb, .nilFunc, .nilFunc] 66)).alloc (.cells #[.bool first, .slice none 0 0] 62)).setCell ⟨w0.heap.size, 2, none⟩ ins).setCell ⟨w0.heap.size, 3, none⟩ cov).heap[w0.heap.size + 1]? = some (.cells #[.bool first, .slice none 0 0] 62 (0, 0)) := by
    have h := heap_alloc_new (w0.alloc (.cells #[va, vb, .nilFunc, .nilFunc] 66)) (.cells #[.bool first, .slice none 0 0] 62)
    rw [World.size_alloc] at h
    exact (Below.heap_setCell _ _ _ _ (by simp)).trans ((Below.heap_setCell _ _ _ _ (by simp)).trans h)
  refine ⟨h3, ⟨_, r1, World.ownsRow_nil _ _ _ _, by omega, by simp [World.setCell]; omega⟩, ?_, ?_⟩
  · exact ((((Below.refl _ _).alloc (Nat.le_refl _) _).alloc (by simp) _).setCell (p := ⟨w0.heap.size, 2, none⟩) (Nat.le_refl _) _).setCell (p := ⟨w0.heap.size, 3, none⟩) (Nat.le_refl _) _
  · rintro (h | ⟨a, b, t, q1, q2⟩)
    · omega
    · rw [r1] at q1
      simp only [Option.some.injEq, Obj.cells.injEq, Array.mk.injEq, List.cons.injEq, and_true] at q1
      rw [← q1.1.2] at q2
      cases q2
theorem T.qs_bd {x : List D.P} (h : D.chk x = 0) : (D.nf (D.qs x)).length ≤ 4096 ∧ D.inL (D.nf (D.qs x)) ≤ 1048576 ∧ D.outL (D.nf (D.qs x)) ≤ 1048576 := by
  obtain ⟨_, _, l1, l2, i1, o1⟩ := D.valid_qs h
  have := D.nf_length (D.qs x)
  exact ⟨by omega, by rw [D.inL_nf]; exact i1, by rw [D.outL_nf]; exact o1⟩
theorem T.F_txt (first : Bool) {E : List D.Ev} (h : ∀ e ∈ E, D.evOk e) : ∀ p ∈ (E.flatMap (D.evQ first)).map D.raw, p.t.size ≤ 140737488351232 := fun p hp => by
  obtain ⟨q, hq, rfl⟩ := List.mem_map.1 hp
  obtain ⟨e, he, hqe⟩ := List.mem_flatMap.1 hq
  have ho := h e he
  have hI : ∀ t u : List UInt8, q ∈ D.oI t → t.length ≤ 1048576 → (D.raw q).t.size ≤ 140737488351232 := fun t u hm hl => by
    unfold D.oI at hm
    split at hm
    · cases hm
    · rw [List.mem_singleton.1 hm]
      have := D.size_l t
      show (⟨t.toArray⟩ : ByteArray).size ≤ _
      omega
  have hR : ∀ n, q ∈ D.oR n → (D.raw q).t.size ≤ 140737488351232 := fun n hm => by
    unfold D.oR at hm
    split at hm
    · cases hm
    · rw [List.mem_singleton.1 hm]; exact Nat.zero_le _
  cases e with
  | T s t =>
    have ht : t.length ≤ 1048576 := ho.2
    cases first
    · rcases List.mem_append.1 (show q ∈ D.oI t ++ D.oR s.length from hqe) with hm | hm
      · exact hI t s hm ht
      · exact hR _ hm
    · rcases List.mem_append.1 (show q ∈ D.oR s.length ++ D.oI t from hqe) with hm | hm
      · exact hR _ hm
      · exact hI t s hm ht
  | C u v n =>
    cases u
    · cases hqe
    · have hm : q ∈ [if v then D.Q.R n else D.Q.D n] := by cases v <;> exact hqe
      rw [List.mem_singleton.1 hm]
      cases v <;> exact Nat.zero_le _
set_option maxRecDepth 100000 in
set_option maxHeartbeats 2000000 in
theorem transform_ok (first : Bool) (ao bo : Option Addr) (ca cb : Nat) (x y : List D.P) (w : World) (ha : D.Row w ao x) (hb : D.Row w bo y) (b : D.Bas x y) :
    Calls Try.prog 16 #[.slice ao x.length ca, .slice bo y.length cb, .bool first] w (T.TrEnd first x y w) := by
  have H := Lib.hid (walkOver_ok ao bo ca cb x y w ha hb b)
  obtain ⟨_, px, lx, lx2, ix, ox⟩ := D.valid_qs b.a
  obtain ⟨_, py, ly, ly2, iy, oy⟩ := D.valid_qs b.b
  have hok := D.evL_ok px py b.m ix ox oy
  have hlen : (D.evL (D.qs x) (D.qs y)).length ≤ 8192 := by have := @D.evL_len (D.qs x) (D.qs y); omega
  have hwk := D.wk_of px py b.m
  obtain ⟨n1, n2, n3⟩ := T.qs_bd b.a
  obtain ⟨n4, n5, n6⟩ := T.qs_bd b.b
  have HRun : Hid (∀ (w0 : World) (va vb : Value) (W5 : World), T.Sl w0 va (D.nf (D.qs x)) → T.Sl w0 vb (D.nf (D.qs y)) → W5 = (((w0.alloc (.cells #[va, vb, .nilFunc, .nilFunc] 66)).alloc (.cells #[.bool first, .slice none 0 0] 62)).setCell ⟨w0.heap.size, 2, none⟩ (.func (.func 38) #[.pointer (some ⟨w0.heap.size + 1, 0, none⟩)] #[])).setCell ⟨w0.heap.size, 3, none⟩ (.func (.func 39) #[.pointer (some ⟨w0.heap.size + 1, 0, none⟩)] #[]) →
      Calls Try.prog 40 #[.pointer (some ⟨w0.heap.size, 0, none⟩)] W5 fun e W' => e = .returned (.tuple #[]) ∧ T.RS w0.heap.size (w0.heap.size + 1) first (T.F first (D.evL (D.qs x) (D.qs y)) (D.evL (D.qs x) (D.qs y)).length) W' ∧ Below w0.heap.size w0 W') := fun w0 va vb W5 h1 h2 hW => by
    obtain ⟨k1, k2, k3, k4⟩ := T.begin_ W5 hW
    exact run_any w0 w0.heap.size _ _ _ _ _ _ _ _ _ (T.acc_result w0 (w0.heap.size + 1) first (D.evL (D.qs x) (D.qs y)) hok (by omega)) _ _ _ va vb W5 k1 h1 h2 (Nat.le_refl _) k3 k2 k4 hwk rfl n2 n5 (by omega) (by omega)
  clear ha hb
  go_enter Try.func16, Try.ntmps16
  go_wp2_with fail
  refine H.out.mono ?_
  rintro e w1 ⟨w0, va, vb, rfl, rfl, hsa, hsb, hbw⟩
  have HR := fun W5 => HRun.out w0 va vb W5 hsa hsb
  have HR := Lib.hid HR
  obtain ⟨W4, hW4⟩ : ∃ W4, Hid (W4 = (w0.alloc (.cells #[va, vb, .nilFunc, .nilFunc] 66)).alloc (.cells #[.bool first, .slice none 0 0] 62)) := ⟨_, rfl⟩
  have hnew : W4.heap[w0.heap.size]? = some (.cells #[va, vb, .nilFunc, .nilFunc] 66 (0, 0)) := by
    rw [hW4.out]
    exact (Below.heap_alloc _ _ _ (by simp)).trans (heap_alloc_new w0 _)
  have HB := Lib.hid hbw
  obtain ⟨_, _, c2, c3, c4⟩ := T.walk_cells hnew
  clear hsa hsb hbw hnew H HRun
  go_upto_region 5 with (fail)
  rw [← hW4.out]
  rw [← hW4.out] at HR
  clear hW4
  obtain ⟨wb, hwb⟩ : ∃ wb, Hid (w0.heap.size = wb) := ⟨_, rfl⟩
  rw [hwb.out] at HR c2 c3 c4 ⊢
  have HR := Lib.hid (HR.out _ rfl)
  go_wp2_with fail
  refine HR.out.mono ?_
  rintro e w2 ⟨rfl, hrs, hbw2⟩
  rw [← hwb.out] at hrs hbw2
  obtain ⟨v, hbx, hown, _, _⟩ := hrs
  have hF : T.F first (D.evL (D.qs x) (D.qs y)) (D.evL (D.qs x) (D.qs y)).length = ((D.evL (D.qs x) (D.qs y)).flatMap (D.evQ first)).map D.raw := by unfold T.F; rw [List.take_length]
  rw [hF] at hown
  have hPl := D.evs_lenQ first (D.evL (D.qs x) (D.qs y))
  have hpos := D.allPos_evQ first hok
  have htx := T.F_txt first hok
  have htf := D.evL_tf first px py b.m
  have he : D.trE first x y = if D.chk ((D.nf ((D.evL (D.qs x) (D.qs y)).flatMap (D.evQ first))).map D.raw) = 0 then 0 else 5 := by
    rw [b.err, htf]; rfl
  have hp : D.trP first x y = if D.chk ((D.nf ((D.evL (D.qs x) (D.qs y)).flatMap (D.evQ first))).map D.raw) = 0 then (D.nf ((D.evL (D.qs x) (D.qs y)).flatMap (D.evQ first))).map D.raw else [] := by
    unfold D.trP
    rw [he, htf]
    unfold D.tfP
    split <;> simp
  obtain ⟨X, hX⟩ : ∃ X, Hid ((D.evL (D.qs x) (D.qs y)).flatMap (D.evQ first) = X) := ⟨_, rfl⟩
  rw [hX.out] at hown hPl hpos htx he hp
  obtain ⟨P, hP⟩ : ∃ P, Hid (P = X.map D.raw) := ⟨_, rfl⟩
  rw [← hP.out] at hown htx
  have hPl2 : P.length ≤ 16384 := by rw [hP.out, List.length_map]; omega
  have hm : D.Made P w0 v w2 := ⟨hown, hbw2⟩
  obtain ⟨xo, xc, hv, hrow, hcap, hao⟩ := C.made_src hm
  subst hv
  have k1 : w2.cell? ⟨wb + 1, 1, none⟩ = some (.slice xo P.length xc) := by rw [← hwb.out]; exact Lib.cell_of_heap hbx 1
  have HB2 := Lib.hid (HB.out.trans (hbw2.mono HB.out.size))
  have HR := Lib.hid (And.intro hrow (And.intro hcap (And.intro hao hPl2)))
  have Hin := Lib.hid (And.intro hpos (And.intro htx (And.intro he hp)))
  clear hm hown hbx hbw2 hrow hcap hao hPl2 hPl hpos htx htf he hp hF hX hok hlen hwk n1 n2 n3 n4 n5 n6 b px py lx lx2 ix ox ly ly2 iy oy c2 c3 c4 HB
  go_wp2_with fail
  refine (chunk_any xo P.length xc w2).mono ?_
  rintro e w3 ⟨rfl, rfl⟩
  have hB3 : Below w2.heap.size w2 ((w2.alloc (.cells #[.slice xo P.length xc] 22)).alloc (.cells #[.int .i64 4096] 3)) := ((Below.refl _ _).alloc (Nat.le_refl _) _).alloc (by simp) _
  have hs3 : ((w2.alloc (.cells #[.slice xo P.length xc] 22)).alloc (.cells #[.int .i64 4096] 3)).heap.size = w2.heap.size + 2 := by simp
  have k0 : ((w2.alloc (.cells #[.slice xo P.length xc] 22)).alloc (.cells #[.int .i64 4096] 3)).cell? ⟨w2.heap.size, 0, none⟩ = some (.slice xo P.length xc) := by
    rw [Lib.cell_of_heap ((heap_alloc_old _ _ (by simp)).trans (heap_alloc_new w2 _))]; rfl
  have k1 : ((w2.alloc (.cells #[.slice xo P.length xc] 22)).alloc (.cells #[.int .i64 4096] 3)).cell? ⟨w2.heap.size + 1, 0, none⟩ = some (.int .i64 4096) := by
    have h := heap_alloc_new (w2.alloc (.cells #[.slice xo P.length xc] 22)) (.cells #[.int .i64 4096] 3)
    rw [World.size_alloc] at h
    rw [Lib.cell_of_heap h]; rfl
  generalize ((w2.alloc (.cells #[.slice xo P.length xc] 22)).alloc (.cells #[.int .i64 4096] 3)) = W3 at hB3 hs3 k0 k1 ⊢
  have HC := Lib.hid (collect_any 69 #[.pointer (some ⟨w2.heap.size, 0, none⟩), .pointer (some ⟨w2.heap.size + 1, 0, none⟩)] (enters_of Try.func69 (by kernel_rfl) rfl) (C.ps xo P) (C.num P) (by unfold C.num; have := HR.out.2.2.2; omega) W3
    (fun V hV => chunk_stops 2 (by omega) w2.heap.size (w2.heap.size + 1) W3.heap.size xo xc P HR.out.2.2.1 HR.out.2.1 (Nat.le_trans HR.out.2.2.2 (by omega)) (by omega) (by omega) V hV.size ((hV.cell (p := ⟨w2.heap.size, 0, none⟩) (by simp only; omega)).trans k0) ((hV.cell (p := ⟨w2.heap.size + 1, 0, none⟩) (by simp only; omega)).trans k1)))
  have HB3 := Lib.hid (And.intro hB3 (HB2.out.trans (hB3.mono HB2.out.size)))
  clear hB3 hs3 k0 k1
  go_wp2_with fail
  refine HC.out.mono ?_
  rintro e w4 ⟨v, rfl, hO, hb4⟩
  have hBB := HB3.out.1.trans (hb4.mono HB3.out.1.size)
  obtain ⟨lo, c, hv, hrows, hl2, hj, hjp⟩ := T.ps_rows hP.out Hin.out.1 Hin.out.2.1 (Nat.le_trans HR.out.2.2.2 (by omega)) (HR.out.1.below hBB) HR.out.2.2.1 hO
  subst hv
  rw [← Hin.out.2.2.1] at hj
  rw [← Hin.out.2.2.2] at hjp
  have HJ := Lib.hid (join_any lo c (C.ps xo P) w4 hl2 hrows)
  unfold D.JoinEnd at HJ
  rw [hj, hjp] at HJ
  have HB4 := Lib.hid (HB3.out.2.trans (hb4.mono HB3.out.2.size))
  clear hO hb4 hBB hrows hl2 hj hjp HC HB3 HR HB2 Hin hP
  generalize (C.ps xo P).length = m at HJ
  go_wp2_with fail
  refine HJ.out.mono ?_
  rintro e w5 ⟨v, rfl, hm⟩
  have R : Hid (T.TrEnd first x y w (.returned (.tuple #[v, .int .i64 (D.trE first x y)])) w5) := ⟨v, rfl, D.own_mono hm.own HB4.out.size, HB4.out.trans (hm.below.mono HB4.out.size)⟩
  obtain ⟨va', vc', hv⟩ := D.slice_of_own hm.own
  subst hv
  clear hm HJ HB4
  go_wp2
  go_ret2
  exact R.out
set_option maxRecDepth 100000 in
theorem transform_any (first : Bool) (ao bo : Option Addr) (ca cb : Nat) (x y : List D.P) (w : World) (ha : D.Row w ao x) (hb : D.Row w bo y) (bx : D.Bd x) (by_ : D.Bd y) :
    Calls Try.prog 16 #[.slice ao x.length ca, .slice bo y.length cb, .bool first] w (T.TrEnd first x y w) := by
  by_cases hbad : D.bas2 x y = 0
  · exact transform_ok first ao bo ca cb x y w ha hb (D.bas_of hbad)
  · have H := Lib.hid (walkOver_bad ao bo ca cb x y w ha hb bx by_ hbad)
    have R : Hid (∀ w', Below w.heap.size w w' → T.TrEnd first x y w (.returned (.tuple #[.slice none 0 0, .int .i64 (D.bas2 x y)])) w') := fun w' h => by
      obtain ⟨e1, e2⟩ := D.tr_bad (first := first) hbad
      exact ⟨_, by rw [e1], by rw [e2]; exact D.Made.nil w h⟩
    have q : (D.bas2 x y != 0) = true := by simpa using hbad
    clear ha hb bx by_ hbad
    generalize D.bas2 x y = c at H R q
    go_enter Try.func16, Try.ntmps16
    go_wp2_with fail
    refine H.out.mono ?_
    rintro e w1 ⟨rfl, hb1⟩
    have R := Lib.hid (R.out w1 hb1)
    clear hb1
    go_wp2
    go_ret2
    exact R.out
end Go.Proofs.Ytmljagkndnobdaa
/- TransRest -/
namespace Go.Proofs.Ytmljagkndnobdaa
open Go.RowKit

/-! ### Disjoint -/
def T.MS (mb : Nat) (b : Bool) (W : World) : Prop := W.heap[mb]? = some (.cells #[.bool b] 4 (0, 0))
set_option maxRecDepth 100000 in
theorem disj1_any (mb : Nat) (b : Bool) (s t : List UInt8) (W : World) (h : T.MS mb b W) :
    Calls Try.prog 46 #[.string ⟨s.toArray⟩, .string ⟨t.toArray⟩, .pointer (some ⟨mb, 0, none⟩)] W fun e W' => e = .returned (.tuple #[]) ∧ W.setCell ⟨mb, 0, none⟩ (.bool (b || (!s.isEmpty && !t.isEmpty))) = W' := by
  have c0 : W.cell? ⟨mb, 0, none⟩ = some (.bool b) := Lib.cell_of_heap h 0
  have fz : W.frozen? ⟨mb, 0, none⟩ = false := frozen_of_row _ _ _ _ _ h
  clear h
  cases b with
  | true =>
    go_enter Try.func46, Try.ntmps46
    go_wp2
    go_end0
    exact ⟨rfl, rfl⟩
  | false =>
    cases hs : s.isEmpty with
    | true =>
      obtain rfl : s = [] := List.isEmpty_iff.1 hs
      clear hs
      go_enter Try.func46, Try.ntmps46
      go_wp2
      go_end0
      exact ⟨rfl, rfl⟩
    | false =>
      cases ht : t.isEmpty with
      | true =>
        obtain rfl : t = [] := List.isEmpty_iff.1 ht
        clear ht
        go_enter Try.func46, Try.ntmps46
        go_wp2
        go_end0
        exact ⟨rfl, rfl⟩
      | false =>
        go_enter Try.func46, Try.ntmps46
        go_wp2
        go_end0
        exact ⟨rfl, rfl⟩
set_option maxRecDepth 100000 in
theorem disj2_any (mb : Nat) (b x y : Bool) (n : Nat) (W : World) (h : T.MS mb b W) :
    Calls Try.prog 47 #[.int .u8 (T.kd x), .int .u8 (T.kd y), .int .i64 n, .pointer (some ⟨mb, 0, none⟩)] W fun e W' => e = .returned (.tuple #[]) ∧ W.setCell ⟨mb, 0, none⟩ (.bool (b || (!x && !y))) = W' := by
  have c0 : W.cell? ⟨mb, 0, none⟩ = some (.bool b) := Lib.cell_of_heap h 0
  have fz : W.frozen? ⟨mb, 0, none⟩ = false := frozen_of_row _ _ _ _ _ h
  clear h
  unfold T.kd
  cases b <;> cases x <;> cases y
  all_goals
    go_enter Try.func47, Try.ntmps47
    go_wp2
    go_end0
    exact ⟨rfl, rfl⟩
theorem T.ms_step {w0 : World} {mb : Nat} {E : List D.Ev} {k : Nat} {e : D.Ev} {W : World} (he : E[k]? = some e) (h : T.MS mb ((E.take k).any D.evM) W) (hge : w0.heap.size ≤ mb) (v : Bool) (hv : v = ((E.take k).any D.evM || D.evM e)) :
    T.Step w0 (fun k W => T.MS mb ((E.take k).any D.evM) W) (fun _ j => j = mb) k W (.returned (.tuple #[])) (W.setCell ⟨mb, 0, none⟩ (.bool v)) := by
  subst hv
  have e1 : (E.take (k + 1)).any D.evM = ((E.take k).any D.evM || D.evM e) := by
    rw [List.take_add_one, he, Option.toList_some, List.any_append]; simp
  refine ⟨rfl, ?_, (Below.refl _ _).setCell (p := ⟨mb, 0, none⟩) hge _, fun j _ hn => ⟨Below.heap_setCell _ _ _ _ hn, hn⟩⟩
  show T.MS mb ((E.take (k + 1)).any D.evM) _
  rw [e1]
  exact (heap_setCell_same W mb 0 _ _ _ h).trans rfl
theorem T.enters_d1 : A.Enters 46 := enters_of Try.func46 (by kernel_rfl) rfl
theorem T.enters_d2 : A.Enters 47 := enters_of Try.func47 (by kernel_rfl) rfl
theorem T.acc_meet (w0 : World) (mb : Nat) (E : List D.Ev) (hge : w0.heap.size ≤ mb) :
    T.Acc w0 E 46 47 #[] #[.pointer (some ⟨mb, 0, none⟩)] #[] #[.pointer (some ⟨mb, 0, none⟩)] (fun k W => T.MS mb ((E.take k).any D.evM) W) (fun _ j => j = mb) where
  on := fun k W W' h _ hk => ⟨(hk mb (Array.getElem?_eq_some_iff.1 h).1 rfl).trans h, fun _ hn => hn⟩
  lt := fun k W j h hr => by subst hr; exact (Array.getElem?_eq_some_iff.1 h).1
  ei := T.enters_d1
  ec := T.enters_d2
  stepT := fun k s t W he h => (disj1_any mb _ s t W h).mono (by
    rintro e W' ⟨rfl, rfl⟩
    exact T.ms_step he h hge _ rfl)
  stepC := fun k x y n W he h => (disj2_any mb _ x y n W h).mono (by
    rintro e W' ⟨rfl, rfl⟩
    exact T.ms_step he h hge _ rfl)
theorem T.begin2 {w0 : World} {va vb : Value} {ins cov : Value} (W5 : World) (hW : W5 = (((w0.alloc (.cells #[va, vb, .nilFunc, .nilFunc] 66)).alloc (.cells #[.bool false] 4)).setCell ⟨w0.heap.size, 2, none⟩ ins).setCell ⟨w0.heap.size, 3, none⟩ cov) :
    W5.heap[w0.heap.size]? = some (.cells #[va, vb, ins, cov] 66 (0, 0)) ∧ T.MS (w0.heap.size + 1) false W5 ∧ Below w0.heap.size w0 W5 := by
  subst hW
  have h1 : ((w0.alloc (.cells #[va, vb, .nilFunc, .nilFunc] 66)).alloc (.cells #[.bool false] 4)).heap[w0.heap.size]? = some (.cells #[va, vb, .nilFunc, .nilFunc] 66 (0, 0)) := (Below.heap_alloc _ _ _ (by simp)).trans (heap_alloc_new w0 _)
  have h2 := (heap_setCell_same _ w0.heap.size 2 _ _ ins h1).trans (show _ = some (.cells #[va, vb, ins, .nilFunc] 66 (0, 0)) from rfl)
  have h3 := (heap_setCell_same _ w0.heap.size 3 _ _ cov h2).trans (show _ = some (.cells #[va, vb, ins, cov] 66 (0, 0)) from rfl)
  have r1 : ((((w0.alloc (.cells #[va, vb, .nilFunc, .nilFunc] 66)).alloc (.cells #[.bool false] 4)).setCell ⟨w0.heap.size, 2, none⟩ ins).setCell ⟨w0.heap.size, 3, none⟩ cov).heap[w0.heap.size + 1]? = some (.cells #[.bool false] 4 (0, 0)) := by
    have h := heap_alloc_new (w0.alloc (.cells #[va, vb, .nilFunc, .nilFunc] 66)) (.cells #[.bool false] 4)
    rw [World.size_alloc] at h
    exact (Below.heap_setCell _ _ _ _ (by simp)).trans ((Below.heap_setCell _ _ _ _ (by simp)).trans h)
  exact ⟨h3, r1, ((((Below.refl _ _).alloc (Nat.le_refl _) _).alloc (by simp) _).setCell (p := ⟨w0.heap.size, 2, none⟩) (Nat.le_refl _) _).setCell (p := ⟨w0.heap.size, 3, none⟩) (Nat.le_refl _) _⟩
def T.DsEnd (x y : List D.P) (w : World) (e : Ending) (w' : World) : Prop := e = .returned (.tuple #[.bool (D.dsB x y), .int .i64 (D.bas2 x y)]) ∧ Below w.heap.size w w'
set_option maxRecDepth 100000 in
set_option maxHeartbeats 2000000 in
theorem disjoint_any (ao bo : Option Addr) (ca cb : Nat) (x y : List D.P) (w : World) (ha : D.Row w ao x) (hb : D.Row w bo y) (bx : D.Bd x) (by_ : D.Bd y) :
    Calls Try.prog 24 #[.slice ao x.length ca, .slice bo y.length cb] w (T.DsEnd x y w) := by
  by_cases hbad : D.bas2 x y = 0
  · have b := D.bas_of hbad
    have H := Lib.hid (walkOver_ok ao bo ca cb x y w ha hb b)
    obtain ⟨_, px, lx, lx2, ix, ox⟩ := D.valid_qs b.a
    obtain ⟨_, py, ly, ly2, iy, oy⟩ := D.valid_qs b.b
    have hwk := D.wk_of px py b.m
    obtain ⟨n1, n2, n3⟩ := T.qs_bd b.a
    obtain ⟨n4, n5, n6⟩ := T.qs_bd b.b
    have hds : D.dsB x y = !(D.evL (D.qs x) (D.qs y)).any D.evM := by
      unfold D.dsB
      rw [if_pos hbad, D.evL_apart px py b.m, Bool.not_not]
    have RR : Hid (∀ w', Below w.heap.size w w' → T.DsEnd x y w (.returned (.tuple #[.bool (!(D.evL (D.qs x) (D.qs y)).any D.evM), .int .i64 0])) w') := fun w' h => ⟨by rw [hds, hbad], h⟩
    have HRun : Hid (∀ (w0 : World) (va vb : Value) (W5 : World), T.Sl w0 va (D.nf (D.qs x)) → T.Sl w0 vb (D.nf (D.qs y)) → W5 = (((w0.alloc (.cells #[va, vb, .nilFunc, .nilFunc] 66)).alloc (.cells #[.bool false] 4)).setCell ⟨w0.heap.size, 2, none⟩ (.func (.func 46) #[] #[.pointer (some ⟨w0.heap.size + 1, 0, none⟩)])).setCell ⟨w0.heap.size, 3, none⟩ (.func (.func 47) #[] #[.pointer (some ⟨w0.heap.size + 1, 0, none⟩)]) →
        Calls Try.prog 40 #[.pointer (some ⟨w0.heap.size, 0, none⟩)] W5 fun e W' => e = .returned (.tuple #[]) ∧ T.MS (w0.heap.size + 1) (((D.evL (D.qs x) (D.qs y)).take (D.evL (D.qs x) (D.qs y)).length).any D.evM) W' ∧ Below w0.heap.size w0 W') := fun w0 va vb W5 h1 h2 hW => by
      obtain ⟨k1, k2, k3⟩ := T.begin2 W5 hW
      exact run_any w0 w0.heap.size _ _ _ _ _ _ _ _ _ (T.acc_meet w0 (w0.heap.size + 1) (D.evL (D.qs x) (D.qs y)) (by omega)) _ _ _ va vb W5 k1 h1 h2 (Nat.le_refl _) k3 k2 (by omega) hwk rfl n2 n5 (by omega) (by omega)
    rw [List.take_length] at HRun
    clear ha hb bx by_ hbad hds b px lx lx2 ix ox py ly ly2 iy oy hwk n1 n2 n3 n4 n5 n6
    generalize (D.evL (D.qs x) (D.qs y)).any D.evM = met at RR HRun
    go_enter Try.func24, Try.ntmps24
    go_wp2_with fail
    refine H.out.mono ?_
    rintro e w1 ⟨w0, va, vb, rfl, rfl, hsa, hsb, hbw⟩
    have HR := fun W5 => HRun.out w0 va vb W5 hsa hsb
    have HR := Lib.hid HR
    obtain ⟨W4, hW4⟩ : ∃ W4, Hid (W4 = (w0.alloc (.cells #[va, vb, .nilFunc, .nilFunc] 66)).alloc (.cells #[.bool false] 4)) := ⟨_, rfl⟩
    have hnew : W4.heap[w0.heap.size]? = some (.cells #[va, vb, .nilFunc, .nilFunc] 66 (0, 0)) := by
      rw [hW4.out]
      exact (Below.heap_alloc _ _ _ (by simp)).trans (heap_alloc_new w0 _)
    have HB := Lib.hid hbw
    obtain ⟨_, _, c2, c3, c4⟩ := T.walk_cells hnew
    clear hsa hsb hbw hnew H HRun
    go_upto_region 5 with (fail)
    rw [← hW4.out]
    rw [← hW4.out] at HR
    clear hW4
    obtain ⟨wb, hwb⟩ : ∃ wb, Hid (w0.heap.size = wb) := ⟨_, rfl⟩
    rw [hwb.out] at HR c2 c3 c4 ⊢
    have HR := Lib.hid (HR.out _ rfl)
    go_wp2_with fail
    refine HR.out.mono ?_
    rintro e w2 ⟨rfl, hms, hbw2⟩
    have d0 : w2.cell? ⟨wb + 1, 0, none⟩ = some (.bool met) := Lib.cell_of_heap hms 0
    have R := Lib.hid (RR.out w2 (HB.out.trans (Below.mono hbw2 (by have := HB.out.size; have := hwb.out; omega))))
    clear hms hbw2 HR c2 c3 c4
    go_wp2
    go_ret2
    exact R.out
  · have H := Lib.hid (walkOver_bad ao bo ca cb x y w ha hb bx by_ hbad)
    have R : Hid (∀ w', Below w.heap.size w w' → T.DsEnd x y w (.returned (.tuple #[.bool false, .int .i64 (D.bas2 x y)])) w') := fun w' h => by
      have e : D.dsB x y = false := if_neg hbad
      exact ⟨by rw [e], h⟩
    have q : (D.bas2 x y != 0) = true := by simpa using hbad
    clear ha hb bx by_ hbad
    generalize D.bas2 x y = c at H R q
    go_enter Try.func24, Try.ntmps24
    go_wp2_with fail
    refine H.out.mono ?_
    rintro e w1 ⟨rfl, hb1⟩
    have R := Lib.hid (R.out w1 hb1)
    clear hb1
    go_wp2
    go_ret2
    exact R.out
end Go.Proofs.Ytmljagkndnobdaa
/- TransRest2 -/
namespace Go.Proofs.Ytmljagkndnobdaa
open Go.RowKit

theorem T.tr_bd (first : Bool) (x y : List D.P) : D.Bd (D.trP first x y) := by
  by_cases h : D.trE first x y = 0
  · exact D.bd_of (D.tr_of h).ok
  · rw [D.tr_nil h]; exact ⟨Nat.zero_le _, fun p hp => by cases hp⟩
theorem T.pr_bad1 {x y : List D.P} (h : D.trE true x y ≠ 0) : D.prE x y = D.trE true x y ∧ D.prA x y = [] ∧ D.prB x y = [] := by
  have e : D.prE x y = D.trE true x y := if_neg h
  exact ⟨e, if_neg (by rw [e]; exact h), if_neg (by rw [e]; exact h)⟩
theorem T.pr_bad2 {x y : List D.P} (h0 : D.trE true x y = 0) (h : D.trE false y x ≠ 0) : D.prE x y = D.trE false y x ∧ D.prA x y = [] ∧ D.prB x y = [] := by
  have e : D.prE x y = D.trE false y x := if_pos h0
  exact ⟨e, if_neg (by rw [e]; exact h), if_neg (by rw [e]; exact h)⟩
theorem T.pr_good {x y : List D.P} (h0 : D.trE true x y = 0) (h : D.trE false y x = 0) : D.prE x y = 0 ∧ D.prA x y = D.trP false y x ∧ D.prB x y = D.trP true x y := by
  have e : D.prE x y = 0 := (if_pos h0).trans h
  exact ⟨e, if_pos e, if_pos e⟩
def T.PrEnd (x y : List D.P) (w : World) (e : Ending) (w' : World) : Prop := ∃ v u, e = .returned (.tuple #[v, u, .int .i64 (D.prE x y)]) ∧ D.Made (D.prA x y) w v w' ∧ D.Made (D.prB x y) w u w'
set_option maxRecDepth 100000 in
set_option maxHeartbeats 1000000 in
theorem pair_any (ao bo : Option Addr) (ca cb : Nat) (x y : List D.P) (w : World) (ha : D.Row w ao x) (hb : D.Row w bo y) (bx : D.Bd x) (by_ : D.Bd y) :
    Calls Try.prog 18 #[.slice ao x.length ca, .slice bo y.length cb] w (T.PrEnd x y w) := by
  have H1 := Lib.hid (transform_any true ao bo ca cb x y w ha hb bx by_)
  have H2 : Hid (∀ V, Below w.heap.size w V → Calls Try.prog 16 #[.slice bo y.length cb, .slice ao x.length ca, .bool false] V (T.TrEnd false y x V)) := fun V h => transform_any false bo ao cb ca y x V (hb.below h) (ha.below h) by_ bx
  unfold T.TrEnd at H1 H2
  clear ha hb bx by_
  by_cases h0 : D.trE true x y = 0
  · rw [h0] at H1
    by_cases h1 : D.trE false y x = 0
    · rw [h1] at H2
      have R : Hid (∀ v u w', D.Made (D.trP false y x) w v w' → D.Made (D.trP true x y) w u w' → T.PrEnd x y w (.returned (.tuple #[v, u, .int .i64 0])) w') := fun v u w' q1 q2 => by
        obtain ⟨e1, e2, e3⟩ := T.pr_good h0 h1
        exact ⟨v, u, by rw [e1], by rw [e2]; exact q1, by rw [e3]; exact q2⟩
      clear h0 h1
      go_enter Try.func18, Try.ntmps18
      go_wp2_with fail
      refine H1.out.mono ?_
      rintro e w1 ⟨u, rfl, hm1⟩
      obtain ⟨uo, uc, hv⟩ := D.slice_of_own hm1.own
      have H2 := Lib.hid (H2.out w1 hm1.below)
      have hm1 := Lib.hid hm1
      subst hv
      clear H1
      go_wp2_with fail
      refine H2.out.mono ?_
      rintro e w2 ⟨v, rfl, hm2⟩
      have R := Lib.hid (R.out v _ w2 (C.made_trans hm1.out.below hm2) ⟨D.own_below hm1.out.own hm2.below, hm1.out.below.trans (hm2.below.mono hm1.out.below.size)⟩)
      obtain ⟨vo, vc, hv⟩ := D.slice_of_own hm2.own
      subst hv
      clear hm1 hm2 H2
      generalize (D.trP false y x).length = n1 at R ⊢
      generalize (D.trP true x y).length = n2 at R ⊢
      go_wp2
      refine bodyPost_ret (v := .tuple #[.slice vo n1 vc, .slice uo n2 uc, .int .i64 0]) ?_ rfl R.out
      simp [results, Try.results18, go_sem]
    · have R : Hid (∀ w', Below w.heap.size w w' → T.PrEnd x y w (.returned (.tuple #[.slice none 0 0, .slice none 0 0, .int .i64 (D.trE false y x)])) w') := fun w' q1 => by
        obtain ⟨e1, e2, e3⟩ := T.pr_bad2 h0 h1
        exact ⟨_, _, by rw [e1], by rw [e2]; exact D.Made.nil w q1, by rw [e3]; exact D.Made.nil w q1⟩
      have q : (D.trE false y x != 0) = true := by simpa using h1
      clear h0 h1
      generalize D.trE false y x = c at H2 q R
      go_enter Try.func18, Try.ntmps18
      go_wp2_with fail
      refine H1.out.mono ?_
      rintro e w1 ⟨u, rfl, hm1⟩
      obtain ⟨uo, uc, hv⟩ := D.slice_of_own hm1.own
      have H2 := Lib.hid (H2.out w1 hm1.below)
      have hB1 := Lib.hid hm1.below
      subst hv
      clear H1
      go_wp2_with fail
      refine H2.out.mono ?_
      rintro e w2 ⟨v, rfl, hm2⟩
      have R := Lib.hid (R.out w2 (hB1.out.trans (hm2.below.mono hB1.out.size)))
      obtain ⟨vo, vc, hv⟩ := D.slice_of_own hm2.own
      subst hv
      clear hm1 hm2 H2
      generalize (D.trP false y x).length = n1
      generalize (D.trP true x y).length = n2
      go_wp2
      refine bodyPost_ret (v := .tuple #[.slice none 0 0, .slice none 0 0, .int .i64 c]) ?_ rfl R.out
      simp [results, Try.results18, go_sem]
  · have R : Hid (∀ w', Below w.heap.size w w' → T.PrEnd x y w (.returned (.tuple #[.slice none 0 0, .slice none 0 0, .int .i64 (D.trE true x y)])) w') := fun w' q1 => by
      obtain ⟨e1, e2, e3⟩ := T.pr_bad1 h0
      exact ⟨_, _, by rw [e1], by rw [e2]; exact D.Made.nil w q1, by rw [e3]; exact D.Made.nil w q1⟩
    have q : (D.trE true x y != 0) = true := by simpa using h0
    clear h0 H2
    generalize D.trE true x y = c at H1 q R
    go_enter Try.func18, Try.ntmps18
    go_wp2_with fail
    refine H1.out.mono ?_
    rintro e w1 ⟨u, rfl, hm1⟩
    obtain ⟨uo, uc, hv⟩ := D.slice_of_own hm1.own
    have R := Lib.hid (R.out w1 hm1.below)
    subst hv
    clear hm1 H1
    generalize (D.trP true x y).length = n2
    go_wp2
    refine bodyPost_ret (v := .tuple #[.slice none 0 0, .slice none 0 0, .int .i64 c]) ?_ rfl R.out
    simp [results, Try.results18, go_sem]
def T.MrEnd (x y : List D.P) (w : World) (e : Ending) (w' : World) : Prop := ∃ v, e = .returned (.tuple #[v, .int .i64 (D.mrE x y)]) ∧ D.Made (D.mrP x y) w v w'
set_option maxRecDepth 100000 in
set_option maxHeartbeats 1000000 in
theorem merge_any (ao bo : Option Addr) (ca cb : Nat) (x y : List D.P) (w : World) (ha : D.Row w ao x) (hb : D.Row w bo y) (bx : D.Bd x) (by_ : D.Bd y) (la : x.length ≤ ca) :
    Calls Try.prog 20 #[.slice ao x.length ca, .slice bo y.length cb] w (T.MrEnd x y w) := by
  have H1 := Lib.hid (transform_any true ao bo ca cb x y w ha hb bx by_)
  unfold T.TrEnd at H1
  by_cases h0 : D.trE true x y = 0
  · rw [h0] at H1
    have H2 : Hid (∀ V uo uc, Below w.heap.size w V → D.Row V uo (D.trP true x y) → (D.trP true x y).length ≤ uc → Calls Try.prog 27 #[.slice ao x.length ca, .slice uo (D.trP true x y).length uc] V (C.CmpEnd x (D.trP true x y) V)) := fun V uo uc h h2 h3 => compose_any ao uo ca uc x _ V (ha.below h) h2 bx (T.tr_bd _ _ _) la h3
    obtain ⟨m1, m2⟩ := D.mr_of h0
    have R : Hid (∀ v w', D.Made (D.cmpP x (D.trP true x y)) w v w' → T.MrEnd x y w (.returned (.tuple #[v, .int .i64 (D.cmpE x (D.trP true x y))])) w') := fun v w' q => ⟨v, by rw [m1], by rw [m2]; exact q⟩
    unfold C.CmpEnd at H2
    clear ha hb bx by_ la h0 m1 m2
    generalize D.cmpE x (D.trP true x y) = c at H2 R
    generalize D.cmpP x (D.trP true x y) = Q at H2 R
    generalize D.trP true x y = P at H1 H2
    go_enter Try.func20, Try.ntmps20
    go_wp2_with fail
    refine H1.out.mono ?_
    rintro e w1 ⟨u, rfl, hm1⟩
    obtain ⟨uo, uc, hv, hrow, hcap, _⟩ := C.made_src hm1
    have H2 := Lib.hid (H2.out w1 uo uc hm1.below hrow hcap)
    have hB1 := Lib.hid hm1.below
    subst hv
    clear H1 hrow hcap
    go_wp2_with fail
    refine H2.out.mono ?_
    rintro e w2 ⟨v, rfl, hm2⟩
    have R := Lib.hid (R.out v w2 (C.made_trans hB1.out hm2))
    obtain ⟨vo, vc, hv⟩ := D.slice_of_own hm2.own
    subst hv
    clear hm1 hm2 H2
    go_wp2
    go_ret2
    exact R.out
  · have R : Hid (∀ w', Below w.heap.size w w' → T.MrEnd x y w (.returned (.tuple #[.slice none 0 0, .int .i64 (D.trE true x y)])) w') := fun w' q => by
      have e1 : D.mrE x y = D.trE true x y := if_neg h0
      have e2 : D.mrP x y = [] := if_neg h0
      exact ⟨_, by rw [e1], by rw [e2]; exact D.Made.nil w q⟩
    have q : (D.trE true x y != 0) = true := by simpa using h0
    clear ha hb bx by_ la h0
    generalize D.trE true x y = c at H1 q R
    go_enter Try.func20, Try.ntmps20
    go_wp2_with fail
    refine H1.out.mono ?_
    rintro e w1 ⟨u, rfl, hm1⟩
    obtain ⟨uo, uc, hv⟩ := D.slice_of_own hm1.own
    have R := Lib.hid (R.out w1 hm1.below)
    subst hv
    clear hm1 H1
    generalize (D.trP true x y).length = n2
    go_wp2
    go_ret2
    exact R.out

/-! ### Rebase -/
def T.RbEnd (d : List D.P) (Ls : List (List D.P)) (w : World) (e : Ending) (w' : World) : Prop := ∃ v, e = .returned (.tuple #[v, .int .i64 (D.rebS d Ls).1]) ∧ D.Made (D.rebS d Ls).2 w v w'
theorem T.reb_bd (d : List D.P) (L : List (List D.P)) : D.Bd (D.rebS d L).2 := by
  by_cases h : (D.rebS d L).1 = 0
  · exact D.bd_of (D.rebS_ok d L h).1
  · rw [D.rebS_bad d L h]; exact ⟨Nat.zero_le _, fun p hp => by cases hp⟩
theorem T.reb_split (d : List D.P) (L : List (List D.P)) (k : Nat) : D.rebS d L = (L.drop k).foldl D.stepT (D.rebS d (L.take k)) := by
  unfold D.rebS
  rw [← List.foldl_append, List.take_append_drop]
set_option maxRecDepth 100000 in
set_option maxHeartbeats 2000000 in
theorem rebase_any (ao : Option Addr) (ca : Nat) (d : List D.P) (lo : Option Addr) (cap : Nat) (L : List D.Src) (w : World) (ha : D.Row w ao d) (bd : D.Bd d) (hl : L.length ≤ maxLen) (hr : D.Rows w lo L) :
    Calls Try.prog 22 #[.slice ao d.length ca, .slice lo L.length cap] w (T.RbEnd d (L.map D.Src.x) w) := by
  have HI := Lib.hid (normalize_any ao ca d w bd.1 ha bd.2)
  unfold D.NormEnd at HI
  unfold maxLen at hl
  have Hr := Lib.hid hr
  clear hr ha bd
  have h00 : D.rebS d ((L.map D.Src.x).take 0) = (D.chk d, if D.chk d = 0 then D.normP d else []) := rfl
  go_enter Try.func22, Try.ntmps22
  go_wp2_with fail
  refine HI.out.mono ?_
  rintro e w1 ⟨v, rfl, hm⟩
  have HM : Hid (D.Made (D.rebS d ((L.map D.Src.x).take 0)).2 w v w1) := by show D.Made _ _ _ _; rw [h00]; exact hm
  have he0 : D.chk d = (D.rebS d ((L.map D.Src.x).take 0)).1 := by rw [h00]
  obtain ⟨va, vc, hv⟩ := D.slice_of_own hm.own
  subst hv
  clear hm HI h00
  generalize (if D.chk d = 0 then D.normP d else []).length = n0 at HM ⊢
  rw [he0]
  clear he0
  go_wp2
  go_loopw [6, 7, 17] (fun a e i wr => ∃ k : Nat, k ≤ L.length ∧ i = .int .i64 k ∧ e = .int .i64 (D.rebS d ((L.map D.Src.x).take k)).1 ∧ Hid (D.Made (D.rebS d ((L.map D.Src.x).take k)).2 w a wr)) (fun _ _ i _ => L.length - (intOf i).toNat)
  case atStart => exact ⟨0, Nat.zero_le _, rfl, rfl, HM⟩
  case round =>
    clear HM
    obtain ⟨k, hk, rfl, rfl, hm⟩ := hrel
    have hbd := Lib.hid (T.reb_bd d ((L.map D.Src.x).take k))
    have hnil := Lib.hid (D.rebS_bad d ((L.map D.Src.x).take k))
    have happ := Lib.hid (T.reb_split d (L.map D.Src.x) k)
    by_cases hlt : k < L.length
    · obtain ⟨s, hs⟩ : ∃ s, L[k]? = some s := ⟨L[k], List.getElem?_eq_getElem hlt⟩
      obtain ⟨b, o, e, hbl, hcell, hok⟩ := Hr.out k s hs
      subst e
      have hsn := Lib.hid (D.rebS_snoc d (L.map D.Src.x) k s.x (by rw [List.getElem?_map, hs]; rfl))
      generalize D.rebS d ((L.map D.Src.x).take k) = st at hm hbd hnil happ hsn
      obtain ⟨E, P⟩ := st
      dsimp only at *
      have c0 := ((D.bcell hm.out.below).1 b (o + k) hbl).trans hcell
      by_cases hE : E = 0
      · subst hE
        obtain ⟨vo, vc, hv, hrow, hcap, _⟩ := C.made_src hm.out
        subst hv
        have HC := Lib.hid (transform_any true s.a vo s.c vc s.x P wr (hok.row.below hm.out.below) hrow ⟨hok.len, hok.txt⟩ hbd.out)
        unfold T.TrEnd at HC
        have hst : Hid (D.rebS d ((L.map D.Src.x).take (k + 1)) = (D.trE true s.x P, D.trP true s.x P)) := by show _ = _; rw [hsn.out]; rfl
        have hmb := Lib.hid hm.out.below
        clear hs hcell hok hrow hcap hnil hm hbd hsn happ
        go_wp2_with fail
        refine HC.out.mono ?_
        rintro e w2 ⟨v, rfl, hm2⟩
        have HM2 : Hid (D.Made (D.rebS d ((L.map D.Src.x).take (k + 1))).2 w v w2) := by show D.Made _ _ _ _; rw [hst.out]; exact C.made_trans hmb.out hm2
        obtain ⟨xo, xc, hv⟩ := D.slice_of_own hm2.own
        subst hv
        have he : Hid ((D.rebS d ((L.map D.Src.x).take (k + 1))).1 = D.trE true s.x P) := by show _ = _; rw [hst.out]
        clear hm2 HC hst
        go_wp2
        go_roundw
        case rel => exact ⟨k + 1, by omega, by go_num, by rw [he.out], HM2⟩
        case measure => simp [intOf]; omega
      · have q : (E != 0) = true := by simpa using hE
        have R : Hid (∀ w', Below w.heap.size w w' → T.RbEnd d (L.map D.Src.x) w (.returned (.tuple #[.slice none 0 0, .int .i64 E])) w') := fun w' hb => by
          have e : D.rebS d (L.map D.Src.x) = (E, P) := by rw [happ.out]; exact D.stepT_stop (s := (E, P)) hE _
          have hP : P = [] := hnil.out hE
          exact ⟨_, by rw [e], by rw [e]; simp only; rw [hP]; exact D.Made.nil w hb⟩
        have R := Lib.hid (R.out wr hm.out.below)
        clear hs hcell hok hnil hm hbd hsn happ hE
        go_wp2
        go_ret2
        exact R.out
    · obtain rfl : k = L.length := by omega
      have e : (L.map D.Src.x).take L.length = L.map D.Src.x := by rw [List.take_of_length_le (by simp)]
      rw [e] at hm ⊢
      obtain ⟨vo, vc, hv⟩ := D.slice_of_own hm.out.own
      subst hv
      have R : Hid (T.RbEnd d (L.map D.Src.x) w (.returned (.tuple #[.slice vo (D.rebS d (L.map D.Src.x)).2.length vc, .int .i64 (D.rebS d (L.map D.Src.x)).1])) wr) := ⟨_, rfl, hm.out⟩
      generalize (D.rebS d (L.map D.Src.x)).2.length = m at R
      generalize (D.rebS d (L.map D.Src.x)).1 = E at R
      clear e hm hnil hbd happ
      go_wp2
      go_ret2
      exact R.out
end Go.Proofs.Ytmljagkndnobdaa
