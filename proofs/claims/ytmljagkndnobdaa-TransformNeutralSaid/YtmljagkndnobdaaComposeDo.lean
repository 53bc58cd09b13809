/- The contracts of package compose: fit, Fits, Compose. -/
import Derived.Test.YtmljagkndnobdaaComposeFollow
import Derived.Test.YtmljagkndnobdaaComposeIter
import Derived.Test.YtmljagkndnobdaaPackEqv
namespace Go.Proofs.Ytmljagkndnobdaa
open Go.RowKit

set_option maxRecDepth 100000 in
theorem collect_any (gf : Nat) (lb : Array Value) (heg : ∀ args w, (callFunc gf args).run Try.prog w = .ok (.enter gf args) w) (L : List D.Src) (N : Nat) (hN : N ≤ 1000000) (w : World)
    (hseq : ∀ W, Below w.heap.size w W → Go.SeqStopsK Fence.wide 2 Try.prog gf lb (fun s : D.Src => #[Value.slice s.a s.x.length s.c]) (Below w.heap.size) (fun ys => ys = L) (fun pre => pre <+: L) N W) :
    Calls Try.prog 41 #[.func (.func gf) #[] lb] w fun e W' => ∃ v, e = .returned v ∧ W'.ownsRow w.heap.size 22 1 v L.length (L.map D.srcV) ∧ Below w.heap.size w W' := by
  have H := Lib.hid (callsIn_wide.1 (appendSeq_in 3 (Nat.le_refl _) gf lb heg L N hN w hseq))
  clear hseq heg
  go_enter Try.func41, Try.ntmps41
  go_wp2_with fail
  refine H.out.mono ?_
  rintro e w1 ⟨v, rfl, ho, hb⟩
  have R := Lib.hid (And.intro ho hb)
  clear ho hb
  go_wp2
  go_ret
  exact ⟨v, rfl, R.out.1, R.out.2⟩
theorem C.take_parts (L : List D.P) (k : Nat) : (List.range k).flatMap (fun i => (L.drop (4096 * i)).take 4096) = L.take (4096 * k) := by
  induction k with
  | zero => simp
  | succ k ih => rw [List.range_succ, List.flatMap_append, ih, Nat.mul_succ, List.take_add]; simp
theorem C.flat_parts (b o : Nat) (L : List D.P) : D.flat (C.parts b o L (C.num L)) = L := by
  unfold D.flat C.parts
  rw [List.flatMap_map]
  have := C.take_parts L (C.num L)
  rw [List.take_of_length_le (by unfold C.num; omega)] at this
  exact this
theorem C.part_row {W : World} {b o : Nat} {L : List D.P} (h : D.Row W (some ⟨b, o, none⟩) L) (k : Nat) : D.Row W (C.part b o L k).a (C.part b o L k).x := fun i p hp => by
  have hp' : L[4096 * k + i]? = some p := by
    unfold C.part at hp
    rw [List.getElem?_take] at hp
    split at hp
    · rwa [List.getElem?_drop] at hp
    · cases hp
  obtain ⟨b', o', e, hl, h0, h1, h2⟩ := h _ p hp'
  cases e
  have e2 : o + 4096 * k * 3 + i * 3 = o + (4096 * k + i) * 3 := by omega
  exact ⟨b, o + 4096 * k * 3, rfl, hl, by rw [e2]; exact h0, by rw [e2]; exact h1, by rw [e2]; exact h2⟩
theorem C.drop_take_bd (a : List D.Q) (m n : Nat) : D.inL ((a.drop m).take n) ≤ D.inL a ∧ D.outL ((a.drop m).take n) ≤ D.outL a := by
  have e1 := D.inL_append (a.take m) (a.drop m)
  have e2 := D.outL_append (a.take m) (a.drop m)
  have e3 := D.inL_append ((a.drop m).take n) ((a.drop m).drop n)
  have e4 := D.outL_append ((a.drop m).take n) ((a.drop m).drop n)
  rw [List.take_append_drop] at e1 e2 e3 e4
  omega
theorem C.part_chk {a : List D.Q} (pa : D.allPos a = true) (hi : D.inL a ≤ 1048576) (ho : D.outL a ≤ 1048576) (b o k : Nat) : D.chk (C.part b o (a.map D.raw) k).x = 0 := by
  have e : (C.part b o (a.map D.raw) k).x = ((a.drop (4096 * k)).take 4096).map D.raw := by unfold C.part; simp
  have hb := C.drop_take_bd a (4096 * k) 4096
  rw [e]
  refine (D.chk_iff _).2 ⟨_, ?_, rfl, by rw [List.length_take]; omega, by omega, by omega⟩
  have h := D.allPos_drop pa (4096 * k)
  unfold D.allPos at h ⊢
  rw [← List.take_append_drop 4096 (a.drop (4096 * k)), List.all_append, Bool.and_eq_true] at h
  exact h.1
/-- The parts of a row make a join's argument. -/
theorem C.rows_of {W : World} {base b o : Nat} {a : List D.Q} {v : Value} {L : List D.P} (hL : L = a.map D.raw) (pa : D.allPos a = true) (hi : D.inL a ≤ 1048576) (ho : D.outL a ≤ 1048576) (hr : D.Row W (some ⟨b, o, none⟩) L)
    (h : W.ownsRow base 22 1 v (C.parts b o L (C.num L)).length ((C.parts b o L (C.num L)).map D.srcV)) :
    ∃ lo c, v = .slice lo (C.parts b o L (C.num L)).length c ∧ D.Rows W lo (C.parts b o L (C.num L)) := by
  have hok : ∀ s ∈ C.parts b o L (C.num L), D.SrcOk W s := fun s hs => by
    obtain ⟨k, _, rfl⟩ := List.mem_map.1 hs
    have hc := C.part_chk pa hi ho b o k
    rw [← hL] at hc
    exact ⟨C.part_row hr k, (D.bd_of hc).1, (D.bd_of hc).2, fun e => by cases e⟩
  generalize C.parts b o L (C.num L) = X at h hok
  obtain ⟨hl, ⟨rfl, h0⟩ | ⟨g, cap, cur, rfl, hb, hg, hnc, hcm, hcs, ht⟩⟩ := h
  · exact ⟨none, 0, by rw [h0], fun i s hs => by have := (List.getElem?_eq_some_iff.1 hs).1; omega⟩
  · have hlt := (Array.getElem?_eq_some_iff.1 hg).1
    refine ⟨some ⟨g, 0, none⟩, cap, rfl, fun i s hs => ⟨g, 0, rfl, hlt, ?_, hok s (List.mem_of_getElem? hs)⟩⟩
    have hi := (List.getElem?_eq_some_iff.1 hs).1
    have hu : (X.map D.srcV)[i]? = some (D.srcV s) := by rw [List.getElem?_map, hs]; rfl
    rw [← ht, List.getElem?_take, if_pos (by omega)] at hu
    rw [cell_of_row W g _ cur _ _ hg, Nat.zero_add]
    simpa [D.srcV] using hu
theorem C.join_parts {a : List D.Q} {L : List D.P} (hL : L = a.map D.raw) (pa : D.allPos a = true) (hi : D.inL a ≤ 1048576) (ho : D.outL a ≤ 1048576) (b o : Nat) : D.joinE (C.parts b o L (C.num L)) = (if D.chk ((D.nf a).map D.raw) = 0 then 0 else 5) ∧ D.joinP (C.parts b o L (C.num L)) = if D.chk ((D.nf a).map D.raw) = 0 then (D.nf a).map D.raw else [] := by
  have hc : D.chkAll (C.parts b o L (C.num L)) = 0 := D.chkAll_ok _ fun s hs => by
    obtain ⟨k, _, rfl⟩ := List.mem_map.1 hs
    rw [hL]; exact C.part_chk pa hi ho b o k
  have e : D.normP (D.flat (C.parts b o L (C.num L))) = (D.nf a).map D.raw := by rw [C.flat_parts, hL, D.normP_raw]
  have e1 : D.joinE (C.parts b o L (C.num L)) = if D.chk ((D.nf a).map D.raw) = 0 then 0 else 5 := by unfold D.joinE; rw [if_pos hc, e]
  refine ⟨e1, ?_⟩
  unfold D.joinP
  rw [e1, e]
  by_cases h : D.chk ((D.nf a).map D.raw) = 0
  · rw [if_pos h, if_pos rfl, if_pos h]
  · rw [if_neg h, if_neg (by decide), if_neg h]
theorem C.ps_rows {W : World} {base : Nat} {xo : Option Addr} {v : Value} {P : List D.P} {X : List D.Q} (hP : P = X.map D.raw) (pa : D.allPos X = true) (hi : D.inL X ≤ 1048576) (ho : D.outL X ≤ 1048576) (hl : P.length ≤ 8192) (hr : D.Row W xo P) (hao : (∃ b o, xo = some ⟨b, o, none⟩) ∨ (xo = none ∧ P = []))
    (h : W.ownsRow base 22 1 v (C.ps xo P).length ((C.ps xo P).map D.srcV)) :
    ∃ lo c, v = .slice lo (C.ps xo P).length c ∧ D.Rows W lo (C.ps xo P) ∧ (C.ps xo P).length ≤ 200 ∧ D.joinE (C.ps xo P) = (if D.chk ((D.nf X).map D.raw) = 0 then 0 else 5) ∧ D.joinP (C.ps xo P) = if D.chk ((D.nf X).map D.raw) = 0 then (D.nf X).map D.raw else [] := by
  rcases hao with ⟨b, o, rfl⟩ | ⟨rfl, rfl⟩
  · obtain ⟨lo, c, hv, hrows⟩ := C.rows_of hP pa hi ho hr h
    obtain ⟨j1, j2⟩ := C.join_parts hP pa hi ho b o
    refine ⟨lo, c, hv, hrows, ?_, j1, j2⟩
    show (C.parts b o P (C.num P)).length ≤ 200
    unfold C.parts C.num
    rw [List.length_map, List.length_range]; omega
  · have hX : X = [] := List.map_eq_nil_iff.1 hP.symm
    subst hX
    obtain ⟨lo, c, hv⟩ := D.slice_of_own h
    exact ⟨lo, c, hv, fun i s hs => by simp [C.ps] at hs, by simp [C.ps], rfl, rfl⟩
def C.FitEnd (x y : List D.P) (w : World) (e : Ending) (w' : World) : Prop := e = .returned (.int .i64 (D.fit2 x y)) ∧ Below w.heap.size w w'
set_option maxRecDepth 100000 in
set_option maxHeartbeats 1000000 in
theorem fit_any (ao bo : Option Addr) (ca cb : Nat) (x y : List D.P) (w : World) (ha : D.Row w ao x) (hb : D.Row w bo y) (bx : D.Bd x) (by_ : D.Bd y) :
    Calls Try.prog 55 #[.slice ao x.length ca, .slice bo y.length cb] w (C.FitEnd x y w) := by
  have H1 := Lib.hid (lengths_any ao ca x w bx.1 ha bx.2)
  have H2 : Hid (∀ V, Below w.heap.size w V → Calls Try.prog 29 #[.slice bo y.length cb] V (D.LenEnd y V)) := fun V h => lengths_any bo cb y V by_.1 (hb.below h) by_.2
  unfold D.LenEnd at H1 H2
  clear ha hb bx by_
  by_cases h0 : D.chk x = 0
  · rw [h0] at H1
    by_cases h1 : D.chk y = 0
    · rw [h1] at H2
      have e1 : D.lenO x = D.outP x := if_pos h0
      have e2 : D.lenI y = D.inP y := if_pos h1
      rw [e1] at H1
      rw [e2] at H2
      have hf : D.fit2 x y = if D.outP x = D.inP y then 0 else 21 := by unfold D.fit2; rw [if_pos h0, if_pos h1]
      by_cases h2 : D.outP x = D.inP y
      · have q : (D.outP x != D.inP y) = false := by simp [h2]
        have R : Hid (∀ w', Below w.heap.size w w' → C.FitEnd x y w (.returned (.int .i64 0)) w') := fun w' h => ⟨by rw [hf, if_pos h2], h⟩
        clear h0 h1 h2 e1 e2 hf
        generalize D.outP x = p1 at H1 q
        generalize D.inP y = p2 at H2 q
        generalize D.lenI x = p3 at H1
        generalize D.lenO y = p4 at H2
        go_enter Try.func55, Try.ntmps55
        go_wp2_with fail
        refine H1.out.mono ?_
        rintro e w1 ⟨rfl, hb1⟩
        have H2 := Lib.hid (H2.out w1 hb1)
        have hb1 := Lib.hid hb1
        go_wp2_with fail
        refine H2.out.mono ?_
        rintro e w2 ⟨rfl, hb2⟩
        have R := Lib.hid (R.out w2 (hb1.out.trans (hb2.mono hb1.out.size)))
        clear hb2
        go_wp2
        go_ret
        exact R.out
      · have q : (D.outP x != D.inP y) = true := by simp [h2]
        have R : Hid (∀ w', Below w.heap.size w w' → C.FitEnd x y w (.returned (.int .i64 21)) w') := fun w' h => ⟨by rw [hf, if_neg h2], h⟩
        clear h0 h1 h2 e1 e2 hf
        generalize D.outP x = p1 at H1 q
        generalize D.inP y = p2 at H2 q
        generalize D.lenI x = p3 at H1
        generalize D.lenO y = p4 at H2
        go_enter Try.func55, Try.ntmps55
        go_wp2_with fail
        refine H1.out.mono ?_
        rintro e w1 ⟨rfl, hb1⟩
        have H2 := Lib.hid (H2.out w1 hb1)
        have hb1 := Lib.hid hb1
        go_wp2_with fail
        refine H2.out.mono ?_
        rintro e w2 ⟨rfl, hb2⟩
        have R := Lib.hid (R.out w2 (hb1.out.trans (hb2.mono hb1.out.size)))
        clear hb2
        go_wp2
        go_ret
        exact R.out
    · have hf : D.fit2 x y = D.chk y := by unfold D.fit2; rw [if_pos h0, if_neg h1]
      have q : (D.chk y != 0) = true := by simpa using h1
      have R : Hid (∀ w', Below w.heap.size w w' → C.FitEnd x y w (.returned (.int .i64 (D.chk y))) w') := fun w' h => ⟨by rw [hf], h⟩
      clear h0 h1 hf
      generalize D.chk y = c at H2 q R
      generalize D.lenO x = p1 at H1
      generalize D.lenI y = p2 at H2
      generalize D.lenI x = p3 at H1
      generalize D.lenO y = p4 at H2
      go_enter Try.func55, Try.ntmps55
      go_wp2_with fail
      refine H1.out.mono ?_
      rintro e w1 ⟨rfl, hb1⟩
      have H2 := Lib.hid (H2.out w1 hb1)
      have hb1 := Lib.hid hb1
      go_wp2_with fail
      refine H2.out.mono ?_
      rintro e w2 ⟨rfl, hb2⟩
      have R := Lib.hid (R.out w2 (hb1.out.trans (hb2.mono hb1.out.size)))
      clear hb2
      go_wp2
      go_ret
      exact R.out
  · have hf : D.fit2 x y = D.chk x := by unfold D.fit2; rw [if_neg h0]
    have q : (D.chk x != 0) = true := by simpa using h0
    have R : Hid (∀ w', Below w.heap.size w w' → C.FitEnd x y w (.returned (.int .i64 (D.chk x))) w') := fun w' h => ⟨by rw [hf], h⟩
    clear h0 hf H2
    generalize D.chk x = c at H1 q R
    generalize D.lenO x = p1 at H1
    generalize D.lenI x = p3 at H1
    go_enter Try.func55, Try.ntmps55
    go_wp2_with fail
    refine H1.out.mono ?_
    rintro e w1 ⟨rfl, hb1⟩
    have R := Lib.hid (R.out w1 hb1)
    clear hb1
    go_wp2
    go_ret
    exact R.out
def C.CmpEnd (x y : List D.P) (w : World) (e : Ending) (w' : World) : Prop := ∃ v, e = .returned (.tuple #[v, .int .i64 (D.cmpE x y)]) ∧ D.Made (D.cmpP x y) w v w'
theorem C.made_src {l : List D.P} {w : World} {v : Value} {w' : World} (h : D.Made l w v w') : ∃ ao c, v = .slice ao l.length c ∧ D.Row w' ao l ∧ l.length ≤ c ∧ ((∃ b o, ao = some ⟨b, o, none⟩) ∨ (ao = none ∧ l = [])) := by
  obtain ⟨ao, c, hv, hr⟩ := h.form
  refine ⟨ao, c, hv, hr, ?_⟩
  obtain ⟨_, ⟨e', h0⟩ | ⟨g, cap, cur, e', _, _, hnc, _⟩⟩ := h.own
  · rw [hv] at e'
    simp only [Value.slice.injEq] at e'
    exact ⟨by omega, .inr ⟨e'.1, List.eq_nil_of_length_eq_zero h0⟩⟩
  · rw [hv] at e'
    simp only [Value.slice.injEq] at e'
    exact ⟨by omega, .inl ⟨g, 0, e'.1⟩⟩
set_option maxRecDepth 100000 in
set_option maxHeartbeats 2000000 in
theorem compose_any (ao bo : Option Addr) (ca cb : Nat) (x y : List D.P) (w : World) (ha : D.Row w ao x) (hb : D.Row w bo y) (bx : D.Bd x) (by_ : D.Bd y) (la : x.length ≤ ca) (lb : y.length ≤ cb) :
    Calls Try.prog 27 #[.slice ao x.length ca, .slice bo y.length cb] w (C.CmpEnd x y w) := by
  have H := Lib.hid (fit_any ao bo ca cb x y w ha hb bx by_)
  unfold C.FitEnd at H
  by_cases hf : D.fit2 x y = 0
  · have f := D.fit_of hf
    obtain ⟨ea, pa, l1, l2, i1, o1⟩ := D.valid_qs f.a
    obtain ⟨eb, pb, l3, l4, i2, o2⟩ := D.valid_qs f.b
    have HF : Hid (∀ V, Below w.heap.size w V → Calls Try.prog 56 #[.slice ao x.length ca, .slice bo y.length cb] V (C.FolEnd (D.qs x) (D.qs y) V)) := fun V h => by
      have := follow_any ao bo ca cb (D.qs x) (D.qs y) V (by rw [ea]; exact ha.below h) (by rw [eb]; exact hb.below h) (by omega) (by omega) (by omega) (by omega) pa pb f.m o1
      rwa [l1, l3] at this
    have hin : D.inL (D.cQ (D.qs x) (D.qs y)) ≤ 1048576 := by rw [f.cq.inn]; exact i1
    have hout : D.outL (D.cQ (D.qs x) (D.qs y)) ≤ 1048576 := by rw [f.cq.out]; exact o2
    have he : D.cmpE x y = if D.chk (D.cqP x y) = 0 then 0 else 5 := by
      rw [f.err, f.chk]
      split <;> simp
    have hp : D.cmpP x y = if D.chk (D.cqP x y) = 0 then D.cqP x y else [] := by
      unfold D.cmpP
      rw [f.err]
    have Hlen : Hid ((D.qs x).length + (D.qs y).length ≤ 8192) := by show _ ≤ _; omega
    rw [hf] at H
    have Hin := Lib.hid (And.intro hin (And.intro hout (And.intro he hp)))
    have hq0 : Hid (D.cqP x y = (D.cQ (D.qs x) (D.qs y)).map D.raw) := rfl
    clear ha hb bx by_ la lb f ea eb pa pb i1 i2 o1 o2 hin hout he hp l1 l2 l3 l4 hf
    go_enter Try.func27, Try.ntmps27
    go_wp2_with fail
    refine H.out.mono ?_
    rintro e w1 ⟨rfl, hb1⟩
    have HF := Lib.hid (HF.out w1 hb1)
    have HB1 := Lib.hid hb1
    clear hb1
    go_wp2_with fail
    refine HF.out.mono ?_
    rintro e w2 ⟨v, X, rfl, hw, hm⟩
    obtain ⟨xo, xc, hv, hrow, hcap, hao⟩ := C.made_src hm
    subst hv
    have HW := Lib.hid hw
    have HB2 := Lib.hid (HB1.out.trans (hm.below.mono HB1.out.size))
    have hXl : (X.map D.raw).length ≤ 8192 := by have := hw.len; have := Hlen.out; rw [List.length_map]; simp only [List.length_nil] at *; omega
    obtain ⟨P, hP⟩ : ∃ P, Hid (P = X.map D.raw) := ⟨_, rfl⟩
    rw [← hP.out] at hrow hcap hao hXl ⊢
    have HR := Lib.hid (And.intro hrow (And.intro hcap (And.intro hao hXl)))
    clear hm hw hrow hcap hao hXl HF H
    go_wp2_with fail
    refine (chunk_any xo P.length xc w2).mono ?_
    rintro e w3 ⟨rfl, rfl⟩
    have hB3 : Below w2.heap.size w2 ((w2.alloc (.cells #[.slice xo P.length xc] 22)).alloc (.cells #[.int .i64 4096] 3)) := ((Below.refl _ _).alloc (Nat.le_refl _) _).alloc (by simp) _
    have hs3 : ((w2.alloc (.cells #[.slice xo P.length xc] 22)).alloc (.cells #[.int .i64 4096] 3)).heap.size = w2.heap.size + 2 := by simp
    have k0 : ((w2.alloc (.cells #[.slice xo P.length xc] 22)).alloc (.cells #[.int .i64 4096] 3)).cell? ⟨w2.heap.size, 0, none⟩ = some (.slice xo P.length xc) := by
      rw [Lib.cell_of_heap ((heap_alloc_old _ _ (by simp)).trans (heap_alloc_new w2 _))]; rfl
    have k1 : ((w2.alloc (.cells #[.slice xo P.length xc] 22)).alloc (.cells #[.int .i64 4096] 3)).cell? ⟨w2.heap.size + 1, 0, none⟩ = some (.int .i64 4096) := by
      have h := heap_alloc_new (w2.alloc (.cells #[.slice xo P.length xc] 22)) (.cells #[.int .i64 4096] 3)
      rw [World.size_alloc] at h
      rw [Lib.cell_of_heap h]; rfl
    generalize ((w2.alloc (.cells #[.slice xo P.length xc] 22)).alloc (.cells #[.int .i64 4096] 3)) = W3 at hB3 hs3 k0 k1 ⊢
    have HC := Lib.hid (collect_any 69 #[.pointer (some ⟨w2.heap.size, 0, none⟩), .pointer (some ⟨w2.heap.size + 1, 0, none⟩)] (enters_of Try.func69 (by kernel_rfl) rfl) (C.ps xo P) (C.num P) (by unfold C.num; have := HR.out.2.2.2; omega) W3
      (fun V hV => chunk_stops 2 (by omega) w2.heap.size (w2.heap.size + 1) W3.heap.size xo xc P HR.out.2.2.1 HR.out.2.1 (Nat.le_trans HR.out.2.2.2 (by omega)) (by omega) (by omega) V hV.size ((hV.cell (p := ⟨w2.heap.size, 0, none⟩) (by simp only; omega)).trans k0) ((hV.cell (p := ⟨w2.heap.size + 1, 0, none⟩) (by simp only; omega)).trans k1)))
    have HB3 := Lib.hid (And.intro hB3 (HB2.out.trans (hB3.mono HB2.out.size)))
    clear hB3 hs3 k0 k1
    go_wp2_with fail
    refine HC.out.mono ?_
    rintro e w4 ⟨v, rfl, hO, hb4⟩
    obtain ⟨f1, f2, f3⟩ := HW.out.fin
    have hBB := HB3.out.1.trans (hb4.mono HB3.out.1.size)
    obtain ⟨lo, c, hv, hrows, hl2, hj, hjp⟩ := C.ps_rows hP.out HW.out.px (by rw [f2]; exact Hin.out.1) (by rw [f3]; exact Hin.out.2.1) HR.out.2.2.2 (HR.out.1.below hBB) HR.out.2.2.1 hO
    subst hv
    rw [f1, ← hq0.out, ← Hin.out.2.2.1] at hj
    rw [f1, ← hq0.out, ← Hin.out.2.2.2] at hjp
    have HJ := Lib.hid (join_any lo c (C.ps xo P) w4 hl2 hrows)
    unfold D.JoinEnd at HJ
    rw [hj, hjp] at HJ
    have HB4 := Lib.hid (HB3.out.2.trans (hb4.mono HB3.out.2.size))
    clear hO hb4 f1 f2 f3 hBB hrows hl2 hj hjp HC HB3 HR HW HB2 HB1
    generalize (C.ps xo P).length = m at HJ
    go_wp2_with fail
    refine HJ.out.mono ?_
    rintro e w5 ⟨v, rfl, hm⟩
    have R : Hid (C.CmpEnd x y w (.returned (.tuple #[v, .int .i64 (D.cmpE x y)])) w5) := ⟨v, rfl, D.own_mono hm.own HB4.out.size, HB4.out.trans (hm.below.mono HB4.out.size)⟩
    obtain ⟨va, vc, hv⟩ := D.slice_of_own hm.own
    subst hv
    clear hm HJ HB4
    go_wp2
    go_ret2
    exact R.out
  · obtain ⟨e1, e2⟩ := D.cmpE_not hf
    have q : (D.fit2 x y != 0) = true := by simpa using hf
    have R : Hid (∀ w', Below w.heap.size w w' → C.CmpEnd x y w (.returned (.tuple #[.slice none 0 0, .int .i64 (D.fit2 x y)])) w') := fun w' h => ⟨_, by rw [e1], by rw [e2]; exact D.Made.nil w h⟩
    clear ha hb bx by_ la lb hf e1 e2
    generalize D.fit2 x y = k at H q R
    go_enter Try.func27, Try.ntmps27
    go_wp2_with fail
    refine H.out.mono ?_
    rintro e w1 ⟨rfl, hb1⟩
    have R := Lib.hid (R.out w1 hb1)
    clear hb1
    go_wp2
    go_ret2
    exact R.out
end Go.Proofs.Ytmljagkndnobdaa
