/- The contract of apply: Invert (a result that closures append to). -/
import Derived.Test.YtmbgcbgbdjiacaaApplyDo
import Derived.Test.YtmbgcbgbdjiacaaPackEqv
namespace Go.Proofs.Ytmbgcbgbdjiacaa
open Go.RowKit

/-- The named result in its box, and the pieces that have been appended. -/
def A.IS (w : World) (F : Nat → List D.P) (k : Nat) (W : World) : Prop := ∃ v, W.heap[w.heap.size]? = some (.cells #[v] 39 (0, 0)) ∧ W.ownsRow w.heap.size 53 3 v (F k).length (D.cellsL (F k)) ∧ Below w.heap.size w W
/-- What belongs to it: its box, and the row. -/
def A.IR (b : Nat) (W : World) (j : Nat) : Prop := j = b ∨ ∃ v T, W.heap[b]? = some (.cells #[v] T (0, 0)) ∧ v.ownBlock = some j
set_option maxRecDepth 100000 in
theorem A.ne_box {W : World} {base b n : Nat} {v x : Value} {xs : List Value} (h : W.ownsRow base 53 3 v n xs) (hb : W.heap[b]? = some (.cells #[x] 39 (0, 0))) : v.ownBlock ≠ some b := by
  rcases h.2 with ⟨rfl, _⟩ | ⟨g, cap, cur, rfl, _, hg, _⟩
  · simp [Value.ownBlock]
  · intro e
    simp only [Value.ownBlock, Option.some.injEq] at e
    subst e
    rw [hg] at hb
    simp only [Option.some.injEq, Obj.cells.injEq] at hb
    exact absurd hb.2.1 (by decide)
set_option maxRecDepth 100000 in
theorem A.IS.on (w : World) (F : Nat → List D.P) (k : Nat) (W W' : World) (h : A.IS w F k W) (hb : Below W.heap.size W W') : A.IS w F k W' ∧ ∀ j, j < W.heap.size → ¬ A.IR w.heap.size W j → ¬ A.IR w.heap.size W' j := by
  obtain ⟨v, hbx, hown, hbw⟩ := h
  have hlt := (Array.getElem?_eq_some_iff.1 hbx).1
  have hbx' := (hb.block _ hlt).trans hbx
  refine ⟨⟨v, hbx', D.own_below hown hb, hbw.trans (hb.mono hbw.size)⟩, fun j hj hn hr => hn ?_⟩
  rcases hr with hr | ⟨x, T, h1, h2⟩
  · exact .inl hr
  · exact .inr ⟨x, T, by rw [← h1]; exact (hb.block _ hlt).symm, h2⟩
set_option maxRecDepth 100000 in
theorem A.IS.new (w : World) (F : Nat → List D.P) (k : Nat) (W : World) (c : Array Value) (T : TypeId) (h : A.IS w F k W) (_ : T = 53 ∨ T = 79) : ¬ A.IR w.heap.size (W.alloc (.cells c T)) W.heap.size := by
  obtain ⟨v, hbx, hown, hbw⟩ := h
  have hlt := (Array.getElem?_eq_some_iff.1 hbx).1
  rintro (hr | ⟨x, T', h1, h2⟩)
  · omega
  · rw [Lib.alloc_old W _ _ hlt, hbx] at h1
    simp only [Option.some.injEq, Obj.cells.injEq, Array.mk.injEq, List.cons.injEq, and_true] at h1
    have := (hown.lt _ (h1.1 ▸ h2)).2
    omega
/-- What an append and a store into the box leave. -/
theorem A.IS.appended {w : World} {F : Nat → List D.P} {k : Nat} {W w3 : World} {v v' : Value} {X Z : List D.P} {p : D.P} (hbx : W.heap[w.heap.size]? = some (.cells #[v] 39 (0, 0))) (hown : W.ownsRow w.heap.size 53 3 v X.length (D.cellsL X)) (hbw : Below w.heap.size w W)
    (hZ : Z = X ++ [p]) (hF : F (k + 1) = X ++ [p]) (hO : w3.ownsRow w.heap.size 53 3 v' Z.length (D.cellsL Z)) (hg : W.grownBy w3 v.ownBlock) (ha : v'.ownBlock = v.ownBlock ∨ ∃ g, v'.ownBlock = some g ∧ W.heap.size ≤ g) :
    A.Step (A.IS w F) (A.IR w.heap.size) k W (.returned (.tuple #[])) (w3.setCell ⟨w.heap.size, 0, none⟩ v') := by
  have hlt := (Array.getElem?_eq_some_iff.1 hbx).1
  have hne := A.ne_box hown hbx
  have hb3 : w3.heap[w.heap.size]? = some (.cells #[v] 39 (0, 0)) := by rw [hg.block _ hlt (fun e => hne e.symm)]; exact hbx
  have hne' := A.ne_box hO hb3
  have hb4 : (w3.setCell ⟨w.heap.size, 0, none⟩ v').heap[w.heap.size]? = some (.cells #[v'] 39 (0, 0)) := by simp [World.setCell, Array.getElem?_modify, hb3]
  have hset : ∀ j, j ≠ w.heap.size → (w3.setCell ⟨w.heap.size, 0, none⟩ v').heap[j]? = w3.heap[j]? := fun j hj => Below.heap_setCell _ _ _ _ (fun e => hj (by simpa using e))
  refine ⟨rfl, ⟨v', hb4, ?_, ?_⟩, ?_, fun j hj hn => ⟨?_, ?_⟩⟩
  · rw [hF, ← hZ]
    exact hO.kept (row := some w.heap.size) ⟨rfl, rfl, rfl, by simp [World.setCell], fun j _ hj => hset j (fun e => hj (by rw [e]))⟩ (.inr hne')
  · exact (hbw.grown hg hbw.size (fun j hj => (hown.lt j hj).1)).setCell (p := ⟨w.heap.size, 0, none⟩) (Nat.le_refl _) _
  · have := hg.size; simp only [World.setCell, Array.size_modify]; omega
  · have h1 : j ≠ w.heap.size := fun e => hn (.inl e)
    rw [hset j h1]
    exact hg.block j hj (fun e => hn (.inr ⟨v, _, hbx, e.symm⟩))
  · rintro (hr | ⟨x, T, h1, h2⟩)
    · exact hn (.inl hr)
    · rw [hb4] at h1
      simp only [Option.some.injEq, Obj.cells.injEq, Array.mk.injEq, List.cons.injEq, and_true] at h1
      rw [← h1.1] at h2
      rcases ha with ha | ⟨g, ha, hgz⟩
      · exact hn (.inr ⟨v, _, hbx, by rw [← ha]; exact h2⟩)
      · rw [ha] at h2
        injection h2 with h2
        omega
set_option maxRecDepth 100000 in
set_option maxHeartbeats 1000000 in
theorem inv1_any (w : World) (F : Nat → List D.P) (k : Nat) (x : ByteArray) (W : World) (h : A.IS w F k W) (hF : F (k + 1) = F k ++ [⟨1, x.size, ⟨#[]⟩⟩]) (hl : (F k).length ≤ 4096) :
    Calls Try.prog 50 #[.string x, .pointer (some ⟨w.heap.size, 0, none⟩)] W (A.Step (A.IS w F) (A.IR w.heap.size) k W) := by
  obtain ⟨v, hbx, hown, hbw⟩ := h
  obtain ⟨va, vc, rfl⟩ := D.slice_of_own hown
  have c0 : W.cell? ⟨w.heap.size, 0, none⟩ = some (.slice va (F k).length vc) := by rw [Lib.cell_of_heap hbx]; rfl
  have hne := A.ne_box hown hbx
  have hlt := (Array.getElem?_eq_some_iff.1 hbx).1
  have hz := hbw.size
  have HH := Lib.hid (And.intro hbx (And.intro hown (And.intro hbw (And.intro hF hne))))
  obtain ⟨X, hX⟩ : ∃ X, Hid (F k = X) := ⟨_, rfl⟩
  rw [hX.out] at c0 hl
  clear hbx hown hbw hF hne
  go_enter Try.func50, Try.ntmps50
  go_wp2_with (at_builtin; refine A.append_piece rfl _ _ rfl w.heap.size _ X rfl (by rw [← hX.out]; exact HH.out.2.1) ⟨1, x.size, ⟨#[]⟩⟩ 1 rfl ?c1 ?c2 ?_)
  try any_goals (first | omega | exact hz)
  intro Z v' w3 hZZ hO1 hg1 ha1
  obtain ⟨hbx, hown, hbw, hF, hne⟩ := HH.out
  have hb3 : w3.heap[w.heap.size]? = some (.cells #[.slice va X.length vc] 39 (0, 0)) := by
    rw [← hX.out, hg1.block w.heap.size hlt (fun e => hne (by rw [hX.out]; exact e.symm))]; exact hbx
  have d0 : w3.cell? ⟨w.heap.size, 0, none⟩ = some (.slice va X.length vc) := by rw [Lib.cell_of_heap hb3]; rfl
  have f0 : w3.frozen? ⟨w.heap.size, 0, none⟩ = false := Lib.frozen_of_heap hb3 0
  obtain ⟨va', vc', rfl⟩ := D.slice_of_own hO1
  have R : Hid (A.Step (A.IS w F) (A.IR w.heap.size) k W (.returned (.tuple #[])) (w3.setCell ⟨w.heap.size, 0, none⟩ (.slice va' Z.length vc'))) :=
    A.IS.appended (v := .slice va X.length vc) (by rw [← hX.out]; exact hbx) (by rw [← hX.out]; exact hown) hbw hZZ.out (by rw [hF, hX.out]) hO1 hg1 ha1
  clear hbx hown hbw hF hne hO1 hg1 ha1 hZZ HH hb3
  go_wp2
  go_end0
  exact R.out
set_option maxRecDepth 100000 in
set_option maxHeartbeats 1000000 in
theorem inv2_any (w : World) (F : Nat → List D.P) (k : Nat) (x : ByteArray) (W : World) (h : A.IS w F k W) (hF : F (k + 1) = F k ++ [⟨3, x.size, ⟨#[]⟩⟩]) (hl : (F k).length ≤ 4096) :
    Calls Try.prog 51 #[.string x, .pointer (some ⟨w.heap.size, 0, none⟩)] W (A.Step (A.IS w F) (A.IR w.heap.size) k W) := by
  obtain ⟨v, hbx, hown, hbw⟩ := h
  obtain ⟨va, vc, rfl⟩ := D.slice_of_own hown
  have c0 : W.cell? ⟨w.heap.size, 0, none⟩ = some (.slice va (F k).length vc) := by rw [Lib.cell_of_heap hbx]; rfl
  have hne := A.ne_box hown hbx
  have hlt := (Array.getElem?_eq_some_iff.1 hbx).1
  have hz := hbw.size
  have HH := Lib.hid (And.intro hbx (And.intro hown (And.intro hbw (And.intro hF hne))))
  obtain ⟨X, hX⟩ : ∃ X, Hid (F k = X) := ⟨_, rfl⟩
  rw [hX.out] at c0 hl
  clear hbx hown hbw hF hne
  go_enter Try.func51, Try.ntmps51
  go_wp2_with (at_builtin; refine A.append_piece rfl _ _ rfl w.heap.size _ X rfl (by rw [← hX.out]; exact HH.out.2.1) ⟨3, x.size, ⟨#[]⟩⟩ 1 rfl ?c1 ?c2 ?_)
  try any_goals (first | omega | exact hz)
  intro Z v' w3 hZZ hO1 hg1 ha1
  obtain ⟨hbx, hown, hbw, hF, hne⟩ := HH.out
  have hb3 : w3.heap[w.heap.size]? = some (.cells #[.slice va X.length vc] 39 (0, 0)) := by
    rw [← hX.out, hg1.block w.heap.size hlt (fun e => hne (by rw [hX.out]; exact e.symm))]; exact hbx
  have d0 : w3.cell? ⟨w.heap.size, 0, none⟩ = some (.slice va X.length vc) := by rw [Lib.cell_of_heap hb3]; rfl
  have f0 : w3.frozen? ⟨w.heap.size, 0, none⟩ = false := Lib.frozen_of_heap hb3 0
  obtain ⟨va', vc', rfl⟩ := D.slice_of_own hO1
  have R : Hid (A.Step (A.IS w F) (A.IR w.heap.size) k W (.returned (.tuple #[])) (w3.setCell ⟨w.heap.size, 0, none⟩ (.slice va' Z.length vc'))) :=
    A.IS.appended (v := .slice va X.length vc) (by rw [← hX.out]; exact hbx) (by rw [← hX.out]; exact hown) hbw hZZ.out (by rw [hF, hX.out]) hO1 hg1 ha1
  clear hbx hown hbw hF hne hO1 hg1 ha1 hZZ HH hb3
  go_wp2
  go_end0
  exact R.out
set_option maxRecDepth 100000 in
set_option maxHeartbeats 1000000 in
theorem inv3_any (w : World) (F : Nat → List D.P) (k : Nat) (x : ByteArray) (W : World) (h : A.IS w F k W) (hF : F (k + 1) = F k ++ [⟨2, 0, x⟩]) (hl : (F k).length ≤ 4096) :
    Calls Try.prog 52 #[.string x, .pointer (some ⟨w.heap.size, 0, none⟩)] W (A.Step (A.IS w F) (A.IR w.heap.size) k W) := by
  obtain ⟨v, hbx, hown, hbw⟩ := h
  obtain ⟨va, vc, rfl⟩ := D.slice_of_own hown
  have c0 : W.cell? ⟨w.heap.size, 0, none⟩ = some (.slice va (F k).length vc) := by rw [Lib.cell_of_heap hbx]; rfl
  have hne := A.ne_box hown hbx
  have hlt := (Array.getElem?_eq_some_iff.1 hbx).1
  have hz := hbw.size
  have HH := Lib.hid (And.intro hbx (And.intro hown (And.intro hbw (And.intro hF hne))))
  obtain ⟨X, hX⟩ : ∃ X, Hid (F k = X) := ⟨_, rfl⟩
  rw [hX.out] at c0 hl
  clear hbx hown hbw hF hne
  go_enter Try.func52, Try.ntmps52
  go_wp2_with (at_builtin; refine A.append_piece rfl _ _ rfl w.heap.size _ X rfl (by rw [← hX.out]; exact HH.out.2.1) ⟨2, 0, x⟩ 1 rfl ?c1 ?c2 ?_)
  try any_goals (first | omega | exact hz)
  intro Z v' w3 hZZ hO1 hg1 ha1
  obtain ⟨hbx, hown, hbw, hF, hne⟩ := HH.out
  have hb3 : w3.heap[w.heap.size]? = some (.cells #[.slice va X.length vc] 39 (0, 0)) := by
    rw [← hX.out, hg1.block w.heap.size hlt (fun e => hne (by rw [hX.out]; exact e.symm))]; exact hbx
  have d0 : w3.cell? ⟨w.heap.size, 0, none⟩ = some (.slice va X.length vc) := by rw [Lib.cell_of_heap hb3]; rfl
  have f0 : w3.frozen? ⟨w.heap.size, 0, none⟩ = false := Lib.frozen_of_heap hb3 0
  obtain ⟨va', vc', rfl⟩ := D.slice_of_own hO1
  have R : Hid (A.Step (A.IS w F) (A.IR w.heap.size) k W (.returned (.tuple #[])) (w3.setCell ⟨w.heap.size, 0, none⟩ (.slice va' Z.length vc'))) :=
    A.IS.appended (v := .slice va X.length vc) (by rw [← hX.out]; exact hbx) (by rw [← hX.out]; exact hown) hbw hZZ.out (by rw [hF, hX.out]) hO1 hg1 ha1
  clear hbx hown hbw hF hne hO1 hg1 ha1 hZZ HH hb3
  go_wp2
  go_end0
  exact R.out
set_option maxRecDepth 100000 in
theorem A.enters_inv1 : A.Enters 50 := enters_of Try.func50 (by kernel_rfl) rfl
set_option maxRecDepth 100000 in
theorem A.enters_inv2 : A.Enters 51 := enters_of Try.func51 (by kernel_rfl) rfl
set_option maxRecDepth 100000 in
theorem A.enters_inv3 : A.Enters 52 := enters_of Try.func52 (by kernel_rfl) rfl
set_option maxRecDepth 100000 in
theorem A.inv_len (S : List UInt8) (a : List D.Q) (k : Nat) (hl : a.length ≤ 4096) : ((D.inv S (a.take k)).map D.raw).length ≤ 4096 := by
  rw [List.length_map, D.inv_length, List.length_take]
  omega
set_option maxRecDepth 100000 in
theorem A.inv_snoc' (S : List UInt8) (a : List D.Q) (k : Nat) (q : D.Q) (h : a[k]? = some q) : (D.inv S (a.take (k + 1))).map D.raw = (D.inv S (a.take k)).map D.raw ++ [D.raw (D.inv1 S a k q)] := by
  rw [D.inv_snoc S a k q h, List.map_append]; rfl
set_option maxRecDepth 100000 in
theorem A.acc_invert (w : World) (S : List UInt8) (a : List D.Q) (hl : a.length ≤ 4096) (hp : ∀ k n, a[k]? = some (.R n) → (D.part S a k (.R n)).length = n) :
    A.Acc w S a 50 51 52 #[.pointer (some ⟨w.heap.size, 0, none⟩)] #[.pointer (some ⟨w.heap.size, 0, none⟩)] #[.pointer (some ⟨w.heap.size, 0, none⟩)] (A.IS w fun k => (D.inv S (a.take k)).map D.raw) (A.IR w.heap.size) where
  below := fun _ _ h => by obtain ⟨_, _, _, h⟩ := h; exact h
  on := A.IS.on w _
  new := A.IS.new w _
  ek := A.enters_inv1
  ei := A.enters_inv2
  er := A.enters_inv3
  stepR := fun k n x W hq hx h => by
    refine inv1_any w _ k x W h ?_ (A.inv_len S a k hl)
    rw [A.inv_snoc' S a k _ hq, A.size_of hx, hp k n hq]
    rfl
  stepI := fun k t W hq h => by
    refine inv2_any w _ k ⟨t.toArray⟩ W h ?_ (A.inv_len S a k hl)
    rw [A.inv_snoc' S a k _ hq, D.size_l]
    rfl
  stepD := fun k n x W hq hx h => by
    refine inv3_any w _ k x W h ?_ (A.inv_len S a k hl)
    rw [A.inv_snoc' S a k _ hq]
    show _ ++ [D.raw (.I (D.part S a k (.D n)))] = _
    rw [← hx, D.raw, D.bytes_eq]
set_option maxRecDepth 100000 in
theorem A.part_full (S : List UInt8) (a : List D.Q) (k : Nat) (q : D.Q) (hq : a[k]? = some q) (h : D.inL a = S.length) : (D.part S a k q).length = D.in1 q := by
  obtain ⟨_, h1⟩ := D.inL_take_le a k q hq
  unfold D.part
  rw [List.length_take, List.length_drop]
  omega
set_option maxRecDepth 100000 in
set_option maxHeartbeats 2000000 in
theorem invert_any (s : ByteArray) (ao : Option Addr) (cap : Nat) (l : List D.P) (w : World) (hs : s.size ≤ 140737488351232) (hn : l.length ≤ maxLen) (hr : D.Row w ao l) (ht : ∀ p ∈ l, p.t.size ≤ 140737488351232) :
    Calls Try.prog 29 #[.string s, .slice ao l.length cap] w (A.InvEnd s.data.toList l w) := by
  by_cases hf : D.fitE s.data.toList l = 0
  · obtain ⟨h0, h1⟩ := D.fitE_zero hf
    obtain ⟨_, _, h3, h4, _, h6⟩ := D.valid_qs h0
    have hci := D.chk_inv hf
    have hni := D.normP_inv hf
    have hb0 : A.IS w (fun k => (D.inv s.data.toList ((D.qs l).take k)).map D.raw) 0 (w.alloc (.cells #[.slice none 0 0] 39)) :=
      ⟨_, heap_alloc_new w _, World.ownsRow_nil _ _ _ _, (Below.refl _ _).alloc (Nat.le_refl _) _⟩
    have HB := build_any s ao cap l w _ _ _ _ _ _ _ _ _ hs hn hr ht (D.qs l) (fun _ => rfl) (A.acc_invert w s.data.toList (D.qs l) (by omega) (fun k n hq => A.part_full _ _ k _ hq h1)) hb0
    unfold A.BuildEnd at HB
    rw [hf, if_pos rfl] at HB
    have hN : Hid (∀ W, A.IS w (fun k => (D.inv s.data.toList ((D.qs l).take k)).map D.raw) l.length W → ∃ va n vc, W.heap[w.heap.size]? = some (.cells #[.slice va n vc] 39 (0, 0)) ∧ Below w.heap.size w W ∧ Calls Try.prog 54 #[.slice va n vc] W (fun e w' => ∃ v, e = .returned (.tuple #[v, .int .i64 0]) ∧ D.Made (D.invP s.data.toList l) W v w')) := fun W h => by
      obtain ⟨v, hbx, hown, hbw⟩ := h
      dsimp only at hown
      rw [← h3, List.take_length] at hown
      obtain ⟨va, vc, rfl, hrow⟩ := D.row_of_own hown
      refine ⟨va, _, vc, hbx, hbw, ?_⟩
      obtain ⟨b1, b2⟩ := (show ((D.inv s.data.toList (D.qs l)).map D.raw).length ≤ maxLen ∧ (∀ p ∈ (D.inv s.data.toList (D.qs l)).map D.raw, p.t.size ≤ 140737488351232) from by
        obtain ⟨e, _, _, k4, _, k6⟩ := D.valid_qs hci
        refine ⟨by unfold maxLen; omega, fun p hp => ?_⟩
        rw [← e] at hp
        have := D.txt_le_outL _ p hp
        omega)
      have := normalize_any va vc _ W b1 hrow b2
      unfold D.NormEnd at this
      rw [hci, if_pos rfl, hni] at this
      exact this
    have RR : Hid (∀ v w2 W x, D.Made (D.invP s.data.toList l) W v w2 → Below w.heap.size w W → W.heap[w.heap.size]? = some (.cells #[x] 39 (0, 0)) → A.InvEnd s.data.toList l w (.returned (.tuple #[v, .int .i64 0])) (w2.setCell ⟨w.heap.size, 0, none⟩ v)) := fun v w2 W x hm hb hbx => by
      have hlt := (Array.getElem?_eq_some_iff.1 hbx).1
      refine ⟨v, by rw [hf], ?_, ?_⟩
      · refine (D.own_mono hm.own hb.size).kept (row := some w.heap.size) ⟨rfl, rfl, rfl, by simp [World.setCell], fun j _ hj => Below.heap_setCell _ _ _ _ (fun e => hj (by simpa using e))⟩ ?_
        cases hv : v.ownBlock with
        | none => exact .inl rfl
        | some g =>
          right
          intro e
          injection e with e
          have := (hm.own.lt g hv).1
          omega
      · exact (hb.trans (hm.below.mono hb.size)).setCell (p := ⟨w.heap.size, 0, none⟩) (Nat.le_refl _) _
    have HB := Lib.hid HB
    clear hb0 hci hni h0 h1 h3 h4 h6 hf hr ht hn hs
    go_enter Try.func29, Try.ntmps29
    go_wp2_with fail
    refine HB.out.mono ?_
    rintro e w1 ⟨rfl, hI⟩
    obtain ⟨va, n, vc, hbx, hbw, HN⟩ := hN.out w1 hI
    have c0 : w1.cell? ⟨w.heap.size, 0, none⟩ = some (.slice va n vc) := by rw [Lib.cell_of_heap hbx]; rfl
    have HN := Lib.hid HN
    have HX := Lib.hid (And.intro hbx hbw)
    clear hI hbx hbw
    go_wp2_with fail
    refine HN.out.mono ?_
    rintro e w2 ⟨v, rfl, hm⟩
    have hb2 : w2.heap[w.heap.size]? = some (.cells #[.slice va n vc] 39 (0, 0)) := (hm.below.block _ (Array.getElem?_eq_some_iff.1 HX.out.1).1).trans HX.out.1
    have d0 : w2.cell? ⟨w.heap.size, 0, none⟩ = some (.slice va n vc) := by rw [Lib.cell_of_heap hb2]; rfl
    have f0 : w2.frozen? ⟨w.heap.size, 0, none⟩ = false := Lib.frozen_of_heap hb2 0
    obtain ⟨xa, xc, hv, _⟩ := hm.form
    subst hv
    have R2 := Lib.hid (RR.out _ w2 w1 _ hm HX.out.2 HX.out.1)
    generalize (D.invP s.data.toList l).length = N at R2 hm ⊢
    have e0 : (w2.setCell ⟨w.heap.size, 0, none⟩ (.slice xa N xc)).cell? ⟨w.heap.size, 0, none⟩ = some (.slice xa N xc) := by
      refine (Lib.cell_of_heap (cs := #[.slice xa N xc]) (T := 39) (fr := (0, 0)) ?_ 0).trans rfl
      simp [World.setCell, Array.getElem?_modify, hb2]
    clear hm hb2 c0
    go_wp2
    refine bodyPost_ret (v := .tuple #[.slice xa N xc, .int .i64 0]) ?_ rfl R2.out
    simp [results, Try.results29, go_sem, e0]
  · have hb0 : A.IS w (fun _ => []) 0 (w.alloc (.cells #[.slice none 0 0] 39)) :=
      ⟨_, heap_alloc_new w _, World.ownsRow_nil _ _ _ _, (Below.refl _ _).alloc (Nat.le_refl _) _⟩
    have hacc : A.Acc w s.data.toList [] 50 51 52 #[.pointer (some ⟨w.heap.size, 0, none⟩)] #[.pointer (some ⟨w.heap.size, 0, none⟩)] #[.pointer (some ⟨w.heap.size, 0, none⟩)] (A.IS w fun _ => []) (A.IR w.heap.size) :=
      ⟨fun _ _ h => by obtain ⟨_, _, _, h⟩ := h; exact h, A.IS.on w _, A.IS.new w _, A.enters_inv1, A.enters_inv2, A.enters_inv3, fun k n x W hq => by simp at hq, fun k t W hq => by simp at hq, fun k n x W hq => by simp at hq⟩
    have HB := build_any s ao cap l w _ _ _ _ _ _ _ _ _ hs hn hr ht [] (fun e => absurd e hf) hacc hb0
    unfold A.BuildEnd at HB
    rw [if_neg hf] at HB
    have h' : (D.fitE s.data.toList l != 0) = true := by simpa using hf
    have RR : Hid (∀ W, A.IS w (fun _ => []) 0 W → A.InvEnd s.data.toList l w (.returned (.tuple #[.slice none 0 0, .int .i64 (D.fitE s.data.toList l)])) (W.setCell ⟨w.heap.size, 0, none⟩ (.slice none 0 0))) := fun W h => by
      obtain ⟨v, hbx, hown, hbw⟩ := h
      exact ⟨_, rfl, by unfold D.invP; rw [if_neg hf]; exact D.Made.nil w (hbw.setCell (p := ⟨w.heap.size, 0, none⟩) (Nat.le_refl _) _)⟩
    generalize D.fitE s.data.toList l = c at HB h' RR
    have HB := Lib.hid HB
    clear hb0 hacc hf hr ht hn hs
    go_enter Try.func29, Try.ntmps29
    go_wp2_with fail
    refine HB.out.mono ?_
    rintro e w1 ⟨rfl, hI⟩
    have R2 := Lib.hid (RR.out w1 hI)
    obtain ⟨v, hbx, _, _⟩ := hI
    have d0 : w1.cell? ⟨w.heap.size, 0, none⟩ = some v := by rw [Lib.cell_of_heap hbx]; rfl
    have f0 : w1.frozen? ⟨w.heap.size, 0, none⟩ = false := Lib.frozen_of_heap hbx 0
    have e0 : (w1.setCell ⟨w.heap.size, 0, none⟩ (.slice none 0 0)).cell? ⟨w.heap.size, 0, none⟩ = some (.slice none 0 0) := by
      refine (Lib.cell_of_heap (cs := #[.slice none 0 0]) (T := 39) (fr := (0, 0)) ?_ 0).trans rfl
      simp [World.setCell, Array.getElem?_modify, hbx]
    clear hbx
    go_wp2
    refine bodyPost_ret (v := .tuple #[.slice none 0 0, .int .i64 c]) ?_ rfl R2.out
    simp [results, Try.results29, go_sem, e0]
end Go.Proofs.Ytmbgcbgbdjiacaa
