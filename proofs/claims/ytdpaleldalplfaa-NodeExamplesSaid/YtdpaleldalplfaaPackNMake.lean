/- Texts joined: NodeMake NodeMake2 -/
import Derived.Test.YtdpaleldalplfaaPackNPkg
import Derived.Lib.SliceRun
/- NodeMake -/
namespace Go.Proofs.Ytdpaleldalplfaa
open Go.RowKit

theorem N.cells_one4 (l : List N.K) : ∀ u ∈ N.cells l, u.oneCell' = true := fun u hu => by
  simp only [N.cells, List.mem_flatMap] at hu
  obtain ⟨p, _, hu⟩ := hu
  simp only [N.one, List.mem_cons, List.not_mem_nil, or_false] at hu
  obtain h | h | h | h := hu <;> rw [h] <;> rfl
theorem N.cells_of_row {W : World} {b o : Nat} {x : List N.K} (h : N.Row W (some ⟨b, o, none⟩) x) : ∀ j u, (N.cells x)[j]? = some u → W.cell? ((⟨b, o, none⟩ : Addr).add j) = some u := by
  intro j u hu
  have hadd : (⟨b, o, none⟩ : Addr).add j = ⟨b, o + j, none⟩ := by unfold Addr.add; split <;> simp_all
  rw [hadd]
  have hj : j < x.length * 4 := by rw [← N.cells_len]; exact (List.getElem?_eq_some_iff.1 hu).1
  obtain ⟨p, hp⟩ : ∃ p, x[j / 4]? = some p := ⟨x[j / 4]'(by omega), List.getElem?_eq_getElem _⟩
  obtain ⟨b', o', e, _, h0, h1, h2, h3⟩ := h _ p hp
  cases e
  obtain ⟨c0, c1, c2, c3⟩ := N.cells_at x _ p hp
  have hm : j = j / 4 * 4 ∨ j = j / 4 * 4 + 1 ∨ j = j / 4 * 4 + 2 ∨ j = j / 4 * 4 + 3 := by omega
  rcases hm with hm | hm | hm | hm
  · rw [hm, c0] at hu; cases hu; rw [hm]; exact h0
  · rw [hm, c1] at hu; cases hu; rw [hm]; exact h1
  · rw [hm, c2] at hu; cases hu; rw [hm]; exact h2
  · rw [hm, c3] at hu; cases hu; rw [hm]; exact h3
theorem N.append_src' {w0 w : World} {ops : Array Oper} {rest : List Oper} {o : Oper} {a : Act} {Q : Exit → Act → World → Prop} (hgd : o.guard = none) (s x : Operand)
    (ho : o.op = .call { callee := .builtin .append, args := #[s, x], argTypes := #[22, 22] })
    (v : Value) (n : Nat) (xs : List Value) (hs : a.eval s = v) (hown : w.ownsRow w0.heap.size 52 4 v n xs) (hB : Below w0.heap.size w0 w)
    (ao : Option Addr) (c : Nat) (l : List N.K) (hx : a.eval x = .slice ao l.length c) (hc : ao = none → c = 0) (hr : N.Row w ao l)
    (hn : (n + l.length) * 32 ≤ 140737488355328)
    (h : ∀ v' w', w'.ownsRow w0.heap.size 52 4 v' (n + l.length) (xs ++ N.cells l) → Below w0.heap.size w0 w' → wpList Try.prog ops Q rest (a.put o.dst v') w') : wpList Try.prog ops Q (o :: rest) a w := by
  obtain ⟨ip, hp, hp0, hp1, hp2⟩ := info_parts Try.infoKid
  cases ao with
  | none =>
    have hl : l = [] := by
      cases l with
      | nil => rfl
      | cons p r => obtain ⟨_, _, e, _⟩ := hr 0 p rfl; cases e
    subst hl
    rw [hc rfl] at hx
    refine wpList_append_own_none hgd s x _ ho w0.heap.size 52 ip 4 Try.underlying22 hp v n xs hs hown hx ?_
    refine h v w ?_ hB
    simpa [N.cells] using hown
  | some ad =>
    have hnews : ∀ j u, (N.cells l)[j]? = some u → w.cell? (ad.add j) = some u := by
      cases l with
      | nil => intro j u hu; simp [N.cells] at hu
      | cons p r =>
        obtain ⟨b, q, e, _⟩ := hr 0 p rfl
        cases e
        exact N.cells_of_row hr
    refine wpList_append_own _ hgd s x _ ho w0.heap.size 52 ip (.agg #[.int .u64 0, .int .i64 0, .int .i64 0, .int .i64 0]) 4 32 Try.underlying22 hp hp0 hp1 hp2 rfl (by decide) v n xs hs hown ad l.length c (N.cells l) hx (N.cells_len l) hnews (N.cells_one4 l) (by unfold maxLen; omega) (by omega) hB.size ?_
    intro v' w' h1 h2 _
    exact h v' w' h1 (hB.grown h2 hB.size (fun k e => (hown.lt k e).1))
def N.OwnEnd (l : List N.K) (w : World) (e : Ending) (w' : World) : Prop := ∃ v, e = .returned v ∧ N.Made l w v w'
set_option maxRecDepth 100000 in
theorem cloneKid_any (ao : Option Addr) (ca : Nat) (l : List N.K) (w : World) (hr : N.Row w ao l) (hc : ao = none → ca = 0) (hn : l.length ≤ 1000000) :
    Calls Try.prog 60 #[.slice ao l.length ca] w (N.OwnEnd l w) := by
  have hr1 := Lib.hid (hr.below ((Below.refl w.heap.size w).alloc (Nat.le_refl _) (.cells #[] 52)))
  have ho := Lib.hid (World.ownsRow_made (w := w) (base := w.heap.size) (e := 52) (size := 4) #[] 0 (Nat.le_refl _) (Nat.zero_le _) rfl)
  have hb := Lib.hid ((Below.refl w.heap.size w).alloc (Nat.le_refl _) (.cells #[] 52))
  have q22 : ∀ (w : World) (a : Option Addr) (n c n' c' : Nat), (binOp .eql 22 (.slice a n c) (.slice none n' c')).run Try.prog w = .ok (.bool a.isNone) w := fun w a n c n' c' => Lib.run_eql_slice_nil w 22 52 a n c n' c' Try.underlying22
  cases ao with
  | none =>
    have hl : l = [] := by
      cases l with
      | nil => rfl
      | cons p r => obtain ⟨_, _, e, _⟩ := hr 0 p rfl; cases e
    obtain rfl := hc rfl
    subst hl
    clear hr hr1 ho hb hc hn
    go_enter Try.func60, Try.ntmps60
    go_wp2
    go_ret
    exact ⟨_, rfl, N.Made.nil _ (Below.refl _ _)⟩
  | some ad =>
    clear hr hc
    go_enter Try.func60, Try.ntmps60
    go_wp2_with (at_builtin; refine N.append_src' (w0 := w) rfl _ _ rfl _ _ _ rfl ho.out hb.out (some ad) ca l rfl (fun h => nomatch h) hr1.out ?q1 ?_)
    case q1 => omega
    intro v' w3 hown' hb3
    have R : Hid (N.OwnEnd l w (.returned v') w3) := ⟨v', rfl, hown', hb3⟩
    clear hown' hb3
    go_wp2
    go_ret
    exact R.out
/-! ### A block of three cells of the call's own that holds a node -/
structure N.Own (W : World) (b : Nat) (x y z : Value) : Prop where
  lt : b < W.heap.size
  c0 : W.cell? ⟨b, 0, none⟩ = some x
  c1 : W.cell? ⟨b, 1, none⟩ = some y
  c2 : W.cell? ⟨b, 2, none⟩ = some z
  f0 : W.frozen? ⟨b, 0, none⟩ = false
  f1 : W.frozen? ⟨b, 1, none⟩ = false
  f2 : W.frozen? ⟨b, 2, none⟩ = false
theorem N.Own.new (W : World) (x y z : Value) (t : TypeId) : N.Own (W.alloc (.cells #[x, y, z] t)) W.heap.size x y z :=
  ⟨by simp, by simp [go_sem], by simp [go_sem], by simp [go_sem], by simp [go_sem], by simp [go_sem], by simp [go_sem]⟩
theorem N.Own.below {W W' : World} {b x y z} (h : N.Own W b x y z) (hb : Below W.heap.size W W') : N.Own W' b x y z := by
  obtain ⟨hc, hf⟩ := M.bcell hb
  exact ⟨Nat.lt_of_lt_of_le h.lt hb.size, (hc _ _ h.lt).trans h.c0, (hc _ _ h.lt).trans h.c1, (hc _ _ h.lt).trans h.c2, (hf _ _ h.lt).trans h.f0, (hf _ _ h.lt).trans h.f1, (hf _ _ h.lt).trans h.f2⟩
theorem N.Own.alloc {W : World} {b x y z} (h : N.Own W b x y z) (o : Obj) : N.Own (W.alloc o) b x y z := h.below ((Below.refl _ _).alloc (Nat.le_refl _) o)
theorem N.Own.drew {W : World} {b x y z} (h : N.Own W b x y z) : N.Own W.drew b x y z := h.below (Below.refl _ _).drew
/-- What three stores into the block leave. -/
@[reducible] def N.put3 (W : World) (b : Nat) (x y z : Value) : World := ((W.setCell ⟨b, 0, none⟩ x).setCell ⟨b, 1, none⟩ y).setCell ⟨b, 2, none⟩ z
theorem N.Own.put {W : World} {b x y z} (h : N.Own W b x y z) (x' y' z' : Value) : N.Own (N.put3 W b x' y' z') b x' y' z' := by
  unfold N.put3
  have k0 := h.c0
  have k1 := h.c1
  have k2 := h.c2
  refine ⟨by simpa using h.lt, ?_, ?_, ?_, by simp only [World.frozen?_setCell]; exact h.f0, by simp only [World.frozen?_setCell]; exact h.f1, by simp only [World.frozen?_setCell]; exact h.f2⟩
  · rw [World.cell?_setCell_other _ _ _ _ (by simp), World.cell?_setCell_other _ _ _ _ (by simp), World.cell?_setCell_same' _ _ _ (by rw [k0]; rfl)]
  · rw [World.cell?_setCell_other _ _ _ _ (by simp), World.cell?_setCell_same' _ _ _ (by rw [World.cell?_setCell_other _ _ _ _ (by simp), k1]; rfl)]
  · rw [World.cell?_setCell_same' _ _ _ (by rw [World.cell?_setCell_other _ _ _ _ (by simp), World.cell?_setCell_other _ _ _ _ (by simp), k2]; rfl)]
theorem N.put3_below {B : Nat} {w W : World} {b : Nat} (h : Below B w W) (hb : B ≤ b) (x y z : Value) : Below B w (N.put3 W b x y z) :=
  ((h.setCell (p := ⟨b, 0, none⟩) hb _).setCell (p := ⟨b, 1, none⟩) hb _).setCell (p := ⟨b, 2, none⟩) hb _
theorem N.Own.set2 {W : World} {b x y z} (h : N.Own W b x y z) (z' : Value) : N.Own (W.setCell ⟨b, 2, none⟩ z') b x y z' := by
  have k2 := h.c2
  refine ⟨by simpa using h.lt, ?_, ?_, ?_, by rw [World.frozen?_setCell]; exact h.f0, by rw [World.frozen?_setCell]; exact h.f1, by rw [World.frozen?_setCell]; exact h.f2⟩
  · rw [World.cell?_setCell_other _ _ _ _ (by simp)]; exact h.c0
  · rw [World.cell?_setCell_other _ _ _ _ (by simp)]; exact h.c1
  · rw [World.cell?_setCell_same' _ _ _ (by rw [k2]; rfl)]
theorem N.Own.set1 {W : World} {b x y z} (h : N.Own W b x y z) (y' : Value) : N.Own (W.setCell ⟨b, 1, none⟩ y') b x y' z := by
  have k1 := h.c1
  refine ⟨by simpa using h.lt, ?_, ?_, ?_, by rw [World.frozen?_setCell]; exact h.f0, by rw [World.frozen?_setCell]; exact h.f1, by rw [World.frozen?_setCell]; exact h.f2⟩
  · rw [World.cell?_setCell_other _ _ _ _ (by simp)]; exact h.c0
  · rw [World.cell?_setCell_same' _ _ _ (by rw [k1]; rfl)]
  · rw [World.cell?_setCell_other _ _ _ _ (by simp)]; exact h.c2
theorem N.Own.keep {W : World} {b c x y z} (h : N.Own W b x y z) (hne : b ≠ c) (x' y' z' : Value) : N.Own (N.put3 W c x' y' z') b x y z := by
  unfold N.put3
  have q : ∀ i j : Nat, (⟨c, i, none⟩ : Addr) ≠ ⟨b, j, none⟩ := fun i j e => hne (by injection e with e1; exact e1.symm)
  have q' : ∀ i j : Nat, (⟨b, j, none⟩ : Addr) ≠ ⟨c, i, none⟩ := fun i j e => hne (by injection e)
  refine ⟨by simpa using h.lt, ?_, ?_, ?_, by simp only [World.frozen?_setCell]; exact h.f0, by simp only [World.frozen?_setCell]; exact h.f1, by simp only [World.frozen?_setCell]; exact h.f2⟩
  all_goals
    rw [World.cell?_setCell_other _ _ _ _ (by first | exact q _ _ | exact q' _ _), World.cell?_setCell_other _ _ _ _ (by first | exact q _ _ | exact q' _ _), World.cell?_setCell_other _ _ _ _ (by first | exact q _ _ | exact q' _ _)]
  · exact h.c0
  · exact h.c1
  · exact h.c2
/-! ### checked -/
def N.zv : Value := .agg #[.int .i64 0, .string ⟨#[]⟩, .slice none 0 0]
set_option maxRecDepth 100000 in
set_option maxHeartbeats 1000000 in
theorem checked12_ok (h : Int) (t : ByteArray) (ao : Option Addr) (ca : Nat) (l : List N.K) (w : World) (ht : t.size ≤ maxLen) (hn : l.length ≤ maxLen) (hr : N.Row w ao l) (hf : ∀ p ∈ l, N.Fit p) (hc : N.chk (N.nd h t l) = 0) :
    Calls Try.prog 59 #[N.nv h t (.slice ao l.length ca)] w fun e w' => e = .returned (.tuple #[N.nv h t (.slice ao l.length ca), .int .i64 0]) ∧ Below w.heap.size w w' := by
  have B1 : Hid (Below w.heap.size w ((w.alloc (.cells #[.int .i64 h, .string t, .slice ao l.length ca] 24)).alloc (.cells #[.int .i64 0, .string ⟨#[]⟩, .slice none 0 0] 24))) := ((Below.refl _ _).alloc (Nat.le_refl _) _).alloc (by simp) _
  have X1 := Lib.hid ((N.Nb.new w h t (.slice ao l.length ca) 24).alloc (.cells #[.int .i64 0, .string ⟨#[]⟩, .slice none 0 0] 24))
  have O1 := N.Own.new (w.alloc (.cells #[.int .i64 h, .string t, .slice ao l.length ca] 24)) (.int .i64 0) (.string ⟨#[]⟩) (.slice none 0 0) 24
  rw [World.size_alloc] at O1
  have O1 := Lib.hid O1
  unfold N.nv
  have HC : Hid (∀ W, Below w.heap.size w W → Calls Try.prog 15 #[.agg #[.int .i64 h, .string t, .slice ao l.length ca]] W fun e w' => e = .returned (.int .i64 0) ∧ Below W.heap.size W w') := fun W hW => by
    have := check12_any h t ao ca l W ht hn (hr.below hW) hf
    rwa [hc] at this
  clear ht hn hr hf hc
  go_enter Try.func59, Try.ntmps59
  go_wp2_with fail
  refine (HC.out _ B1.out).mono ?_
  rintro e w1 ⟨rfl, hb⟩
  have B2 := Lib.hid (B1.out.trans (hb.mono B1.out.size))
  have O2 := Lib.hid (O1.out.below hb)
  have X2 := Lib.hid (X1.out.below hb)
  clear hb B1 O1 X1
  have x0 := X2.out.c0
  have x1 := X2.out.c1
  have x2 := X2.out.c2
  have r0 := O2.out.c0
  have r1 := O2.out.c1
  have r2 := O2.out.c2
  have s0 := O2.out.f0
  have s1 := O2.out.f1
  have s2 := O2.out.f2
  have hP := O2.out.put (.int .i64 h) (.string t) (.slice ao l.length ca)
  have hBw := Lib.hid (N.put3_below B2.out (b := w.heap.size + 1) (by omega) (.int .i64 h) (.string t) (.slice ao l.length ca))
  go_wp2
  have p0 := hP.c0
  have p1 := hP.c1
  have p2 := hP.c2
  refine bodyPost_ret (v := .tuple #[.agg #[.int .i64 h, .string t, .slice ao l.length ca], .int .i64 0]) ?_ rfl ⟨rfl, hBw.out⟩
  unfold N.put3 at p0 p1 p2
  simp [results, Try.results59, go_sem, p0, p1, p2]
set_option maxRecDepth 100000 in
set_option maxHeartbeats 1000000 in
theorem checked12_bad (h : Int) (t : ByteArray) (ao : Option Addr) (ca : Nat) (l : List N.K) (w : World) (ht : t.size ≤ maxLen) (hn : l.length ≤ maxLen) (hr : N.Row w ao l) (hf : ∀ p ∈ l, N.Fit p) (hc : N.chk (N.nd h t l) ≠ 0) :
    Calls Try.prog 59 #[N.nv h t (.slice ao l.length ca)] w fun e w' => e = .returned (.tuple #[N.zv, .int .i64 (N.chk (N.nd h t l))]) ∧ Below w.heap.size w w' := by
  have B1 : Hid (Below w.heap.size w ((w.alloc (.cells #[.int .i64 h, .string t, .slice ao l.length ca] 24)).alloc (.cells #[.int .i64 0, .string ⟨#[]⟩, .slice none 0 0] 24))) := ((Below.refl _ _).alloc (Nat.le_refl _) _).alloc (by simp) _
  have O1 := N.Own.new (w.alloc (.cells #[.int .i64 h, .string t, .slice ao l.length ca] 24)) (.int .i64 0) (.string ⟨#[]⟩) (.slice none 0 0) 24
  rw [World.size_alloc] at O1
  have O1 := Lib.hid O1
  unfold N.nv N.zv
  have HC : Hid (∀ W, Below w.heap.size w W → Calls Try.prog 15 #[.agg #[.int .i64 h, .string t, .slice ao l.length ca]] W fun e w' => e = .returned (.int .i64 (N.chk (N.nd h t l))) ∧ Below W.heap.size W w') := fun W hW => check12_any h t ao ca l W ht hn (hr.below hW) hf
  have hc' : (N.chk (N.nd h t l) != 0) = true := by simpa using hc
  generalize N.chk (N.nd h t l) = c at *
  clear ht hn hr hf hc
  go_enter Try.func59, Try.ntmps59
  go_wp2_with fail
  refine (HC.out _ B1.out).mono ?_
  rintro e w1 ⟨rfl, hb⟩
  have B2 := Lib.hid (B1.out.trans (hb.mono B1.out.size))
  have O2 := Lib.hid (O1.out.below hb)
  clear hb B1 O1
  have r0 := O2.out.c0
  have r1 := O2.out.c1
  have r2 := O2.out.c2
  have s0 := O2.out.f0
  have s1 := O2.out.f1
  have s2 := O2.out.f2
  have hP := O2.out.put (.int .i64 0) (.string ⟨#[]⟩) (.slice none 0 0)
  have hBw := Lib.hid (N.put3_below B2.out (b := w.heap.size + 1) (by omega) (.int .i64 0) (.string ⟨#[]⟩) (.slice none 0 0))
  go_wp2
  have p0 := hP.c0
  have p1 := hP.c1
  have p2 := hP.c2
  refine bodyPost_ret (v := .tuple #[.agg #[.int .i64 0, .string ⟨#[]⟩, .slice none 0 0], .int .i64 c]) ?_ rfl ⟨rfl, hBw.out⟩
  unfold N.put3 at p0 p1 p2
  simp [results, Try.results59, go_sem, p0, p1, p2]
end Go.Proofs.Ytdpaleldalplfaa
/- NodeMake2 -/
namespace Go.Proofs.Ytdpaleldalplfaa
open Go.RowKit

def N.rT (t : ByteArray) : ByteArray := if N.chk (N.nd 0 t []) = 0 then t else ⟨#[]⟩
def N.LfEnd (t : ByteArray) (w : World) (e : Ending) (w' : World) : Prop := e = .returned (.tuple #[N.nv 0 (N.rT t) (.slice none 0 0), .int .i64 (N.chk (N.nd 0 t []))]) ∧ Below w.heap.size w w'
set_option maxRecDepth 100000 in
set_option maxHeartbeats 1000000 in
theorem leaf12_any (t : ByteArray) (w : World) (ht : t.size ≤ maxLen) : Calls Try.prog 27 #[.string t] w (N.LfEnd t w) := by
  have B1 : Hid (Below w.heap.size w (w.alloc (.cells #[.int .i64 0, .string ⟨#[]⟩, .slice none 0 0] 24))) := (Below.refl _ _).alloc (Nat.le_refl _) _
  have O1 := Lib.hid (N.Own.new w (.int .i64 0) (.string ⟨#[]⟩) (.slice none 0 0) 24)
  have HC : Hid (∀ W, Calls Try.prog 59 #[.agg #[.int .i64 0, .string t, .slice none 0 0]] W fun e w' => e = .returned (.tuple #[.agg #[.int .i64 0, .string (N.rT t), .slice none 0 0], .int .i64 (N.chk (N.nd 0 t []))]) ∧ Below W.heap.size W w') := fun W => by
    unfold N.rT
    by_cases hc : N.chk (N.nd 0 t []) = 0
    · rw [if_pos hc, hc]
      exact checked12_ok 0 t none 0 [] W ht (Nat.zero_le _) (N.row_nil _ _) (fun p hp => by cases hp) hc
    · rw [if_neg hc]
      exact checked12_bad 0 t none 0 [] W ht (Nat.zero_le _) (N.row_nil _ _) (fun p hp => by cases hp) hc
  unfold N.LfEnd
  unfold N.nv
  generalize N.chk (N.nd 0 t []) = c at *
  generalize N.rT t = u at *
  go_enter Try.func27, Try.ntmps27
  go_wp2_with fail
  refine (HC.out _).mono ?_
  rintro e w1 ⟨rfl, hb⟩
  have B2 := Lib.hid (B1.out.trans (hb.mono B1.out.size))
  have O2 := Lib.hid (O1.out.below hb)
  clear hb B1 O1
  have r0 := O2.out.c0
  have r1 := O2.out.c1
  have r2 := O2.out.c2
  have s0 := O2.out.f0
  have s1 := O2.out.f1
  have s2 := O2.out.f2
  have hP := O2.out.put (.int .i64 0) (.string u) (.slice none 0 0)
  have hBw := Lib.hid (N.put3_below B2.out (b := w.heap.size) (by omega) (.int .i64 0) (.string u) (.slice none 0 0))
  go_wp2
  have p0 := hP.c0
  have p1 := hP.c1
  have p2 := hP.c2
  refine bodyPost_ret (v := .tuple #[.agg #[.int .i64 0, .string u, .slice none 0 0], .int .i64 c]) ?_ rfl ⟨rfl, hBw.out⟩
  unfold N.put3 at p0 p1 p2
  simp [results, Try.results27, go_sem, p0, p1, p2]
def N.rH (h : Int) (l : List N.K) : Int := if N.chk (N.nd h ⟨#[]⟩ l) = 0 then h else 0
def N.rL (h : Int) (l : List N.K) : List N.K := if N.chk (N.nd h ⟨#[]⟩ l) = 0 then l else []
def N.InEnd (h : Int) (l : List N.K) (w : World) (e : Ending) (w' : World) : Prop := ∃ v, e = .returned (.tuple #[N.nv (N.rH h l) ⟨#[]⟩ v, .int .i64 (N.chk (N.nd h ⟨#[]⟩ l))]) ∧ N.Made (N.rL h l) w v w'
theorem N.in_small {h : Int} {l : List N.K} (hc : N.chk (N.nd h ⟨#[]⟩ l) = 0) : l.length ≤ 4 ∧ l ≠ [] ∧ h ≠ 0 := by
  rcases N.chk_cases hc with k | k
  · have h1 : 1 ≤ ([] : List UInt8).length := k.t1
    exact absurd h1 (by decide)
  · exact ⟨k.k4, fun e => by have := k.k2; rw [show (N.nd h ⟨#[]⟩ l).ks = l from rfl, e] at this; simp at this, fun e => by have := k.h1; rw [show (N.nd h ⟨#[]⟩ l).h = h from rfl] at this; omega⟩
theorem N.setCell_below {B : Nat} {w W : World} (h : Below B w W) {b o : Nat} (hb : B ≤ b) (z : Value) : Below B w (W.setCell ⟨b, o, none⟩ z) := h.setCell (p := ⟨b, o, none⟩) hb z
/-- A row made since a moment at which the heap had size lo: stores below leave it alone. -/
structure N.Ab (l : List N.K) (w : World) (lo : Nat) (v : Value) (W : World) : Prop where
  own : W.ownsRow lo 52 4 v l.length (N.cells l)
  below : Below w.heap.size w W
  lo : w.heap.size ≤ lo
theorem N.Ab.set {l : List N.K} {w : World} {lo : Nat} {v : Value} {W : World} (h : N.Ab l w lo v W) {b : Nat} (h1 : w.heap.size ≤ b) (h2 : b < lo) (o : Nat) (z : Value) : N.Ab l w lo v (W.setCell ⟨b, o, none⟩ z) := by
  refine ⟨h.own.kept (row := some b) ⟨rfl, rfl, rfl, by simp [World.setCell], fun j _ hj => Below.heap_setCell _ _ _ _ (fun e => hj (by simpa using e))⟩ ?_, h.below.setCell (p := ⟨b, o, none⟩) h1 z, h.lo⟩
  cases hv : v.ownBlock with
  | none => exact .inl rfl
  | some k => exact .inr fun e => by have := (h.own.lt k hv).1; cases e; omega
theorem N.Ab.made {l : List N.K} {w : World} {lo : Nat} {v : Value} {W : World} (h : N.Ab l w lo v W) : N.Made l w v W := ⟨D.own_mono h.own h.lo, h.below⟩
theorem N.Made.ab {l : List N.K} {w w0 : World} {v : Value} {W : World} (h : N.Made l w0 v W) (hb : Below w.heap.size w w0) : N.Ab l w w0.heap.size v W := ⟨h.own, hb.trans (h.below.mono hb.size), hb.size⟩
set_option maxRecDepth 100000 in
set_option maxHeartbeats 2000000 in
theorem inner12_any (h : Int) (ao : Option Addr) (ca : Nat) (l : List N.K) (w : World) (hn : l.length ≤ maxLen) (hr : N.Row w ao l) (hf : ∀ p ∈ l, N.Fit p) :
    Calls Try.prog 30 #[.int .i64 h, .slice ao l.length ca] w (N.InEnd h l w) := by
  have B1 : Hid (Below w.heap.size w (w.alloc (.cells #[.int .i64 0, .string ⟨#[]⟩, .slice none 0 0] 24))) := (Below.refl _ _).alloc (Nat.le_refl _) _
  have O1 := Lib.hid (N.Own.new w (.int .i64 0) (.string ⟨#[]⟩) (.slice none 0 0) 24)
  have HC : Hid (∃ (yo : Option Addr) (yc : Nat), (yo = none → yc = 0) ∧ (N.rL h l).length ≤ 4 ∧ (∀ W, Below w.heap.size w W → N.Row W yo (N.rL h l)) ∧ ∀ W, Below w.heap.size w W → Calls Try.prog 59 #[.agg #[.int .i64 h, .string ⟨#[]⟩, .slice ao l.length ca]] W fun e w' => e = .returned (.tuple #[.agg #[.int .i64 (N.rH h l), .string ⟨#[]⟩, .slice yo (N.rL h l).length yc], .int .i64 (N.chk (N.nd h ⟨#[]⟩ l))]) ∧ Below W.heap.size W w') := by
    unfold N.rH N.rL
    by_cases hc : N.chk (N.nd h ⟨#[]⟩ l) = 0
    · rw [if_pos hc, if_pos hc, hc]
      obtain ⟨h4, hne, _⟩ := N.in_small hc
      refine ⟨ao, ca, fun e => ?_, h4, fun W hW => hr.below hW, fun W hW => checked12_ok h ⟨#[]⟩ ao ca l W (Nat.zero_le _) hn (hr.below hW) hf hc⟩
      cases l with
      | nil => exact absurd rfl hne
      | cons p r => obtain ⟨_, _, e', _⟩ := hr 0 p rfl; rw [e] at e'; cases e'
    · rw [if_neg hc, if_neg hc]
      exact ⟨none, 0, fun _ => rfl, Nat.zero_le _, fun W _ => N.row_nil _ _, fun W hW => checked12_bad h ⟨#[]⟩ ao ca l W (Nat.zero_le _) hn (hr.below hW) hf hc⟩
  obtain ⟨yo, yc, hy0, hy4, hyr, hyc⟩ := HC.out
  have HY := Lib.hid hyr
  have HD := Lib.hid hyc
  have HK : Hid (∀ W, Below w.heap.size w W → Calls Try.prog 60 #[.slice yo (N.rL h l).length yc] W (N.OwnEnd (N.rL h l) W)) := fun W hW => cloneKid_any yo yc _ W (hyr W hW) hy0 (by omega)
  unfold N.OwnEnd at HK
  have HE : Hid (∀ v W, N.Made (N.rL h l) w v W → N.InEnd h l w (.returned (.tuple #[.agg #[.int .i64 (N.rH h l), .string ⟨#[]⟩, v], .int .i64 (N.chk (N.nd h ⟨#[]⟩ l))])) W) := fun v W hm => ⟨v, rfl, hm⟩
  generalize N.chk (N.nd h ⟨#[]⟩ l) = c at *
  generalize N.rH h l = rh at *
  generalize hL : N.rL h l = L at *
  clear hL HC hyc hyr hy0 hy4 hn hr hf HY
  go_enter Try.func30, Try.ntmps30
  go_wp2_with fail
  refine (HD.out _ B1.out).mono ?_
  rintro e w1 ⟨rfl, hb⟩
  have B2 := Lib.hid ((B1.out.trans (hb.mono B1.out.size)).alloc (B1.out.trans (hb.mono B1.out.size)).size (.cells #[.int .i64 rh, .string ⟨#[]⟩, .slice yo L.length yc] 24))
  have O2 := Lib.hid ((O1.out.below hb).alloc (.cells #[.int .i64 rh, .string ⟨#[]⟩, .slice yo L.length yc] 24))
  have X2 := Lib.hid (N.Own.new w1 (.int .i64 rh) (.string ⟨#[]⟩) (.slice yo L.length yc) 24)
  have z1 : Hid (w.heap.size < w1.heap.size) := by have := hb.size; simp at this; show _ < _; omega
  clear hb B1 O1
  go_wp2_with fail
  refine (HK.out _ B2.out).mono ?_
  rintro e w2 ⟨v, rfl, hm⟩
  obtain ⟨vo, vc, hv, _, _⟩ := hm.src
  have B3 := Lib.hid (B2.out.trans (hm.below.mono B2.out.size))
  have O3 := Lib.hid (O2.out.below hm.below)
  have X3 := Lib.hid (X2.out.below hm.below)
  have A3 := hm.ab B2.out
  subst hv
  clear hm B2 O2 X2
  have zz : w.heap.size ≠ w1.heap.size := by have := z1.out; omega
  have zz' : w1.heap.size ≠ w.heap.size := fun e => zz e.symm
  have A4 := A3.set (b := w1.heap.size) (by have := z1.out; omega) (by simp) 2 (.slice vo L.length vc)
  have A5 := ((A4.set (b := w.heap.size) (Nat.le_refl _) (by have := z1.out; simp; omega) 0 (.int .i64 rh)).set (b := w.heap.size) (Nat.le_refl _) (by have := z1.out; simp; omega) 1 (.string ⟨#[]⟩)).set (b := w.heap.size) (Nat.le_refl _) (by have := z1.out; simp; omega) 2 (.slice vo L.length vc)
  have M5 := Lib.hid (HE.out _ _ A5.made)
  have X4 := X3.out.set2 (.slice vo L.length vc)
  have x0 := X4.c0
  have x1 := X4.c1
  have x2 := X4.c2
  have y2 := X3.out.c2
  have g2 := X3.out.f2
  have O4 : N.Own (w2.setCell ⟨w1.heap.size, 2, none⟩ (.slice vo L.length vc)) w.heap.size (.int .i64 0) (.string ⟨#[]⟩) (.slice none 0 0) := by
    have h := O3.out
    refine ⟨by simpa using h.lt, ?_, ?_, ?_, by rw [World.frozen?_setCell]; exact h.f0, by rw [World.frozen?_setCell]; exact h.f1, by rw [World.frozen?_setCell]; exact h.f2⟩
    all_goals rw [World.cell?_setCell_other _ _ _ _ (by intro e; injection e with e1; first | exact zz e1 | exact zz' e1)]
    · exact h.c0
    · exact h.c1
    · exact h.c2
  have r0 := O4.c0
  have r1 := O4.c1
  have r2 := O4.c2
  have s0 := O4.f0
  have s1 := O4.f1
  have s2 := O4.f2
  have hP := O4.put (.int .i64 rh) (.string ⟨#[]⟩) (.slice vo L.length vc)
  clear A3 A4 A5 X4 O4
  go_wp2
  have p0 := hP.c0
  have p1 := hP.c1
  have p2 := hP.c2
  refine bodyPost_ret (v := .tuple #[.agg #[.int .i64 rh, .string ⟨#[]⟩, .slice vo L.length vc], .int .i64 c]) ?_ rfl M5.out
  unfold N.put3 at p0 p1 p2
  simp [results, Try.results30, go_sem, p0, p1, p2]
end Go.Proofs.Ytdpaleldalplfaa
