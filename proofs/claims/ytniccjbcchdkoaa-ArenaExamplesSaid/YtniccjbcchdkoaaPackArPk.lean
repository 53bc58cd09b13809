/- Texts joined: ArOwn ArPk1 ArPk2 ArPk3 ArPk4 ArPk5 ArPk6 ArPk7 ArPk8 -/
import Derived.Test.YtniccjbcchdkoaaPackArPa
import Derived.Test.YtniccjbcchdkoaaMapV
import Derived.Test.YtniccjbcchdkoaaPackFPkg
import Derived.Test.YtniccjbcchdkoaaPackNMake
import Derived.Maps.OwnOps
import Derived.Test.YtniccjbcchdkoaaPeel
/- ArOwn -/
namespace Go.Proofs.Ytniccjbcchdkoaa
open Go.RowKit

/-- A node as a value. -/
def PA.val (x : N.NArg) : Value := .agg #[.int .i64 x.h, .string x.t, .slice x.s.a x.s.x.length x.s.c]
def PA.fn (g : Nat → Option N.NArg) (h : Nat) : Option Value := (g h).map PA.val
/-- The counts: slots, free, live, withdrawn, allocs, frees, stale. -/
structure PA.C where
  s : Nat
  f : Nat
  l : Nat
  w : Nat
  a : Nat
  r : Nat
  t : Nat
@[reducible] def PA.row (pl m : Nat) (c : PA.C) : Array Value := #[.pointer (some ⟨pl, 0, none⟩), .map (some m), .int .i64 (c.s : Int), .int .i64 (c.f : Int), .int .i64 (c.l : Int), .int .i64 (c.w : Int), .int .i64 (c.a : Int), .int .i64 (c.r : Int), .int .i64 (c.t : Int)]
/-- Its memory, without its invariant: the list's blocks are R1, the nodes' children lie in blocks of K. -/
structure PA.Mem (W : World) (p pl m : Nat) (R1 : Nat → Prop) (s : FL.S) (n : Nat) (g : Nat → Option N.NArg) (c : PA.C) (K : Nat → Prop) : Prop where
  obj : W.heap[p]? = some (.cells (PA.row pl m c) 85 (0, 0))
  list : FL.Own W pl s R1
  map : ∃ z, Mv.Is Try.prog 24 W m n z (PA.fn g)
  node : ∀ h y, g h = some y → N.NOk W y
  at_ : ∀ h y, g h = some y → ∀ b o, y.s.a = some ⟨b, o, none⟩ → y.s.x ≠ [] → K b
  np : ¬ R1 p
  nm : m ≠ p ∧ ¬ R1 m
  nk : ∀ k, K k → k ≠ p ∧ k ≠ m ∧ ¬ R1 k
  kl : ∀ k, K k → k < W.heap.size
def PA.foot (p m : Nat) (R1 K : Nat → Prop) (k : Nat) : Prop := k = p ∨ k = m ∨ R1 k ∨ K k
theorem PA.turned {W W' : World} {m : Nat} (h : W.mapTurned W' m) : FL.But (fun k => k = m) W W' := FL.But.grown h.grown (fun k e => by injection e with e; exact e.symm)
section
variable {W W' : World} {p pl m n : Nat} {R1 K : Nat → Prop} {s : FL.S} {g : Nat → Option N.NArg} {c : PA.C}
theorem PA.Mem.lt (h : PA.Mem W p pl m R1 s n g c K) : ∀ k, PA.foot p m R1 K k → k < W.heap.size := fun k hk => by
  rcases hk with rfl | rfl | hk | hk
  · exact (Array.getElem?_eq_some_iff.1 h.obj).1
  · obtain ⟨z, hz⟩ := h.map; exact hz.lt
  · exact h.list.lt k hk
  · exact h.kl k hk
theorem PA.Mem.but (h : PA.Mem W p pl m R1 s n g c K) {Q : Nat → Prop} (hb : FL.But Q W W') (hQ : ∀ k, PA.foot p m R1 K k → ¬ Q k) : PA.Mem W' p pl m R1 s n g c K := by
  have hl := h.lt
  obtain ⟨z, hz⟩ := h.map
  exact ⟨by rw [hb.block p (hl p (.inl rfl)) (hQ p (.inl rfl))]; exact h.obj, h.list.but hb (fun k hk => hQ k (.inr (.inr (.inl hk)))), ⟨z, hz.same (hb.block m hz.lt (hQ m (.inr (.inl rfl))))⟩,
    fun k y e => (h.node k y e).but hb (fun b o e' n => hQ b (.inr (.inr (.inr (h.at_ k y e b o e' n))))), h.at_, h.np, h.nm, h.nk, fun k hk => Nat.lt_of_lt_of_le (h.kl k hk) hb.size⟩
theorem PA.Mem.on (h : PA.Mem W p pl m R1 s n g c K) (hb : Below W.heap.size W W') : PA.Mem W' p pl m R1 s n g c K := h.but (Q := fun _ => False) (FL.But.below hb) (fun _ _ => id)
/-- The list of slots turns. -/
theorem PA.Mem.turn (h : PA.Mem W p pl m R1 s n g c K) {s' : FL.S} (hl : FL.Own W' pl s' R1) (hb : FL.But R1 W W') : PA.Mem W' p pl m R1 s' n g c K := by
  obtain ⟨z, hz⟩ := h.map
  exact ⟨by rw [hb.block p (h.lt p (.inl rfl)) h.np]; exact h.obj, hl, ⟨z, hz.same (hb.block m hz.lt h.nm.2)⟩, fun k y e => (h.node k y e).but hb (fun b o e' n => (h.nk b (h.at_ k y e b o e' n)).2.2), h.at_, h.np, h.nm, h.nk, fun k hk => Nat.lt_of_lt_of_le (h.kl k hk) hb.size⟩
/-- A count is written. -/
theorem PA.Mem.field (h : PA.Mem W p pl m R1 s n g c K) (j : Nat) (u : Value) {c' : PA.C} (ho : (PA.row pl m c).setIfInBounds j u = PA.row pl m c') : PA.Mem (W.setCell ⟨p, j, none⟩ u) p pl m R1 s n g c' K ∧ FL.But (fun k => k = p) W (W.setCell ⟨p, j, none⟩ u) := by
  have hb : FL.But (fun k => k = p) W (W.setCell ⟨p, j, none⟩ u) := FL.But.set W u rfl
  obtain ⟨z, hz⟩ := h.map
  refine ⟨⟨?_, h.list.but hb (fun k hk c => h.np (by rw [← c]; exact hk)), ⟨z, hz.same (hb.block m hz.lt h.nm.1)⟩, fun k y e => (h.node k y e).but hb (fun b o e' n => (h.nk b (h.at_ k y e b o e' n)).1), h.at_, h.np, h.nm, h.nk, fun k hk => Nat.lt_of_lt_of_le (h.kl k hk) hb.size⟩, hb⟩
  rw [FL.set_obj h.obj j u, ho]
/-- The map turns. -/
theorem PA.Mem.maps (h : PA.Mem W p pl m R1 s n g c K) (ht : W.mapTurned W' m) {n' z' : Nat} {g' : Nat → Option N.NArg} {K' : Nat → Prop} (hm : Mv.Is Try.prog 24 W' m n' z' (PA.fn g')) (hn : ∀ k y, g' k = some y → N.NOk W y ∧ ∀ b o, y.s.a = some ⟨b, o, none⟩ → y.s.x ≠ [] → K' b)
    (hk : ∀ k, K' k → k ≠ p ∧ k ≠ m ∧ ¬ R1 k) (hl : ∀ k, K' k → k < W.heap.size) : PA.Mem W' p pl m R1 s n' g' c K' := by
  have hb := PA.turned ht
  exact ⟨by rw [hb.block p (h.lt p (.inl rfl)) (fun e => h.nm.1 e.symm)]; exact h.obj, h.list.but hb (fun k hk c => h.nm.2 (by rw [← c]; exact hk)), ⟨z', hm⟩, fun k y e => (hn k y e).1.but hb (fun b o e' n => (hk b ((hn k y e).2 b o e' n)).2.1), fun k y e => (hn k y e).2, h.np, h.nm, hk, fun k hk' => Nat.lt_of_lt_of_le (hl k hk') hb.size⟩
/-- What loads of the object's fields find. -/
theorem PA.Mem.fields (h : PA.Mem W p pl m R1 s n g c K) : W.cell? ⟨p, 0, none⟩ = some (.pointer (some ⟨pl, 0, none⟩)) ∧ W.cell? ⟨p, 1, none⟩ = some (.map (some m)) ∧ W.cell? ⟨p, 2, none⟩ = some (.int .i64 (c.s : Int)) ∧ W.cell? ⟨p, 3, none⟩ = some (.int .i64 (c.f : Int)) ∧ W.cell? ⟨p, 4, none⟩ = some (.int .i64 (c.l : Int)) ∧
    W.cell? ⟨p, 5, none⟩ = some (.int .i64 (c.w : Int)) ∧ W.cell? ⟨p, 6, none⟩ = some (.int .i64 (c.a : Int)) ∧ W.cell? ⟨p, 7, none⟩ = some (.int .i64 (c.r : Int)) ∧ W.cell? ⟨p, 8, none⟩ = some (.int .i64 (c.t : Int)) ∧ ∀ j : Nat, W.frozen? ⟨p, j, none⟩ = false :=
  ⟨Lib.cell_of_heap h.obj 0, Lib.cell_of_heap h.obj 1, Lib.cell_of_heap h.obj 2, Lib.cell_of_heap h.obj 3, Lib.cell_of_heap h.obj 4, Lib.cell_of_heap h.obj 5, Lib.cell_of_heap h.obj 6, Lib.cell_of_heap h.obj 7, Lib.cell_of_heap h.obj 8, fun _ => frozen_of_row _ _ _ _ _ h.obj⟩
end
/-- The counts of an arena. -/
def PA.cs (a : A13.A) : PA.C := ⟨a.l.st.length, a.l.stk.length, a.items.length, a.l.gone, a.al, a.fr, a.st⟩
structure PA.At (W : World) (p pl m : Nat) (R1 : Nat → Prop) (n : Nat) (g : Nat → Option N.NArg) (a : A13.A) (K : Nat → Prop) : Prop where
  inv : A13.Inv a
  cnt : A13.Cnt a
  mem : PA.Mem W p pl m R1 a.l n g (PA.cs a) K
  look : ∀ h, a.look h = (g h).map N.NArg.nd
  wr : n ≤ a.al
/-- An arena of the program at block p, in the blocks of R. -/
def PA.Own (W : World) (p : Nat) (a : A13.A) (R : Nat → Prop) : Prop := ∃ pl m R1 n g K, PA.At W p pl m R1 n g a K ∧ (∀ k, PA.foot p m R1 K k → R k) ∧ ∀ k, R k → k < W.heap.size
theorem PA.Own.but {W W' : World} {p : Nat} {a : A13.A} {R Q : Nat → Prop} (h : PA.Own W p a R) (hb : FL.But Q W W') (hQ : ∀ k, R k → ¬ Q k) : PA.Own W' p a R := by
  obtain ⟨pl, m, R1, n, g, K, hA, hR, hs⟩ := h
  exact ⟨pl, m, R1, n, g, K, ⟨hA.inv, hA.cnt, hA.mem.but hb (fun k hk => hQ k (hR k hk)), hA.look, hA.wr⟩, hR, fun k hk => Nat.lt_of_lt_of_le (hs k hk) hb.size⟩
theorem PA.Own.below {W W' : World} {p : Nat} {a : A13.A} {R : Nat → Prop} (h : PA.Own W p a R) (hb : Below W.heap.size W W') : PA.Own W' p a R := h.but (Q := fun _ => False) (FL.But.below hb) (fun _ _ => id)
theorem PA.Own.ext {W : World} {p : Nat} {a : A13.A} {R : Nat → Prop} (h : PA.Own W p a R) (n : Nat) : PA.Own W p a (Ar.ext R n W.heap.size) := by
  obtain ⟨pl, m, R1, k, g, K, hA, hR, hs⟩ := h
  exact ⟨pl, m, R1, k, g, K, hA, fun i hi => .inl (hR i hi), fun i hi => hi.elim (hs i) (fun c => c.2)⟩
/-- How many writes there can have been. -/
theorem PA.al_bd {a : A13.A} (v : A13.Inv a) (c : A13.Cnt a) : a.al ≤ 70368744161280 ∧ a.fr ≤ 70368744161280 := by
  have k1 := c.took
  have k2 := A13.tookAll_le v.l
  have k3 : a.l.st.length * a.l.gens ≤ 16384 * 4294967295 := Nat.mul_le_mul v.l.n2 v.l.g2
  have k4 := c.live
  have k6 : A13.tookAll a.l ≤ 16384 * 4294967295 := Nat.le_trans k2 k3
  omega
/-! ### What a look-up finds, in whatever world -/
theorem PA.keyed : Try.prog.underlying 24 = some (.int .u64) := Try.underlying24
theorem PA.mapped : Try.prog.underlying 83 = some (.map 24 30) := Try.underlying83
theorem PA.zero (w : World) : (zeroValue 30).run Try.prog w = .ok (.agg #[.int .i64 0, .string ⟨#[]⟩, .slice none 0 0]) w := by kernel_rfl
theorem Mv.Is.run_yes {P : Program} {K : TypeId} {W : World} {b n c : Nat} {f : Nat → Option Value} {t e : TypeId} (hK : P.underlying K = some (.int .u64)) (ht : P.underlying t = some (.map K e)) {z : Value} (hz : (zeroValue e).run P W = .ok z W) (h : Mv.Is P K W b n c f) {k : Nat} (hk : k < 18446744073709551616) {v : Value} (hv : f k = some v) :
    (Instr.lookup t (.map (some b)) (.int .u64 (k : Int)) true).run P W = .ok (.tuple #[v, .bool true]) W := by
  obtain ⟨D, h0, _, hf⟩ := h
  obtain ⟨h1, h2⟩ := hf k
  obtain ⟨u, ps, hr, hu⟩ := h0.look_ok (Maps.int_keyed hK) ht hz (zd := .held z) (zp := []) rfl (Mv.key_of hK hk)
  rw [h2 v hv] at hu
  unfold Mv.rd at hu
  injection hu with hu
  injection hu with hu
  injection hu with hu
  subst hu
  rw [hr, h1, hv]
  rfl
theorem Mv.Is.run_no {P : Program} {K : TypeId} {W : World} {b n c : Nat} {f : Nat → Option Value} {t e : TypeId} (hK : P.underlying K = some (.int .u64)) (ht : P.underlying t = some (.map K e)) {z : Value} (hz : (zeroValue e).run P W = .ok z W) (h : Mv.Is P K W b n c f) {k : Nat} (hk : k < 18446744073709551616) (hv : f k = none) :
    (Instr.lookup t (.map (some b)) (.int .u64 (k : Int)) true).run P W = .ok (.tuple #[z, .bool false]) W := by
  obtain ⟨D, h0, _, hf⟩ := h
  have h1 := (hf k).1
  rw [hv] at h1
  obtain ⟨u, ps, hr, hu⟩ := h0.look_ok (Maps.int_keyed hK) ht hz (zd := .held z) (zp := []) rfl (Mv.key_of hK hk)
  rw [Maps.atKey_of_not_has h1] at hu
  unfold Mv.rd at hu
  injection hu with hu
  injection hu with hu
  injection hu with hu
  subst hu
  rw [hr, h1]
  rfl
section
variable {W : World} {p pl m n : Nat} {R1 K : Nat → Prop} {s : FL.S} {g : Nat → Option N.NArg} {c : PA.C}
theorem PA.Mem.look_yes (h : PA.Mem W p pl m R1 s n g c K) {k : Nat} (hk : k ≤ 18446744073709551615) {y : N.NArg} (hy : g k = some y) :
    (Instr.lookup 83 (.map (some m)) (.int .u64 (k : Int)) true).run Try.prog W = .ok (.tuple #[.agg #[.int .i64 y.h, .string y.t, .slice y.s.a y.s.x.length y.s.c], .bool true]) W := by
  obtain ⟨z, hz⟩ := h.map
  exact hz.run_yes PA.keyed PA.mapped (PA.zero W) (by omega) (v := PA.val y) (by unfold PA.fn; rw [hy]; rfl)
theorem PA.Mem.look_no (h : PA.Mem W p pl m R1 s n g c K) {k : Nat} (hk : k ≤ 18446744073709551615) (hy : g k = none) :
    (Instr.lookup 83 (.map (some m)) (.int .u64 (k : Int)) true).run Try.prog W = .ok (.tuple #[.agg #[.int .i64 0, .string ⟨#[]⟩, .slice none 0 0], .bool false]) W := by
  obtain ⟨z, hz⟩ := h.map
  exact hz.run_no PA.keyed PA.mapped (PA.zero W) (by omega) (by unfold PA.fn; rw [hy]; rfl)
end
theorem PA.At.none {W : World} {p pl m n : Nat} {R1 K : Nat → Prop} {g : Nat → Option N.NArg} {a : A13.A} (h : PA.At W p pl m R1 n g a K) (k : Nat) : (g k = none ∧ a.look k = none ∧ a.has k = false) ∨ ∃ y, g k = some y ∧ a.look k = some y.nd ∧ a.has k = true := by
  have e := h.look k
  cases hg : g k with
  | none => rw [hg] at e; exact .inl ⟨rfl, e, by unfold A13.A.has; rw [e]; rfl⟩
  | some y => rw [hg] at e; exact .inr ⟨y, rfl, e, by unfold A13.A.has; rw [e]; rfl⟩
end Go.Proofs.Ytniccjbcchdkoaa
/- ArPk1 -/
namespace Go.Proofs.Ytniccjbcchdkoaa
open Go.RowKit

set_option maxRecDepth 100000 in
set_option maxHeartbeats 2000000 in
theorem copied13_any (h : Int) (t : ByteArray) (xo : Option Addr) (xc : Nat) (l : List N.K) (w : World) (hn : l.length * 32 ≤ 140737488351232) (hr : N.Row w xo l) (hc : xo = none → xc = 0) :
    Calls Try.prog 42 #[.agg #[.int .i64 h, .string t, .slice xo l.length xc]] w (N.CpEnd h t l w) := by
  obtain ⟨W2, hW2⟩ : ∃ W2, (w.alloc (.cells #[.int .i64 h, .string t, .slice xo l.length xc] 30)).alloc (.cells #[.int .i64 0, .string ⟨#[]⟩, .slice none 0 0] 30) = W2 := ⟨_, rfl⟩
  have B1 : Hid (Below w.heap.size w W2) := hW2 ▸ ((Below.refl _ _).alloc (Nat.le_refl _) _).alloc (by simp) _
  have X1 : N.Own W2 w.heap.size (.int .i64 h) (.string t) (.slice xo l.length xc) := hW2 ▸ (N.Own.new w (.int .i64 h) (.string t) (.slice xo l.length xc) 30).alloc _
  have O1 : N.Own W2 (w.heap.size + 1) (.int .i64 0) (.string ⟨#[]⟩) (.slice none 0 0) := by
    have := N.Own.new (w.alloc (.cells #[.int .i64 h, .string t, .slice xo l.length xc] 30)) (.int .i64 0) (.string ⟨#[]⟩) (.slice none 0 0) 30
    rw [World.size_alloc, hW2] at this
    exact this
  have L1 : Hid (w.heap.size + 2 = W2.heap.size) := by show _ = _; rw [← hW2]; simp
  have R1 := Lib.hid (hr.below (B1.out.mono (Nat.le_refl _)))
  have hB := Lib.hid (Below.refl W2.heap.size W2)
  have hO := Lib.hid (World.ownsRow_nil W2 W2.heap.size 50 4)
  clear hr
  go_enter Try.func42, Try.ntmps42
  go_upto_region 1 with (fail)
  (try rw [hW2])
  have x0 := X1.c0
  have x1 := X1.c1
  have x2 := X1.c2
  go_wp2_with (at_builtin; refine N.append_src' (w0 := W2) rfl _ _ rfl (.slice none 0 0) 0 [] rfl hO.out hB.out xo xc l rfl hc R1.out ?q1 ?_)
  case q1 => omega
  intro v w3 hown hb3
  have hm : N.Made l W2 v w3 := ⟨by simpa using hown, hb3⟩
  obtain ⟨vo, vc, hv, _⟩ := hm.src
  have A3 := hm.ab B1.out
  have X3 := X1.below hb3
  have O3 := O1.below hb3
  have hL := L1.out
  have A5 := ((((A3.set (b := w.heap.size) (by omega) (by omega) 2 v).set (b := w.heap.size + 1) (by omega) (by omega) 0 (.int .i64 h)).set (b := w.heap.size + 1) (by omega) (by omega) 1 (.string t)).set (b := w.heap.size + 1) (by omega) (by omega) 2 v)
  have M5 := Lib.hid A5.made
  subst hv
  have x0 := X3.c0
  have x1 := X3.c1
  have x2 := X3.c2
  have xf := X3.f2
  have r0 := O3.c0
  have r1 := O3.c1
  have r2 := O3.c2
  have s0 := O3.f0
  have s1 := O3.f1
  have s2 := O3.f2
  have hb1 : w.heap.size < w3.heap.size := X3.lt
  have hb2 : w.heap.size + 1 < w3.heap.size := O3.lt
  have OP : N.Own (w3.setCell ⟨w.heap.size, 2, none⟩ (.slice vo l.length vc)) (w.heap.size + 1) (.int .i64 0) (.string ⟨#[]⟩) (.slice none 0 0) := by
    have k : ∀ o : Nat, (w3.setCell ⟨w.heap.size, 2, none⟩ (.slice vo l.length vc)).heap[w.heap.size + 1]? = w3.heap[w.heap.size + 1]? := fun _ => FL.heap_off _ _ (by omega)
    have kc : ∀ o : Nat, (w3.setCell ⟨w.heap.size, 2, none⟩ (.slice vo l.length vc)).cell? ⟨w.heap.size + 1, o, none⟩ = w3.cell? ⟨w.heap.size + 1, o, none⟩ := fun o => by unfold World.cell?; rw [k o]
    have kf : ∀ o : Nat, (w3.setCell ⟨w.heap.size, 2, none⟩ (.slice vo l.length vc)).frozen? ⟨w.heap.size + 1, o, none⟩ = w3.frozen? ⟨w.heap.size + 1, o, none⟩ := fun o => by unfold World.frozen?; rw [k o]
    exact ⟨by simpa using hb2, (kc 0).trans r0, (kc 1).trans r1, (kc 2).trans r2, (kf 0).trans s0, (kf 1).trans s1, (kf 2).trans s2⟩
  have hP := OP.put (.int .i64 h) (.string t) (.slice vo l.length vc)
  clear A3 A5 hm hown hb3 X1 O1 X3 O3 hO hB R1
  go_wp2
  have p0 := hP.c0
  have p1 := hP.c1
  have p2 := hP.c2
  refine bodyPost_ret (v := .agg #[.int .i64 h, .string t, .slice vo l.length vc]) ?_ rfl ⟨_, rfl, M5.out⟩
  unfold N.put3 at p0 p1 p2
  simp [results, Try.results42, go_sem, p0, p1, p2]
end Go.Proofs.Ytniccjbcchdkoaa
/- ArPk2 -/
namespace Go.Proofs.Ytniccjbcchdkoaa
open Go.RowKit

set_option maxRecDepth 100000 in
set_option maxHeartbeats 2000000 in
theorem access13_yes (p pl m n : Nat) (R1 K : Nat → Prop) (g : Nat → Option N.NArg) (a : A13.A) (h : Nat) (hh : h ≤ 18446744073709551615) (w : World) (hA : PA.At w p pl m R1 n g a K) (y : N.NArg) (hy : g h = some y) :
    Calls Try.prog 43 #[FL.ptr p, .int .u64 (h : Int)] w fun e w' => e = .returned (.tuple #[.agg #[.int .i64 y.h, .string y.t, .slice y.s.a y.s.x.length y.s.c], .int .i64 0]) ∧ Below w.heap.size w w' := by
  obtain ⟨W1, hW1⟩ : ∃ V, w.alloc (.cells #[.int .i64 0, .string ⟨#[]⟩, .slice none 0 0] 30) = V := ⟨_, rfl⟩
  obtain ⟨W2, hW2⟩ : ∃ V, W1.alloc (.cells #[.int .i64 y.h, .string y.t, .slice y.s.a y.s.x.length y.s.c] 30) = V := ⟨_, rfl⟩
  have B1 : Below w.heap.size w W1 := hW1 ▸ (Below.refl _ _).alloc (Nat.le_refl _) _
  have B12 : Below W1.heap.size W1 W2 := hW2 ▸ (Below.refl _ _).alloc (Nat.le_refl _) _
  have M1 := hA.mem.on B1
  have lk := M1.look_yes hh hy
  have f1 := M1.fields.2.1
  have O1 : N.Own W1 w.heap.size (.int .i64 0) (.string ⟨#[]⟩) (.slice none 0 0) := hW1 ▸ N.Own.new w (.int .i64 0) (.string ⟨#[]⟩) (.slice none 0 0) 30
  have O2 := O1.below B12
  have X2 : N.Own W2 W1.heap.size (.int .i64 y.h) (.string y.t) (.slice y.s.a y.s.x.length y.s.c) := hW2 ▸ N.Own.new W1 (.int .i64 y.h) (.string y.t) (.slice y.s.a y.s.x.length y.s.c) 30
  have hne : w.heap.size ≠ W1.heap.size := by have := O1.lt; omega
  have r0 := O2.c0
  have r1 := O2.c1
  have r2 := O2.c2
  have s0 := O2.f0
  have s1 := O2.f1
  have s2 := O2.f2
  have x0 := X2.c0
  have x1 := X2.c1
  have x2 := X2.c2
  have hP := O2.put (.int .i64 y.h) (.string y.t) (.slice y.s.a y.s.x.length y.s.c)
  have E := Lib.hid (N.put3_below (Ar.bt B1 B12) (Nat.le_refl _) (.int .i64 y.h) (.string y.t) (.slice y.s.a y.s.x.length y.s.c))
  clear O1 O2 X2 M1 B1 B12 hA hy
  unfold FL.ptr
  go_enter Try.func43, Try.ntmps43
  go_wp2
  have p0 := hP.c0
  have p1 := hP.c1
  have p2 := hP.c2
  refine bodyPost_ret (v := .tuple #[.agg #[.int .i64 y.h, .string y.t, .slice y.s.a y.s.x.length y.s.c], .int .i64 0]) ?_ rfl ⟨rfl, E.out⟩
  unfold N.put3 at p0 p1 p2
  simp [results, Try.results43, go_sem, p0, p1, p2]
/-- What a stale access leaves. -/
theorem PA.Own.stale {W W3 : World} {p pl m n : Nat} {R1 K R : Nat → Prop} {g : Nat → Option N.NArg} {a : A13.A} {w : World} (hA : PA.At w p pl m R1 n g a K) (hR : ∀ k, PA.foot p m R1 K k → R k) (hs : ∀ k, R k → k < w.heap.size) (hb : Below w.heap.size w W)
    (h3 : W3 = W.setCell ⟨p, 8, none⟩ (.int .i64 ((a.st : Int) + 1))) : PA.Own W3 p { a with st := a.st + 1 } R ∧ FL.But R w W3 := by
  subst h3
  obtain ⟨M3, b3⟩ := (hA.mem.on hb).field 8 (.int .i64 ((a.st : Int) + 1)) (c' := PA.cs { a with st := a.st + 1 }) rfl
  have hB : FL.But R w (W.setCell ⟨p, 8, none⟩ (.int .i64 ((a.st : Int) + 1))) := (FL.But.below hb).trans (FL.But.set _ _ (hR p (.inl rfl)))
  exact ⟨⟨pl, m, R1, n, g, K, ⟨⟨hA.inv.l, hA.inv.nodup, hA.inv.live⟩, ⟨hA.cnt.live, hA.cnt.gone, hA.cnt.took⟩, M3, hA.look, hA.wr⟩, hR, fun k hk => Nat.lt_of_lt_of_le (hs k hk) hB.size⟩, hB⟩
set_option maxRecDepth 100000 in
set_option maxHeartbeats 2000000 in
theorem access13_no (p pl m n : Nat) (R1 K R : Nat → Prop) (g : Nat → Option N.NArg) (a : A13.A) (h : Nat) (hh : h ≤ 18446744073709551615) (w : World) (hA : PA.At w p pl m R1 n g a K) (hR : ∀ k, PA.foot p m R1 K k → R k) (hs : ∀ k, R k → k < w.heap.size) (hy : g h = none) (hst : a.st < 1000000000) :
    Calls Try.prog 43 #[FL.ptr p, .int .u64 (h : Int)] w fun e w' => e = .returned (.tuple #[.agg #[.int .i64 0, .string ⟨#[]⟩, .slice none 0 0], .int .i64 10]) ∧ PA.Own w' p { a with st := a.st + 1 } R ∧ FL.But R w w' := by
  obtain ⟨W1, hW1⟩ : ∃ V, w.alloc (.cells #[.int .i64 0, .string ⟨#[]⟩, .slice none 0 0] 30) = V := ⟨_, rfl⟩
  obtain ⟨W2, hW2⟩ : ∃ V, W1.alloc (.cells #[.int .i64 0, .string ⟨#[]⟩, .slice none 0 0] 30) = V := ⟨_, rfl⟩
  have B1 : Below w.heap.size w W1 := hW1 ▸ (Below.refl _ _).alloc (Nat.le_refl _) _
  have B12 : Below W1.heap.size W1 W2 := hW2 ▸ (Below.refl _ _).alloc (Nat.le_refl _) _
  have B2 := Ar.bt B1 B12
  have M1 := hA.mem.on B1
  have M2 := hA.mem.on B2
  have lk := M1.look_no hh hy
  have f1 := M1.fields.2.1
  have f8 : W2.cell? ⟨p, 8, none⟩ = some (.int .i64 (a.st : Int)) := M2.fields.2.2.2.2.2.2.2.2.1
  have fz := M2.fields.2.2.2.2.2.2.2.2.2 8
  have w1 : IntKind.i64.wrap ((a.st : Int) + 1) = (a.st : Int) + 1 := IntWalk.i64_in _ (by omega)
  obtain ⟨W3, hW3⟩ : ∃ V, W2.setCell ⟨p, 8, none⟩ (.int .i64 ((a.st : Int) + 1)) = V := ⟨_, rfl⟩
  obtain ⟨S1, S2⟩ := PA.Own.stale hA hR hs B2 hW3.symm
  have O1 : N.Own W1 w.heap.size (.int .i64 0) (.string ⟨#[]⟩) (.slice none 0 0) := hW1 ▸ N.Own.new w (.int .i64 0) (.string ⟨#[]⟩) (.slice none 0 0) 30
  have O2 := O1.below B12
  have hp : p < w.heap.size := hA.mem.lt p (.inl rfl)
  have hk : W3.heap[w.heap.size]? = W2.heap[w.heap.size]? := by rw [← hW3]; exact FL.heap_off _ _ (by omega)
  have kc : ∀ o : Nat, W3.cell? ⟨w.heap.size, o, none⟩ = W2.cell? ⟨w.heap.size, o, none⟩ := fun o => by unfold World.cell?; rw [hk]
  have kf : ∀ o : Nat, W3.frozen? ⟨w.heap.size, o, none⟩ = W2.frozen? ⟨w.heap.size, o, none⟩ := fun o => by unfold World.frozen?; rw [hk]
  have O3 : N.Own W3 w.heap.size (.int .i64 0) (.string ⟨#[]⟩) (.slice none 0 0) := ⟨by rw [← hW3]; simpa using O2.lt, (kc 0).trans O2.c0, (kc 1).trans O2.c1, (kc 2).trans O2.c2, (kf 0).trans O2.f0, (kf 1).trans O2.f1, (kf 2).trans O2.f2⟩
  have r0 := O3.c0
  have r1 := O3.c1
  have r2 := O3.c2
  have s0 := O3.f0
  have s1 := O3.f1
  have s2 := O3.f2
  have hP := O3.put (.int .i64 0) (.string ⟨#[]⟩) (.slice none 0 0)
  have hq := N.put3_but W3 w.heap.size (.int .i64 0) (.string ⟨#[]⟩) (.slice none 0 0)
  have E : Hid (PA.Own (N.put3 W3 w.heap.size (.int .i64 0) (.string ⟨#[]⟩) (.slice none 0 0)) p { a with st := a.st + 1 } R ∧ FL.But R w (N.put3 W3 w.heap.size (.int .i64 0) (.string ⟨#[]⟩) (.slice none 0 0))) :=
    ⟨S1.but hq (fun k hk c => by have := hs k hk; omega), ⟨hq.os.trans S2.os, hq.tape.trans S2.tape, hq.output.trans S2.output, Nat.le_trans S2.size hq.size, fun k hk hr => (hq.block k (Nat.lt_of_lt_of_le hk S2.size) (by omega)).trans (S2.block k hk hr)⟩⟩
  have f8' : W1.cell? ⟨p, 8, none⟩ = some (.int .i64 (a.st : Int)) := M1.fields.2.2.2.2.2.2.2.2.1
  have fz' := M1.fields.2.2.2.2.2.2.2.2.2 8
  clear O1 O2 O3 M1 M2 B1 B12 B2 hA hy S1 S2 hk kc kf hq hR hs
  subst hW2
  unfold FL.ptr
  go_enter Try.func43, Try.ntmps43
  go_wp2
  have p0 := hP.c0
  have p1 := hP.c1
  have p2 := hP.c2
  refine bodyPost_ret (v := .tuple #[.agg #[.int .i64 0, .string ⟨#[]⟩, .slice none 0 0], .int .i64 10]) ?_ rfl ⟨rfl, E.out⟩
  unfold N.put3 at p0 p1 p2
  simp [results, Try.results43, go_sem, p0, p1, p2]
end Go.Proofs.Ytniccjbcchdkoaa
/- ArPk3 -/
namespace Go.Proofs.Ytniccjbcchdkoaa
open Go.RowKit

/-- What checkKid returns. -/
def PA.kE (a : A13.A) (H : Int) (q : N.K) : Int := match a.look q.at_ with
  | none => 10
  | some y => if y.h = H ∧ Ar.ms y = (q.b, q.r, q.l) then 0 else 23
theorem PA.kE_eq (a : A13.A) (x : N.Nd) (q : N.K) : PA.kE a (x.h - 1) q = A13.kidE Ar.ms a x q := rfl
set_option maxRecDepth 100000 in
set_option maxHeartbeats 4000000 in
theorem checkKid13_no (p pl m n : Nat) (R1 K : Nat → Prop) (g : Nat → Option N.NArg) (a : A13.A) (q : N.K) (H : Int) (hh : q.at_ ≤ 18446744073709551615) (w : World) (hA : PA.At w p pl m R1 n g a K) (hy : g q.at_ = none) :
    Calls Try.prog 40 #[FL.ptr p, .agg #[.int .u64 (q.at_ : Int), .int .i64 q.b, .int .i64 q.r, .int .i64 q.l], .int .i64 H] w fun e w' => e = .returned (.int .i64 10) ∧ Below w.heap.size w w' := by
  obtain ⟨W1, hW1⟩ : ∃ V, w.alloc (.cells #[.int .u64 (q.at_ : Int), .int .i64 q.b, .int .i64 q.r, .int .i64 q.l] 50) = V := ⟨_, rfl⟩
  have B1 : Below w.heap.size w W1 := hW1 ▸ (Below.refl _ _).alloc (Nat.le_refl _) _
  have M1 := hA.mem.on B1
  have B12 : Below W1.heap.size W1 (W1.alloc (.cells #[.int .i64 0, .string ⟨#[]⟩, .slice none 0 0] 30)) := (Below.refl _ _).alloc (Nat.le_refl _) _
  have lk := (M1.on (Below.refl _ _).drew).look_no hh hy
  have lk2 := (M1.on B12.drew).look_no hh hy
  have f1 := M1.fields.2.1
  have f1' := (M1.on B12).fields.2.1
  have q0 : W1.cell? ⟨w.heap.size, 0, none⟩ = some (.int .u64 (q.at_ : Int)) := hW1 ▸ Lib.cell_of_heap (heap_alloc_new w _) 0
  have q0' : (W1.alloc (.cells #[.int .i64 0, .string ⟨#[]⟩, .slice none 0 0] 30)).cell? ⟨w.heap.size, 0, none⟩ = some (.int .u64 (q.at_ : Int)) := Lib.cell?_alloc_some _ q0
  have E := Lib.hid (Ar.bt B1 B12)
  clear M1 B1 B12 hA hy
  unfold FL.ptr
  go_enter Try.func40, Try.ntmps40
  go_wp2
  go_region
  all_goals
    go_wp2
    go_ret
    exact ⟨rfl, E.out.drew⟩
set_option maxRecDepth 100000 in
set_option maxHeartbeats 8000000 in
theorem checkKid13_yes (p pl m n : Nat) (R1 K : Nat → Prop) (g : Nat → Option N.NArg) (a : A13.A) (q : N.K) (H : Int) (hh : q.at_ ≤ 18446744073709551615) (w : World) (hA : PA.At w p pl m R1 n g a K) (y : N.NArg) (hy : g q.at_ = some y) :
    Calls Try.prog 40 #[FL.ptr p, .agg #[.int .u64 (q.at_ : Int), .int .i64 q.b, .int .i64 q.r, .int .i64 q.l], .int .i64 H] w fun e w' => e = .returned (.int .i64 (if y.h = H ∧ N.mB y.nd = q.b ∧ N.mR y.nd = q.r ∧ N.mL y.nd = q.l then 0 else 23)) ∧ Below w.heap.size w w' := by
  obtain ⟨W1, hW1⟩ : ∃ V, w.alloc (.cells #[.int .u64 (q.at_ : Int), .int .i64 q.b, .int .i64 q.r, .int .i64 q.l] 50) = V := ⟨_, rfl⟩
  have B1 : Below w.heap.size w W1 := hW1 ▸ (Below.refl _ _).alloc (Nat.le_refl _) _
  have M1 := hA.mem.on B1
  have B12 : Below W1.heap.size W1 (W1.alloc (.cells #[.int .i64 0, .string ⟨#[]⟩, .slice none 0 0] 30)) := (Below.refl _ _).alloc (Nat.le_refl _) _
  have lk := (M1.on (Below.refl _ _).drew).look_yes hh hy
  have lk2 := (M1.on B12.drew).look_yes hh hy
  have f1 := M1.fields.2.1
  have f1' := (M1.on B12).fields.2.1
  have Q0 := heap_alloc_new w (.cells #[.int .u64 (q.at_ : Int), .int .i64 q.b, .int .i64 q.r, .int .i64 q.l] 50)
  rw [hW1] at Q0
  have q0 : W1.cell? ⟨w.heap.size, 0, none⟩ = some (.int .u64 (q.at_ : Int)) := Lib.cell_of_heap Q0 0
  have q0' : (W1.alloc (.cells #[.int .i64 0, .string ⟨#[]⟩, .slice none 0 0] 30)).cell? ⟨w.heap.size, 0, none⟩ = some (.int .u64 (q.at_ : Int)) := Lib.cell?_alloc_some _ q0
  have hz : w.heap.size < W1.heap.size := (Array.getElem?_eq_some_iff.1 Q0).1
  obtain ⟨W2, hW2⟩ : ∃ V, W1.alloc (.cells #[.int .i64 y.h, .string y.t, .slice y.s.a y.s.x.length y.s.c] 30) = V := ⟨_, rfl⟩
  have B2 : Below W1.heap.size W1 W2 := hW2 ▸ (Below.refl _ _).alloc (Nat.le_refl _) _
  have X2 : N.Nb W2 W1.heap.size y.h y.t (.slice y.s.a y.s.x.length y.s.c) := hW2 ▸ N.Nb.new W1 _ _ _ _
  have BW := Ar.bt B1 B2
  have ok := (hA.mem.on BW.drew).node _ y hy
  have HM := Lib.hid (measure12_any y.h y.t y.s.a y.s.c y.s.x W2.drew ok.cd.ts ok.cd.len ok.s.row ok.s.fits)
  unfold N.MsEnd N.nv at HM
  have Q2 := Lib.hid ((B2.block _ hz).trans Q0)
  have X2 := Lib.hid X2
  have BW := Lib.hid BW
  have hz2 : Hid (w.heap.size < W2.heap.size) := Nat.lt_of_lt_of_le hz B2.size
  clear M1 B1 B12 hA hy ok Q0 B2
  unfold FL.ptr
  change Hid (Calls Try.prog 70 #[.agg #[.int .i64 y.h, .string y.t, .slice y.s.a y.s.x.length y.s.c]] W2.drew fun e w' => e = .returned (.tuple #[.agg #[.int .i64 (N.mB y.nd), .int .i64 (N.mR y.nd), .int .i64 (N.mL y.nd)], .int .i64 (N.chk y.nd)]) ∧ Below W2.drew.heap.size W2.drew w') at HM
  generalize N.mB y.nd = mb at *
  generalize N.mR y.nd = mr at *
  generalize N.mL y.nd = ml at *
  generalize N.chk y.nd = ck at *
  generalize y.h = yh at *
  generalize y.t = yt at *
  generalize y.s.a = ya at *
  generalize y.s.x.length = yn at *
  generalize y.s.c = yc at *
  obtain ⟨r, hr⟩ : ∃ r : Int, (if yh = H ∧ mb = q.b ∧ mr = q.r ∧ ml = q.l then (0 : Int) else 23) = r := ⟨_, rfl⟩
  have T : Hid ((yh = H ∧ mb = q.b ∧ mr = q.r ∧ ml = q.l) → r = 0) := fun c => by rw [← hr]; exact if_pos c
  have F : Hid (¬ (yh = H ∧ mb = q.b ∧ mr = q.r ∧ ml = q.l) → r = 23) := fun c => by rw [← hr]; exact if_neg c
  rw [hr]
  clear hr
  go_enter Try.func40, Try.ntmps40
  go_wp2
  go_region
  all_goals
    have x0 := X2.out.c0
    have x1 := X2.out.c1
    have x2 := X2.out.c2
    go_wp2_with fail
    refine HM.out.mono ?_
    rintro e w2 ⟨rfl, hb⟩
    have hb2 : Below w.heap.size w w2 := Ar.bt BW.out.drew hb
    have Y2 := (X2.out.below (Below.refl _ _).drew).below hb
    have hm : Below w2.heap.size w2 (w2.alloc (.cells #[.int .i64 mb, .int .i64 mr, .int .i64 ml] 48)) := (Below.refl _ _).alloc (Nat.le_refl _) _
    have B3 := Lib.hid (Ar.bt hb2 hm)
    have Y3 := Y2.below hm
    have Q3 := (hm.block _ (Nat.lt_of_lt_of_le hz2.out hb.size)).trans ((hb.block _ hz2.out).trans Q2.out)
    have g1 := Lib.cell_of_heap Q3 1
    have g2 := Lib.cell_of_heap Q3 2
    have g3 := Lib.cell_of_heap Q3 3
    have y0 := Y3.c0
    clear Y2 Y3 Q3 hm hb hb2 x0 x1 x2 HM Q2 X2 BW
    generalize q.b = zb at *
    generalize q.r = zr at *
    generalize q.l = zl at *
    by_cases hh : yh = H
    · have t1 : (yh != H) = false := by simpa using hh
      have hc : (mb = zb ∧ mr = zr ∧ ml = zl) ∨ mb ≠ zb ∨ (mb = zb ∧ mr ≠ zr) ∨ (mb = zb ∧ mr = zr ∧ ml ≠ zl) := by omega
      rcases hc with ⟨rfl, rfl, rfl⟩ | hc | ⟨rfl, hc⟩ | ⟨rfl, rfl, hc⟩
      · have E4 := Lib.hid (T.out ⟨hh, rfl, rfl, rfl⟩)
        clear hh F T
        go_wp2
        go_ret
        exact ⟨by rw [E4.out]; rfl, B3.out⟩
      · have E4 := Lib.hid (F.out (fun c => hc c.2.1))
        clear hh F T
        go_wp2
        go_ret
        exact ⟨by rw [E4.out]; rfl, B3.out⟩
      · have E4 := Lib.hid (F.out (fun c => hc c.2.2.1))
        clear hh F T
        go_wp2
        go_ret
        exact ⟨by rw [E4.out]; rfl, B3.out⟩
      · have E4 := Lib.hid (F.out (fun c => hc c.2.2.2))
        clear hh F T
        go_wp2
        go_ret
        exact ⟨by rw [E4.out]; rfl, B3.out⟩
    · have t1 : (yh != H) = true := by simpa using hh
      have E4 := Lib.hid (F.out (fun c => hh c.1))
      clear hh F T
      go_wp2
      go_ret
      exact ⟨by rw [E4.out]; rfl, B3.out⟩
end Go.Proofs.Ytniccjbcchdkoaa
/- ArPk4 -/
namespace Go.Proofs.Ytniccjbcchdkoaa
open Go.RowKit

set_option maxRecDepth 100000 in
set_option maxHeartbeats 2000000 in
theorem live13_any (p : Nat) (a : A13.A) (R : Nat → Prop) (h : Nat) (w : World) (hO : PA.Own w p a R) (hh : h ≤ 18446744073709551615) :
    Calls Try.prog 17 #[FL.ptr p, .int .u64 (h : Int)] w fun e w' => e = .returned (.bool (a.has h)) ∧ Below w.heap.size w w' := by
  obtain ⟨pl, m, R1, n, g, K, hA, _, _⟩ := hO
  have f1 := hA.mem.fields.2.1
  have B1 : Hid (∀ o, Below w.heap.size w (w.alloc o)) := fun o => (Below.refl _ _).alloc (Nat.le_refl _) o
  unfold FL.ptr
  rcases hA.none h with ⟨hg, _, e⟩ | ⟨y, hg, _, e⟩
  · rw [e]
    have lk := hA.mem.look_no hh hg
    clear hA hg e
    go_enter Try.func17, Try.ntmps17
    go_wp2
    go_ret
    exact ⟨rfl, B1.out _⟩
  · rw [e]
    have lk := hA.mem.look_yes hh hg
    clear hA hg e
    go_enter Try.func17, Try.ntmps17
    go_wp2
    go_ret
    exact ⟨rfl, B1.out _⟩
theorem handles13_any (p : Nat) (a : A13.A) (R : Nat → Prop) (w : World) (hO : PA.Own w p a R) :
    Calls Try.prog 18 #[FL.ptr p] w fun e w' => ∃ v, e = .returned v ∧ H.Made a.l.hands w v w' := by
  obtain ⟨pl, m, R1, n, g, K, hA, _, _⟩ := hO
  obtain ⟨b1, b2, b3, c1, c2, c3, hL, _⟩ := hA.mem.list
  have HF := Lib.hid (handles11_any pl b1 b2 b3 c1 c2 c3 a.l w hL)
  have f0 := hA.mem.fields.1
  clear hA hL
  unfold FL.ptr at HF ⊢
  go_enter Try.func18, Try.ntmps18
  go_wp2_with fail
  refine HF.out.mono ?_
  rintro e w1 ⟨u, rfl, hm⟩
  have hm := Lib.hid hm
  clear HF
  go_wp2
  go_ret
  exact ⟨_, rfl, hm.out⟩
theorem V.Made.weak {e : TypeId} {l : List Value} {w W W' : World} {v : Value} (h : V.Made e l W v W') (hb : Below w.heap.size w W) : V.Made e l w v W' := ⟨D.own_mono h.own hb.size, hb.trans (h.below.mono hb.size)⟩
theorem V.Made.kept {e : TypeId} {l : List Value} {w W W' : World} {v : Value} (h : V.Made e l w v W) (hb : Below W.heap.size W W') : V.Made e l w v W' := ⟨D.own_below h.own hb, h.below.trans (hb.mono h.below.size)⟩
set_option maxRecDepth 100000 in
theorem slots13_any (p : Nat) (a : A13.A) (R : Nat → Prop) (w : World) (hO : PA.Own w p a R) :
    Calls Try.prog 14 #[FL.ptr p] w fun e w' => ∃ v1 v2, e = .returned (.tuple #[v1, v2]) ∧ V.Made 3 (FL.ints a.l.stk) w v1 w' ∧ V.Made 3 (FL.ints (a.l.those 2)) w v2 w' ∧ ∀ k, v1.ownBlock = some k → v2.ownBlock ≠ some k := by
  obtain ⟨pl, m, R1, n, g, K, hA, _, _⟩ := hO
  have hp := hA.mem.lt p (.inl rfl)
  obtain ⟨b1, b2, b3, c1, c2, c3, hL, _⟩ := hA.mem.list
  have HF : Hid (∀ Z, FL.At Z pl b1 b2 b3 c1 c2 c3 a.l → Calls Try.prog 44 #[.pointer (some ⟨pl, 0, none⟩)] Z fun e w' => ∃ v, e = .returned v ∧ V.Made 3 (FL.ints a.l.stk) Z v w') := fun Z h => free11_any pl b1 b2 b3 c1 c2 c3 a.l Z h
  have HW : Hid (∀ Z, FL.At Z pl b1 b2 b3 c1 c2 c3 a.l → Calls Try.prog 45 #[.pointer (some ⟨pl, 0, none⟩)] Z fun e w' => ∃ v, e = .returned v ∧ V.Made 3 (FL.ints (a.l.those 2)) Z v w') := fun Z h => withdrawn11_any pl b1 b2 b3 c1 c2 c3 a.l Z h
  have f0 := hA.mem.fields.1
  have HS : Hid (∀ V, Below w.heap.size w V → V.cell? ⟨p, 0, none⟩ = some (.pointer (some ⟨pl, 0, none⟩)) ∧ FL.At V pl b1 b2 b3 c1 c2 c3 a.l ∧ Below w.heap.size w V) := fun V hb => ⟨((D.bcell hb).1 _ _ hp).trans f0, hL.but (R := fun _ => False) (FL.But.below hb) (fun _ _ => id), hb⟩
  have B0 : Hid (Below w.heap.size w w) := Below.refl _ _
  clear hA hL hp
  unfold FL.ptr
  go_enter Try.func14, Try.ntmps14
  go_wp2
  go_region_held3 (fun V => V.cell? ⟨p, 0, none⟩ = some (.pointer (some ⟨pl, 0, none⟩)) ∧ FL.At V pl b1 b2 b3 c1 c2 c3 a.l ∧ Below w.heap.size w V)
    ((refine HS.out _ ?_; first | exact B0.out.drew | (with_reducible assumption) | (go_split_ands; with_reducible assumption)))
    (first
      | (go_at_call 44; (with_reducible refine (HF.out _ (by go_split_ands; with_reducible assumption)).mono ?_); rintro e w1 ⟨u1, rfl, m1⟩; have L0 := (show Below w.heap.size w _ from by go_split_ands; with_reducible assumption); have m1 := m1.weak L0; have L1 := m1.below)
      | (go_at_call 45; (with_reducible refine (HW.out _ (by go_split_ands; with_reducible assumption)).mono ?_); rintro e w2 ⟨u2, rfl, m2⟩; have L2 := Ar.bt (u := w) (by go_split_ands; with_reducible assumption) (V.Made.below m2)))
  all_goals
    have hd : ∀ k, u1.ownBlock = some k → u2.ownBlock ≠ some k := fun k h1 h2 => by have := (m1.own.lt k h1).2; have := (m2.own.lt k h2).1; omega
    have M1 := Lib.hid (m1.kept (V.Made.below m2))
    have M2 := Lib.hid (m2.weak (w := w) (by with_reducible assumption))
    have hd := Lib.hid hd
    go_wp2
    go_ret2
    exact ⟨_, _, rfl, M1.out, M2.out, hd.out⟩
end Go.Proofs.Ytniccjbcchdkoaa
/- ArPk5 -/
namespace Go.Proofs.Ytniccjbcchdkoaa
open Go.RowKit

set_option maxRecDepth 100000 in
set_option maxHeartbeats 2000000 in
theorem stats13_any (p : Nat) (a : A13.A) (R : Nat → Prop) (w : World) (hO : PA.Own w p a R) :
    Calls Try.prog 19 #[FL.ptr p] w fun e w' => e = .returned (Ar.st7 a) ∧ Below w.heap.size w w' := by
  obtain ⟨pl, m, R1, n, g, K, hA, _, _⟩ := hO
  have hp := hA.mem.lt p (.inl rfl)
  obtain ⟨_, _, f2, f3, f4, f5, f6, f7, f8, _⟩ := hA.mem.fields
  have B1 : Hid (Below w.heap.size w (w.alloc (.cells #[.int .i64 (a.l.st.length : Int), .int .i64 (a.l.stk.length : Int), .int .i64 (a.items.length : Int), .int .i64 (a.l.gone : Int), .int .i64 (a.al : Int), .int .i64 (a.fr : Int), .int .i64 (a.st : Int)] 42))) := (Below.refl _ _).alloc (Nat.le_refl _) _
  unfold Ar.st7
  unfold PA.cs at f2 f3 f4 f5 f6 f7 f8
  dsimp only at f2 f3 f4 f5 f6 f7 f8
  clear hA
  generalize a.l.gone = z3 at *
  generalize a.l.st.length = z0 at *
  generalize a.l.stk.length = z1 at *
  generalize a.items.length = z2 at *
  generalize a.al = z4 at *
  generalize a.fr = z5 at *
  generalize a.st = z6 at *
  unfold FL.ptr
  go_enter Try.func19, Try.ntmps19
  go_wp2
  refine bodyPost_ret (v := .agg #[.int .i64 (z0 : Int), .int .i64 (z1 : Int), .int .i64 (z2 : Int), .int .i64 (z3 : Int), .int .i64 (z4 : Int), .int .i64 (z5 : Int), .int .i64 (z6 : Int)]) ?_ rfl ⟨rfl, B1.out⟩
  simp [results, Try.results19, go_sem]
theorem new13_bad (n g : Int) (h : n < 1 ∨ 16384 < n ∨ g < 1 ∨ 4294967295 < g) (w : World) :
    Calls Try.prog 49 #[.int .i64 n, .int .u64 g] w fun e w' => e = .returned (.tuple #[.pointer none, .int .i64 3]) ∧ Below w.heap.size w w' := by
  have HN := Lib.hid (new11_bad n g h w)
  have B := Lib.hid (Below.refl w.heap.size w)
  clear h
  go_enter Try.func49, Try.ntmps49
  go_wp2_with fail
  refine HN.out.mono ?_
  rintro e w1 ⟨rfl, rfl⟩
  go_wp2
  go_ret2
  exact ⟨rfl, B.out⟩
set_option maxRecDepth 100000 in
set_option maxHeartbeats 2000000 in
theorem new13_ok (n g : Nat) (w : World) (h1 : 1 ≤ n) (h2 : n ≤ 16384) (h3 : 1 ≤ g) (h4 : g ≤ 4294967295) :
    Calls Try.prog 49 #[.int .i64 (n : Int), .int .u64 (g : Int)] w fun e w' => ∃ p, e = .returned (.tuple #[FL.ptr p, .int .i64 0]) ∧ PA.Own w' p (A13.new n g) (Ar.ext (fun _ => False) w.heap.size w'.heap.size) ∧ Below w.heap.size w w' := by
  have HN := Lib.hid (new11_ok n g h1 h2 h3 h4 w)
  have I := Lib.hid (And.intro (A13.inv_new (n := n) (g := g) h1 h2 h3 h4) (A13.cnt_new n g))
  clear h1 h2 h3 h4
  unfold FL.ptr at HN ⊢
  go_enter Try.func49, Try.ntmps49
  go_wp2_with fail
  refine HN.out.mono ?_
  rintro e w1 ⟨pl, R1, rfl, hO, hb, hR⟩
  obtain ⟨W2, hW2⟩ : ∃ Z, w1.alloc (.map #[] 0) = Z := ⟨_, rfl⟩
  obtain ⟨W3, hW3⟩ : ∃ Z, W2.alloc (.cells #[.pointer (some ⟨pl, 0, none⟩), .map (some w1.heap.size), .int .i64 (n : Int), .int .i64 (n : Int), .int .i64 0, .int .i64 0, .int .i64 0, .int .i64 0, .int .i64 0] 85) = Z := ⟨_, rfl⟩
  have b2 : Below w1.heap.size w1 W2 := hW2 ▸ (Below.refl _ _).alloc (Nat.le_refl _) _
  have b3 : Below W2.heap.size W2 W3 := hW3 ▸ (Below.refl _ _).alloc (Nat.le_refl _) _
  have z2 : W2.heap.size = w1.heap.size + 1 := by rw [← hW2]; exact World.size_alloc _ _
  have z3 : W3.heap.size = W2.heap.size + 1 := by rw [← hW3]; exact World.size_alloc _ _
  have M2 : Mv.Is Try.prog 24 W2 w1.heap.size 0 0 (fun _ => none) := hW2 ▸ Mv.made _ _ _
  have c0 : PA.cs (A13.new n g) = ⟨n, n, 0, 0, 0, 0, 0⟩ := by
    have e0 : (A13.new n g).l.st.length = n := List.length_replicate
    have e1 : (A13.new n g).l.stk.length = n := List.length_range
    have e2 : (A13.new n g).l.gone = 0 := FL.gone_new n g
    unfold PA.cs
    rw [e0, e1, e2]
    rfl
  have hsz := hb.size
  have hlt := hO.lt
  have E : Hid (PA.Own W3 W2.heap.size (A13.new n g) (Ar.ext (fun _ => False) w.heap.size W3.heap.size)) := by
    refine ⟨pl, w1.heap.size, R1, 0, fun _ => none, fun _ => False, ⟨I.out.1, I.out.2, ⟨?_, (hO.below b2).below b3, ⟨0, M2.same (b3.block _ (by omega))⟩, (fun h y e => by cases e), (fun h y e => by cases e), fun c => ?_, ⟨by omega, fun c => ?_⟩, fun k hk => hk.elim, fun k hk => hk.elim⟩, fun h => rfl, Nat.zero_le _⟩, fun k hk => ?_, fun k hk => ?_⟩
    · rw [c0, ← hW3]
      exact heap_alloc_new W2 _
    · have := hlt _ c; omega
    · have := hlt _ c; omega
    · rcases hk with rfl | rfl | hk | hk
      · exact .inr ⟨by omega, by omega⟩
      · exact .inr ⟨by omega, by omega⟩
      · exact .inr ⟨hR k hk, by have := hlt k hk; omega⟩
      · exact hk.elim
    · rcases hk with hk | hk
      · exact hk.elim
      · exact hk.2
  have B : Hid (Below w.heap.size w W3) := Ar.bt (Ar.bt hb b2) b3
  have hmm := @run_makeMap Try.prog
  clear hO hb hR HN I b2 b3 M2 c0 hsz hlt z2 z3
  go_wp2
  go_ret2
  exact ⟨W2.heap.size, rfl, E.out, B.out⟩
set_option maxRecDepth 100000 in
set_option maxHeartbeats 2000000 in
theorem get13_any (p : Nat) (a : A13.A) (R : Nat → Prop) (h : Nat) (w : World) (hO : PA.Own w p a R) (hh : h ≤ 18446744073709551615) (hst : a.st < 1000000000) :
    Calls Try.prog 13 #[FL.ptr p, .int .u64 (h : Int)] w fun e w' => ∃ t xo xc R', t.data.toList = (Ar.got a h).t ∧ e = .returned (.tuple #[.agg #[.int .i64 (Ar.got a h).h, .string t, .slice xo (Ar.got a h).ks.length xc], .int .i64 (a.gtE h)]) ∧
      PA.Own w' p (a.gt h) R' ∧ (∀ k, R' k → Ar.ext R w.heap.size w'.heap.size k) ∧ FL.But R w w' ∧ w'.ownsRow w.heap.size 50 4 (.slice xo (Ar.got a h).ks.length xc) (Ar.got a h).ks.length (N.cells (Ar.got a h).ks) ∧
      N.NOk w' ⟨(Ar.got a h).h, t, ⟨xo, xc, (Ar.got a h).ks⟩⟩ ∧ ∀ g o, xo = some ⟨g, o, none⟩ → w.heap.size ≤ g ∧ g < w'.heap.size ∧ ¬ R' g := by
  obtain ⟨pl, m, R1, n, gm, K, hA, hR, hs⟩ := hO
  obtain ⟨W1, hW1⟩ : ∃ Z, w.alloc (.cells #[.int .i64 0, .string ⟨#[]⟩, .slice none 0 0] 30) = Z := ⟨_, rfl⟩
  have B1 : Below w.heap.size w W1 := hW1 ▸ (Below.refl _ _).alloc (Nat.le_refl _) _
  have O1 : N.Own W1 w.heap.size (.int .i64 0) (.string ⟨#[]⟩) (.slice none 0 0) := hW1 ▸ N.Own.new w _ _ _ _
  have A1 : PA.At W1 p pl m R1 n gm a K := ⟨hA.inv, hA.cnt, hA.mem.on B1, hA.look, hA.wr⟩
  have hs1 : ∀ k, R k → k < W1.heap.size := fun k hk => Nat.lt_of_lt_of_le (hs k hk) B1.size
  -- what both ways come to: an access, and then a copy of its node
  have key : ∀ (y : N.NArg) (e : Int) (aa : A13.A), Calls Try.prog 43 #[.pointer (some ⟨p, 0, none⟩), .int .u64 (h : Int)] W1 (fun E w' => E = .returned (.tuple #[.agg #[.int .i64 y.h, .string y.t, .slice y.s.a y.s.x.length y.s.c], .int .i64 e]) ∧ PA.Own w' p aa R ∧ FL.But R W1 w' ∧ N.NOk w' y) →
      Calls Try.prog 13 #[FL.ptr p, .int .u64 (h : Int)] w fun E w' => ∃ xo xc, E = .returned (.tuple #[.agg #[.int .i64 y.h, .string y.t, .slice xo y.s.x.length xc], .int .i64 e]) ∧ PA.Own w' p aa R ∧ FL.But R w w' ∧ w'.ownsRow w.heap.size 50 4 (.slice xo y.s.x.length xc) y.s.x.length (N.cells y.s.x) ∧
        N.NOk w' ⟨y.h, y.t, ⟨xo, xc, y.s.x⟩⟩ ∧ ∀ g o, xo = some ⟨g, o, none⟩ → w.heap.size ≤ g ∧ g < w'.heap.size ∧ ¬ R g := by
    intro y e aa HC
    have HC := Lib.hid HC
    have HS := Lib.hid hs
    have O1 := Lib.hid O1
    have B1 := Lib.hid B1
    clear hA A1 hs1 hR hs hst
    unfold FL.ptr
    go_enter Try.func13, Try.ntmps13
    go_wp2_with fail
    refine HC.out.mono ?_
    rintro E w2 ⟨rfl, hO2, hb2, ok2⟩
    have hw1 : w.heap.size < W1.heap.size := O1.out.lt
    have hbx : FL.But R w w2 := ⟨hb2.os.trans B1.out.os, hb2.tape.trans B1.out.tape, hb2.output.trans B1.out.output, Nat.le_trans B1.out.size hb2.size, fun k hk hr => (hb2.block k (Nat.lt_of_lt_of_le hk B1.out.size) hr).trans (B1.out.block k hk)⟩
    have O2 : N.Own w2 w.heap.size (.int .i64 0) (.string ⟨#[]⟩) (.slice none 0 0) := by
      have hk : w2.heap[w.heap.size]? = W1.heap[w.heap.size]? := hb2.block _ hw1 (fun c => by have := HS.out _ c; omega)
      have kc : ∀ o : Nat, w2.cell? ⟨w.heap.size, o, none⟩ = W1.cell? ⟨w.heap.size, o, none⟩ := fun o => by unfold World.cell?; rw [hk]
      have kf : ∀ o : Nat, w2.frozen? ⟨w.heap.size, o, none⟩ = W1.frozen? ⟨w.heap.size, o, none⟩ := fun o => by unfold World.frozen?; rw [hk]
      have O1 := O1.out
      exact ⟨Nat.lt_of_lt_of_le hw1 hb2.size, (kc 0).trans O1.c0, (kc 1).trans O1.c1, (kc 2).trans O1.c2, (kf 0).trans O1.f0, (kf 1).trans O1.f1, (kf 2).trans O1.f2⟩
    obtain ⟨W3, hW3⟩ : ∃ Z, w2.alloc (.cells #[.int .i64 y.h, .string y.t, .slice y.s.a y.s.x.length y.s.c] 30) = Z := ⟨_, rfl⟩
    have b3 : Below w2.heap.size w2 W3 := hW3 ▸ (Below.refl _ _).alloc (Nat.le_refl _) _
    have X3 : N.Own W3 w2.heap.size (.int .i64 y.h) (.string y.t) (.slice y.s.a y.s.x.length y.s.c) := hW3 ▸ N.Own.new w2 _ _ _ _
    have ok3 := ok2.on b3
    have HP := Lib.hid (copied13_any y.h y.t y.s.a y.s.c y.s.x W3 (by have := ok3.s.fit; omega) ok3.s.row ok3.s.nil)
    have O3 := Lib.hid (O2.below b3)
    have S3 := Lib.hid (And.intro (hO2.below b3) (hbx.trans (FL.But.below b3)))
    have hz3 : Hid (w.heap.size < W3.heap.size) := by show _ < _; have := X3.lt; have := hbx.size; omega
    have okn := Lib.hid ok3
    have x0 := X3.c0
    have x1 := X3.c1
    have x2 := X3.c2
    have O1 := Lib.hid O1
    clear hO2 hb2 ok2 hbx O2 b3 X3 ok3 HC
    go_wp2_with fail
    refine HP.out.mono ?_
    rintro E w4 ⟨u, rfl, hm⟩
    obtain ⟨xo, xc, hu, hur, hun, huc⟩ := hm.cap
    subst hu
    have hb4 := hm.below
    have O4 := O3.out.below hb4
    have r0 := O4.c0
    have r1 := O4.c1
    have r2 := O4.c2
    have s0 := O4.f0
    have s1 := O4.f1
    have s2 := O4.f2
    have hP := O4.put (.int .i64 y.h) (.string y.t) (.slice xo y.s.x.length xc)
    have hq := N.put3_but w4 w.heap.size (.int .i64 y.h) (.string y.t) (.slice xo y.s.x.length xc)
    have hxo : ∀ g o, xo = some ⟨g, o, none⟩ → W3.heap.size ≤ g ∧ g < w4.heap.size := fun g o e => by
      have := hm.own.lt g (by rw [e]; rfl)
      exact this
    have F : Hid (PA.Own (N.put3 w4 w.heap.size (.int .i64 y.h) (.string y.t) (.slice xo y.s.x.length xc)) p aa R ∧ FL.But R w (N.put3 w4 w.heap.size (.int .i64 y.h) (.string y.t) (.slice xo y.s.x.length xc)) ∧
        (N.put3 w4 w.heap.size (.int .i64 y.h) (.string y.t) (.slice xo y.s.x.length xc)).ownsRow w.heap.size 50 4 (.slice xo y.s.x.length xc) y.s.x.length (N.cells y.s.x) ∧
        N.NOk (N.put3 w4 w.heap.size (.int .i64 y.h) (.string y.t) (.slice xo y.s.x.length xc)) ⟨y.h, y.t, ⟨xo, xc, y.s.x⟩⟩ ∧ ∀ g o, xo = some ⟨g, o, none⟩ → w.heap.size ≤ g ∧ g < (N.put3 w4 w.heap.size (.int .i64 y.h) (.string y.t) (.slice xo y.s.x.length xc)).heap.size ∧ ¬ R g) := by
      have hz := hz3.out
      have S4 := (S3.out.2.trans (FL.But.below hb4))
      refine ⟨(S3.out.1.below hb4).but hq (fun k hk c => by have := HS.out k hk; omega), ⟨hq.os.trans S4.os, hq.tape.trans S4.tape, hq.output.trans S4.output, Nat.le_trans S4.size hq.size, fun k hk hr => (hq.block k (Nat.lt_of_lt_of_le hk S4.size) (by omega)).trans (S4.block k hk hr)⟩, hq.row (D.own_mono hm.own (by omega)) (fun k hk c => by have := (hm.own.lt k hk).1; omega), ?_, fun g o e => ?_⟩
      · have o := okn.out
        exact ⟨o.h0, o.h1, o.t, ⟨hur.but hq (fun g o e _ c => by have := (hxo g o e).1; omega), hun, o.s.fits, o.s.fit, huc⟩⟩
      · have := hxo g o e
        have hqs := hq.size
        exact ⟨by omega, by omega, fun c => by have := HS.out g c; omega⟩
    clear hm hb4 O3 S3 okn hur hun huc hxo hq O4 HP O1
    go_wp2
    have p0 := hP.c0
    have p1 := hP.c1
    have p2 := hP.c2
    refine bodyPost_ret (v := .tuple #[.agg #[.int .i64 y.h, .string y.t, .slice xo y.s.x.length xc], .int .i64 e]) ?_ rfl ⟨xo, xc, rfl, F.out⟩
    unfold N.put3 at p0 p1 p2
    simp [results, Try.results13, go_sem, p0, p1, p2]
  rcases hA.none h with ⟨hg, hl, hn⟩ | ⟨y, hg, hl, hy⟩
  · have e1 : a.gtE h = 10 := by unfold A13.A.gtE; rw [if_neg (by rw [hn]; simp)]
    have e2 : Ar.got a h = ⟨0, [], []⟩ := by unfold Ar.got; rw [hl]; rfl
    rw [e1, e2, A13.gt_no hn]
    have HC := access13_no p pl m n R1 K R gm a h hh W1 A1 hR hs1 hg hst
    refine (key ⟨0, ⟨#[]⟩, ⟨none, 0, []⟩⟩ 10 { a with st := a.st + 1 } (HC.mono fun E w' k => ⟨k.1, k.2.1, k.2.2, ⟨by show _ ≤ (0 : Int); omega, by show (0 : Int) < _; omega, Nat.zero_le _, ⟨N.row_nil _ _, (fun _ => rfl), (fun p hp => by cases hp), Nat.zero_le _, Nat.zero_le _⟩⟩⟩)).mono fun E w' k => ?_
    obtain ⟨xo, xc, rfl, k1, k2, k3, k4, k5⟩ := k
    exact ⟨⟨#[]⟩, xo, xc, R, rfl, rfl, k1, fun k hk => .inl hk, k2, k3, k4, k5⟩
  · have e1 : a.gtE h = 0 := by unfold A13.A.gtE; rw [if_pos hy]
    have e2 : Ar.got a h = y.nd := by unfold Ar.got; rw [hl]; rfl
    rw [e1, e2, A13.gt_yes hy]
    have HC := access13_yes p pl m n R1 K gm a h hh W1 A1 y hg
    have hO1 : PA.Own W1 p a R := ⟨pl, m, R1, n, gm, K, A1, hR, hs1⟩
    refine (key y 0 a (HC.mono fun E w' k => ⟨k.1, hO1.below k.2, FL.But.below k.2, (A1.mem.node h y hg).on k.2⟩)).mono fun E w' k => ?_
    obtain ⟨xo, xc, rfl, k1, k2, k3, k4, k5⟩ := k
    exact ⟨y.t, xo, xc, R, rfl, rfl, k1, fun k hk => .inl hk, k2, k3, k4, k5⟩
end Go.Proofs.Ytniccjbcchdkoaa
/- ArPk6 -/
namespace Go.Proofs.Ytniccjbcchdkoaa
open Go.RowKit

def PA.gone (g : Nat → Option N.NArg) (h k : Nat) : Option N.NArg := if k = h then none else g k
theorem PA.fn_gone (g : Nat → Option N.NArg) (h k : Nat) : PA.fn (PA.gone g h) k = Mv.del (PA.fn g) h k := by
  unfold PA.fn PA.gone Mv.del
  by_cases e : k = h
  · rw [if_pos e, if_pos e]; rfl
  · rw [if_neg e, if_neg e]
theorem PA.mono {R Q : Nat → Prop} {w w' : World} (h : FL.But R w w') (hq : ∀ k, R k → Q k) : FL.But Q w w' := ⟨h.os, h.tape, h.output, h.size, fun k hk hn => h.block k hk (fun c => hn (hq k c))⟩
/-- 'delete(m, k)', with no word on how many entries are left. -/
theorem Mv.drops {P : Program} {K : TypeId} {W : World} {b n c : Nat} {f : Nat → Option Value} {ops : Array Oper} {rest : List Oper} {o : Oper} {a : Act} {Q : Exit → Act → World → Prop} (hg : o.guard = none) (m x : Operand) (t e : TypeId) (hop : o.op = Op.call { callee := Callee.builtin Builtin.delete, args := #[m, x], argTypes := #[t, K] }) (hK : P.underlying K = some (.int .u64)) (ht : P.underlying t = some (.map K e))
    (h : Mv.Is P K W b n c f) (hm : a.eval m = .map (some b)) (k : Nat) (hk : k < 18446744073709551616) (hx : a.eval x = .int .u64 (k : Int))
    (hQ : ∀ w', Hid (∃ z, Mv.Is P K w' b n z (Mv.del f k)) → Hid (W.mapTurned w' b) → wpList P ops Q rest (a.put o.dst (.tuple #[])) w') : wpList P ops Q (o :: rest) a W :=
  Mv.drop hg m x t e hop hK ht h hm k hk hx (fun w' h1 h2 => hQ w' ⟨_, h1⟩ h2)
/-- 'm[k] = v', with no word on how many entries there are. -/
theorem Mv.stores {P : Program} {K : TypeId} {W : World} {b n c : Nat} {f : Nat → Option Value} {ops : Array Oper} {rest : List Oper} {o : Oper} {a : Act} {Q : Exit → Act → World → Prop} (hg : o.guard = none) (m x y : Operand) (t e : TypeId) (hop : o.op = Op.mapUpdate t m x y) (hK : P.underlying K = some (.int .u64)) (ht : P.underlying t = some (.map K e))
    (h : Mv.Is P K W b n c f) (hn : n < maxLen) (hm : a.eval m = .map (some b)) (k : Nat) (hk : k < 18446744073709551616) (hx : a.eval x = .int .u64 (k : Int)) (v : Value) (hy : a.eval y = v)
    (hQ : ∀ w', Hid (∃ z, Mv.Is P K w' b (n + 1) z (Mv.put f k v)) → Hid (W.mapTurned w' b) → wpList P ops Q rest (a.put o.dst undef) w') : wpList P ops Q (o :: rest) a W :=
  Mv.store hg m x y t e hop hK ht h hn hm k hk hx v hy (fun w' h1 h2 => hQ w' ⟨_, h1⟩ h2)
/-- A node is taken out of the map. -/
theorem PA.Mem.drop {W W' : World} {p pl m n z : Nat} {R1 K : Nat → Prop} {s : FL.S} {g : Nat → Option N.NArg} {c : PA.C} (M : PA.Mem W p pl m R1 s n g c K) {h : Nat} (hm : Mv.Is Try.prog 24 W' m n z (Mv.del (PA.fn g) h)) (ht : W.mapTurned W' m) : PA.Mem W' p pl m R1 s n (PA.gone g h) c K := by
  refine M.maps ht (hm.congr (PA.fn_gone g h)) (fun k y e => ?_) M.nk M.kl
  unfold PA.gone at e
  by_cases c : k = h
  · rw [if_pos c] at e; cases e
  · rw [if_neg c] at e
    exact ⟨M.node k y e, M.at_ k y e⟩
/-- What giving a slot back does to the numbers of free and of withdrawn slots. -/
theorem PA.given {s : FL.S} (v : FL.Inv s) {h : Nat} (k : s.live h = true) : (s.gv h).st.length = s.st.length ∧ ((s.gvB h = true ∧ (s.gv h).gone = s.gone + 1 ∧ (s.gv h).stk.length = s.stk.length) ∨ (s.gvB h = false ∧ (s.gv h).gone = s.gone ∧ (s.gv h).stk.length = s.stk.length + 1)) := by
  have t := FL.gv_yes v k
  have hg := FL.gone_gv v h
  refine ⟨t.len, ?_⟩
  by_cases c : s.gn (H.slot h) = s.gens
  · have b : s.gvB h = true := by unfold FL.S.gvB; rw [k]; simpa using c
    rw [b, if_pos rfl] at hg
    exact .inl ⟨b, hg, by rw [t.stk, if_pos c]⟩
  · have b : s.gvB h = false := by unfold FL.S.gvB; rw [k]; simpa using c
    rw [b, if_neg (by simp)] at hg
    exact .inr ⟨b, hg, by rw [t.stk, if_neg c]; rfl⟩
set_option maxRecDepth 100000 in
set_option maxHeartbeats 4000000 in
theorem free13_any (p : Nat) (a : A13.A) (R : Nat → Prop) (h : Nat) (w : World) (hO : PA.Own w p a R) (hh : h ≤ 18446744073709551615) (hst : a.st < 1000000000) :
    Calls Try.prog 16 #[FL.ptr p, .int .u64 (h : Int)] w fun e w' => e = .returned (.int .i64 (a.gtE h)) ∧ PA.Own w' p (a.free h) (Ar.ext R w.heap.size w'.heap.size) ∧ FL.But R w w' := by
  obtain ⟨pl, m, R1, n, g, K, hA, hR, hs⟩ := hO
  rcases hA.none h with ⟨hg, hl, hn⟩ | ⟨y, hg, hl, hy⟩
  · have e1 : a.gtE h = 10 := by unfold A13.A.gtE; rw [if_neg (by rw [hn]; simp)]
    rw [e1, A13.free_no hn]
    have HC := Lib.hid (access13_no p pl m n R1 K R g a h hh w hA hR hs hg hst)
    clear hA hR hs hg hl hn e1 hst
    unfold FL.ptr at HC ⊢
    go_enter Try.func16, Try.ntmps16
    go_wp2_with fail
    refine HC.out.mono ?_
    rintro E w2 ⟨rfl, hO2, hb2⟩
    have F : Hid (∀ o, PA.Own (w2.alloc o) p { a with st := a.st + 1 } (Ar.ext R w.heap.size (w2.alloc o).heap.size) ∧ FL.But R w (w2.alloc o)) := fun o => ⟨(hO2.below ((Below.refl _ _).alloc (Nat.le_refl _) o)).ext _, hb2.trans (FL.But.below ((Below.refl _ _).alloc (Nat.le_refl _) o))⟩
    clear hO2 hb2 HC
    go_wp2
    go_ret
    exact ⟨rfl, F.out _⟩
  · have e1 : a.gtE h = 0 := by unfold A13.A.gtE; rw [if_pos hy]
    have hlv : a.l.live h = true := (A13.has_iff hA.inv).1 hy
    rw [e1]
    have HC := Lib.hid (access13_yes p pl m n R1 K g a h hh w hA y hg)
    have M0 := hA.mem
    have hmem : h ∈ a.items.map Prod.fst := (hA.inv.live h).2 hlv
    have hfil := A13.filter_one hA.inv.nodup hmem
    obtain ⟨L, hL⟩ : ∃ L, (a.items.filter (fun i => !(i.1 == h))).length = L := ⟨_, rfl⟩
    rw [hL] at hfil
    obtain ⟨gl, gs⟩ := PA.given hA.inv.l hlv
    have bd := PA.al_bd hA.inv hA.cnt
    have sm := Ar.sums hA.inv
    have FIN : Hid (∀ Z, PA.Mem Z p pl m R1 (a.l.gv h) n (PA.gone g h) ⟨a.l.st.length, (a.l.gv h).stk.length, L, (a.l.gv h).gone, a.al, a.fr + 1, a.st⟩ K → FL.But R w Z → PA.Own Z p (a.free h) (Ar.ext R w.heap.size Z.heap.size) ∧ FL.But R w Z) := fun Z M hB => by
      refine ⟨PA.Own.ext ⟨pl, m, R1, n, PA.gone g h, K, ⟨A13.inv_free hA.inv h, A13.cnt_free hA.inv hA.cnt h, ?_, fun k => ?_, ?_⟩, hR, fun k hk => Nat.lt_of_lt_of_le (hs k hk) hB.size⟩ _, hB⟩
      · have ec : PA.cs (a.free h) = ⟨a.l.st.length, (a.l.gv h).stk.length, L, (a.l.gv h).gone, a.al, a.fr + 1, a.st⟩ := by
          rw [A13.free_yes hy]; unfold PA.cs; dsimp only; rw [gl, hL]
        have el : (a.free h).l = a.l.gv h := by rw [A13.free_yes hy]
        rw [ec, el]; exact M
      · unfold PA.gone
        by_cases e : k = h
        · rw [if_pos e, e, A13.look_gone h hy]; rfl
        · rw [if_neg e, A13.keeps_free hA.inv e]; exact hA.look k
      · rw [A13.free_yes hy]; exact hA.wr
    have hRf := Lib.hid hR
    have M0 := Lib.hid M0
    have hgs : a.l.gvE h = 0 := by unfold FL.S.gvE; rw [if_pos hlv]
    have c4 : PA.cs a = ⟨a.l.st.length, a.l.stk.length, L + 1, a.l.gone, a.al, a.fr, a.st⟩ := by unfold PA.cs; rw [hfil]
    rw [c4] at M0
    have B0 : Hid (∀ w2 o, Below w.heap.size w w2 → Below w.heap.size w (w2.alloc o)) := fun w2 o hb => hb.alloc hb.size o
    have hL1 : L + 1 ≤ 16384 := by omega
    have eL : IntKind.i64.wrap ((L : Int) + 1 - 1) = (L : Int) := by rw [show (L : Int) + 1 - 1 = (L : Int) by omega]; exact IntWalk.i64_in _ (by omega)
    have eL' : IntKind.i64.wrap (L : Int) = (L : Int) := IntWalk.i64_in _ (by omega)
    have eR : IntKind.i64.wrap ((a.fr : Int) + 1) = (a.fr : Int) + 1 := IntWalk.i64_in _ (by omega)
    have HG : Hid (∀ Z, FL.Own Z pl a.l R1 → Calls Try.prog 47 #[.pointer (some ⟨pl, 0, none⟩), .int .u64 (h : Int)] Z fun e w' => e = .returned (.tuple #[.bool (a.l.gvB h), .int .i64 0]) ∧ FL.Own w' pl (a.l.gv h) R1 ∧ FL.But R1 Z w') := fun Z hZ => by
      have := give11_any pl a.l R1 h hh Z hZ
      rw [hgs] at this
      exact this
    have hf1 : a.l.stk.length ≤ 16384 ∧ a.l.gone ≤ 16384 := by omega
    have hh2 : h < 18446744073709551616 := by omega
    have hdel := Lib.hid (fun (x : Nat) => PA.fn_gone g h x)
    clear hA hR hs hg hl hy hlv hmem hfil hL bd sm e1 c4 hgs gl hst
    unfold FL.ptr at HC ⊢
    go_enter Try.func16, Try.ntmps16
    go_wp2_with fail
    refine HC.out.mono ?_
    rintro E w2 ⟨rfl, hb2⟩
    have B2 := B0.out w2 (.cells #[.int .i64 y.h, .string y.t, .slice y.s.a y.s.x.length y.s.c] 30) hb2
    obtain ⟨W2, hW2⟩ : ∃ Z, w2.alloc (.cells #[.int .i64 y.h, .string y.t, .slice y.s.a y.s.x.length y.s.c] 30) = Z := ⟨_, rfl⟩
    rw [hW2] at B2
    have M2 := M0.out.on B2
    have f1 := M2.fields.2.1
    obtain ⟨z, hz⟩ := M2.map
    have B2 := Lib.hid B2
    have M2 := Lib.hid M2
    clear hb2 HC B0 M0
    go_wp2_with (at_delete; refine Mv.drops rfl _ _ _ _ rfl PA.keyed PA.mapped hz rfl h hh2 rfl ?_)
    intro w3 hm3 ht3
    obtain ⟨z3, hm3⟩ := hm3.out
    have ht3 := ht3.out
    have M3 := M2.out.drop hm3 ht3
    have B3 : FL.But R w w3 := (FL.But.below B2.out).trans (PA.mono (PA.turned ht3) (fun k hk => by rw [hk]; exact hRf.out _ (.inr (.inl rfl))))
    have f4 := M3.fields.2.2.2.2.1
    have fz := M3.fields.2.2.2.2.2.2.2.2.2
    obtain ⟨M4, b4⟩ := M3.field 4 (.int .i64 (L : Int)) (c' := ⟨a.l.st.length, a.l.stk.length, L, a.l.gone, a.al, a.fr, a.st⟩) rfl
    have f7 := M4.fields.2.2.2.2.2.2.2.1
    have fz7 := M4.fields.2.2.2.2.2.2.2.2.2 7
    obtain ⟨M5, b5⟩ := M4.field 7 (.int .i64 ((a.fr : Int) + 1)) (c' := ⟨a.l.st.length, a.l.stk.length, L, a.l.gone, a.al, a.fr + 1, a.st⟩) rfl
    have B5 : FL.But R w ((w3.setCell ⟨p, 4, none⟩ (.int .i64 (L : Int))).setCell ⟨p, 7, none⟩ (.int .i64 ((a.fr : Int) + 1))) := (B3.trans (FL.But.set _ _ (hRf.out p (.inl rfl)))).trans (FL.But.set _ _ (hRf.out p (.inl rfl)))
    have f0 := M5.fields.1
    obtain ⟨W5, hW5⟩ : ∃ Z, (w3.setCell ⟨p, 4, none⟩ (.int .i64 (L : Int))).setCell ⟨p, 7, none⟩ (.int .i64 ((a.fr : Int) + 1)) = Z := ⟨_, rfl⟩
    rw [hW5] at M5 B5 f0
    have HG5 := Lib.hid (HG.out W5 M5.list)
    have M5 := Lib.hid M5
    have B5 := Lib.hid B5
    clear M3 B3 M4 b4 b5 M2 B2 hm3 ht3 hz f1 HG
    go_wp2_with fail
    refine HG5.out.mono ?_
    rintro E w6 ⟨rfl, hO6, hb6⟩
    have M6 := M5.out.turn hO6 hb6
    have B6 : FL.But R w w6 := B5.out.trans (PA.mono hb6 (fun k hk => hRf.out k (.inr (.inr (.inl hk)))))
    clear HG5 hO6 hb6 M5 B5
    rcases gs with ⟨gb, gg, gk⟩ | ⟨gb, gg, gk⟩
    · rw [gb]
      have f5 := M6.fields.2.2.2.2.2.1
      have fz5 := M6.fields.2.2.2.2.2.2.2.2.2 5
      have e5 : IntKind.i64.wrap ((a.l.gone : Int) + 1) = (a.l.gone : Int) + 1 := IntWalk.i64_in _ (by omega)
      obtain ⟨M7, _⟩ := M6.field 5 (.int .i64 ((a.l.gone : Int) + 1)) (c' := ⟨a.l.st.length, (a.l.gv h).stk.length, L, (a.l.gv h).gone, a.al, a.fr + 1, a.st⟩) (by rw [gg, gk]; rfl)
      have E := Lib.hid (FIN.out _ M7 (B6.trans (FL.But.set _ _ (hRf.out p (.inl rfl)))))
      clear M6 M7 B6 FIN gg gk gb
      go_wp2
      go_ret
      exact ⟨rfl, E.out⟩
    · rw [gb]
      have f3 := M6.fields.2.2.2.1
      have fz3 := M6.fields.2.2.2.2.2.2.2.2.2 3
      have e3 : IntKind.i64.wrap ((a.l.stk.length : Int) + 1) = (a.l.stk.length : Int) + 1 := IntWalk.i64_in _ (by omega)
      obtain ⟨M7, _⟩ := M6.field 3 (.int .i64 ((a.l.stk.length : Int) + 1)) (c' := ⟨a.l.st.length, (a.l.gv h).stk.length, L, (a.l.gv h).gone, a.al, a.fr + 1, a.st⟩) (by rw [gg, gk]; rfl)
      have E := Lib.hid (FIN.out _ M7 (B6.trans (FL.But.set _ _ (hRf.out p (.inl rfl)))))
      clear M6 M7 B6 FIN gg gk gb
      go_wp2
      go_ret
      exact ⟨rfl, E.out⟩
end Go.Proofs.Ytniccjbcchdkoaa
/- ArPk7 -/
namespace Go.Proofs.Ytniccjbcchdkoaa
open Go.RowKit

theorem checkKid13_any (p pl m n : Nat) (R1 K : Nat → Prop) (g : Nat → Option N.NArg) (a : A13.A) (q : N.K) (H : Int) (hf : N.Fit q) (w : World) (hA : PA.At w p pl m R1 n g a K) :
    Calls Try.prog 40 #[.pointer (some ⟨p, 0, none⟩), .agg #[.int .u64 (q.at_ : Int), .int .i64 q.b, .int .i64 q.r, .int .i64 q.l], .int .i64 H] w fun e w' => e = .returned (.int .i64 (PA.kE a H q)) ∧ Below w.heap.size w w' := by
  have hq : q.at_ ≤ 18446744073709551615 := by have := hf.at_; omega
  rcases hA.none q.at_ with ⟨hg, hl, _⟩ | ⟨y, hg, hl, _⟩
  · have e : PA.kE a H q = 10 := by unfold PA.kE; rw [hl]
    rw [e]
    exact checkKid13_no p pl m n R1 K g a q H hq w hA hg
  · have e : PA.kE a H q = if y.h = H ∧ N.mB y.nd = q.b ∧ N.mR y.nd = q.r ∧ N.mL y.nd = q.l then 0 else 23 := by
      unfold PA.kE
      rw [hl]
      have e : (y.nd.h = H ∧ Ar.ms y.nd = (q.b, q.r, q.l)) ↔ (y.h = H ∧ N.mB y.nd = q.b ∧ N.mR y.nd = q.r ∧ N.mL y.nd = q.l) := by
        unfold Ar.ms
        rw [Prod.mk.injEq, Prod.mk.injEq]
        exact Iff.rfl
      simp only [e]
    rw [e]
    exact checkKid13_yes p pl m n R1 K g a q H hq w hA y hg
theorem Mv.Is.run_store {P : Program} {K : TypeId} {W : World} {b n c : Nat} {f : Nat → Option Value} {t e : TypeId} (hK : P.underlying K = some (.int .u64)) (ht : P.underlying t = some (.map K e)) (h : Mv.Is P K W b n c f) (hn : n < maxLen) {k : Nat} (hk : k < 18446744073709551616) (v : Value) :
    ∃ w', (Instr.mapUpdate t (.map (some b)) (.int .u64 (k : Int)) v).run P W = .ok () w' ∧ (∃ z, Mv.Is P K w' b (n + 1) z (Mv.put f k v)) ∧ W.mapTurned w' b := by
  obtain ⟨D, h0, hc, hf⟩ := h
  have T := h0.tidy (Maps.int_keyed hK)
  obtain ⟨w', hr, ho, hturn⟩ := h0.store (Maps.int_keyed hK) ht hn (val := v) (d := .held v) (ps := []) (Mv.key_of hK hk) rfl
  refine ⟨w', hr, ⟨_, ⟨_, ho, rfl, fun g => ?_⟩⟩, hturn⟩
  unfold Mv.put
  by_cases e : g = k
  · subst e
    rw [if_pos rfl]
    exact ⟨Maps.has_put_same h0.isMap (Mv.key_lit _) _, fun u hu z => by cases hu; exact Maps.atKey_put_same h0.isMap (Mv.key_lit _) _ z⟩
  · rw [if_neg e]
    exact ⟨(Maps.has_put_other (Mv.key_ne e) _).trans (hf g).1, fun u hu z => (Maps.atKey_put_other (Mv.key_ne e) _ z).trans ((hf g).2 u hu z)⟩
def PA.add (g : Nat → Option N.NArg) (h : Nat) (y : N.NArg) (k : Nat) : Option N.NArg := if k = h then some y else g k
theorem PA.fn_add (g : Nat → Option N.NArg) (h : Nat) (y : N.NArg) (k : Nat) : PA.fn (PA.add g h y) k = Mv.put (PA.fn g) h (PA.val y) k := by
  unfold PA.fn PA.add Mv.put
  by_cases e : k = h
  · rw [if_pos e, if_pos e]; rfl
  · rw [if_neg e, if_neg e]
/-- A node has been put into the map; its children lie in new memory. -/
theorem PA.Mem.push {W0 W W' : World} {p pl m n z hd : Nat} {R1 K : Nat → Prop} {s : FL.S} {g : Nat → Option N.NArg} {c : PA.C} {y : N.NArg} (M0 : PA.Mem W0 p pl m R1 s n g c K) (M : PA.Mem W p pl m R1 s n g c K) (hm : Mv.Is Try.prog 24 W' m (n + 1) z (Mv.put (PA.fn g) hd (PA.val y))) (ht : W.mapTurned W' m)
    (ok : N.NOk W y) (hu : ∀ k o, y.s.a = some ⟨k, o, none⟩ → W0.heap.size ≤ k ∧ k < W.heap.size) : ∃ K', PA.Mem W' p pl m R1 s (n + 1) (PA.add g hd y) c K' ∧ ∀ k, K' k → K k ∨ (W0.heap.size ≤ k ∧ k < W.heap.size) := by
  refine ⟨fun k => K k ∨ ∃ o, y.s.a = some ⟨k, o, none⟩, M.maps ht (hm.congr (PA.fn_add g hd y)) (fun k x e => ?_) (fun k hk => ?_) (fun k hk => ?_), fun k hk => hk.imp id (fun ⟨o, e⟩ => hu k o e)⟩
  · unfold PA.add at e
    by_cases c : k = hd
    · rw [if_pos c] at e
      cases e
      exact ⟨ok, fun b o e' _ => .inr ⟨o, e'⟩⟩
    · rw [if_neg c] at e
      exact ⟨M.node k x e, fun b o e' n => .inl (M.at_ k x e b o e' n)⟩
  · rcases hk with hk | ⟨o, e⟩
    · exact M.nk k hk
    · have h1 := (hu k o e).1
      refine ⟨fun c => ?_, fun c => ?_, fun c => ?_⟩
      · have := M0.lt p (.inl rfl); omega
      · have := M0.lt m (.inr (.inl rfl)); omega
      · have := M0.lt k (.inr (.inr (.inl c))); omega
  · rcases hk with hk | ⟨o, e⟩
    · exact M.kl k hk
    · exact (hu k o e).2
theorem PA.look_push {a : A13.A} {hd k : Nat} {x : N.Nd} {l : FL.S} {n : Nat} (h : k ≠ hd) : ({ a with l := l, items := a.items ++ [(hd, x)], al := n } : A13.A).look k = a.look k := by
  unfold A13.A.look
  show ((a.items ++ [(hd, x)]).find? _).map Prod.snd = _
  rw [List.find?_append]
  have : ([(hd, x)] : List (Nat × N.Nd)).find? (fun i => i.1 == k) = none := by
    rw [List.find?_cons]
    have : (hd == k) = false := by simpa using fun e => h e.symm
    rw [this]; rfl
  rw [this, Option.or_none]
set_option maxRecDepth 100000 in
set_option maxHeartbeats 8000000 in
theorem alloc13_any (p : Nat) (a : A13.A) (R : Nat → Prop) (h : Int) (t : ByteArray) (xo : Option Addr) (xc : Nat) (l : List N.K) (w : World) (hO : PA.Own w p a R) (ok : N.NOk w ⟨h, t, ⟨xo, xc, l⟩⟩) (hxR : ∀ g o, xo = some ⟨g, o, none⟩ → l ≠ [] → ¬ R g) :
    Calls Try.prog 12 #[FL.ptr p, .agg #[.int .i64 h, .string t, .slice xo l.length xc]] w fun e w' => e = .returned (.tuple #[.int .u64 (A13.alH Ar.ms a (N.nd h t l) : Nat), .int .i64 (A13.alE Ar.ms a (N.nd h t l))]) ∧ PA.Own w' p (A13.al Ar.ms a (N.nd h t l)) (Ar.ext R w.heap.size w'.heap.size) ∧ FL.But R w w' := by
  have hO' := hO
  obtain ⟨pl, m, R1, n, g, K, hA, hR, hs⟩ := hO
  have cd : N.Cd h t l := ok.cd
  have hr : N.Row w xo l := ok.s.row
  have X0 := Lib.hid (N.Nb.new w h t (.slice xo l.length xc) 30)
  have ha : Below w.heap.size w (w.alloc (.cells #[.int .i64 h, .string t, .slice xo l.length xc] 30)) := (Below.refl _ _).alloc (Nat.le_refl _) _
  have HU : Hid (∀ Z, Below w.heap.size w Z → PA.Own Z p a (Ar.ext R w.heap.size Z.heap.size) ∧ FL.But R w Z) := fun Z hb => ⟨(hO'.below hb).ext _, FL.But.below hb⟩
  have HCx : Hid (Calls Try.prog 39 #[.agg #[.int .i64 h, .string t, .slice xo l.length xc]] (w.alloc (.cells #[.int .i64 h, .string t, .slice xo l.length xc] 30)) fun e w' => e = .returned (.int .i64 (N.chk (N.nd h t l))) ∧ Below (w.alloc (.cells #[.int .i64 h, .string t, .slice xo l.length xc] 30)).heap.size (w.alloc (.cells #[.int .i64 h, .string t, .slice xo l.length xc] 30)) w') := check12_any h t xo xc l _ cd.ts cd.len (hr.below ha) cd.ft
  have B0 := Lib.hid ha
  clear ha
  unfold FL.ptr
  by_cases hc : N.chk (N.nd h t l) = 0
  · have hsm : 0 ≤ h ∧ h ≤ 16 ∧ l.length ≤ 4 ∧ t.size ≤ 16 := by
      rcases N.chk_cases hc with k | k
      · have e1 : h = 0 := k.h
        have e2 : l = [] := k.ks
        subst e1; subst e2
        have e3 : t.data.toList.length ≤ 16 := k.t2
        rw [N.len_data] at e3
        exact ⟨by omega, by omega, by decide, e3⟩
      · have e1 : 0 < h := k.h1
        have e2 : h ≤ 16 := k.h2
        have e3 : l.length ≤ 4 := k.k4
        have e4 : t.data.toList = [] := k.t
        have e5 : t.data.toList.length = t.size := N.len_data t
        rw [e4] at e5
        exact ⟨by omega, e2, e3, by rw [← e5]; exact Nat.zero_le _⟩
    obtain ⟨h0, h16, hl4, ht16⟩ := hsm
    have HKd : Hid (∀ Z, Below w.heap.size w Z → ∀ q ∈ l, Calls Try.prog 40 #[.pointer (some ⟨p, 0, none⟩), .agg #[.int .u64 (q.at_ : Int), .int .i64 q.b, .int .i64 q.r, .int .i64 q.l], .int .i64 (h - 1)] Z fun e w' => e = .returned (.int .i64 (PA.kE a (h - 1) q)) ∧ Below Z.heap.size Z w') := fun Z hb q hq =>
      checkKid13_any p pl m n R1 K g a q (h - 1) (cd.ft q hq) Z ⟨hA.inv, hA.cnt, hA.mem.on hb, hA.look, hA.wr⟩
    have HBAD : Hid (∀ er : Int, A13.kidsE Ar.ms a (N.nd h t l) l = er → er ≠ 0 → ∀ Z, Below w.heap.size w Z → A13.alH Ar.ms a (N.nd h t l) = 0 ∧ A13.alE Ar.ms a (N.nd h t l) = er ∧ PA.Own Z p (A13.al Ar.ms a (N.nd h t l)) (Ar.ext R w.heap.size Z.heap.size) ∧ FL.But R w Z) := fun er e hk Z hb => by
      subst e
      have e1 : A13.alE Ar.ms a (N.nd h t l) = A13.kidsE Ar.ms a (N.nd h t l) l := by unfold A13.alE; rw [if_pos hc]; exact if_neg hk
      have hne : A13.alE Ar.ms a (N.nd h t l) ≠ 0 := by rw [e1]; exact hk
      obtain ⟨e2, e3⟩ := A13.al_no hne
      exact ⟨e3, e1, by rw [e2]; exact (HU.out Z hb).1, (HU.out Z hb).2⟩
    have hc' := Lib.hid hc
    rw [hc] at HCx
    have w1 : IntKind.i64.wrap (h - 1) = h - 1 := IntWalk.i64_in _ (by omega)
    have hla : (l.length : Int) ≤ 4 := by omega
    have HX := Lib.hid hr
    have HXR := Lib.hid hxR
    have HAt := Lib.hid hA
    have hRs : Hid ((∀ k, PA.foot p m R1 K k → R k) ∧ ∀ k, R k → k < w.heap.size) := ⟨hR, hs⟩
    have hb16 : Hid (0 ≤ h ∧ h ≤ 16 ∧ l.length ≤ 4 ∧ t.size ≤ 16) := ⟨h0, h16, hl4, ht16⟩
    have hfit := Lib.hid cd.ft
    have hxn := Lib.hid ok.s.nil
    clear hA hR hs hO' hr ok cd hxR hc h0 h16 hl4 ht16
    go_enter Try.func12, Try.ntmps12
    go_wp2_with fail
    refine HCx.out.mono ?_
    rintro e w1 ⟨rfl, hb⟩
    have B1 := Lib.hid (Ar.bt B0.out hb)
    have X1 := X0.out.below hb
    have x2 := X1.c2
    have X1 := Lib.hid X1
    clear hb HCx B0 X0
    go_wp2
    go_loopw [22] (fun u wr => ∃ i : Nat, u = .int .i64 i ∧ i ≤ l.length ∧ Hid (A13.kidsE Ar.ms a (N.nd h t l) l = A13.kidsE Ar.ms a (N.nd h t l) (l.drop i)) ∧ Hid (N.Nb wr w.heap.size h t (.slice xo l.length xc)) ∧ Hid (Below w.heap.size w wr)) (fun u _ => l.length - (intOf u).toNat)
    case atStart => exact ⟨0, rfl, Nat.zero_le _, rfl, X1.out, B1.out⟩
    case round =>
      clear X1 B1 x2
      obtain ⟨i, rfl, hi, hE, hX, hB⟩ := hrel
      by_cases hlt : i < l.length
      · have hlt' : (i : Int) < (l.length : Int) := by omega
        obtain ⟨q, hq, hqd⟩ := N.drop_cons hlt
        obtain ⟨b, o, e, hb, c0, c1, c2, c3⟩ := (HX.out.below hB.out) i q hq
        subst e
        have E1 : Hid (A13.kidsE Ar.ms a (N.nd h t l) l = if PA.kE a (h - 1) q = 0 then A13.kidsE Ar.ms a (N.nd h t l) (l.drop (i + 1)) else PA.kE a (h - 1) q) := by
          show _ = _
          rw [hE.out, hqd]; rfl
        have HKq := Lib.hid (fun Z hb => HKd.out Z hb q (List.mem_of_getElem? hq))
        obtain ⟨W1, hW1⟩ : ∃ Z, wr.alloc (.cells #[.int .u64 (q.at_ : Int), .int .i64 q.b, .int .i64 q.r, .int .i64 q.l] 50) = Z := ⟨_, rfl⟩
        have hb1 : Below wr.heap.size wr W1 := hW1 ▸ (Below.refl _ _).alloc (Nat.le_refl _) _
        have Q0 := heap_alloc_new wr (.cells #[.int .u64 (q.at_ : Int), .int .i64 q.b, .int .i64 q.r, .int .i64 q.l] 50)
        rw [hW1] at Q0
        have g0 := Lib.cell_of_heap Q0 0
        have g1 := Lib.cell_of_heap Q0 1
        have g2 := Lib.cell_of_heap Q0 2
        have g3 := Lib.cell_of_heap Q0 3
        have X1 := hX.out.below hb1
        have x0 := X1.c0
        have B1 := Lib.hid (Ar.bt hB.out hb1)
        have X1 := Lib.hid X1
        clear hE hqd hq hb HKd hb1 Q0 hX hB
        generalize PA.kE a (h - 1) q = ke at *
        go_wp2_with fail
        refine (HKq.out _ B1.out).mono ?_
        rintro e w2 ⟨rfl, hb⟩
        have B2 := Lib.hid (Ar.bt B1.out hb)
        have X2 := Lib.hid (X1.out.below hb)
        clear hb HKq B1 X1 x0 g0 g1 g2 g3 c0 c1 c2 c3
        by_cases hk : ke = 0
        · subst hk
          have E3 : Hid (A13.kidsE Ar.ms a (N.nd h t l) l = A13.kidsE Ar.ms a (N.nd h t l) (l.drop (i + 1))) := by show _ = _; rw [E1.out]; exact if_pos rfl
          clear E1
          go_wp2
          go_roundw
          case rel => exact ⟨i + 1, by go_num, by omega, E3, X2.out, B2.out⟩
          case measure => simp [intOf]; omega
        · have hk' : (ke != 0) = true := by simpa using hk
          obtain ⟨e3, e1, F1, F2⟩ := HBAD.out ke (by rw [E1.out]; exact if_neg hk) hk _ B2.out
          have E := Lib.hid (And.intro e3 (And.intro e1 (And.intro F1 F2)))
          clear e3 e1 F1 F2 hk E1 B2 X2 HBAD
          go_wp2
          go_ret2
          exact ⟨by rw [E.out.1, E.out.2.1]; rfl, E.out.2.2⟩
      · obtain rfl : i = l.length := by omega
        have hk : A13.kidsE Ar.ms a (N.nd h t l) l = 0 := by rw [hE.out, List.drop_eq_nil_of_le (Nat.le_refl _)]; rfl
        have hA := HAt.out
        have hc := hc'.out
        have e0 : A13.alE Ar.ms a (N.nd h t l) = a.l.tkE := by unfold A13.alE; rw [if_pos hc]; exact if_pos hk
        have M2 := hA.mem.on hB.out
        have f0 := M2.fields.1
        have HT := take11_any pl a.l R1 wr M2.list
        unfold FL.ptr at HT
        clear hE HKd HAt hc' HBAD
        cases hst : a.l.stk with
        | nil =>
          obtain ⟨t1, t2, t3⟩ := FL.tk_nil hst
          rw [t3] at e0
          have hne : A13.alE Ar.ms a (N.nd h t l) ≠ 0 := by rw [e0]; decide
          obtain ⟨e2, e3⟩ := A13.al_no hne
          rw [t1, t2, t3] at HT
          have FIN : Hid (∀ Z, FL.Own Z pl a.l R1 → FL.But R1 wr Z → A13.alH Ar.ms a (N.nd h t l) = 0 ∧ A13.alE Ar.ms a (N.nd h t l) = 6 ∧ PA.Own Z p (A13.al Ar.ms a (N.nd h t l)) (Ar.ext R w.heap.size Z.heap.size) ∧ FL.But R w Z) := fun Z hZ hbt => by
            have hB2 : FL.But R w Z := (FL.But.below hB.out).trans (PA.mono hbt (fun k hk => hRs.out.1 k (.inr (.inr (.inl hk)))))
            refine ⟨e3, e0, ?_, hB2⟩
            rw [e2]
            exact PA.Own.ext ⟨pl, m, R1, n, g, K, ⟨hA.inv, hA.cnt, M2.turn hZ hbt, hA.look, hA.wr⟩, hRs.out.1, fun k hk => Nat.lt_of_lt_of_le (hRs.out.2 k hk) hB2.size⟩ _
          have HT := Lib.hid HT
          clear e0 e2 e3 hne t1 t2 t3 hk hc hA M2 hst hX HU
          go_wp2_with fail
          refine HT.out.mono ?_
          rintro e w3 ⟨rfl, ho, hbt⟩
          have E := Lib.hid (FIN.out _ ho hbt)
          clear HT FIN ho hbt
          go_wp2
          go_ret2
          exact ⟨by rw [E.out.1, E.out.2.1]; rfl, E.out.2.2⟩
        | cons s0 r0 =>
          have tk := FL.tk_cons hA.inv.l hst
          have t3 : a.l.tkE = 0 := by unfold FL.S.tkE; rw [if_neg (by rw [hst]; simp)]
          rw [t3] at e0
          have al := A13.al_yes e0
          have ina := A13.inv_al (ms := Ar.ms) hA.inv (N.nd h t l)
          have cna := A13.cnt_al (ms := Ar.ms) hA.inv hA.cnt (N.nd h t l)
          have bd := PA.al_bd hA.inv hA.cnt
          have sm := Ar.sums hA.inv
          have hhl : Hid (a.l.tkH ≤ 18446744073709551615) := FL.tkH_le13 hA.inv.l
          have lkn := A13.look_new (ms := Ar.ms) hA.inv e0
          rw [al.hand] at lkn
          rw [t3] at HT
          have c4 : PA.cs a = ⟨a.l.st.length, r0.length + 1, a.items.length, a.l.gone, a.al, a.fr, a.st⟩ := by unfold PA.cs; rw [hst]; rfl
          have FIN : Hid (∀ Z y K', y.nd = N.nd h t l → PA.Mem Z p pl m R1 a.l.tk (n + 1) (PA.add g a.l.tkH y) ⟨a.l.st.length, r0.length, a.items.length + 1, a.l.gone, a.al + 1, a.fr, a.st⟩ K' → (∀ k, K' k → K k ∨ (w.heap.size ≤ k ∧ k < Z.heap.size)) → FL.But R w Z → A13.alH Ar.ms a (N.nd h t l) = a.l.tkH ∧ A13.alE Ar.ms a (N.nd h t l) = 0 ∧ PA.Own Z p (A13.al Ar.ms a (N.nd h t l)) (Ar.ext R w.heap.size Z.heap.size) ∧ FL.But R w Z) := fun Z y K' hy M hK' hB2 => by
            refine ⟨al.hand, e0, ⟨pl, m, R1, n + 1, PA.add g a.l.tkH y, K', ⟨ina, cna, ?_, fun k => ?_, ?_⟩, fun k hk => ?_, fun k hk => ?_⟩, hB2⟩
            · have ec : PA.cs (A13.al Ar.ms a (N.nd h t l)) = ⟨a.l.st.length, r0.length, a.items.length + 1, a.l.gone, a.al + 1, a.fr, a.st⟩ := by
                rw [al.next]; unfold PA.cs; dsimp only; rw [tk.len, tk.rest, FL.gone_tk hA.inv.l, List.length_append]; rfl
              have el : (A13.al Ar.ms a (N.nd h t l)).l = a.l.tk := by rw [al.next]
              rw [ec, el]; exact M
            · unfold PA.add
              by_cases e : k = a.l.tkH
              · rw [if_pos e, e, lkn, ← hy]; rfl
              · rw [if_neg e, al.next, PA.look_push e]; exact hA.look k
            · rw [al.next]; have := hA.wr; show n + 1 ≤ a.al + 1; omega
            · rcases hk with rfl | rfl | hk | hk
              · exact .inl (hRs.out.1 _ (.inl rfl))
              · exact .inl (hRs.out.1 _ (.inr (.inl rfl)))
              · exact .inl (hRs.out.1 _ (.inr (.inr (.inl hk))))
              · rcases hK' k hk with c | c
                · exact .inl (hRs.out.1 _ (.inr (.inr (.inr c))))
                · exact .inr c
            · rcases hk with hk | hk
              · exact Nat.lt_of_lt_of_le (hRs.out.2 k hk) hB2.size
              · exact hk.2
          have hl32 : Hid (l.length * 32 ≤ 140737488351232) := by show _ ≤ _; omega
          have hnb : Hid (n ≤ 70368744161280) := by show _ ≤ _; have := hA.wr; omega
          have hr0 : r0.length ≤ 16384 := by have := sm.1; rw [hst, List.length_cons] at this; omega
          have hit : a.items.length ≤ 16384 := by omega
          have eF : IntKind.i64.wrap ((r0.length : Int) + 1 - 1) = (r0.length : Int) := by rw [show (r0.length : Int) + 1 - 1 = (r0.length : Int) by omega]; exact IntWalk.i64_in _ (by omega)
          have eF' : IntKind.i64.wrap (r0.length : Int) = (r0.length : Int) := IntWalk.i64_in _ (by omega)
          have eL : IntKind.i64.wrap ((a.items.length : Int) + 1) = (a.items.length : Int) + 1 := IntWalk.i64_in _ (by omega)
          have eA : IntKind.i64.wrap ((a.al : Int) + 1) = (a.al : Int) + 1 := IntWalk.i64_in _ (by omega)
          have M2 := Lib.hid M2
          have hR1 : Hid (∀ k, R1 k → k < w.heap.size) := fun k hk => hRs.out.2 k (hRs.out.1 k (.inr (.inr (.inl hk))))
          rw [c4] at M2
          have HT := Lib.hid HT
          clear e0 t3 hk hc hA tk al ina cna bd sm lkn c4 hst HU
          generalize a.l.tkH = hd at *
          generalize r0.length = fl at *
          generalize a.items.length = il at *
          go_wp2_with fail
          refine HT.out.mono ?_
          rintro e w3 ⟨rfl, ho, hbt⟩
          have M3 := Lib.hid (M2.out.turn ho hbt)
          have X3 := Lib.hid (hX.out.but hbt (fun c => by have := hR1.out _ c; omega))
          have R3 := Lib.hid ((HX.out.below hB.out).but hbt (fun g o e ne c => HXR.out g o e ne (hRs.out.1 g (.inr (.inr (.inl c))))))
          have B3 : Hid (FL.But R w w3) := (FL.But.below hB.out).trans (PA.mono hbt (fun k hk => hRs.out.1 k (.inr (.inr (.inl hk)))))
          clear HT ho hbt M2 f0 hX hB hR1 HXR HX
          go_upto_region 16 with (fail)
          obtain ⟨W2, hW2⟩ : ∃ W2, W2 = w3.drew := ⟨_, rfl⟩
          have hd : Below w3.heap.size w3 W2 := by rw [hW2]; exact (Below.refl _ _).drew
          have M4 := Lib.hid (M3.out.on hd)
          have X4 := Lib.hid (X3.out.below hd)
          have R4 := Lib.hid (R3.out.below hd)
          have B4 : Hid (FL.But R w W2) := B3.out.trans (FL.But.below hd)
          have f1 := M4.out.fields.2.1
          have x0 := X4.out.c0
          have x1 := X4.out.c1
          have x2 := X4.out.c2
          refine Pe.start (z := 7) (S := (fun Z => Z.cell? ⟨p, 1, none⟩ = some (.map (some m)) ∧ Z.cell? ⟨w.heap.size, 0, none⟩ = some (.int .i64 h) ∧ Z.cell? ⟨w.heap.size, 1, none⟩ = some (.string t) ∧ Z.cell? ⟨w.heap.size, 2, none⟩ = some (.slice xo l.length xc))) (by kernel_rfl) (by kernel_rfl) W2 hW2 ⟨f1, x0, x1, x2⟩ (fun hHeld => ?_)
          clear hd hW2 M3 X3 R3 B3
          refine Pe.Left.take (i := 0) (o := ?o0) (v := ?v0) ?hi0 (by kernel_rfl) (by decide) (by kernel_rfl) (by kernel_rfl) ?hQ0 (Or.inl ⟨?wa0, ?hy0⟩) hHeld ?rest0
          case hi0 => simp only [List.getElem?_toArray, List.getElem?_cons_zero]; rfl
          case hQ0 => exact fun _ _ _ h => h
          case wa0 => rfl
          case hy0 => (intro w hSw; (try dsimp only at hSw); go_simp; (try with_reducible rfl))
          (try simp only [Act.put, List.setIfInBounds_toArray, List.set_cons_zero, List.set_cons_succ])
          refine Pe.Left.take (i := 1) (o := ?o1) (v := ?v1) ?hi1 (by kernel_rfl) (by decide) (by kernel_rfl) (by kernel_rfl) ?hQ1 (Or.inl ⟨?wa1, ?hy1⟩) hHeld ?rest1
          case hi1 => simp only [List.getElem?_toArray, List.getElem?_cons_succ, List.getElem?_cons_zero]; rfl
          case hQ1 => exact fun _ _ _ h => h
          case wa1 => rfl
          case hy1 => (intro w hSw; (try dsimp only at hSw); go_simp; (try with_reducible rfl))
          (try simp only [Act.put, List.setIfInBounds_toArray, List.set_cons_zero, List.set_cons_succ])
          refine Pe.Left.take (i := 2) (o := ?o2) (v := ?v2) ?hi2 (by kernel_rfl) (by decide) (by kernel_rfl) (by kernel_rfl) ?hQ2 (Or.inl ⟨?wa2, ?hy2⟩) hHeld ?rest2
          case hi2 => simp only [List.getElem?_toArray, List.getElem?_cons_succ, List.getElem?_cons_zero]; rfl
          case hQ2 => exact fun _ _ _ h => h
          case wa2 => rfl
          case hy2 => (intro w hSw; (try dsimp only at hSw); go_simp; (try with_reducible rfl))
          (try simp only [Act.put, List.setIfInBounds_toArray, List.set_cons_zero, List.set_cons_succ])
          refine Pe.Left.take (i := 3) (o := ?o3) (v := ?v3) ?hi3 (by kernel_rfl) (by decide) (by kernel_rfl) (by kernel_rfl) ?hQ3 (Or.inl ⟨?wa3, ?hy3⟩) hHeld ?rest3
          case hi3 => simp only [List.getElem?_toArray, List.getElem?_cons_succ, List.getElem?_cons_zero]; rfl
          case hQ3 => exact fun _ _ _ h => h
          case wa3 => rfl
          case hy3 => (intro w hSw; (try dsimp only at hSw); go_simp; (try with_reducible rfl))
          (try simp only [Act.put, List.setIfInBounds_toArray, List.set_cons_zero, List.set_cons_succ])
          refine Pe.Left.take (i := 4) (o := ?o4) (v := ?v4) ?hi4 (by kernel_rfl) (by decide) (by kernel_rfl) (by kernel_rfl) ?hQ4 (Or.inl ⟨?wa4, ?hy4⟩) hHeld ?rest4
          case hi4 => simp only [List.getElem?_toArray, List.getElem?_cons_succ, List.getElem?_cons_zero]; rfl
          case hQ4 => exact fun _ _ _ h => h
          case wa4 => rfl
          case hy4 => (intro w hSw; (try dsimp only at hSw); go_simp; (try with_reducible rfl))
          (try simp only [Act.put, List.setIfInBounds_toArray, List.set_cons_zero, List.set_cons_succ])
          refine Pe.Left.take (i := 5) (o := ?o5) (v := ?v5) ?hi5 (by kernel_rfl) (by decide) (by kernel_rfl) (by kernel_rfl) ?hQ5 (Or.inl ⟨?wa5, ?hy5⟩) hHeld ?rest5
          case hi5 => simp only [List.getElem?_toArray, List.getElem?_cons_succ, List.getElem?_cons_zero]; rfl
          case hQ5 => exact fun _ _ _ h => h
          case wa5 => rfl
          case hy5 => (intro w hSw; (try dsimp only at hSw); go_simp; (try with_reducible rfl))
          (try simp only [Act.put, List.setIfInBounds_toArray, List.set_cons_zero, List.set_cons_succ])
          refine Pe.Left.one (i := 6) (o := ?o6) ?hi6 (by kernel_rfl) (by decide) (fun KK hK => ?rest6)
          case hi6 => simp only [List.getElem?_toArray, List.getElem?_cons_succ, List.getElem?_cons_zero]; rfl
          go_simp
          go_at_call 42
          refine (copied13_any h t xo xc l _ hl32.out R4.out hxn.out).mono ?_
          rintro e w5 ⟨u, rfl, hm⟩
          obtain ⟨uo, uc, hu, hur, hun, huc⟩ := hm.cap
          subst hu
          have hb5 := hm.below
          have M5 := M4.out.on hb5
          have X5 := X4.out.below hb5
          have f1 := M5.fields.2.1
          have x0 := X5.c0
          have x1 := X5.c1
          have x2 := X5.c2
          have B5 : Hid (FL.But R w w5) := B4.out.trans (FL.But.below hb5)
          obtain ⟨z, hz⟩ := M5.map
          obtain ⟨w6, hrun, ⟨z6, hm6⟩, ht6⟩ := hz.run_store PA.keyed PA.mapped (show n < maxLen by have := hnb.out; unfold maxLen; omega) (k := hd) (by have := hhl.out; omega) (.agg #[.int .i64 h, .string t, .slice uo l.length uc])
          have okN : N.NOk w5 ⟨h, t, ⟨uo, uc, l⟩⟩ := ⟨by show _ ≤ h; have := hb16.out; omega, by show h < _; have := hb16.out; omega, by show t.size ≤ _; have := hb16.out; omega, ⟨hur, hun, hfit.out, by show l.length * 32 ≤ _; have := hb16.out; omega, huc⟩⟩
          have hu5 : ∀ k o, uo = some ⟨k, o, none⟩ → W2.heap.size ≤ k ∧ k < w5.heap.size := fun k o e => hm.own.lt k (by rw [e]; rfl)
          obtain ⟨K', M6, hK'⟩ := PA.Mem.push M4.out M5 hm6 ht6 okN hu5
          have B6 : Hid (FL.But R w w6) := B5.out.trans (PA.mono (PA.turned ht6) (fun k hk => by rw [hk]; exact hRs.out.1 _ (.inr (.inl rfl))))
          have hz6 : Hid (w.heap.size < W2.heap.size) := X4.out.lt
          have KK' : Hid (∀ k, K' k → K k ∨ (w.heap.size ≤ k ∧ k < w6.heap.size)) := fun k hk => (hK' k hk).imp id (fun c => ⟨by have := hz6.out; omega, Nat.lt_of_lt_of_le c.2 (PA.turned ht6).size⟩)
          have M6 := Lib.hid M6
          clear hm6 ht6 okN hu5 hK' hz M5 X5 hb5 hm hur hun huc hz6
          (try go_wp2_with fail)
          refine hK.out _ _ ?_ (fun hHeld => ?_)
          · exact ⟨f1, x0, x1, x2⟩
          clear hK KK
          (try simp only [Act.put, List.setIfInBounds_toArray, List.set_cons_zero, List.set_cons_succ])
          refine Pe.Left.last (o := ?oZ) ?hiZ (by kernel_rfl) (by kernel_rfl) (fun KK hK => ?restZ)
          case hiZ => simp only [List.getElem?_toArray, List.getElem?_cons_succ, List.getElem?_cons_zero]; rfl
          go_simp
          refine hK.out _ _ ?_
          clear hK KK hHeld
          clear hrun f1 x0 x1 x2 M4 X4 R4 B4 B5
          have f3 := M6.out.fields.2.2.2.1
          have z3 := M6.out.fields.2.2.2.2.2.2.2.2.2 3
          obtain ⟨M7, _⟩ := M6.out.field 3 (.int .i64 (fl : Int)) (c' := ⟨a.l.st.length, fl, il, a.l.gone, a.al, a.fr, a.st⟩) rfl
          have f4 := M7.fields.2.2.2.2.1
          have z4 := M7.fields.2.2.2.2.2.2.2.2.2 4
          obtain ⟨M8, _⟩ := M7.field 4 (.int .i64 ((il : Int) + 1)) (c' := ⟨a.l.st.length, fl, il + 1, a.l.gone, a.al, a.fr, a.st⟩) rfl
          have f6 := M8.fields.2.2.2.2.2.2.1
          have z6' := M8.fields.2.2.2.2.2.2.2.2.2 6
          obtain ⟨M9, _⟩ := M8.field 6 (.int .i64 ((a.al : Int) + 1)) (c' := ⟨a.l.st.length, fl, il + 1, a.l.gone, a.al + 1, a.fr, a.st⟩) rfl
          have B9 : FL.But R w (((w6.setCell ⟨p, 3, none⟩ (.int .i64 (fl : Int))).setCell ⟨p, 4, none⟩ (.int .i64 ((il : Int) + 1))).setCell ⟨p, 6, none⟩ (.int .i64 ((a.al : Int) + 1))) := ((B6.out.trans (FL.But.set _ _ (hRs.out.1 p (.inl rfl)))).trans (FL.But.set _ _ (hRs.out.1 p (.inl rfl)))).trans (FL.But.set _ _ (hRs.out.1 p (.inl rfl)))
          have E := Lib.hid (FIN.out _ _ K' rfl M9 (fun k hk => (KK'.out k hk).imp id (fun c => ⟨c.1, by simpa using c.2⟩)) B9)
          clear M6 M7 M8 M9 B9 B6 FIN KK'
          go_wp2
          go_ret2
          exact ⟨by rw [E.out.1, E.out.2.1]; rfl, E.out.2.2⟩
  · have e1 : A13.alE Ar.ms a (N.nd h t l) = N.chk (N.nd h t l) := by unfold A13.alE; rw [if_neg hc]
    have hne : A13.alE Ar.ms a (N.nd h t l) ≠ 0 := by rw [e1]; exact hc
    obtain ⟨e2, e3⟩ := A13.al_no hne
    rw [e1, e2, e3]
    have hc' : (N.chk (N.nd h t l) != 0) = true := by simpa using hc
    generalize N.chk (N.nd h t l) = ck at *
    clear e1 e2 e3 hne hc hA hR hs hO' hr X0 ok cd
    go_enter Try.func12, Try.ntmps12
    go_wp2_with fail
    refine HCx.out.mono ?_
    rintro e w1 ⟨rfl, hb⟩
    have E := Lib.hid (HU.out _ (Ar.bt B0.out hb))
    clear hb HCx B0 HU
    go_wp2
    go_ret2
    exact ⟨rfl, E.out⟩
end Go.Proofs.Ytniccjbcchdkoaa
/- ArPk8 -/
namespace Go.Proofs.Ytniccjbcchdkoaa
open Go.RowKit

theorem PA.pa : Ar.Pa PA.Own where
  but h hb hQ := h.but hb hQ
  inv h := by obtain ⟨_, _, _, _, _, _, hA, _⟩ := h; exact hA.inv
  cnt h := by obtain ⟨_, _, _, _, _, _, hA, _⟩ := h; exact hA.cnt
  lt h := by obtain ⟨_, _, _, _, _, _, _, _, hs⟩ := h; exact hs
  bad n g w h _ _ _ _ := new13_bad n g h w
  new n g w h1 h2 h3 h4 := new13_ok n g w h1 h2 h3 h4
  alloc p a R x w hO ok hx := alloc13_any p a R x.h x.t x.s.a x.s.c x.s.x w hO ok hx
  get p a R h w hO hh hst := get13_any p a R h w hO hh hst
  free p a R h w hO hh hst := free13_any p a R h w hO hh hst
  live p a R h w hO hh := live13_any p a R h w hO hh
  handles p a R w hO := handles13_any p a R w hO
  slots p a R w hO := slots13_any p a R w hO
  stats p a R w hO := stats13_any p a R w hO
/-! ### No arena -/
theorem nilAlloc13 (h : Int) (t : ByteArray) (v : Value) (w : World) : Calls Try.prog 12 #[.pointer none, .agg #[.int .i64 h, .string t, v]] w fun e w' => e = .returned (.tuple #[.int .u64 0, .int .i64 1]) ∧ Below w.heap.size w w' := by
  have B : Hid (∀ o, Below w.heap.size w (w.alloc o)) := fun o => (Below.refl _ _).alloc (Nat.le_refl _) o
  go_enter Try.func12, Try.ntmps12
  go_wp2
  go_ret2
  exact ⟨rfl, B.out _⟩
theorem nilLive13 (h : Int) (w : World) : Calls Try.prog 17 #[.pointer none, .int .u64 h] w fun e w' => e = .returned (.bool false) ∧ w = w' := by
  go_enter Try.func17, Try.ntmps17
  go_wp2
  go_ret
  exact ⟨rfl, rfl⟩
theorem nilHandles13 (w : World) : Calls Try.prog 18 #[.pointer none] w fun e w' => e = .returned (.slice none 0 0) ∧ w = w' := by
  go_enter Try.func18, Try.ntmps18
  go_wp2
  go_ret
  exact ⟨rfl, rfl⟩
theorem nilSlots13 (w : World) : Calls Try.prog 14 #[.pointer none] w fun e w' => e = .returned (.tuple #[.slice none 0 0, .slice none 0 0]) ∧ w = w' := by
  go_enter Try.func14, Try.ntmps14
  go_wp2
  go_ret2
  exact ⟨rfl, rfl⟩
theorem nilStats13 (w : World) : Calls Try.prog 19 #[.pointer none] w fun e w' => e = .returned (.agg #[.int .i64 0, .int .i64 0, .int .i64 0, .int .i64 0, .int .i64 0, .int .i64 0, .int .i64 0]) ∧ Below w.heap.size w w' := by
  have B : Hid (∀ o, Below w.heap.size w (w.alloc o)) := fun o => (Below.refl _ _).alloc (Nat.le_refl _) o
  go_enter Try.func19, Try.ntmps19
  go_wp2
  refine bodyPost_ret (v := .agg #[.int .i64 0, .int .i64 0, .int .i64 0, .int .i64 0, .int .i64 0, .int .i64 0, .int .i64 0]) ?_ rfl ⟨rfl, B.out _⟩
  simp [results, Try.results19, go_sem]
theorem nilAccess13 (h : Int) (w : World) : Calls Try.prog 43 #[.pointer none, .int .u64 h] w fun e w' => e = .returned (.tuple #[.agg #[.int .i64 0, .string ⟨#[]⟩, .slice none 0 0], .int .i64 1]) ∧ Below w.heap.size w w' := by
  have B : Hid (∀ o, Below w.heap.size w (w.alloc o)) := fun o => (Below.refl _ _).alloc (Nat.le_refl _) o
  go_enter Try.func43, Try.ntmps43
  go_wp2
  refine bodyPost_ret (v := .tuple #[.agg #[.int .i64 0, .string ⟨#[]⟩, .slice none 0 0], .int .i64 1]) ?_ rfl ⟨rfl, B.out _⟩
  simp [results, Try.results43, go_sem]
theorem nilFree13 (h : Int) (w : World) : Calls Try.prog 16 #[.pointer none, .int .u64 h] w fun e w' => e = .returned (.int .i64 1) ∧ Below w.heap.size w w' := by
  have HC := Lib.hid (nilAccess13 h w)
  go_enter Try.func16, Try.ntmps16
  go_wp2_with fail
  refine HC.out.mono ?_
  rintro e w1 ⟨rfl, hb⟩
  have B : Hid (∀ o, Below w.heap.size w (w1.alloc o)) := fun o => hb.alloc hb.size o
  clear hb HC
  go_wp2
  go_ret
  exact ⟨rfl, B.out _⟩
set_option maxRecDepth 100000 in
theorem nilGet13 (h : Int) (w : World) : Calls Try.prog 13 #[.pointer none, .int .u64 h] w fun e w' => ∃ v, e = .returned (.tuple #[.agg #[.int .i64 0, .string ⟨#[]⟩, v], .int .i64 1]) ∧ N.Made [] w v w' := by
  obtain ⟨W1, hW1⟩ : ∃ Z, w.alloc (.cells #[.int .i64 0, .string ⟨#[]⟩, .slice none 0 0] 30) = Z := ⟨_, rfl⟩
  have B1 : Hid (Below w.heap.size w W1) := hW1 ▸ (Below.refl _ _).alloc (Nat.le_refl _) _
  have O1 : N.Own W1 w.heap.size (.int .i64 0) (.string ⟨#[]⟩) (.slice none 0 0) := hW1 ▸ N.Own.new w _ _ _ _
  have O1 := Lib.hid O1
  have HC := Lib.hid (nilAccess13 h W1)
  have HP : Hid (∀ Z, Calls Try.prog 42 #[.agg #[.int .i64 0, .string ⟨#[]⟩, .slice none 0 0]] Z (N.CpEnd 0 ⟨#[]⟩ [] Z)) := fun Z => copied13_any 0 ⟨#[]⟩ none 0 [] Z (Nat.zero_le _) (N.row_nil _ _) (fun _ => rfl)
  go_enter Try.func13, Try.ntmps13
  go_wp2_with fail
  refine HC.out.mono ?_
  rintro e w2 ⟨rfl, hb⟩
  obtain ⟨W3, hW3⟩ : ∃ Z, w2.alloc (.cells #[.int .i64 0, .string ⟨#[]⟩, .slice none 0 0] 30) = Z := ⟨_, rfl⟩
  have b3 : Below w2.heap.size w2 W3 := hW3 ▸ (Below.refl _ _).alloc (Nat.le_refl _) _
  have X3 : N.Own W3 w2.heap.size (.int .i64 0) (.string ⟨#[]⟩) (.slice none 0 0) := hW3 ▸ N.Own.new w2 _ _ _ _
  have B3 := Lib.hid (Ar.bt (Ar.bt B1.out hb) b3)
  have O3 := Lib.hid ((O1.out.below hb).below b3)
  have hz : Hid (w.heap.size < W3.heap.size) := O3.out.lt
  have x0 := X3.c0
  have x1 := X3.c1
  have x2 := X3.c2
  clear hb b3 X3 HC O1 B1
  subst hW3
  go_wp2_with fail
  refine (HP.out _).mono ?_
  rintro e w4 ⟨u, rfl, hm⟩
  have O4 := O3.out.below hm.below
  have r0 := O4.c0
  have r1 := O4.c1
  have r2 := O4.c2
  have s0 := O4.f0
  have s1 := O4.f1
  have s2 := O4.f2
  have hP := O4.put (.int .i64 0) (.string ⟨#[]⟩) u
  have A := hm.ab B3.out
  have hz := hz.out
  have M := Lib.hid (((A.set (b := w.heap.size) (Nat.le_refl _) hz 0 (.int .i64 0)).set (b := w.heap.size) (Nat.le_refl _) hz 1 (.string ⟨#[]⟩)).set (b := w.heap.size) (Nat.le_refl _) hz 2 u).made
  obtain ⟨uo, uc, hu, _⟩ := hm.src
  have hu : u = .slice uo 0 uc := hu
  subst hu
  clear hm A O4 O3 HP
  go_wp2
  have p0 := hP.c0
  have p1 := hP.c1
  have p2 := hP.c2
  refine bodyPost_ret (v := .tuple #[.agg #[.int .i64 0, .string ⟨#[]⟩, .slice uo 0 uc], .int .i64 1]) ?_ rfl ⟨.slice uo 0 uc, rfl, M.out⟩
  unfold N.put3 at p0 p1 p2
  simp [results, Try.results13, go_sem, p0, p1, p2]
end Go.Proofs.Ytniccjbcchdkoaa
