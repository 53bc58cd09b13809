/- Maps of values of any type, keyed by unsigned numbers of 64 bits, as functions from keys to values. It speaks of no program. -/
import Derived.Maps.OwnSet
import Derived.Maps.Ext
namespace Go.Proofs.Ytniccjbcchdkoaa
open Go

/-- A value reads as itself. -/
def Mv.rd (v : Value) : Option (DataW Value × List MemPlace) := some (.held v, [])
def Mv.key (h : Nat) : Lit := .int .u64 (h : Int)
theorem Mv.key_ne {g h : Nat} (e : g ≠ h) : Mv.key g ≠ Mv.key h := fun c => e (by unfold Mv.key at c; injection c with _ c; omega)
theorem Mv.key_wf {h : Nat} (hh : h < 18446744073709551616) : (Lit.int .u64 (h : Int)).wf = true := by
  have h1 : (0 : Int) ≤ (h : Int) ∧ (h : Int) ≤ 18446744073709551615 := ⟨by omega, by omega⟩
  simp only [Lit.wf, Bool.and_eq_true, decide_eq_true_eq]
  exact h1
theorem Mv.key_of {P : Program} {K : TypeId} (hK : P.underlying K = some (.int .u64)) {h : Nat} (hh : h < 18446744073709551616) : keyOf P K (.int .u64 (h : Int)) = some (Mv.key h) := Maps.keyOf_int_mk hK (Mv.key_wf hh)
theorem Mv.key_lit (h : Nat) : WideAt.IsKeyLit (Mv.key h) := trivial
def Mv.put (f : Nat → Option Value) (k : Nat) (v : Value) (g : Nat) : Option Value := if g = k then some v else f g
def Mv.del (f : Nat → Option Value) (k : Nat) (g : Nat) : Option Value := if g = k then none else f g
/-- Block b is a map of c entries, the values of f (at most n of them, whatever was written). -/
def Mv.Is (P : Program) (K : TypeId) (W : World) (b n c : Nat) (f : Nat → Option Value) : Prop :=
  ∃ D : DataW Value, W.ownsMap P K Mv.rd b n D ∧ Maps.size D = c ∧ ∀ h, Maps.has D (Mv.key h) = (f h).isSome ∧ ∀ v, f h = some v → ∀ z, D.atKey (Mv.key h) z = .held v

section
variable {P : Program} {K : TypeId} {W W' : World} {b n c : Nat} {f : Nat → Option Value}
theorem Mv.made (P : Program) (K : TypeId) (w : World) : Mv.Is P K (w.alloc (.map #[] 0)) w.heap.size 0 0 (fun _ => none) :=
  ⟨_, World.ownsMap_made w P K Mv.rd, rfl, fun h => ⟨rfl, fun v hv => by cases hv⟩⟩
theorem Mv.Is.lt (h : Mv.Is P K W b n c f) : b < W.heap.size := by obtain ⟨D, h0, _⟩ := h; exact h0.lt
theorem Mv.Is.le (h : Mv.Is P K W b n c f) : c ≤ n := by obtain ⟨D, h0, rfl, _⟩ := h; exact h0.size_le
theorem Mv.Is.mono (h : Mv.Is P K W b n c f) {n' : Nat} (hn : n ≤ n') : Mv.Is P K W b n' c f := by obtain ⟨D, h0, h1⟩ := h; exact ⟨D, h0.mono hn, h1⟩
/-- A map in a block that stays as it was. -/
theorem Mv.Is.same (h : Mv.Is P K W b n c f) (e : W'.heap[b]? = W.heap[b]?) : Mv.Is P K W' b n c f := by
  obtain ⟨D, ⟨es, clock, hb, F, hs, hD⟩, h1⟩ := h
  exact ⟨D, ⟨es, clock, e.trans hb, F, hs, hD⟩, h1⟩
theorem Mv.Is.congr (h : Mv.Is P K W b n c f) {g : Nat → Option Value} (e : ∀ x, g x = f x) : Mv.Is P K W b n c g := by obtain rfl : g = f := funext e; exact h

variable {ops : Array Oper} {rest : List Oper} {o : Oper} {a : Act} {Q : Exit → Act → World → Prop}
/-- 'v, ok := m[k]', where k is there. -/
theorem Mv.look_yes (hg : o.guard = none) (m x : Operand) (t e : TypeId) (hop : o.op = Op.lookup t m x true) (hK : P.underlying K = some (.int .u64)) (ht : P.underlying t = some (.map K e)) {z : Value} (hz : (zeroValue e).run P W = .ok z W)
    (h : Mv.Is P K W b n c f) (hm : a.eval m = .map (some b)) (k : Nat) (hk : k < 18446744073709551616) (hx : a.eval x = .int .u64 (k : Int)) (v : Value) (hv : f k = some v)
    (hQ : wpList P ops Q rest (a.put o.dst (.tuple #[v, .bool true])) W) : wpList P ops Q (o :: rest) a W := by
  obtain ⟨D, h0, hc, hf⟩ := h
  obtain ⟨h1, h2⟩ := hf k
  refine wpList_lookup_own_ok W hg m x t hop K e (Maps.int_keyed hK) ht Mv.rd hz (.held z) [] rfl b n D hm h0 _ (Mv.key k) hx (Mv.key_of hK hk) fun u ps hu => ?_
  rw [h2 v hv] at hu
  unfold Mv.rd at hu
  injection hu with hu
  injection hu with hu
  injection hu with hu
  subst hu
  rw [h1, hv]
  exact hQ
/-- .. where it is not. -/
theorem Mv.look_no (hg : o.guard = none) (m x : Operand) (t e : TypeId) (hop : o.op = Op.lookup t m x true) (hK : P.underlying K = some (.int .u64)) (ht : P.underlying t = some (.map K e)) {z : Value} (hz : (zeroValue e).run P W = .ok z W)
    (h : Mv.Is P K W b n c f) (hm : a.eval m = .map (some b)) (k : Nat) (hk : k < 18446744073709551616) (hx : a.eval x = .int .u64 (k : Int)) (hv : f k = none)
    (hQ : wpList P ops Q rest (a.put o.dst (.tuple #[z, .bool false])) W) : wpList P ops Q (o :: rest) a W := by
  obtain ⟨D, h0, hc, hf⟩ := h
  have h1 := (hf k).1
  rw [hv] at h1
  refine wpList_lookup_own_ok W hg m x t hop K e (Maps.int_keyed hK) ht Mv.rd hz (.held z) [] rfl b n D hm h0 _ (Mv.key k) hx (Mv.key_of hK hk) fun u ps hu => ?_
  rw [Maps.atKey_of_not_has h1] at hu
  unfold Mv.rd at hu
  injection hu with hu
  injection hu with hu
  injection hu with hu
  subst hu
  rw [h1]
  exact hQ
/-- 'm[k] = v'. -/
theorem Mv.store (hg : o.guard = none) (m x y : Operand) (t e : TypeId) (hop : o.op = Op.mapUpdate t m x y) (hK : P.underlying K = some (.int .u64)) (ht : P.underlying t = some (.map K e))
    (h : Mv.Is P K W b n c f) (hn : n < maxLen) (hm : a.eval m = .map (some b)) (k : Nat) (hk : k < 18446744073709551616) (hx : a.eval x = .int .u64 (k : Int)) (v : Value) (hy : a.eval y = v)
    (hQ : ∀ w', Mv.Is P K w' b (n + 1) (if (f k).isSome then c else c + 1) (Mv.put f k v) → W.mapTurned w' b → wpList P ops Q rest (a.put o.dst undef) w') : wpList P ops Q (o :: rest) a W := by
  obtain ⟨D, h0, hc, hf⟩ := h
  have T := h0.tidy (Maps.int_keyed hK)
  refine wpList_mapUpdate_in W hg m x y t hop K e (Maps.int_keyed hK) ht Mv.rd b n D hm h0 hn _ v (Mv.key k) hx hy (Mv.key_of hK hk) (.held v) [] rfl fun w' h1 h2 => hQ w' ⟨_, h1, ?_, fun g => ?_⟩ h2
  · rw [Maps.size_put T, (hf k).1, hc]
  · unfold Mv.put
    by_cases e : g = k
    · subst e
      rw [if_pos rfl]
      exact ⟨Maps.has_put_same h0.isMap (Mv.key_lit _) _, fun u hu z => by cases hu; exact Maps.atKey_put_same h0.isMap (Mv.key_lit _) _ z⟩
    · rw [if_neg e]
      exact ⟨(Maps.has_put_other (Mv.key_ne e) _).trans (hf g).1, fun u hu z => (Maps.atKey_put_other (Mv.key_ne e) _ z).trans ((hf g).2 u hu z)⟩
/-- 'delete(m, k)'. -/
theorem Mv.drop (hg : o.guard = none) (m x : Operand) (t e : TypeId) (hop : o.op = Op.call { callee := Callee.builtin Builtin.delete, args := #[m, x], argTypes := #[t, K] }) (hK : P.underlying K = some (.int .u64)) (ht : P.underlying t = some (.map K e))
    (h : Mv.Is P K W b n c f) (hm : a.eval m = .map (some b)) (k : Nat) (hk : k < 18446744073709551616) (hx : a.eval x = .int .u64 (k : Int))
    (hQ : ∀ w', Mv.Is P K w' b n (if (f k).isSome then c - 1 else c) (Mv.del f k) → W.mapTurned w' b → wpList P ops Q rest (a.put o.dst (.tuple #[])) w') : wpList P ops Q (o :: rest) a W := by
  obtain ⟨D, h0, hc, hf⟩ := h
  have T := h0.tidy (Maps.int_keyed hK)
  refine wpList_delete_own W hg m x t K hop e (Maps.int_keyed hK) ht Mv.rd b n D hm h0 _ (Mv.key k) hx (Mv.key_of hK hk) fun w' h1 h2 => hQ w' ⟨_, h1, ?_, fun g => ?_⟩ h2
  · have := Maps.size_del (k := Mv.key k) T
    rw [(hf k).1, hc] at this
    split at this <;> rename_i q <;> simp [q] <;> omega
  · unfold Mv.del
    by_cases e : g = k
    · subst e
      rw [if_pos rfl]
      exact ⟨Maps.has_del_same, fun u hu => by cases hu⟩
    · rw [if_neg e]
      exact ⟨(Maps.has_del_other (Mv.key_ne e)).trans (hf g).1, fun u hu z => (Maps.atKey_del_other (Mv.key_ne e) z).trans ((hf g).2 u hu z)⟩
/-- 'len(m)'. -/
theorem Mv.len (hg : o.guard = none) (m : Operand) (t e : TypeId) (hop : o.op = Op.call { callee := Callee.builtin Builtin.len, args := #[m], argTypes := #[t] }) (ht : P.underlying t = some (.map K e))
    (h : Mv.Is P K W b n c f) (hm : a.eval m = .map (some b)) (hQ : wpList P ops Q rest (a.put o.dst (.int .i64 (c : Int))) W) : wpList P ops Q (o :: rest) a W := by
  obtain ⟨D, h0, hc, hf⟩ := h
  refine wpList_len_own W hg m t hop K e ht Mv.rd b n D hm h0 ?_
  rw [hc]; exact hQ
end
end Go.Proofs.Ytniccjbcchdkoaa
