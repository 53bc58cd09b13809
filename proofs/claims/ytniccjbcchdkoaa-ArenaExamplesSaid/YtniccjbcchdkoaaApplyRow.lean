/- Rows of bytes that grow by strings: where the new row lies; two of them side by side. -/
import Derived.Test.YtniccjbcchdkoaaPackSrc
import Derived.Test.YtniccjbcchdkoaaPackRef
import Derived.Lib.Builder
import Derived.Test.YtniccjbcchdkoaaPackMath
import Derived.Deep.AppendLies
namespace Go.Proofs.Ytniccjbcchdkoaa
open Go.RowKit

/-- An append of a string to an owned row of bytes, with the place of the new row. -/
theorem A.run_str_at (w : World) (base : Nat) (ty : TypeId) (v : Value) (n : Nat) (xs : List Value) (hown : w.ownsRow base 5 1 v n xs) (s : ByteArray) (hn : n + s.size ≤ 1000000000) (hbase : base ≤ w.heap.size) :
    ∃ v' w', (Builtin.append_ #[111, 9] ty #[v, .string s]).run Try.prog w = .ok v' w' ∧ w'.ownsRow base 5 1 v' (n + s.size) (xs ++ Lib.strCells s) ∧ w.grownBy w' v.ownBlock ∧
      (v'.ownBlock = v.ownBlock ∨ v'.ownBlock = some w.heap.size) := by
  obtain ⟨i, hi, hz, hs, hb⟩ := info_parts Try.infoByte
  obtain ⟨v', w', hr, h2, h3, h4⟩ := Lib.run_append_own_string (P := Try.prog) w base 111 9 ty 5 i Try.underlying111 Try.underlying9 hi hz hs hb v n xs hown s (by unfold maxLen; omega) (by omega) hbase
  refine ⟨v', w', hr, h2, h3, ?_⟩
  have hxl : xs.length = n := by simpa using hown.1
  rcases hown.2 with ⟨rfl, rfl⟩ | ⟨g, cap, cur, rfl, hbg, hg, hnc, hcm, hcs, ht⟩
  · by_cases hm : s.size = 0
    · exact .inl (by rw [h4.2 ⟨rfl, hm⟩])
    · have hr2 := run_append_nil_string (P := Try.prog) w 111 9 ty 5 i (.int .u8 0) Try.underlying111 Try.underlying9 hi hz s (by omega) (by omega) (by rw [hb]; omega)
      rw [hr] at hr2
      injection hr2 with e1 _
      exact .inr (by rw [e1]; rfl)
  · have hcs' : cur.size = cap := by simpa using hcs
    by_cases hroom : n + s.size ≤ cap
    · have hr2 := Lib.run_append_room_string (P := Try.prog) w 111 9 ty 5 i Try.underlying111 Try.underlying9 hi hs g n cap cur hg s hroom (by omega)
      rw [hr] at hr2
      injection hr2 with e1 _
      exact .inl (by rw [e1]; rfl)
    · have holds : ∀ j u, xs[j]? = some u → w.cell? ((⟨g, 0, none⟩ : Addr).add j) = some u := hown.cells (g := g) rfl
      have hr2 := Lib.run_append_grow_string (P := Try.prog) w 111 9 ty 5 i (.int .u8 0) Try.underlying111 Try.underlying9 hi hz ⟨g, 0, none⟩ n cap xs (by rw [hs]; simpa using hxl) holds s (by omega) (by omega) (by rw [hb]; exact growslice_fits (by omega) (by omega))
      rw [hr] at hr2
      injection hr2 with e1 _
      exact .inr (by rw [e1]; rfl)
/-- The same at the operation. -/
theorem A.append_str {w : World} {ops : Array Oper} {rest : List Oper} {o : Oper} {a : Act} {Q : Exit → Act → World → Prop} (hgd : o.guard = none) (sl x : Operand)
    (ho : o.op = .call { callee := .builtin .append, args := #[sl, x], argTypes := #[111, 9] })
    (base : Nat) (v : Value) (X : List UInt8) (hs : a.eval sl = v) (hown : w.ownsRow base 5 1 v X.length (D.bytesL X)) (s : ByteArray) (hx : a.eval x = .string s) (hn : X.length + s.size ≤ 1000000000) (hbase : base ≤ w.heap.size)
    (h : ∀ Z v' w', Hid (Z = X ++ s.data.toList) → w'.ownsRow base 5 1 v' Z.length (D.bytesL Z) → w.grownBy w' v.ownBlock → (v'.ownBlock = v.ownBlock ∨ v'.ownBlock = some w.heap.size) → wpList Try.prog ops Q rest (a.put o.dst v') w') :
    wpList Try.prog ops Q (o :: rest) a w := by
  refine wpList_plain hgd fun K hK => ?_
  obtain ⟨v', w', hr, h2, h3, h4⟩ := A.run_str_at w base o.type v X.length (D.bytesL X) hown s hn hbase
  unfold Oper.wp execOp
  simp only [ho, resolve, invoke, builtin, Sem.run_bind, Sem.run_pure, Result.andThen_ok, List.map_toArray, List.map_cons, List.map_nil, hs, hx, hr]
  refine hK _ _ (h _ v' w' rfl ?_ h3 h4)
  have e : (X ++ s.data.toList).length = X.length + s.size := by rw [List.length_append]; simp
  rw [e, D.bytesL_append, ← D.bytesL_str]
  exact h2
/-- Two rows of bytes that the call owns, in blocks of their own. -/
structure A.Two (X Y : List UInt8) (w : World) (v u : Value) (wr : World) : Prop where
  own1 : wr.ownsRow w.heap.size 5 1 v X.length (D.bytesL X)
  own2 : wr.ownsRow w.heap.size 5 1 u Y.length (D.bytesL Y)
  ne : v.ownBlock = none ∨ v.ownBlock ≠ u.ownBlock
  below : Below w.heap.size w wr
theorem A.Two.fst {X Y Z : List UInt8} {w : World} {v u v' : Value} {wr w' : World} (h : A.Two X Y w v u wr) (h1 : w'.ownsRow w.heap.size 5 1 v' Z.length (D.bytesL Z)) (h2 : wr.grownBy w' v.ownBlock) (h3 : v'.ownBlock = v.ownBlock ∨ v'.ownBlock = some wr.heap.size) : A.Two Z Y w v' u w' := by
  have hne : u.ownBlock = none ∨ u.ownBlock ≠ v.ownBlock := by
    rcases h.ne with e | e
    · rw [e]; cases u.ownBlock <;> simp
    · exact .inr fun x => e x.symm
  refine ⟨h1, h.own2.kept h2 hne, ?_, h.below.grown h2 h.below.size (fun k e => (h.own1.lt k e).1)⟩
  rcases h3 with e | e
  · rw [e]; exact h.ne
  · right
    rw [e]
    intro x
    have := (h.own2.lt _ x.symm).2
    omega
theorem A.Two.snd {X Y Z : List UInt8} {w : World} {v u u' : Value} {wr w' : World} (h : A.Two X Y w v u wr) (h1 : w'.ownsRow w.heap.size 5 1 u' Z.length (D.bytesL Z)) (h2 : wr.grownBy w' u.ownBlock) (h3 : u'.ownBlock = u.ownBlock ∨ u'.ownBlock = some wr.heap.size) : A.Two X Z w v u' w' := by
  have hne : v.ownBlock = none ∨ v.ownBlock ≠ u.ownBlock := h.ne
  refine ⟨h.own1.kept h2 hne, h1, ?_, h.below.grown h2 h.below.size (fun k e => (h.own2.lt k e).1)⟩
  rcases h3 with e | e
  · rw [e]; exact h.ne
  · rw [e]
    cases hv : v.ownBlock with
    | none => exact .inl rfl
    | some k =>
      right
      intro x
      have := (h.own1.lt _ hv).2
      injection x with x
      omega
/-- An owned row of bytes, turned into a string. -/
theorem A.to_string {W : World} {base : Nat} {v : Value} {T : List UInt8} (h : W.ownsRow base 5 1 v T.length (D.bytesL T)) (W' : World) (hW : ∀ a, W'.cell? a = W.cell? a) : (convert 111 9 v).run Try.prog W' = .ok (.string ⟨T.toArray⟩) W' := by
  by_cases hT0 : T = []
  · subst hT0
    obtain ⟨hl0, ⟨rfl, _⟩ | ⟨g, cp, cur, rfl, _⟩⟩ := h
    · exact run_convert_bytes_nil (P := Try.prog) W' 111 5 Try.underlying111 Try.underlying5 0 0 9 Try.underlying9
    · exact Lib.run_convert_whole (P := Try.prog) W' 111 5 9 Try.underlying111 Try.underlying5 Try.underlying9 g 0 ⟨#[]⟩ (fun i hi => absurd hi (Nat.not_lt_zero i)) cp
  · obtain ⟨g, c, hv, hby⟩ := D.bytes_of_own h hT0
    subst hv
    have := Lib.run_convert_whole (P := Try.prog) W' 111 5 9 Try.underlying111 Try.underlying5 Try.underlying9 g 0 ⟨T.toArray⟩ (fun i hi => (hW _).trans (hby i hi)) c
    rwa [D.size_l] at this
theorem A.extract_part (s : ByteArray) (i n : Nat) : s.extract i (i + n) = ⟨((s.data.toList.drop i).take n).toArray⟩ := by
  rw [← D.part_bytes, D.bytes_eq]
end Go.Proofs.Ytniccjbcchdkoaa
