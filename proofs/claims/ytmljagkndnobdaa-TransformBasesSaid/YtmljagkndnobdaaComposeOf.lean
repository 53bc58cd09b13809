/- The contract of the reference's Of: entries back to pieces. -/
import Derived.Test.YtmljagkndnobdaaDeltaRefForm
import Derived.Test.YtmljagkndnobdaaDeltaRefAtoms
import Derived.Test.YtmljagkndnobdaaComposeMeet
namespace Go.Proofs.Ytmljagkndnobdaa
open Go.RowKit

/-- A row of numbers. -/
def C.IRow (W : World) (ao : Option Addr) (l : List Int) : Prop := ∀ (i : Nat) (x : Int), l[i]? = some x → ∃ b o, ao = some ⟨b, o, none⟩ ∧ b < W.heap.size ∧ W.cell? ⟨b, o + i, none⟩ = some (.int .i64 x)
theorem C.IRow.below {W W' : World} {ao : Option Addr} {l : List Int} (h : C.IRow W ao l) (hb : Below W.heap.size W W') : C.IRow W' ao l := fun i x hx => by
  obtain ⟨b, o, e, hl, hc⟩ := h i x hx
  exact ⟨b, o, e, Nat.lt_of_lt_of_le hl hb.size, ((D.bcell hb).1 _ _ hl).trans hc⟩
theorem C.irow_of {W : World} {base : Nat} {v : Value} {l : List Int} (h : W.ownsRow base 3 1 v l.length (D.intsL l)) : ∃ ao c, v = .slice ao l.length c ∧ C.IRow W ao l := by
  obtain ⟨hl, ⟨rfl, h0⟩ | ⟨g, cap, cur, rfl, hb, hg, hnc, hcm, hcs, ht⟩⟩ := h
  · exact ⟨none, 0, by rw [h0], fun i x hx => by have := (List.getElem?_eq_some_iff.1 hx).1; omega⟩
  · have hlt := (Array.getElem?_eq_some_iff.1 hg).1
    refine ⟨some ⟨g, 0, none⟩, cap, rfl, fun i x hx => ⟨g, 0, rfl, hlt, ?_⟩⟩
    have hi := (List.getElem?_eq_some_iff.1 hx).1
    have hu : (D.intsL l)[i]? = some (.int .i64 x) := by unfold D.intsL; rw [List.getElem?_map, hx]; rfl
    rw [← ht, List.getElem?_take, if_pos (by omega)] at hu
    rw [cell_of_row W g _ cur _ _ hg, Nat.zero_add]
    simpa using hu
theorem D.ofQ_len (n : Nat) (L : List Int) : ∀ k, (D.ofQ n k L).length ≤ 2 * L.length + 1 := by
  induction L with
  | nil => intro k; unfold D.ofQ; split <;> simp
  | cons x r ih =>
    intro k
    unfold D.ofQ
    split
    · have := ih k; simp only [List.length_cons]; omega
    · have := ih (x.toNat + 1)
      rw [List.length_append, List.length_cons]
      split <;> simp only [List.length_cons, List.length_nil] <;> omega
/-- Between two rounds. -/
structure C.OfAt (n : Nat) (L : List Int) (j k : Nat) (P : List D.P) (w : World) (v : Value) (wr : World) : Prop where
  own : wr.ownsRow w.heap.size 31 3 v P.length (D.cellsL P)
  eq : ∃ X : List D.Q, P = X.map D.raw ∧ D.ofQ n 0 L = X ++ D.ofQ n k (L.drop j)
  good : D.good n k (L.drop j)
  le : k ≤ n
  below : Below w.heap.size w wr
theorem C.OfAt.len {n L j k P w v wr} (h : C.OfAt n L j k P w v wr) : P.length ≤ 2 * L.length + 1 := by
  obtain ⟨X, rfl, e⟩ := h.eq
  have := congrArg List.length e
  have := D.ofQ_len n L 0
  rw [List.length_append] at *
  rw [List.length_map]; omega
def C.OfEnd (n : Nat) (L : List Int) (w : World) (e : Ending) (w' : World) : Prop := ∃ v, e = .returned v ∧ D.Made ((D.nf (D.ofQ n 0 L)).map D.raw) w v w'
theorem C.below_app {w wr w' : World} {P : List D.P} {v : Value} (hb : Below w.heap.size w wr) (ho : wr.ownsRow w.heap.size 31 3 v P.length (D.cellsL P)) (hg : wr.grownBy w' v.ownBlock) : Below w.heap.size w w' := hb.grown hg hb.size (fun k e => (ho.lt k e).1)
theorem C.byte_str (b : UInt8) (W : World) : (Sem.run Try.prog (convert 77 9 (.slice (some ⟨W.heap.size, 0, none⟩) 1 1)) (W.alloc (.cells #[.int .u8 (b.toNat : Int)] 5))) = .ok (.string ⟨#[b]⟩) (W.alloc (.cells #[.int .u8 (b.toNat : Int)] 5)) := by
  have hby : Lib.Bytes (W.alloc (.cells #[.int .u8 (b.toNat : Int)] 5)) W.heap.size 0 ⟨#[b]⟩ := by
    intro i hi
    have : i = 0 := by have : (⟨#[b]⟩ : ByteArray).size = 1 := rfl; omega
    subst this
    rw [World.cell?_alloc_new]
    have : (⟨#[b]⟩ : ByteArray)[0] = b := rfl
    rw [this]
    simp
  exact Lib.run_convert_whole (P := Try.prog) _ 77 5 9 Try.underlying77 Try.underlying5 Try.underlying9 W.heap.size 0 ⟨#[b]⟩ hby 1
set_option maxRecDepth 100000 in
set_option maxHeartbeats 4000000 in
theorem refOf_any (n : Nat) (ao : Option Addr) (cap : Nat) (L : List Int) (w : World) (hn : n ≤ 100000) (hl : L.length ≤ 100000) (hr : C.IRow w ao L) (hg : D.good n 0 L) :
    Calls Try.prog 64 #[.int .i64 n, .slice ao L.length cap] w (C.OfEnd n L w) := by
  have Hr := Lib.hid hr
  have H0 : Hid (C.OfAt n L 0 0 [] w (.slice none 0 0) w) := C.OfAt.mk (World.ownsRow_nil _ _ _ _) ⟨[], rfl, rfl⟩ hg (Nat.zero_le _) (Below.refl _ _)
  have HG := Lib.hid hg
  clear hr hg
  go_enter Try.func64, Try.ntmps64
  go_wp2
  go_loopw [5, 6, 7] (fun v a i wr => ∃ (j k : Nat) (P : List D.P), j ≤ L.length ∧ i = .int .i64 j ∧ a = .int .i64 k ∧ Hid (C.OfAt n L j k P w v wr)) (fun _ _ i _ => L.length - (intOf i).toNat)
  case atStart => exact ⟨0, 0, [], Nat.zero_le _, rfl, rfl, H0⟩
  case round =>
    clear H0
    obtain ⟨j, k, P, hj, rfl, rfl, hx⟩ := hrel
    have hPl : P.length ≤ 200001 := by have := hx.out.len; omega
    have hkn := hx.out.le
    obtain ⟨va, vc, hv⟩ := D.slice_of_own hx.out.own
    subst hv
    by_cases hlt : j < L.length
    · obtain ⟨z, hz, hzd⟩ : ∃ z, L[j]? = some z ∧ L.drop j = z :: L.drop (j + 1) := ⟨L[j], List.getElem?_eq_getElem hlt, List.drop_eq_getElem_cons hlt⟩
      obtain ⟨b, o, e, hbl, hcell⟩ := Hr.out j z hz
      subst e
      have c0 := ((D.bcell hx.out.below).1 b (o + j) hbl).trans hcell
      have hgd := hx.out.good
      rw [hzd] at hgd
      rcases hgd with ⟨⟨c, hc⟩, hg2⟩ | ⟨i, hi, h1, h2, h3⟩
      · have hnx : ∀ v' w', w'.ownsRow w.heap.size 31 3 v' (P ++ [(⟨2, 0, ⟨#[c]⟩⟩ : D.P)]).length (D.cellsL (P ++ [(⟨2, 0, ⟨#[c]⟩⟩ : D.P)])) → Below w.heap.size w w' → C.OfAt n L (j + 1) k (P ++ [(⟨2, 0, ⟨#[c]⟩⟩ : D.P)]) w v' w' := fun v' w' ho hb => by
          refine ⟨ho, ?_, hg2, hkn, hb⟩
          obtain ⟨X, hX, hE⟩ := hx.out.eq
          refine ⟨X ++ [.I [c]], by rw [hX, List.map_append]; rfl, ?_⟩
          rw [hE, hzd, hc, D.ofQ_neg, List.append_assoc]; rfl
        have Hnx := Lib.hid hnx
        have hz1 : z < 0 := by rw [hc]; exact D.neg_lt c
        have hz2 : -1 - z = (c.toNat : Int) := by rw [hc]; unfold D.neg; omega
        have hc8 : (c.toNat : Int) < 256 := by have := c.toNat_lt; omega
        have hzl : -256 ≤ z := by omega
        have hconv := C.byte_str c
        have hB1 : Hid (Below wr.heap.size wr (wr.alloc (.cells #[.int .u8 (c.toNat : Int)] 5))) := (Below.refl _ _).alloc (Nat.le_refl _) _
        have hsz := hx.out.below.size
        clear hnx hc hg2 hz hzd hcell
        go_wp2_with (at_builtin; refine C.append_piece rfl _ _ rfl w.heap.size _ P rfl (hx.out.own.alloc _) ⟨2, 0, ⟨#[c]⟩⟩ 1 _ (by simp) rfl ?c1 ?c2 ?_)
        case c1 => omega
        case c2 => simp; omega
        intro Z v' w3 hZ hO hg
        have R : Hid (C.OfAt n L (j + 1) k Z w v' w3) := by
          have hb3 := C.below_app (hx.out.below.trans (hB1.out.mono hx.out.below.size)) (hx.out.own.alloc _) hg
          show C.OfAt _ _ _ _ _ _ _ _
          rw [hZ.out] at hO ⊢
          exact Hnx.out v' w3 hO hb3
        clear hO hg hZ Hnx hconv
        go_wp2
        go_roundw
        case rel => exact ⟨j + 1, k, Z, by omega, by go_num, rfl, R⟩
        case measure => simp [intOf]; omega
      · subst hi
        have hsz := hx.out.below.size
        have hnx : ∀ v' w' P', P' = P ++ (if k < i then [⟨3, (i : Int) - k, ⟨#[]⟩⟩] else []) ++ [⟨1, 1, ⟨#[]⟩⟩] → w'.ownsRow w.heap.size 31 3 v' P'.length (D.cellsL P') → Below w.heap.size w w' → C.OfAt n L (j + 1) (i + 1) P' w v' w' := fun v' w' P' hP' ho hb => by
          refine ⟨ho, ?_, h3, by omega, hb⟩
          obtain ⟨X, hX, hE⟩ := hx.out.eq
          by_cases hki : k < i
          · rw [if_pos hki] at hP'
            refine ⟨X ++ [.D (i - k), .R 1], ?_, ?_⟩
            · rw [hP', hX, List.map_append, List.append_assoc]
              have e : ((i : Int) - (k : Int)) = ((i - k : Nat) : Int) := by omega
              rw [e]; rfl
            · rw [hE, hzd, D.ofQ_nat, if_pos hki, List.append_assoc]; rfl
          · rw [if_neg hki] at hP'
            refine ⟨X ++ [.R 1], ?_, ?_⟩
            · rw [hP', hX, List.map_append, List.append_assoc]; rfl
            · rw [hE, hzd, D.ofQ_nat, if_neg hki, List.append_assoc]; rfl
        have Hnx := Lib.hid hnx
        clear hnx h3 hz hzd hcell
        by_cases hki : k < i
        · rw [if_pos hki] at Hnx
          go_wp2_with (at_builtin; refine C.append_piece rfl _ _ rfl w.heap.size _ P rfl hx.out.own ⟨3, (i : Int) - k, ⟨#[]⟩⟩ 1 _ rfl rfl ?c1 ?c2 ?_)
          case c1 => omega
          case c2 => omega
          intro Z v' w3 hZ hO hg
          have hb3 := C.below_app hx.out.below hx.out.own hg
          have c0 := ((D.bcell hb3).1 b (o + j) hbl).trans (((D.bcell hx.out.below).1 b (o + j) hbl).symm.trans c0)
          have hZl : Z.length ≤ 200002 := by rw [hZ.out, List.length_append]; simp only [List.length_cons, List.length_nil]; omega
          obtain ⟨za, zc, hv⟩ := D.slice_of_own hO
          subst hv
          have hs3 := hb3.size
          have HO := Lib.hid (And.intro hO hb3)
          clear hO hg hb3 hx
          go_wp2_with (at_builtin; refine C.append_piece rfl _ _ rfl w.heap.size _ Z rfl HO.out.1 ⟨1, 1, ⟨#[]⟩⟩ 1 _ rfl rfl ?d1 ?d2 ?_)
          case d1 => omega
          case d2 => omega
          intro Z2 v' w4 hZ2 hO2 hg2
          have hb4 := C.below_app HO.out.2 HO.out.1 hg2
          have c0 := ((D.bcell hb4).1 b (o + j) hbl).trans (((D.bcell HO.out.2).1 b (o + j) hbl).symm.trans c0)
          have R : Hid (C.OfAt n L (j + 1) (i + 1) Z2 w v' w4) := Hnx.out v' w4 Z2 (by rw [hZ2.out, hZ.out]) hO2 hb4
          clear hO2 hg2 hZ2 hZ hb4 Hnx HO
          go_wp2
          go_roundw
          case rel => exact ⟨j + 1, i + 1, Z2, by omega, by go_num, by go_num, R⟩
          case measure => simp [intOf]; omega
        · rw [if_neg hki, List.append_nil] at Hnx
          go_wp2_with (at_builtin; refine C.append_piece rfl _ _ rfl w.heap.size _ P rfl hx.out.own ⟨1, 1, ⟨#[]⟩⟩ 1 _ rfl rfl ?e1 ?e2 ?_)
          case e1 => omega
          case e2 => omega
          intro Z v' w3 hZ hO hg
          have hb3 := C.below_app hx.out.below hx.out.own hg
          have c0 := ((D.bcell hb3).1 b (o + j) hbl).trans (((D.bcell hx.out.below).1 b (o + j) hbl).symm.trans c0)
          have R : Hid (C.OfAt n L (j + 1) (i + 1) Z w v' w3) := Hnx.out v' w3 Z (by rw [hZ.out]) hO hb3
          clear hO hg hZ hb3 Hnx hx
          go_wp2
          go_roundw
          case rel => exact ⟨j + 1, i + 1, Z, by omega, by go_num, by go_num, R⟩
          case measure => simp [intOf]; omega
    · obtain rfl : j = L.length := by omega
      have hdr : L.drop L.length = [] := List.drop_length
      have hq := hx.out.eq
      rw [hdr] at hq
      have hsz := hx.out.below.size
      have pa := (D.ofQ_spec n L 0 (Nat.zero_le _) HG.out).2
      have hat := (D.ofQ_spec n L 0 (Nat.zero_le _) HG.out).1
      have hol : D.outL (D.ofQ n 0 L) = L.length := by rw [← D.atoms_length _ 0, hat]
      have HF : Hid (∀ bo bc V, D.Row V bo ((D.ofQ n 0 L).map D.raw) → Calls Try.prog 72 #[.slice bo (D.ofQ n 0 L).length bc] V (D.FormEnd (D.ofQ n 0 L) V)) := fun bo bc V h => refForm_any bo bc (D.ofQ n 0 L) V pa.2 (by have := D.ofQ_len n L 0; omega) (by omega) (by omega) h
      clear pa hat hol
      by_cases hkn2 : k < n
      · have hP2 : Hid (P ++ [⟨3, (n : Int) - k, ⟨#[]⟩⟩] = (D.ofQ n 0 L).map D.raw) := by
          obtain ⟨X, hX, hE⟩ := hq
          show _ = _
          rw [hE, List.map_append, ← hX]
          unfold D.ofQ
          rw [if_pos hkn2]
          have e : ((n : Int) - (k : Int)) = ((n - k : Nat) : Int) := by omega
          rw [e]; rfl
        clear hq
        go_wp2_with (at_builtin; refine C.append_piece rfl _ _ rfl w.heap.size _ P rfl hx.out.own ⟨3, (n : Int) - k, ⟨#[]⟩⟩ 1 _ rfl rfl ?f1 ?f2 ?_)
        case f1 => omega
        case f2 => omega
        intro Z v' w3 hZ hO hg
        have hb3 := Lib.hid (C.below_app hx.out.below hx.out.own hg)
        have hZ2 : Z = (D.ofQ n 0 L).map D.raw := by rw [hZ.out, hP2.out]
        subst hZ2
        obtain ⟨bo, bc, hv, hrow⟩ := D.row_of_own hO
        subst hv
        have HF := Lib.hid (HF.out bo bc w3 hrow)
        have hll : ((D.ofQ n 0 L).map D.raw).length = (D.ofQ n 0 L).length := List.length_map _
        rw [hll]
        clear hO hg hZ hP2 hrow hx hll
        go_wp2_with fail
        refine HF.out.mono ?_
        rintro e w4 ⟨v, rfl, ho, hb⟩
        have R : Hid (C.OfEnd n L w (.returned v) w4) := ⟨v, rfl, by rw [List.length_map]; exact D.own_mono ho hb3.out.size, hb3.out.trans (hb.mono hb3.out.size)⟩
        clear ho hb HF
        go_wp2
        go_ret
        exact R.out
      · have hP2 : P = (D.ofQ n 0 L).map D.raw := by
          obtain ⟨X, hX, hE⟩ := hq
          rw [hE, List.map_append, ← hX]
          unfold D.ofQ
          rw [if_neg hkn2]; simp
        subst hP2
        obtain ⟨bo, bc, hv, hrow⟩ := D.row_of_own hx.out.own
        cases hv
        have HF := Lib.hid (HF.out va vc wr hrow)
        have hb3 := Lib.hid hx.out.below
        have hll : ((D.ofQ n 0 L).map D.raw).length = (D.ofQ n 0 L).length := List.length_map _
        rw [hll]
        clear hrow hx hll hq
        go_wp2_with fail
        refine HF.out.mono ?_
        rintro e w4 ⟨v, rfl, ho, hb⟩
        have R : Hid (C.OfEnd n L w (.returned v) w4) := ⟨v, rfl, by rw [List.length_map]; exact D.own_mono ho hb3.out.size, hb3.out.trans (hb.mono hb3.out.size)⟩
        clear ho hb HF
        go_wp2
        go_ret
        exact R.out
end Go.Proofs.Ytmljagkndnobdaa
