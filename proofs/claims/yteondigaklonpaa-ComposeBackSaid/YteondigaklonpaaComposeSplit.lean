/- The contract of package compose's Split. -/
import Derived.Test.YteondigaklonpaaComposeAll
import Derived.Test.YteondigaklonpaaPackCRaw
import Derived.Deep.RegionLaw
namespace Go.Proofs.Yteondigaklonpaa
open Go.RowKit

/-- Two rows of pieces that the call owns, in blocks of their own. -/
structure C.TwoP (X Y : List D.P) (w : World) (v u : Value) (wr : World) : Prop where
  own1 : wr.ownsRow w.heap.size 31 3 v X.length (D.cellsL X)
  own2 : wr.ownsRow w.heap.size 31 3 u Y.length (D.cellsL Y)
  ne : v.ownBlock = none ∨ v.ownBlock ≠ u.ownBlock
  below : Below w.heap.size w wr
theorem C.TwoP.on {X Y : List D.P} {w : World} {v u : Value} {wr w' : World} (h : C.TwoP X Y w v u wr) (hb : Below wr.heap.size wr w') : C.TwoP X Y w v u w' :=
  ⟨D.own_below h.own1 hb, D.own_below h.own2 hb, h.ne, h.below.trans (hb.mono h.below.size)⟩
theorem C.TwoP.fst {X Y Z : List D.P} {w : World} {v u v' : Value} {wr w' : World} (h : C.TwoP X Y w v u wr) (h1 : w'.ownsRow w.heap.size 31 3 v' Z.length (D.cellsL Z)) (h2 : wr.grownBy w' v.ownBlock) (h3 : v'.ownBlock = v.ownBlock ∨ ∃ g, v'.ownBlock = some g ∧ wr.heap.size ≤ g) : C.TwoP Z Y w v' u w' := by
  have hne : u.ownBlock = none ∨ u.ownBlock ≠ v.ownBlock := by
    rcases h.ne with e | e
    · rw [e]; cases u.ownBlock <;> simp
    · exact .inr fun x => e x.symm
  refine ⟨h1, h.own2.kept h2 hne, ?_, h.below.grown h2 h.below.size (fun k e => (h.own1.lt k e).1)⟩
  rcases h3 with e | ⟨g, e, hg⟩
  · rw [e]; exact h.ne
  · right
    rw [e]
    intro x
    have := (h.own2.lt _ x.symm).2
    omega
theorem C.TwoP.snd {X Y Z : List D.P} {w : World} {v u u' : Value} {wr w' : World} (h : C.TwoP X Y w v u wr) (h1 : w'.ownsRow w.heap.size 31 3 u' Z.length (D.cellsL Z)) (h2 : wr.grownBy w' u.ownBlock) (h3 : u'.ownBlock = u.ownBlock ∨ ∃ g, u'.ownBlock = some g ∧ wr.heap.size ≤ g) : C.TwoP X Z w v u' w' := by
  refine ⟨h.own1.kept h2 h.ne, h1, ?_, h.below.grown h2 h.below.size (fun k e => (h.own2.lt k e).1)⟩
  rcases h3 with e | ⟨g, e, hg⟩
  · rw [e]; exact h.ne
  · rw [e]
    cases hv : v.ownBlock with
    | none => exact .inl rfl
    | some k =>
      right
      intro x
      have := (h.own1.lt _ hv).2
      injection x with x
      omega
theorem C.news_of_block {W : World} {b : Nat} {cs : List Value} {T : TypeId} (h : W.heap[b]? = some (.cells cs.toArray T (0, 0))) : ∀ j u, cs[j]? = some u → W.cell? ((⟨b, 0, none⟩ : Addr).add j) = some u := fun j u hu => by
  have hadd : (⟨b, 0, none⟩ : Addr).add j = ⟨b, j, none⟩ := by unfold Addr.add; split <;> simp_all
  rw [hadd, Lib.cell_of_heap h]
  simpa using hu
def C.pcells (p : D.P) : List Value := [.int .u8 p.k, .int .i64 p.n, .string p.t]
theorem C.pcells_one (p : D.P) : ∀ u ∈ C.pcells p, u.oneCell' = true := fun u hu => by
  unfold C.pcells at hu
  simp at hu
  rcases hu with rfl | rfl | rfl <;> rfl
theorem C.three (W : World) (a b c : Obj) : (((W.alloc a).alloc b).alloc c).heap[W.heap.size + 1]? = some b ∧ (((W.alloc a).alloc b).alloc c).heap[W.heap.size + 1 + 1]? = some c ∧ Below W.heap.size W (((W.alloc a).alloc b).alloc c) ∧ (((W.alloc a).alloc b).alloc c).heap[W.heap.size]? = some a := by
  have h1 := heap_alloc_new (W.alloc a) b
  rw [World.size_alloc] at h1
  have h2 := heap_alloc_new ((W.alloc a).alloc b) c
  rw [World.size_alloc, World.size_alloc] at h2
  exact ⟨(heap_alloc_old ((W.alloc a).alloc b) c (by simp)).trans h1, h2, (((Below.refl _ _).alloc (Nat.le_refl _) _).alloc (by simp) _).alloc (by simp; omega) _, (heap_alloc_old ((W.alloc a).alloc b) c (by simp; omega)).trans ((heap_alloc_old (W.alloc a) b (by simp)).trans (heap_alloc_new W a))⟩
/-- An append to the first of two rows, and to the second one. -/
theorem C.TwoP.app1 {X Y : List D.P} {p : D.P} {w v u wc V w3} {g cp n : Nat} (F : C.TwoP X Y w v u wc) (hg : World.grownBy V w3 v.ownBlock) (hO : w3.ownsRow w.heap.size 31 3 (.slice (some ⟨g, 0, none⟩) n cp) n (D.cellsL X ++ C.pcells p)) (hn : n = X.length + 1) (hat : v.ownBlock = some g ∨ g = V.heap.size) (hb : Below wc.heap.size wc V) :
    C.TwoP (X ++ [p]) Y w (.slice (some ⟨g, 0, none⟩) n cp) u w3 := by
  subst hn
  refine (F.on hb).fst (Z := X ++ [p]) ?_ hg ?_
  · rw [List.length_append, D.cellsL_append, D.cellsL_one]; exact hO
  · rcases hat with h | h
    · exact .inl h.symm
    · exact .inr ⟨g, rfl, by omega⟩
theorem C.TwoP.app2 {X Y : List D.P} {p : D.P} {w v u wc V w3} {g cp n : Nat} (F : C.TwoP X Y w v u wc) (hg : World.grownBy V w3 u.ownBlock) (hO : w3.ownsRow w.heap.size 31 3 (.slice (some ⟨g, 0, none⟩) n cp) n (D.cellsL Y ++ C.pcells p)) (hn : n = Y.length + 1) (hat : u.ownBlock = some g ∨ g = V.heap.size) (hb : Below wc.heap.size wc V) :
    C.TwoP X (Y ++ [p]) w v (.slice (some ⟨g, 0, none⟩) n cp) w3 := by
  subst hn
  refine (F.on hb).snd (Z := Y ++ [p]) ?_ hg ?_
  · rw [List.length_append, D.cellsL_append, D.cellsL_one]; exact hO
  · rcases hat with h | h
    · exact .inl h.symm
    · exact .inr ⟨g, rfl, by omega⟩
theorem C.pcell_at {W : World} {b : Nat} {p : D.P} (h : W.heap[b]? = some (.cells (C.pcells p).toArray 31 (0, 0))) : W.cell? ⟨b, 0, none⟩ = some (.int .u8 p.k) ∧ W.cell? ⟨b, 1, none⟩ = some (.int .i64 p.n) ∧ W.cell? ⟨b, 2, none⟩ = some (.string p.t) :=
  ⟨Lib.cell_of_heap h 0, Lib.cell_of_heap h 1, Lib.cell_of_heap h 2⟩
/-- A piece in a block, written anew. -/
theorem C.put_piece {W : World} {b : Nat} {p : D.P} (h : W.heap[b]? = some (.cells (C.pcells p).toArray 31 (0, 0))) (r : D.P) :
    (((W.setCell ⟨b, 0, none⟩ (.int .u8 r.k)).setCell ⟨b, 1, none⟩ (.int .i64 r.n)).setCell ⟨b, 2, none⟩ (.string r.t)).heap[b]? = some (.cells (C.pcells r).toArray 31 (0, 0)) ∧ ∀ j, j ≠ b → (((W.setCell ⟨b, 0, none⟩ (.int .u8 r.k)).setCell ⟨b, 1, none⟩ (.int .i64 r.n)).setCell ⟨b, 2, none⟩ (.string r.t)).heap[j]? = W.heap[j]? := by
  have h1 : (W.setCell ⟨b, 0, none⟩ (.int .u8 r.k)).heap[b]? = some (.cells #[.int .u8 r.k, .int .i64 p.n, .string p.t] 31 (0, 0)) := by rw [heap_setCell_same W b 0 _ _ _ h]; rfl
  have h2 : ((W.setCell ⟨b, 0, none⟩ (.int .u8 r.k)).setCell ⟨b, 1, none⟩ (.int .i64 r.n)).heap[b]? = some (.cells #[.int .u8 r.k, .int .i64 r.n, .string p.t] 31 (0, 0)) := by rw [heap_setCell_same _ b 1 _ _ _ h1]; rfl
  refine ⟨by rw [heap_setCell_same _ b 2 _ _ _ h2]; rfl, fun j hj => ?_⟩
  rw [Below.heap_setCell _ ⟨b, 2, none⟩ _ j hj, Below.heap_setCell _ ⟨b, 1, none⟩ _ j hj, Below.heap_setCell _ ⟨b, 0, none⟩ _ j hj]
def C.SplitEnd (l : List D.P) (w : World) (e : Ending) (w' : World) : Prop := ∃ va vb, e = .returned (.tuple #[va, vb, .int .i64 (D.spE l)]) ∧ D.Made (D.spI l) w va w' ∧ D.Made (D.spD l) w vb w'
set_option maxRecDepth 100000 in
set_option maxHeartbeats 4000000 in
theorem split_any (ao : Option Addr) (cap : Nat) (l : List D.P) (w : World) (hr : D.Row w ao l) (hb : D.Bd l) :
    Calls Try.prog 23 #[.slice ao l.length cap] w (C.SplitEnd l w) := by
  have HN := Lib.hid (normalize_any ao cap l w hb.1 hr hb.2)
  unfold D.NormEnd at HN
  by_cases h0 : D.chk l = 0
  · rw [h0, if_pos rfl] at HN
    have hnq : D.normP l = (D.nf (D.qs l)).map D.raw := rfl
    have hln := (D.valid_qs h0).2.2
    have hle : (D.nf (D.qs l)).length ≤ 4096 := by have := D.nf_length (D.qs l); omega
    have hbq : D.inL (D.nf (D.qs l)) ≤ 1048576 ∧ D.outL (D.nf (D.qs l)) ≤ 1048576 := by rw [D.inL_nf, D.outL_nf]; omega
    rw [hnq] at HN
    have hS := D.sp_chk h0
    have hI : D.spI l = if D.spE l = 0 then D.normP (((D.nf (D.qs l)).map D.insQ).map D.raw) else [] := rfl
    have hD : D.spD l = if D.spE l = 0 then D.normP (((D.nf (D.qs l)).map D.delQ).map D.raw) else [] := rfl
    generalize D.nf (D.qs l) = N at HN hle hbq hS hI hD
    have HS := Lib.hid (And.intro hS (And.intro hI hD))
    clear hS hI hD
    clear hr hb h0 hnq hln
    go_enter Try.func23, Try.ntmps23
    go_wp2_with fail
    refine HN.out.mono ?_
    rintro e w1 ⟨v, rfl, hm⟩
    obtain ⟨no, nc, hv, hrow⟩ := hm.form
    subst hv
    have Hr := Lib.hid hrow
    have HB1 := Lib.hid hm.below
    have H0 : Hid (C.TwoP [] [] w1 (.slice none 0 0) (.slice none 0 0) w1) := ⟨World.ownsRow_nil _ _ _ _, World.ownsRow_nil _ _ _ _, .inl rfl, Below.refl _ _⟩
    have hll : (N.map D.raw).length = N.length := List.length_map _
    rw [hll]
    clear hrow hm HN hll
    go_wp2
    go_loopw [2, 3, 20] (fun v u i wr => ∃ (k : Nat) (X Y : List D.P), k ≤ N.length ∧ i = .int .i64 k ∧ Hid (X = ((N.take k).map D.insQ).map D.raw) ∧ Hid (Y = ((N.take k).map D.delQ).map D.raw) ∧ Hid (C.TwoP X Y w1 v u wr)) (fun _ _ i _ => N.length - (intOf i).toNat)
    case atStart => exact ⟨0, [], [], Nat.zero_le _, rfl, rfl, rfl, H0⟩
    case round =>
      clear H0
      obtain ⟨k, X, Y, hk, rfl, hX, hY, hx⟩ := hrel
      by_cases hlt : k < N.length
      · obtain ⟨q, hq⟩ : ∃ q, N[k]? = some q := ⟨N[k], List.getElem?_eq_getElem hlt⟩
        obtain ⟨b, o, e, hbl, hcell⟩ := Hr.out k (D.raw q) (by rw [List.getElem?_map, hq]; rfl)
        subst e
        obtain ⟨c0, c1, c2⟩ := D.cell3 hx.out.below hbl hcell
        have hXl : X.length ≤ 4096 := by rw [hX.out]; simp; omega
        have hYl : Y.length ≤ 4096 := by rw [hY.out]; simp; omega
        have hX2 : Hid (((N.take (k + 1)).map D.insQ).map D.raw = X ++ [D.raw (D.insQ q)]) := by show _ = _; rw [hX.out, List.take_add_one, hq]; simp
        have hY2 : Hid (((N.take (k + 1)).map D.delQ).map D.raw = Y ++ [D.raw (D.delQ q)]) := by show _ = _; rw [hY.out, List.take_add_one, hq]; simp
        have hql : D.out1 q ≤ 1048576 := by
          have := D.out1_le N k q hq
          omega
        obtain ⟨W0, rfl⟩ : ∃ W0 : World, W0 = wr := ⟨_, rfl⟩
        obtain ⟨va, vc, hv⟩ := D.slice_of_own hx.out.own1
        subst hv
        obtain ⟨ua, uc, hv⟩ := D.slice_of_own hx.out.own2
        subst hv
        go_upto_region 7 with (fail)
        go_cut [8, 9] (fun p8 p9 wx => ∃ b8 b9 : Nat, p8 = .pointer (some ⟨b8, 0, none⟩) ∧ p9 = .pointer (some ⟨b9, 0, none⟩) ∧ b8 ≠ b9 ∧ b8 ≠ W0.heap.size ∧ b9 ≠ W0.heap.size ∧ Hid (wx.heap[W0.heap.size]? = some (.cells (C.pcells (D.raw q)).toArray 31 (0, 0))) ∧ Hid (wx.heap[b8]? = some (.cells (C.pcells (D.raw q)).toArray 31 (0, 0))) ∧ Hid (wx.heap[b9]? = some (.cells (C.pcells (D.raw q)).toArray 31 (0, 0))) ∧ Hid (Below W0.heap.size W0 wx) ∧ W0.heap.size ≤ b8 ∧ W0.heap.size ≤ b9)
        case first =>
          have T3 := C.three W0
          clear hx hX hY hX2 hY2
          go_region
          all_goals
            go_wp2
            go_meet
            case rel => first | exact ⟨_, _, rfl, rfl, by omega, by omega, by omega, (T3 _ _ _).2.2.2, (T3 _ _ _).1, (T3 _ _ _).2.1, (T3 _ _ _).2.2.1.drew, by omega, by omega⟩ | exact ⟨_, _, rfl, rfl, by omega, by omega, by omega, (T3 _ _ _).2.2.2, (T3 _ _ _).2.1, (T3 _ _ _).1, (T3 _ _ _).2.2.1.drew, by omega, by omega⟩
        case rest =>
        obtain ⟨b8, b9, rfl, rfl, n89, n8, n9, h7, h8, h9, hbw, g8, g9⟩ := hcut
        obtain ⟨W2, rfl⟩ : ∃ W2 : World, W2 = wc := ⟨_, rfl⟩
        obtain ⟨c0, c1, c2⟩ := C.pcell_at h7.out
        obtain ⟨a0, a1, a2⟩ := C.pcell_at h8.out
        obtain ⟨d0, d1, d2⟩ := C.pcell_at h9.out
        have f8 : ∀ i, W2.frozen? ⟨b8, i, none⟩ = false := fun i => frozen_of_row _ _ _ _ _ h8.out
        have f9 : ∀ i, W2.frozen? ⟨b9, i, none⟩ = false := fun i => frozen_of_row _ _ _ _ _ h9.out
        go_upto_block 2 with (fail)
        go_cut [28] (fun _ wx => Hid (wx.heap[b8]? = some (.cells (C.pcells (D.raw (D.insQ q))).toArray 31 (0, 0))) ∧ Hid (wx.heap[b9]? = some (.cells (C.pcells (D.raw (D.delQ q))).toArray 31 (0, 0))) ∧ Hid (Below W0.heap.size W0 wx))
        case first =>
          clear hx hX hY hX2 hY2
          cases q with
          | R n =>
            simp only [D.raw] at c0 c1 c2
            go_wp2
            go_meet
            case rel => exact ⟨h8, h9, hbw⟩
          | I t =>
            have P9 := C.put_piece h9.out (D.raw (.R t.length))
            have hsz : (⟨t.toArray⟩ : ByteArray).size = t.length := D.size_l t
            have P9 := Lib.hid P9
            simp only [D.raw] at c0 c1 c2
            go_wp2
            go_meet
            case rel => exact ⟨(P9.out.2 _ n89).trans h8.out, P9.out.1, ((hbw.out.setCell (p := ⟨b9, 0, none⟩) g9 _).setCell (p := ⟨b9, 1, none⟩) g9 _).setCell (p := ⟨b9, 2, none⟩) g9 _⟩
          | D n =>
            have P8 := Lib.hid (C.put_piece h8.out (D.raw (.R n)))
            simp only [D.raw] at c0 c1 c2
            go_wp2
            go_meet
            case rel => exact ⟨P8.out.1, (P8.out.2 _ n89.symm).trans h9.out, ((hbw.out.setCell (p := ⟨b8, 0, none⟩) g8 _).setCell (p := ⟨b8, 1, none⟩) g8 _).setCell (p := ⟨b8, 2, none⟩) g8 _⟩
        case rest =>
          clear h7 h8 h9 hbw a0 a1 a2 d0 d1 d2 c0 c1 c2 f8 f9
          obtain ⟨h8, h9, hbw⟩ := hcut
          obtain ⟨W1, rfl⟩ : ∃ W1 : World, W1 = wc := ⟨_, rfl⟩
          have F := Lib.hid (hx.out.on hbw.out)
          obtain ⟨a0, a1, a2⟩ := C.pcell_at h8.out
          obtain ⟨d0, d1, d2⟩ := C.pcell_at h9.out
          have va0 : ∀ k, (Value.slice va X.length vc).ownBlock = some k → k < W0.heap.size := fun k e => (hx.out.own1.lt k e).2
          have Hva := Lib.hid va0
          have hsz := hbw.out.size
          have hb9 := (Array.getElem?_eq_some_iff.1 h9.out).1
          have hb8 := (Array.getElem?_eq_some_iff.1 h8.out).1
          obtain ⟨ip, hp, hp0, hp1, hp2⟩ := info_parts Try.infoPiece
          have Hp := Lib.hid (And.intro hp (And.intro hp0 (And.intro hp1 hp2)))
          have hbase := hx.out.below.size
          clear hp hp0 hp1 hp2 va0 hx
          have a0' := D.cell_old a0
          have a1' := D.cell_old a1
          have a2' := D.cell_old a2
          have d0' := D.cell_old d0
          have d1' := D.cell_old d1
          have d2' := D.cell_old d2
          generalize D.raw (D.insQ q) = I at *
          generalize D.raw (D.delQ q) = E at *
          go_wp2
          go_region_law (first
            | (refine step_append_lies _ rfl (.tmp 39) (.tmp 41) 22 rfl w1.heap.size 31 ip (.agg #[.int .u8 0, .int .i64 0, .string ⟨#[]⟩]) 3 32 Try.underlying22 Hp.out.1 Hp.out.2.1 Hp.out.2.2.1 Hp.out.2.2.2 rfl (by decide) (.slice va X.length vc) X.length (D.cellsL X) rfl ?own _ 1 1 (C.pcells I) rfl rfl ?news (C.pcells_one _) (by decide) (by unfold maxLen; omega) (by omega) ?base _ rfl ?_
               case own => repeat (first | exact F.out.own1 | refine World.ownsRow.drew ?_ | refine World.ownsRow.alloc ?_ _)
               case news =>
                 first
                   | exact D.news _ _ _
                   | (refine C.news_of_block (T := 31) ?_
                      first
                        | exact (heap_alloc_old _ _ (by first | (simp; done) | (simp; omega))).trans (heap_alloc_new _ _)
                        | (have hh := heap_alloc_new (W1.alloc (.cells #[.int .u8 E.k, .int .i64 E.n, .string E.t] 31)) (.cells #[.int .u8 I.k, .int .i64 I.n, .string I.t] 31)
                           rw [World.size_alloc] at hh
                           exact hh))
               case base => first | omega | (simp; omega)
               intro g cp w3 hO3 hg3 hat3 hlt3
               have F3 := Lib.hid (F.out.app1 (p := I) hg3 hO3 rfl hat3 (by repeat (first | exact Below.refl _ _ | refine Below.drew ?_ | refine Below.alloc ?_ (by first | exact Nat.le_refl _ | omega | (simp; done) | (simp; omega)) _)))
               have HK := Lib.hid hg3.block
               have hs3 : W1.heap.size ≤ w3.heap.size := by have := hg3.size; simp at this; omega
               have k9 : w3.heap[b9]? = some (.cells (C.pcells E).toArray 31 (0, 0)) := by
                 refine (hg3.block b9 (by first | exact hb9 | (simp; omega)) (fun e => by have := Hva.out b9 e.symm; omega)).trans ?_
                 first | exact h9.out | exact (heap_alloc_old _ _ hb9).trans h9.out | exact (heap_alloc_old _ _ (by simp; omega)).trans ((heap_alloc_old _ _ hb9).trans h9.out)
               obtain ⟨d0, d1, d2⟩ := C.pcell_at k9
               have d0' := D.cell_old d0
               have d1' := D.cell_old d1
               have d2' := D.cell_old d2
               clear hO3 hg3 hat3 hlt3 k9)
            | (refine step_append_lies _ rfl (.tmp 43) (.tmp 45) 22 rfl w1.heap.size 31 ip (.agg #[.int .u8 0, .int .i64 0, .string ⟨#[]⟩]) 3 32 Try.underlying22 Hp.out.1 Hp.out.2.1 Hp.out.2.2.1 Hp.out.2.2.2 rfl (by decide) (.slice ua Y.length uc) Y.length (D.cellsL Y) rfl ?own2 _ 1 1 (C.pcells E) rfl rfl ?news2 (C.pcells_one _) (by decide) (by unfold maxLen; omega) (by omega) ?base2 _ rfl ?_
               case own2 => repeat (first | exact F3.out.own2 | refine World.ownsRow.drew ?_ | refine World.ownsRow.alloc ?_ _)
               case news2 =>
                 first
                   | exact D.news _ _ _
                   | (refine C.news_of_block (T := 31) ?_
                      first
                        | exact (HK.out _ (by first | (simp; done) | (simp; omega)) (fun e => by have := Hva.out _ e.symm; omega)).trans ((heap_alloc_old _ _ (by first | (simp; done) | (simp; omega))).trans (heap_alloc_new _ _))
                        | (have hh := heap_alloc_new (W1.alloc (.cells #[.int .u8 I.k, .int .i64 I.n, .string I.t] 31)) (.cells #[.int .u8 E.k, .int .i64 E.n, .string E.t] 31)
                           rw [World.size_alloc] at hh
                           exact (HK.out _ (by first | (simp; done) | (simp; omega)) (fun e => by have := Hva.out _ e.symm; omega)).trans hh))
               case base2 => first | omega | (simp; omega)
               intro g2 cp2 w4 hO4 hg4 hat4 hlt4
               have F4 := Lib.hid (F3.out.app2 (p := E) hg4 hO4 rfl hat4 (by repeat (first | exact Below.refl _ _ | refine Below.drew ?_ | refine Below.alloc ?_ (by first | exact Nat.le_refl _ | omega | (simp; done) | (simp; omega)) _)))
               clear hO4 hg4 hat4 hlt4))
          all_goals
            clear F F3 HK
            go_wp2
            go_roundw
            case rel => exact ⟨k + 1, X ++ [I], Y ++ [E], by omega, by go_num, by show _ = _; rw [hX2.out], by show _ = _; rw [hY2.out], F4⟩
            case measure => simp [intOf]; omega
      · obtain rfl : k = N.length := by omega
        rw [List.take_length] at hX hY
        obtain ⟨xo, xc, hv, hxr⟩ := D.row_of_own hx.out.own1
        subst hv
        obtain ⟨yo, yc, hv, hyr⟩ := D.row_of_own hx.out.own2
        subst hv
        rw [← hX.out, ← hY.out] at HS
        have hXl : X.length ≤ maxLen := by rw [hX.out]; simp; unfold maxLen; omega
        have hYl : Y.length ≤ maxLen := by rw [hY.out]; simp; unfold maxLen; omega
        have hbI : ∀ p ∈ X, p.t.size ≤ 140737488351232 := fun p hp => by
          rw [hX.out] at hp
          have := D.txt_le_outL _ p hp
          have h2 := (D.ins_sum N).2.1
          have h3 := D.iN_le N
          omega
        have hbD : ∀ p ∈ Y, p.t.size ≤ 140737488351232 := fun p hp => by
          rw [hY.out] at hp
          have := D.txt_le_outL _ p hp
          have h2 := (D.ins_sum N).2.2.2
          omega
        have H1 := Lib.hid (normalize_any xo xc X wr hXl hxr hbI)
        have H2 : Hid (∀ V, Below wr.heap.size wr V → Calls Try.prog 28 #[.slice yo Y.length yc] V (D.NormEnd Y V)) := fun V h => normalize_any yo yc Y V hYl (hyr.below h) hbD
        unfold D.NormEnd at H1 H2
        have HBw := Lib.hid (HB1.out.trans (hx.out.below.mono HB1.out.size))
        rw [HS.out.1.1] at H1
        clear hXl hYl hbI hbD hxr hyr hx hX hY Hr
        by_cases hE : D.spE l = 0
        · rw [hE, if_pos rfl] at H1
          rw [HS.out.1.2.1 hE, if_pos rfl] at H2
          have RR : Hid (∀ va vb w', D.Made (D.normP X) w va w' → D.Made (D.normP Y) w vb w' → C.SplitEnd l w (.returned (.tuple #[va, vb, .int .i64 0])) w') := fun va vb w' h1 h2 => ⟨va, vb, by rw [hE], by rw [HS.out.2.1, if_pos hE]; exact h1, by rw [HS.out.2.2, if_pos hE]; exact h2⟩
          clear HS hE
          go_wp2_with fail
          refine H1.out.mono ?_
          rintro e w2 ⟨v, rfl, hm⟩
          have H2 := Lib.hid (H2.out w2 hm.below)
          have HM := Lib.hid (C.made_trans HBw.out hm)
          obtain ⟨va, vc, hv⟩ := D.slice_of_own hm.own
          subst hv
          clear hm H1
          go_wp2_with fail
          refine H2.out.mono ?_
          rintro e w3 ⟨u, rfl, hm⟩
          have R := Lib.hid (RR.out _ u w3 (show D.Made (D.normP X) w _ w3 from ⟨D.own_below HM.out.own hm.below, HM.out.below.trans (hm.below.mono HM.out.below.size)⟩) (C.made_trans HM.out.below hm))
          obtain ⟨ua, uc, hv⟩ := D.slice_of_own hm.own
          subst hv
          clear hm H2 HM RR
          go_wp2
          go_ret3
          exact R.out
        · rw [if_neg hE] at H1
          have q : (D.spE l != 0) = true := by simpa using hE
          have RR : Hid (∀ w', Below w.heap.size w w' → C.SplitEnd l w (.returned (.tuple #[.slice none 0 0, .slice none 0 0, .int .i64 (D.spE l)])) w') := fun w' h => ⟨_, _, rfl, by rw [HS.out.2.1, if_neg hE]; exact D.Made.nil w h, by rw [HS.out.2.2, if_neg hE]; exact D.Made.nil w h⟩
          clear HS hE H2
          generalize D.spE l = c at H1 q RR
          go_wp2_with fail
          refine H1.out.mono ?_
          rintro e w2 ⟨v, rfl, hm⟩
          have R := Lib.hid (RR.out w2 (HBw.out.trans (hm.below.mono HBw.out.size)))
          obtain ⟨va, vc, hv⟩ := D.slice_of_own hm.own
          subst hv
          clear hm H1 RR
          go_wp2
          go_ret3
          exact R.out
  · obtain ⟨e1, e2, e3⟩ := D.sp_bad h0
    have q : (D.chk l != 0) = true := by simpa using h0
    rw [if_neg h0] at HN
    have RR : Hid (∀ w', Below w.heap.size w w' → C.SplitEnd l w (.returned (.tuple #[.slice none 0 0, .slice none 0 0, .int .i64 (D.chk l)])) w') := fun w' h => ⟨_, _, by rw [e1], by rw [e2]; exact D.Made.nil w h, by rw [e3]; exact D.Made.nil w h⟩
    clear hr hb h0 e1 e2 e3
    generalize D.chk l = c at HN q RR
    go_enter Try.func23, Try.ntmps23
    go_wp2_with fail
    refine HN.out.mono ?_
    rintro e w2 ⟨v, rfl, hm⟩
    have R := Lib.hid (RR.out w2 hm.below)
    obtain ⟨va, vc, hv⟩ := D.slice_of_own hm.own
    subst hv
    clear hm HN RR
    go_wp2
    go_ret3
    exact R.out
end Go.Proofs.Yteondigaklonpaa
