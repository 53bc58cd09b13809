/- The contract of package delta's reader: pieces. -/
import Derived.Test.YtmjoijloflinnaaDoorDeltaRdPc
import Derived.BigQuiet
import Derived.Deep.QuietTactic
namespace Go.Proofs.YtmjoijloflinnaaDoor
open Go.RowKit

def D.fin (a : List D.Q) : List UInt8 → Option (List D.Q)
  | [] => some a
  | _ :: r => (D.ones (D.cut [] r)).map (a ++ ·)
theorem D.fin_first (s : List UInt8) : D.ones (D.cut [] s) = match D.rd1 s with
    | none => none
    | some x => D.fin [x.1] x.2 := by
  rw [D.rd_step s]
  cases D.rd1 s with
  | none => rfl
  | some x =>
    obtain ⟨q, u⟩ := x
    cases u <;> rfl
theorem D.fin_next (a : List D.Q) (c : UInt8) (r : List UInt8) : D.fin a (c :: r) = match D.rd1 r with
    | none => none
    | some x => D.fin (a ++ [x.1]) x.2 := by
  rw [D.fin, D.fin_first r]
  cases D.rd1 r with
  | none => rfl
  | some x =>
    obtain ⟨q, u⟩ := x
    cases u with
    | nil => rfl
    | cons d u =>
      simp only [D.fin, Option.map_map]
      congr 1
      funext y
      simp
def D.PcsEnd (res : Option (List D.Q)) (b : Nat) (w : World) (e : Ending) (w' : World) : Prop :=
  match res with
  | none => e = .panicked [{ v := .iface 24 (.int .i64 4), recovered := false }] ∧ w.grownBy w' (some b)
  | some a => ∃ v, e = .returned v ∧ w'.ownsRow w.heap.size 38 3 v a.length (D.cellsL (a.map D.raw)) ∧ w.grownBy w' (some b)
structure D.PcsAt (res : Option (List D.Q)) (b : Nat) (t : List UInt8) (a : List D.Q) (j : Nat) (v : Value) (w wr : World) : Prop where
  rd : D.Rd b t j wr
  gb : w.grownBy wr (some b)
  eq : D.fin a (t.drop j) = res
  own : wr.ownsRow w.heap.size 38 3 v a.length (D.cellsL (a.map D.raw))
theorem D.pcs_none {b : Nat} {w w' : World} (h : w.grownBy w' (some b)) : D.PcsEnd none b w (.panicked [{ v := .iface 24 (.int .i64 4), recovered := false }]) w' := ⟨rfl, h⟩
set_option maxRecDepth 100000 in
set_option maxHeartbeats 2000000 in
theorem pieces_any (b : Nat) (t : List UInt8) (w : World) (h : D.Rd b t 0 w) (hl : t.length ≤ 1000000000) :
    Calls Tryd.prog 55 #[.pointer (some ⟨b, 0, none⟩)] w (D.PcsEnd (D.parse t) b w) := by
  have hbw := h.lt
  obtain ⟨ip, hp, hp0, hp1, hp2⟩ := info_parts Tryd.infoPiece
  have Hp := Lib.hid (And.intro hp (And.intro hp0 (And.intro hp1 hp2)))
  clear hp hp0 hp1 hp2
  obtain ⟨c0, c1, fz⟩ := h.cells
  by_cases ht : t = []
  · subst ht
    have R : Hid (D.PcsEnd (D.parse []) b w (.returned (.slice none 0 0)) w) := ⟨_, rfl, World.ownsRow_nil _ _ _ _, D.gb_refl _ _⟩
    clear h
    go_enter Tryd.func55, Tryd.ntmps55
    go_wp2
    go_ret
    exact R.out
  · have hpos : 0 < t.length := List.length_pos_iff.2 ht
    have e0 : t.isEmpty = false := by cases t with
      | nil => exact absurd rfl ht
      | cons => rfl
    have hparse : D.parse t = D.ones (D.cut [] t) := by rw [D.parse, if_neg ht]
    rw [hparse, D.fin_first t]
    have H1 := piece_any b t 0 w (Nat.zero_le _) h (by omega)
    rw [List.drop_zero] at H1
    cases hrd : D.rd1 t with
    | none =>
      rw [hrd] at H1
      have H1 := Lib.hid H1
      have R : Hid (∀ w3, w.grownBy w3 (some b) → D.PcsEnd none b w (.panicked [{ v := .iface 24 (.int .i64 4), recovered := false }]) w3) := fun w3 hg => D.pcs_none hg
      clear h hparse ht hrd
      go_enter Tryd.func55, Tryd.ntmps55
      go_wp2_with fail
      refine H1.out.mono ?_
      rintro e w2 ⟨rfl, hg2⟩
      exact ⟨rfl, R.out w2 hg2⟩
    | some x =>
      obtain ⟨q, u⟩ := x
      rw [hrd] at H1
      have H1 := Lib.hid H1
      obtain ⟨res, hres⟩ : ∃ res, Hid (D.fin [q] u = res) := ⟨_, rfl⟩
      dsimp only
      rw [hres.out]
      have hx := Lib.hid (D.rd1_le hrd).1
      clear h hparse ht hrd
      go_enter Tryd.func55, Tryd.ntmps55
      go_wp2_with fail
      refine H1.out.mono ?_
      rintro e w2 ⟨rfl, ⟨k, hk, hku, hr2⟩, hg2⟩
      have hw2 := hg2.size
      have hku : t.drop k = u := hku
      have hk1 : [q].length ≤ k := by
        have := congrArg List.length hku
        rw [List.length_drop] at this
        have := hx.out
        simp only [List.length_cons, List.length_nil]
        omega
      have R : Hid (D.PcsAt res b t [q] k (.slice (some ⟨w2.heap.size, 0, none⟩) 1 1) w (w2.alloc (.cells #[.int .u8 (D.raw q).k, .int .i64 (D.raw q).n, .string (D.raw q).t] 38))) := by
        refine ⟨hr2.gb (World.grownBy_alloc w2 _ none) (by simp), D.gb_trans hg2 (World.grownBy_alloc w2 _ _), by rw [hku]; exact hres.out, ?_⟩
        exact World.ownsRow_lit w2 _ 1 hw2 (by unfold maxLen; omega) rfl
      clear hr2 hg2 hku H1 c0 c1 fz
      unfold D.pieceV
      go_wp2
      go_loopw [3] (fun v wr => ∃ (a : List D.Q) (j : Nat), a.length ≤ j ∧ j ≤ t.length ∧ Hid (D.PcsAt res b t a j v w wr)) (fun _ wr => t.length - D.posOf b wr)
      case atStart => exact ⟨[q], k, hk1, hk, R.out⟩
      case round =>
        obtain ⟨a, j, ha, hj, hm⟩ := hrel
        clear R
        obtain ⟨tb, tc, hv⟩ := D.slice_of_own hm.out.own
        subst hv
        obtain ⟨c0, c1, fz⟩ := hm.out.rd.cells
        have hsz : (⟨t.toArray⟩ : ByteArray).size = t.length := D.size_l t
        by_cases hjl : j < t.length
        · obtain ⟨c, hd⟩ : ∃ c, t.drop j = c :: t.drop (j + 1) := ⟨t[j], List.drop_eq_getElem_cons hjl⟩
          have heq := hm.out.eq
          rw [hd, D.fin_next] at heq
          have hrd1 : Hid (∀ n, D.Rd b t (j + 1) ((wr.drewN n).setCell ⟨b, 1, none⟩ (.int .i64 ((j : Int) + 1)))) := fun n => D.Rd.put (w := wr.drewN n) hm.out.rd (j + 1)
          have hgb1 : Hid (∀ n, w.grownBy ((wr.drewN n).setCell ⟨b, 1, none⟩ (.int .i64 ((j : Int) + 1))) (some b)) := fun n => D.gb_trans (D.gb_drewN hm.out.gb n) (D.gb_set _ _ _ _)
          have hown1 : Hid (∀ n, ((wr.drewN n).setCell ⟨b, 1, none⟩ (.int .i64 ((j : Int) + 1))).ownsRow w.heap.size 38 3 (.slice tb a.length tc) a.length (D.cellsL (a.map D.raw))) := fun n => D.own_gb (V := wr.drewN n) hm.out.own hbw (D.gb_set _ _ _ _)
          have HP : Hid (∀ V, D.Rd b t (j + 1) V → Calls Tryd.prog 58 #[.pointer (some ⟨b, 0, none⟩)] V (D.ReadEnd D.pieceV (D.rd1 (t.drop (j + 1))) b t V)) := fun V hV => piece_any b t (j + 1) V hjl hV (by omega)
          have g1 : (j : Int) < t.length := by omega
          cases hrd : D.rd1 (t.drop (j + 1)) with
          | none =>
            rw [hrd] at heq HP
            have R : Hid (∀ w3, w.grownBy w3 (some b) → D.PcsEnd res b w (.panicked [{ v := .iface 24 (.int .i64 4), recovered := false }]) w3) := fun w3 hg => by
              rw [← heq]; exact D.pcs_none hg
            clear heq hd hrd hm
            go_wp2_with fail
            go_quiet (fail)
            go_wp2_with fail
            refine (HP.out _ (hrd1.out _)).mono ?_
            rintro e w3 ⟨rfl, hg3⟩
            exact ⟨rfl, R.out w3 (D.gb_trans (hgb1.out _) hg3)⟩
          | some x =>
            obtain ⟨q', u'⟩ := x
            rw [hrd] at heq HP
            dsimp only at heq
            have heq := Lib.hid heq
            have hpos0 := Lib.hid hm.out.rd.pos
            have hlen := (D.rd1_le hrd).1
            rw [List.length_drop] at hlen
            clear hd hrd hm
            go_wp2_with fail
            go_quiet (fail)
            go_wp2_with fail
            refine (HP.out _ (hrd1.out _)).mono ?_
            rintro e w3 ⟨rfl, ⟨k', hk', hku', hr3⟩, hg3⟩
            have hku' : t.drop k' = u' := hku'
            have hown := D.own_gb (hown1.out _) hbw hg3
            have hgg := D.gb_trans (hgb1.out _) hg3
            have hk1 : j + 1 ≤ k' := by
              have := congrArg List.length hku'
              rw [List.length_drop] at this
              omega
            have Hown := Lib.hid hown
            have Hgg := Lib.hid hgg
            have Hr3 := Lib.hid hr3
            have Hku := Lib.hid hku'
            have hB3 : w.heap.size ≤ w3.heap.size := hgg.size
            clear hown hgg hr3 hku' hg3 hrd1 hgb1 hown1 HP c0 c1 fz
            unfold D.pieceV
            go_wp2_with (at_builtin; refine wpList_append_lies _ rfl _ _ 22 rfl w.heap.size 38 ip (.agg #[.int .u8 0, .int .i64 0, .string ⟨#[]⟩]) 3 32 Tryd.underlying22 Hp.out.1 Hp.out.2.1 Hp.out.2.2.1 Hp.out.2.2.2 rfl (by decide) _ _ _ rfl (Hown.out.alloc _) ⟨w3.heap.size, 0, none⟩ 1 1 [.int .u8 (D.raw q').k, .int .i64 (D.raw q').n, .string (D.raw q').t] rfl rfl ?b1 ?b2 (by decide) ?b3 ?b4 ?b5 _ rfl ?_)
            case b1 => exact D.news _ _ _
            case b2 => intro u hu; simp at hu; rcases hu with rfl | rfl | rfl <;> rfl
            case b3 => unfold maxLen; omega
            case b4 => omega
            case b5 => simp only [World.size_alloc]; omega
            intro g5 cp5 w5 hO5 hg5 hat5 hlt5
            have hne5 : ∀ k, Value.ownBlock (.slice tb a.length tc) = some k → w.heap.size ≤ k := fun k e => (Hown.out.lt k e).1
            have R5 : Hid (D.PcsAt res b t (a ++ [q']) k' (.slice (some ⟨g5, 0, none⟩) (a.length + 1) cp5) w w5) := by
              refine ⟨?_, ⟨hg5.os.trans Hgg.out.os, hg5.tape.trans Hgg.out.tape, hg5.output.trans Hgg.out.output, Nat.le_trans Hgg.out.size (Nat.le_trans (World.grownBy_alloc w3 _ none).size hg5.size), fun k hk hkb => ?_⟩, ?_, ?_⟩
              · exact (hg5.block b (by simp only [World.size_alloc]; omega) (fun e => by have := hne5 b e.symm; omega)).trans ((heap_alloc_old w3 _ Hr3.out.lt).trans Hr3.out)
              · exact (hg5.block k (by simp only [World.size_alloc]; omega) (fun e => by have := hne5 k e.symm; omega)).trans ((heap_alloc_old w3 _ (by omega)).trans (Hgg.out.block k hk hkb))
              · rw [Hku.out]; exact heq.out
              · rw [List.map_append, D.cellsL_append, List.length_append]
                exact hO5
            have hpos := Lib.hid (And.intro R5.out.rd.pos hpos0.out)
            have hzl : (a ++ [q']).length ≤ k' := by rw [List.length_append]; simp; omega
            clear hO5 hg5 hat5 hlt5 hne5
            go_wp2
            go_roundw
            case rel => exact ⟨a ++ [q'], k', hzl, hk', R5⟩
            case measure => rw [hpos.out.1, hpos.out.2]; omega
        · obtain rfl : j = t.length := by omega
          have g1 : ¬ (t.length : Int) < t.length := by omega
          have heq := hm.out.eq
          rw [List.drop_length] at heq
          have R : Hid (∀ n, D.PcsEnd res b w (.returned (.slice tb a.length tc)) (wr.drewN n)) := fun n => by
            rw [← heq]; exact ⟨_, rfl, hm.out.own, D.gb_drewN hm.out.gb n⟩
          clear heq hm
          go_wp2_with fail
          go_quiet (fail)
          go_wp2
          go_ret
          exact R.out _
end Go.Proofs.YtmjoijloflinnaaDoor
