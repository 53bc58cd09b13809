/- The contract of package delta's reader: piece. -/
import Derived.Test.YtmjoijloflinnaaDoorDeltaRdTxt
namespace Go.Proofs.YtmjoijloflinnaaDoor
open Go.RowKit

def D.pieceV (q : D.Q) : Value := .agg #[.int .u8 (D.raw q).k, .int .i64 (D.raw q).n, .string (D.raw q).t]
theorem D.Rd.gb {b t k w w'} (h : D.Rd b t k w) {r : Option Nat} (hg : w.grownBy w' r) (hr : some b ≠ r) : D.Rd b t k w' := (hg.block b h.lt hr).trans h
theorem D.gb_store (w w3 : World) (H b : Nat) (hg : w.grownBy w3 (some b)) (hH : w.heap.size ≤ H) (i : Nat) (v : Value) : w.grownBy (w3.setCell ⟨H, i, none⟩ v) (some b) :=
  ⟨hg.os, hg.tape, hg.output, by simp; exact hg.size, fun k hk hr => (Below.heap_setCell _ _ _ _ (by show k ≠ H; omega)).trans (hg.block k hk hr)⟩
theorem D.Rd.store {b t k w} (h : D.Rd b t k w) (H i : Nat) (v : Value) (hH : b ≠ H) : D.Rd b t k (w.setCell ⟨H, i, none⟩ v) := (Below.heap_setCell _ _ _ _ hH).trans h
theorem D.box3 {w : World} {H : Nat} (h : w.heap[H]? = some (.cells #[.int .u8 0, .int .i64 0, .string ⟨#[]⟩] 38)) :
    w.cell? ⟨H, 0, none⟩ = some (.int .u8 0) ∧ w.cell? ⟨H, 1, none⟩ = some (.int .i64 0) ∧ w.cell? ⟨H, 2, none⟩ = some (.string ⟨#[]⟩) ∧ w.frozen? ⟨H, 0, none⟩ = false ∧ w.frozen? ⟨H, 1, none⟩ = false ∧ w.frozen? ⟨H, 2, none⟩ = false := by
  refine ⟨?_, ?_, ?_, frozen_of_row _ _ _ _ _ h, frozen_of_row _ _ _ _ _ h, frozen_of_row _ _ _ _ _ h⟩ <;> (rw [cell_of_row w H _ _ _ _ h]; rfl)
set_option maxHeartbeats 2000000 in
theorem piece_any (b : Nat) (t : List UInt8) (k : Nat) (w : World) (hk : k ≤ t.length) (h : D.Rd b t k w) (hl : t.length ≤ 140737488351232) :
    Calls Tryd.prog 58 #[.pointer (some ⟨b, 0, none⟩)] w (D.ReadEnd D.pieceV (D.rd1 (t.drop k)) b t w) := by
  have hl1 : t.length ≤ 1000000000000000 := by omega
  have hbw := h.lt
  have h1 : D.Rd b t k (w.alloc (.cells #[.int .u8 0, .int .i64 0, .string ⟨#[]⟩] 38)) := h.gb (World.grownBy_alloc w _ none) (by simp)
  have G1 : Hid (w.grownBy (w.alloc (.cells #[.int .u8 0, .int .i64 0, .string ⟨#[]⟩] 38)) (some b)) := World.grownBy_alloc w _ _
  have B1 := Lib.hid (heap_alloc_new w (.cells #[.int .u8 0, .int .i64 0, .string ⟨#[]⟩] 38))
  have L1 : w.heap.size < (w.alloc (.cells #[.int .u8 0, .int .i64 0, .string ⟨#[]⟩] 38)).heap.size := by simp
  have L1 := Lib.hid L1
  cases hd : t.drop k with
  | nil =>
    have ek : k = t.length := by have := List.drop_eq_nil_iff.1 hd; omega
    have Hn := Lib.hid (next_end b t _ (by rw [ek] at h1; exact h1))
    have R : Hid (∀ w3, w.grownBy w3 (some b) → D.ReadEnd D.pieceV (D.rd1 []) b t w (.panicked [{ v := .iface 24 (.int .i64 4), recovered := false }]) w3) := fun w3 hg => ⟨rfl, hg⟩
    clear h h1 hd ek
    go_enter Tryd.func58, Tryd.ntmps58
    go_wp2_with fail
    refine Hn.out.mono ?_
    rintro e w2 ⟨rfl, hg2⟩
    exact ⟨rfl, R.out w2 (D.gb_trans G1.out hg2)⟩
  | cons c r =>
    obtain ⟨hkl, _, hr⟩ := D.at_drop hd
    have Hn := Lib.hid (next_some b t k c r _ hd h1 hl1)
    have HN : Hid (∀ V, D.Rd b t (k + 1) V → Calls Tryd.prog 61 #[.pointer (some ⟨b, 0, none⟩)] V (D.ReadEnd D.numV (D.rdNum 0 r) b t V)) := fun V hV => by
      have := number_any b t (k + 1) V hkl hV hl1
      rwa [hr] at this
    have HT : Hid (∀ V, D.Rd b t (k + 1) V → Calls Tryd.prog 62 #[.pointer (some ⟨b, 0, none⟩)] V (D.ReadEnd D.strV (D.rdTxt [] r) b t V)) := fun V hV => by
      have := text_any b t (k + 1) V hkl hV hl
      rwa [hr] at this
    by_cases c1 : c = 61
    · subst c1
      have hrd : D.rd1 (61 :: r) = (D.rdNum 0 r).map fun x => (.R x.1, x.2) := by rw [D.rd1, if_pos rfl]
      rw [hrd]
      generalize D.rdNum 0 r = res at HN
      cases res with
      | none =>
        have R : Hid (∀ w3, w.grownBy w3 (some b) → D.ReadEnd D.pieceV none b t w (.panicked [{ v := .iface 24 (.int .i64 4), recovered := false }]) w3) := fun w3 hg => ⟨rfl, hg⟩
        clear h h1 hd hr hrd HT
        go_enter Tryd.func58, Tryd.ntmps58
        go_wp2_with fail
        refine Hn.out.mono ?_
        rintro e w2 ⟨rfl, hr2, hg2⟩
        have hgg := Lib.hid (D.gb_trans G1.out hg2)
        have HN := Lib.hid (HN.out w2 hr2)
        clear hr2 hg2
        go_wp2_with fail
        refine HN.out.mono ?_
        rintro e w3 ⟨rfl, hg3⟩
        exact ⟨rfl, R.out w3 (D.gb_trans hgg.out hg3)⟩
      | some x =>
        obtain ⟨n, u⟩ := x
        have R : Hid (∀ w3, (∃ k, k ≤ t.length ∧ t.drop k = u ∧ D.Rd b t k w3) → w.grownBy w3 (some b) → D.ReadEnd D.pieceV (some (.R n, u)) b t w (.returned (.agg #[.int .u8 1, .int .i64 n, .string ⟨#[]⟩])) (((w3.setCell ⟨w.heap.size, 0, none⟩ (.int .u8 1)).setCell ⟨w.heap.size, 1, none⟩ (.int .i64 n)).setCell ⟨w.heap.size, 2, none⟩ (.string ⟨#[]⟩))) := fun w3 hx hg => by
          obtain ⟨k', e1, e2, e3⟩ := hx
          exact ⟨rfl, ⟨k', e1, e2, ((e3.store _ _ _ (by omega)).store _ _ _ (by omega)).store _ _ _ (by omega)⟩, D.gb_store _ _ _ _ (D.gb_store _ _ _ _ (D.gb_store _ _ _ _ hg (Nat.le_refl _) _ _) (Nat.le_refl _) _ _) (Nat.le_refl _) _ _⟩
        clear h h1 hd hr hrd HT
        go_enter Tryd.func58, Tryd.ntmps58
        go_wp2_with fail
        refine Hn.out.mono ?_
        rintro e w2 ⟨rfl, hr2, hg2⟩
        have hgg := Lib.hid (D.gb_trans G1.out hg2)
        have B2 : Hid (w2.heap[w.heap.size]? = _) := (hg2.block w.heap.size L1.out (by simp; omega)).trans B1.out
        have L2 := Lib.hid (Nat.lt_of_lt_of_le L1.out hg2.size)
        have HN := Lib.hid (HN.out w2 hr2)
        clear hr2 hg2
        go_wp2_with fail
        refine HN.out.mono ?_
        rintro e w3 ⟨rfl, hx, hg3⟩
        have B3 := (hg3.block w.heap.size L2.out (by simp; omega)).trans B2.out
        obtain ⟨d0, d1, d2, f0, f1, f2⟩ := D.box3 B3
        have R := Lib.hid (R.out w3 hx (D.gb_trans hgg.out hg3))
        clear hx hg3 B3
        unfold D.numV
        go_wp2
        refine bodyPost_ret (v := .agg #[.int .u8 1, .int .i64 n, .string ⟨#[]⟩]) ?_ rfl R.out
        simp [results, Tryd.results58, go_sem, d0, d1, d2]
    · by_cases c2 : c = 45
      · subst c2
        have hrd : D.rd1 (45 :: r) = (D.rdNum 0 r).map fun x => (.D x.1, x.2) := by rw [D.rd1, if_neg (by decide), if_pos rfl]
        rw [hrd]
        generalize D.rdNum 0 r = res at HN
        cases res with
        | none =>
          have R : Hid (∀ w3, w.grownBy w3 (some b) → D.ReadEnd D.pieceV none b t w (.panicked [{ v := .iface 24 (.int .i64 4), recovered := false }]) w3) := fun w3 hg => ⟨rfl, hg⟩
          clear h h1 hd hr hrd HT
          go_enter Tryd.func58, Tryd.ntmps58
          go_wp2_with fail
          refine Hn.out.mono ?_
          rintro e w2 ⟨rfl, hr2, hg2⟩
          have hgg := Lib.hid (D.gb_trans G1.out hg2)
          have HN := Lib.hid (HN.out w2 hr2)
          clear hr2 hg2
          go_wp2_with fail
          refine HN.out.mono ?_
          rintro e w3 ⟨rfl, hg3⟩
          exact ⟨rfl, R.out w3 (D.gb_trans hgg.out hg3)⟩
        | some x =>
          obtain ⟨n, u⟩ := x
          have R : Hid (∀ w3, (∃ k, k ≤ t.length ∧ t.drop k = u ∧ D.Rd b t k w3) → w.grownBy w3 (some b) → D.ReadEnd D.pieceV (some (.D n, u)) b t w (.returned (.agg #[.int .u8 3, .int .i64 n, .string ⟨#[]⟩])) (((w3.setCell ⟨w.heap.size, 0, none⟩ (.int .u8 3)).setCell ⟨w.heap.size, 1, none⟩ (.int .i64 n)).setCell ⟨w.heap.size, 2, none⟩ (.string ⟨#[]⟩))) := fun w3 hx hg => by
            obtain ⟨k', e1, e2, e3⟩ := hx
            exact ⟨rfl, ⟨k', e1, e2, ((e3.store _ _ _ (by omega)).store _ _ _ (by omega)).store _ _ _ (by omega)⟩, D.gb_store _ _ _ _ (D.gb_store _ _ _ _ (D.gb_store _ _ _ _ hg (Nat.le_refl _) _ _) (Nat.le_refl _) _ _) (Nat.le_refl _) _ _⟩
          clear h h1 hd hr hrd HT
          go_enter Tryd.func58, Tryd.ntmps58
          go_wp2_with fail
          refine Hn.out.mono ?_
          rintro e w2 ⟨rfl, hr2, hg2⟩
          have hgg := Lib.hid (D.gb_trans G1.out hg2)
          have B2 : Hid (w2.heap[w.heap.size]? = _) := (hg2.block w.heap.size L1.out (by simp; omega)).trans B1.out
          have L2 := Lib.hid (Nat.lt_of_lt_of_le L1.out hg2.size)
          have HN := Lib.hid (HN.out w2 hr2)
          clear hr2 hg2
          go_wp2_with fail
          refine HN.out.mono ?_
          rintro e w3 ⟨rfl, hx, hg3⟩
          have B3 := (hg3.block w.heap.size L2.out (by simp; omega)).trans B2.out
          obtain ⟨d0, d1, d2, f0, f1, f2⟩ := D.box3 B3
          have R := Lib.hid (R.out w3 hx (D.gb_trans hgg.out hg3))
          clear hx hg3 B3
          unfold D.numV
          go_wp2
          refine bodyPost_ret (v := .agg #[.int .u8 3, .int .i64 n, .string ⟨#[]⟩]) ?_ rfl R.out
          simp [results, Tryd.results58, go_sem, d0, d1, d2]
      · by_cases c3 : c = 43
        · subst c3
          have hrd : D.rd1 (43 :: r) = (D.rdTxt [] r).map fun x => (.I x.1, x.2) := by rw [D.rd1, if_neg (by decide), if_neg (by decide), if_pos rfl]
          rw [hrd]
          generalize D.rdTxt [] r = res at HT
          cases res with
          | none =>
            have R : Hid (∀ w3, w.grownBy w3 (some b) → D.ReadEnd D.pieceV none b t w (.panicked [{ v := .iface 24 (.int .i64 4), recovered := false }]) w3) := fun w3 hg => ⟨rfl, hg⟩
            clear h h1 hd hr hrd HN
            go_enter Tryd.func58, Tryd.ntmps58
            go_wp2_with fail
            refine Hn.out.mono ?_
            rintro e w2 ⟨rfl, hr2, hg2⟩
            have hgg := Lib.hid (D.gb_trans G1.out hg2)
            have HT := Lib.hid (HT.out w2 hr2)
            clear hr2 hg2
            go_wp2_with fail
            refine HT.out.mono ?_
            rintro e w3 ⟨rfl, hg3⟩
            exact ⟨rfl, R.out w3 (D.gb_trans hgg.out hg3)⟩
          | some x =>
            obtain ⟨n, u⟩ := x
            have R : Hid (∀ w3, (∃ k, k ≤ t.length ∧ t.drop k = u ∧ D.Rd b t k w3) → w.grownBy w3 (some b) → D.ReadEnd D.pieceV (some (.I n, u)) b t w (.returned (.agg #[.int .u8 2, .int .i64 0, .string ⟨n.toArray⟩])) (((w3.setCell ⟨w.heap.size, 0, none⟩ (.int .u8 2)).setCell ⟨w.heap.size, 1, none⟩ (.int .i64 0)).setCell ⟨w.heap.size, 2, none⟩ (.string ⟨n.toArray⟩))) := fun w3 hx hg => by
              obtain ⟨k', e1, e2, e3⟩ := hx
              exact ⟨rfl, ⟨k', e1, e2, ((e3.store _ _ _ (by omega)).store _ _ _ (by omega)).store _ _ _ (by omega)⟩, D.gb_store _ _ _ _ (D.gb_store _ _ _ _ (D.gb_store _ _ _ _ hg (Nat.le_refl _) _ _) (Nat.le_refl _) _ _) (Nat.le_refl _) _ _⟩
            clear h h1 hd hr hrd HN
            go_enter Tryd.func58, Tryd.ntmps58
            go_wp2_with fail
            refine Hn.out.mono ?_
            rintro e w2 ⟨rfl, hr2, hg2⟩
            have hgg := Lib.hid (D.gb_trans G1.out hg2)
            have B2 : Hid (w2.heap[w.heap.size]? = _) := (hg2.block w.heap.size L1.out (by simp; omega)).trans B1.out
            have L2 := Lib.hid (Nat.lt_of_lt_of_le L1.out hg2.size)
            have HT := Lib.hid (HT.out w2 hr2)
            clear hr2 hg2
            go_wp2_with fail
            refine HT.out.mono ?_
            rintro e w3 ⟨rfl, hx, hg3⟩
            have B3 := (hg3.block w.heap.size L2.out (by simp; omega)).trans B2.out
            obtain ⟨d0, d1, d2, f0, f1, f2⟩ := D.box3 B3
            have R := Lib.hid (R.out w3 hx (D.gb_trans hgg.out hg3))
            clear hx hg3 B3
            unfold D.strV
            go_wp2
            refine bodyPost_ret (v := .agg #[.int .u8 2, .int .i64 0, .string ⟨n.toArray⟩]) ?_ rfl R.out
            simp [results, Tryd.results58, go_sem, d0, d1, d2]
        · have hrd : D.rd1 (c :: r) = none := by rw [D.rd1, if_neg c1, if_neg c2, if_neg c3]
          rw [hrd]
          have key : ∀ k : UInt8, c ≠ k → ((c.toNat : Int) == (k.toNat : Int)) = false := fun k hk => by
            simp only [beq_eq_false_iff_ne, ne_eq]
            exact fun e => hk (UInt8.toNat_inj.1 (by omega))
          have g1 : ((c.toNat : Int) == 61) = false := key 61 c1
          have g2 : ((c.toNat : Int) == 45) = false := key 45 c2
          have g3 : ((c.toNat : Int) == 43) = false := key 43 c3
          have R : Hid (∀ w3, w.grownBy w3 (some b) → D.ReadEnd D.pieceV none b t w (.panicked [{ v := .iface 24 (.int .i64 4), recovered := false }]) w3) := fun w3 hg => ⟨rfl, hg⟩
          clear h h1 hd hr hrd HT HN key c1 c2 c3
          go_enter Tryd.func58, Tryd.ntmps58
          go_wp2_with fail
          refine Hn.out.mono ?_
          rintro e w2 ⟨rfl, hr2, hg2⟩
          have hgg := Lib.hid (R.out w2 (D.gb_trans G1.out hg2))
          clear hr2 hg2
          go_wp2_with (go_at_call 63; refine (fail_any _ _).mono ?_; rintro e w' ⟨rfl, rfl⟩)
          exact ⟨rfl, hgg.out⟩
end Go.Proofs.YtmjoijloflinnaaDoor
