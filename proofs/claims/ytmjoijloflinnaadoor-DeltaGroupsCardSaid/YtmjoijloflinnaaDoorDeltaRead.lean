/- The contract of package delta's read: what the reader's failure is turned into. -/
import Derived.Test.YtmjoijloflinnaaDoorDeltaRdAll
import Derived.Test.YtmjoijloflinnaaDoorDeltaRef3
import Derived.Defers
import Derived.Recover
import Derived.Laws.Pointers
namespace Go.Proofs.YtmjoijloflinnaaDoor
open Go.RowKit

theorem catch_panicking (p q : Nat) (v : Value) (x : Int) (pv : Value) (w : World) (hc : w.cell? ⟨p, 0, none⟩ = some v) (hz : w.frozen? ⟨p, 0, none⟩ = false) (hd : w.cell? ⟨q, 0, none⟩ = some (.int .i64 x)) (hy : w.frozen? ⟨q, 0, none⟩ = false) (hpq : p ≠ q) :
    CallsD Tryd.prog 54 #[.pointer (some ⟨p, 0, none⟩), .pointer (some ⟨q, 0, none⟩)] (.panicking [{ v := .iface 24 pv, recovered := false }]) w fun e u' w' =>
      e = .returned (.tuple #[]) ∧ u' = .panicking [{ v := .iface 24 pv, recovered := true }] ∧ w' = (w.setCell ⟨p, 0, none⟩ (.slice none 0 0)).setCell ⟨q, 0, none⟩ (.int .i64 4) := by
  refine callsD_of_wpS Tryd.func54 rfl fun c₀ cs hu => ?_
  apply wpS_seq
  apply wpS_region
  simp [wpOpsS, go_sem, recoverD, hu, Tryd.ntmps54, Exit.thenS]
  apply wpS_seq
  apply wpS_region
  simp [wpOpsS, go_sem, Exit.thenS]
  refine wpS_cond (t := true) (by simp [Act.eval, Array.replicate]) ?_
  simp only [if_true]
  apply wpS_region
  have hd2 : (w.setCell ⟨p, 0, none⟩ (.slice none 0 0)).cell? ⟨q, 0, none⟩ = some (.int .i64 x) := (World.cell?_setCell_other w _ _ _ (by intro e; cases e; exact hpq rfl)).trans hd
  simp [wpOpsS, go_sem, hc, hz, hd2, hy, bodyPostS, results, Tryd.results54]
theorem catch_idle (p q : Nat) (w : World) : CallsD Tryd.prog 54 #[.pointer (some ⟨p, 0, none⟩), .pointer (some ⟨q, 0, none⟩)] .returning w fun e u' w' => e = .returned (.tuple #[]) ∧ u' = .returning ∧ w' = w := by
  refine callsD_of_wpS Tryd.func54 rfl fun c₀ cs hu => ?_
  apply wpS_seq
  apply wpS_region
  simp [wpOpsS, go_sem, recoverD, hu, Tryd.ntmps54, Exit.thenS]
  apply wpS_seq
  apply wpS_region
  simp [wpOpsS, go_sem, Exit.thenS]
  refine wpS_cond (t := false) (by simp [Act.eval, Array.replicate]) ?_
  simp only [Bool.false_eq_true, if_false]
  refine wpS_of_wp (wp_skip ?_)
  cases c₀
  simp_all [bodyPostS, results, Tryd.results54]
def D.parP (t : List UInt8) : List D.P := match D.parse t with
  | none => []
  | some a => a.map D.raw
def D.parE (t : List UInt8) : Int := match D.parse t with
  | none => 4
  | some _ => 0
def D.RdEnd (t : List UInt8) (w : World) (e : Ending) (w' : World) : Prop := ∃ v, e = .returned (.tuple #[v, .int .i64 (D.parE t)]) ∧ D.Made (D.parP t) w v w'
set_option maxHeartbeats 2000000 in
theorem read_any (t : List UInt8) (w : World) (hl : t.length ≤ 1000000000) : Calls Tryd.prog 48 #[.string ⟨t.toArray⟩] w (D.RdEnd t w) := by
  have hmf : ∀ (fn : Fn) (first cap : Array Value) (w : World), (Instr.makeFunc fn first cap).run Tryd.prog w = .ok (.func fn first cap) w := fun _ _ _ _ => rfl
  have hRd : D.Rd (w.heap.size + 1 + 1) t 0 (((w.alloc (.cells #[.slice none 0 0] 22)).alloc (.cells #[.int .i64 0] 24)).alloc (.cells #[.string ⟨t.toArray⟩, .int .i64 0] 74)) := by
    have := heap_alloc_new ((w.alloc (.cells #[.slice none 0 0] 22)).alloc (.cells #[.int .i64 0] 24)) (.cells #[.string ⟨t.toArray⟩, .int .i64 0] 74)
    simpa [D.Rd] using this
  have HP := pieces_any (w.heap.size + 1 + 1) t _ hRd hl
  have b0 : (((w.alloc (.cells #[.slice none 0 0] 22)).alloc (.cells #[.int .i64 0] 24)).alloc (.cells #[.string ⟨t.toArray⟩, .int .i64 0] 74)).heap[w.heap.size]? = some (.cells #[.slice none 0 0] 22) := by
    rw [heap_alloc_old _ _ (by simp; omega), heap_alloc_old _ _ (by simp)]
    exact heap_alloc_new w _
  have b1 : (((w.alloc (.cells #[.slice none 0 0] 22)).alloc (.cells #[.int .i64 0] 24)).alloc (.cells #[.string ⟨t.toArray⟩, .int .i64 0] 74)).heap[w.heap.size + 1]? = some (.cells #[.int .i64 0] 24) := by
    rw [heap_alloc_old _ _ (by simp)]
    have := heap_alloc_new (w.alloc (.cells #[.slice none 0 0] 22)) (.cells #[.int .i64 0] 24)
    simpa using this
  have hW : Below w.heap.size w (((w.alloc (.cells #[.slice none 0 0] 22)).alloc (.cells #[.int .i64 0] 24)).alloc (.cells #[.string ⟨t.toArray⟩, .int .i64 0] 74)) :=
    (((Below.refl _ _).alloc (Nat.le_refl _) _).alloc (by simp) _).alloc (by simp; omega) _
  have hS : w.heap.size + 1 + 1 + 1 ≤ (((w.alloc (.cells #[.slice none 0 0] 22)).alloc (.cells #[.int .i64 0] 24)).alloc (.cells #[.string ⟨t.toArray⟩, .int .i64 0] 74)).heap.size := by simp
  have B0 := Lib.hid b0
  have B1 := Lib.hid b1
  have HW := Lib.hid hW
  have HS := Lib.hid hS
  clear hRd b0 b1 hW hS
  cases hp : D.parse t with
  | none =>
    rw [hp] at HP
    have HP := Lib.hid HP
    have R : Hid (∀ w', Below w.heap.size w w' → D.RdEnd t w (.returned (.tuple #[.slice none 0 0, .int .i64 4])) w') := fun w' hb => by
      refine ⟨.slice none 0 0, by unfold D.parE; rw [hp], ?_⟩
      unfold D.parP; rw [hp]
      exact D.Made.nil w hb
    clear hp
    go_enter_defers Tryd.func48, Tryd.ntmps48
    go_wp2_with fail
    refine HP.out.mono ?_
    rintro e w4 ⟨rfl, hg⟩
    have e0 := (hg.block w.heap.size (Nat.lt_of_lt_of_le (by omega) HS.out) (by simp; omega)).trans B0.out
    have e1 := (hg.block (w.heap.size + 1) (Nat.lt_of_lt_of_le (by omega) HS.out) (by simp)).trans B1.out
    have c0 : w4.cell? ⟨w.heap.size, 0, none⟩ = some (.slice none 0 0) := by rw [cell_of_row w4 _ _ _ _ _ e0]; rfl
    have c1 : w4.cell? ⟨w.heap.size + 1, 0, none⟩ = some (.int .i64 0) := by rw [cell_of_row w4 _ _ _ _ _ e1]; rfl
    have R := Lib.hid (R.out ((w4.setCell ⟨w.heap.size, 0, none⟩ (.slice none 0 0)).setCell ⟨w.heap.size + 1, 0, none⟩ (.int .i64 4)) (((HW.out.trans (D.gb_below hg (by omega) HW.out.size)).setCell (p := ⟨w.heap.size, 0, none⟩) (Nat.le_refl _) _).setCell (p := ⟨w.heap.size + 1, 0, none⟩) (Nat.le_succ _) _))
    refine leaves_cons (f := 54) (args := #[.pointer (some ⟨w.heap.size, 0, none⟩), .pointer (some ⟨w.heap.size + 1, 0, none⟩)]) (by simp) (by simp [go_sem]) ?_
    refine (catch_panicking w.heap.size (w.heap.size + 1) _ 0 _ w4 c0 (frozen_of_row _ _ _ _ _ e0) c1 (frozen_of_row _ _ _ _ _ e1) (by omega)).mono ?_
    rintro e u' w5 ⟨rfl, rfl, rfl⟩
    have k0 : ((w4.setCell ⟨w.heap.size, 0, none⟩ (.slice none 0 0)).setCell ⟨w.heap.size + 1, 0, none⟩ (.int .i64 4)).cell? ⟨w.heap.size, 0, none⟩ = some (.slice none 0 0) := (World.cell?_setCell_other _ _ _ _ (by intro e; injection e; omega)).trans (World.cell?_setCell_same _ _ _ c0)
    have k1 : ((w4.setCell ⟨w.heap.size, 0, none⟩ (.slice none 0 0)).setCell ⟨w.heap.size + 1, 0, none⟩ (.int .i64 4)).cell? ⟨w.heap.size + 1, 0, none⟩ = some (.int .i64 4) := World.cell?_setCell_same _ _ _ ((World.cell?_setCell_other _ _ _ _ (by intro e; injection e; omega)).trans c1)
    generalize (w4.setCell ⟨w.heap.size, 0, none⟩ (.slice none 0 0)).setCell ⟨w.heap.size + 1, 0, none⟩ (.int .i64 4) = w6 at k0 k1 R ⊢
    refine ⟨.tuple #[.slice none 0 0, .int .i64 4], ?_, R.out⟩
    simp [results, Tryd.results48, go_sem, k0, k1]
  | some a =>
    rw [hp] at HP
    have HP := Lib.hid HP
    have R : Hid (∀ v w', w'.ownsRow w.heap.size 38 3 v a.length (D.cellsL (a.map D.raw)) → Below w.heap.size w w' → D.RdEnd t w (.returned (.tuple #[v, .int .i64 0])) w') := fun v w' ho hb => by
      refine ⟨v, by unfold D.parE; rw [hp], ?_⟩
      unfold D.parP; rw [hp]
      exact ⟨by rw [List.length_map]; exact ho, hb⟩
    clear hp
    go_enter_defers Tryd.func48, Tryd.ntmps48
    go_wp2_with fail
    refine HP.out.mono ?_
    rintro e w4 ⟨v, rfl, ho, hg⟩
    obtain ⟨tb, tc, hv⟩ := D.slice_of_own ho
    subst hv
    have e0 := (hg.block w.heap.size (Nat.lt_of_lt_of_le (by omega) HS.out) (by simp; omega)).trans B0.out
    have e1 := (hg.block (w.heap.size + 1) (Nat.lt_of_lt_of_le (by omega) HS.out) (by simp)).trans B1.out
    have c0 : w4.cell? ⟨w.heap.size, 0, none⟩ = some (.slice none 0 0) := by rw [cell_of_row w4 _ _ _ _ _ e0]; rfl
    have c1 : w4.cell? ⟨w.heap.size + 1, 0, none⟩ = some (.int .i64 0) := by rw [cell_of_row w4 _ _ _ _ _ e1]; rfl
    have f0 : w4.frozen? ⟨w.heap.size, 0, none⟩ = false := frozen_of_row _ _ _ _ _ e0
    have f1 : w4.frozen? ⟨w.heap.size + 1, 0, none⟩ = false := frozen_of_row _ _ _ _ _ e1
    have ho2 := ownsRow_setCell_below (ownsRow_setCell_below ho (a := ⟨w.heap.size, 0, none⟩) (Nat.lt_of_lt_of_le (by show w.heap.size < _; omega) HS.out) (.slice tb a.length tc)) (a := ⟨w.heap.size + 1, 0, none⟩) (Nat.lt_of_lt_of_le (by show w.heap.size + 1 < _; omega) HS.out) (.int .i64 0)
    have R := Lib.hid (R.out _ ((w4.setCell ⟨w.heap.size, 0, none⟩ (.slice tb a.length tc)).setCell ⟨w.heap.size + 1, 0, none⟩ (.int .i64 0)) (D.own_mono ho2 HW.out.size) (((HW.out.trans (D.gb_below hg (by omega) HW.out.size)).setCell (p := ⟨w.heap.size, 0, none⟩) (Nat.le_refl _) _).setCell (p := ⟨w.heap.size + 1, 0, none⟩) (Nat.le_succ _) _))
    have k0 : ((w4.setCell ⟨w.heap.size, 0, none⟩ (.slice tb a.length tc)).setCell ⟨w.heap.size + 1, 0, none⟩ (.int .i64 0)).cell? ⟨w.heap.size, 0, none⟩ = some (.slice tb a.length tc) := (World.cell?_setCell_other _ _ _ _ (by intro e; injection e; omega)).trans (World.cell?_setCell_same _ _ _ c0)
    have k1 : ((w4.setCell ⟨w.heap.size, 0, none⟩ (.slice tb a.length tc)).setCell ⟨w.heap.size + 1, 0, none⟩ (.int .i64 0)).cell? ⟨w.heap.size + 1, 0, none⟩ = some (.int .i64 0) := World.cell?_setCell_same _ _ _ ((World.cell?_setCell_other _ _ _ _ (by intro e; injection e; omega)).trans c1)
    have K0 := Lib.hid k0
    have K1 := Lib.hid k1
    clear ho hg ho2 k0 k1 e0 e1
    go_wp2
    refine leaves_cons (f := 54) (args := #[.pointer (some ⟨w.heap.size, 0, none⟩), .pointer (some ⟨w.heap.size + 1, 0, none⟩)]) (by simp) (by simp [go_sem]) ?_
    refine (catch_idle w.heap.size (w.heap.size + 1) _).mono ?_
    rintro e u' w5 ⟨rfl, rfl, rfl⟩
    refine ⟨.tuple #[.slice tb a.length tc, .int .i64 0], ?_, R.out⟩
    have k0 := K0.out
    have k1 := K1.out
    simp [results, Tryd.results48, go_sem, k0, k1]
end Go.Proofs.YtmjoijloflinnaaDoor
