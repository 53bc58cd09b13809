/- The contracts of package delta's reader: fail, next, ended, digit. -/
import Derived.Test.YtmjoijloflinnaaDoorDeltaLib
import Derived.Test.YtmjoijloflinnaaDoorDeltaTxt
import Derived.Test.YtmjoijloflinnaaDoorDeltaOwn
import Derived.OneCell
namespace Go.Proofs.YtmjoijloflinnaaDoor
open Go.RowKit

/-- A reader at block b: its text, and where it stands. -/
def D.Rd (b : Nat) (t : List UInt8) (k : Nat) (w : World) : Prop := w.heap[b]? = some (.cells #[.string ⟨t.toArray⟩, .int .i64 k] 74)
theorem D.Rd.cells {b t k w} (h : D.Rd b t k w) : w.cell? ⟨b, 0, none⟩ = some (.string ⟨t.toArray⟩) ∧ w.cell? ⟨b, 1, none⟩ = some (.int .i64 k) ∧ w.frozen? ⟨b, 1, none⟩ = false := by
  refine ⟨?_, ?_, frozen_of_row _ _ _ _ _ h⟩ <;> (rw [cell_of_row w b _ _ _ _ h]; rfl)
theorem D.Rd.put {b t k w} (h : D.Rd b t k w) (j : Nat) : D.Rd b t j (w.setCell ⟨b, 1, none⟩ (.int .i64 j)) := by
  unfold D.Rd at h ⊢
  rw [heap_setCell_same w b 1 _ _ _ h]; rfl
theorem D.Rd.lt {b t k w} (h : D.Rd b t k w) : b < w.heap.size := (Array.getElem?_eq_some_iff.1 h).1
theorem D.gb_trans {w w1 w2 : World} {r : Option Nat} (h : w.grownBy w1 r) (g : w1.grownBy w2 r) : w.grownBy w2 r :=
  ⟨g.os.trans h.os, g.tape.trans h.tape, g.output.trans h.output, Nat.le_trans h.size g.size, fun k hk hr => (g.block k (Nat.lt_of_lt_of_le hk h.size) hr).trans (h.block k hk hr)⟩
theorem D.gb_refl (w : World) (r : Option Nat) : w.grownBy w r := ⟨rfl, rfl, rfl, Nat.le_refl _, fun _ _ _ => rfl⟩
theorem D.gb_drewN {w w1 : World} {r : Option Nat} (h : w.grownBy w1 r) (n : Nat) : w.grownBy (w1.drewN n) r := ⟨h.os, h.tape, h.output, h.size, h.block⟩
theorem D.gb_set (w : World) (b i : Nat) (v : Value) : w.grownBy (w.setCell ⟨b, i, none⟩ v) (some b) :=
  ⟨rfl, rfl, rfl, by simp, fun k _ hr => Below.heap_setCell _ _ _ _ (fun e => hr (by rw [e]))⟩
theorem D.gb_below {w w1 : World} {b B : Nat} (h : w.grownBy w1 (some b)) (hb : B ≤ b) (hB : B ≤ w.heap.size) : Below B w w1 :=
  (Below.refl B w).grown h hB (fun k e => by cases e; exact hb)
theorem fail_any (b : Nat) (w : World) : Calls Tryd.prog 63 #[.pointer (some ⟨b, 0, none⟩)] w (fun e w' => e = .panicked [{ v := .iface 24 (.int .i64 4), recovered := false }] ∧ w = w') := by
  go_enter Tryd.func63, Tryd.ntmps63
  go_wp2
  exact ⟨rfl, rfl, rfl⟩
theorem next_end (b : Nat) (t : List UInt8) (w : World) (h : D.Rd b t t.length w) : Calls Tryd.prog 60 #[.pointer (some ⟨b, 0, none⟩)] w (fun e w' => e = .panicked [{ v := .iface 24 (.int .i64 4), recovered := false }] ∧ w.grownBy w' (some b)) := by
  obtain ⟨c0, c1, fz⟩ := h.cells
  have hsz : (⟨t.toArray⟩ : ByteArray).size = t.length := D.size_l t
  have G := Lib.hid (D.gb_refl w (some b))
  go_enter Tryd.func60, Tryd.ntmps60
  go_wp2_with fail
  go_quiet (fail)
  go_wp2_with (go_at_call 63; refine (fail_any _ _).mono ?_; rintro e w' ⟨rfl, rfl⟩)
  exact ⟨rfl, rfl, D.gb_drewN G.out _⟩
theorem D.at_drop {t : List UInt8} {k : Nat} {c : UInt8} {r : List UInt8} (h : t.drop k = c :: r) : ∃ hk : k < t.length, t[k]'hk = c ∧ t.drop (k + 1) = r := by
  have hk : k < t.length := by
    rcases Nat.lt_or_ge k t.length with h1 | h1
    · exact h1
    · rw [List.drop_eq_nil_iff.2 h1] at h; cases h
  rw [List.drop_eq_getElem_cons hk] at h
  cases h
  exact ⟨hk, rfl, rfl⟩
def D.NextEnd (b : Nat) (t : List UInt8) (k : Nat) (c : UInt8) (w : World) (e : Ending) (w' : World) : Prop := e = .returned (.int .u8 c.toNat) ∧ D.Rd b t (k + 1) w' ∧ w.grownBy w' (some b)
theorem next_some (b : Nat) (t : List UInt8) (k : Nat) (c : UInt8) (r : List UInt8) (w : World) (hd : t.drop k = c :: r) (h : D.Rd b t k w) (hl : t.length ≤ 1000000000000000) : Calls Tryd.prog 60 #[.pointer (some ⟨b, 0, none⟩)] w (D.NextEnd b t k c w) := by
  obtain ⟨c0, c1, fz⟩ := h.cells
  obtain ⟨hk, hc, _⟩ := D.at_drop hd
  have hsz : (⟨t.toArray⟩ : ByteArray).size = t.length := D.size_l t
  have hkz : k < (⟨t.toArray⟩ : ByteArray).size := by omega
  have hb : ((⟨t.toArray⟩ : ByteArray)[k]'hkz).toNat = c.toNat := by rw [← hc]; rfl
  have R : Hid (∀ n m, D.NextEnd b t k c w (.returned (.int .u8 c.toNat)) (((w.drewN n).setCell ⟨b, 1, none⟩ (.int .i64 ((k : Int) + 1))).drewN m)) := fun n m =>
    ⟨rfl, D.Rd.put (k := k) (w := w.drewN n) h (k + 1), D.gb_drewN (D.gb_trans (D.gb_drewN (D.gb_refl _ _) n) (D.gb_set _ _ _ _)) m⟩
  have hne : ((k : Int) == t.length) = false := by simp; omega
  clear hd hc h
  go_enter Tryd.func60, Tryd.ntmps60
  go_wp2_with fail
  go_quiet (fail)
  go_wp2_with fail
  go_quiet (fail)
  go_wp2
  go_ret
  exact R.out _ _
def D.EndedEnd (x : Bool) (b : Nat) (t : List UInt8) (k : Nat) (w : World) (e : Ending) (w' : World) : Prop := e = .returned (.bool x) ∧ D.Rd b t k w' ∧ w.grownBy w' (some b)
theorem ended_end (b : Nat) (t : List UInt8) (w : World) (h : D.Rd b t t.length w) : Calls Tryd.prog 68 #[.pointer (some ⟨b, 0, none⟩)] w (D.EndedEnd true b t t.length w) := by
  obtain ⟨c0, c1, fz⟩ := h.cells
  have hsz : (⟨t.toArray⟩ : ByteArray).size = t.length := D.size_l t
  have R : Hid (∀ n, D.EndedEnd true b t t.length w (.returned (.bool true)) (w.drewN n)) := fun n => ⟨rfl, h, D.gb_drewN (D.gb_refl _ _) n⟩
  clear h
  go_enter Tryd.func68, Tryd.ntmps68
  go_wp2_with fail
  go_quiet (fail)
  go_wp2
  go_ret
  exact R.out _
theorem ended_some (b : Nat) (t : List UInt8) (k : Nat) (c : UInt8) (r : List UInt8) (w : World) (hd : t.drop k = c :: r) (h : D.Rd b t k w) : Calls Tryd.prog 68 #[.pointer (some ⟨b, 0, none⟩)] w (D.EndedEnd (c == 32) b t k w) := by
  obtain ⟨c0, c1, fz⟩ := h.cells
  obtain ⟨hk, hc, _⟩ := D.at_drop hd
  have hsz : (⟨t.toArray⟩ : ByteArray).size = t.length := D.size_l t
  have hkz : k < (⟨t.toArray⟩ : ByteArray).size := by omega
  have hb : ((⟨t.toArray⟩ : ByteArray)[k]'hkz).toNat = c.toNat := by rw [← hc]; rfl
  have R : Hid (∀ n, D.EndedEnd (c == 32) b t k w (.returned (.bool (c == 32))) (w.drewN n)) := fun n => ⟨rfl, h, D.gb_drewN (D.gb_refl _ _) n⟩
  have hne : ((k : Int) == t.length) = false := by simp; omega
  clear hd hc h
  cases hcc : (c == 32) with
  | true =>
    have h32 : ((c.toNat : Int) == 32) = true := by
      simp only [beq_iff_eq] at hcc ⊢
      subst hcc; rfl
    rw [hcc] at R
    clear hcc
    go_enter Tryd.func68, Tryd.ntmps68
    go_wp2_with fail
    go_quiet (fail)
    go_wp2
    go_ret
    exact R.out _
  | false =>
    have h32 : ((c.toNat : Int) == 32) = false := by
      simp only [beq_eq_false_iff_ne, ne_eq] at hcc ⊢
      intro e
      exact hcc (UInt8.toNat_inj.1 (by show c.toNat = 32; omega))
    rw [hcc] at R
    clear hcc
    go_enter Tryd.func68, Tryd.ntmps68
    go_wp2_with fail
    go_quiet (fail)
    go_wp2
    go_ret
    exact R.out _
end Go.Proofs.YtmjoijloflinnaaDoor
