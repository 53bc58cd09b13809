/- The contracts of package delta's reader: digit. -/
import Derived.Test.YtmjoijloflinnaaDoorDeltaRd
import Derived.RegionDies
namespace Go.Proofs.YtmjoijloflinnaaDoor
open Go.RowKit

set_option maxRecDepth 100000 in
theorem D.half10 (c : UInt8) : Lib.indexByte [48, 49, 50, 51, 52, 53, 54, 55, 56, 57] c = if D.half c.toNat < 10 then (D.half c.toNat : Int) else -1 := by
  have key : ∀ n : Fin 256, Lib.indexByte [48, 49, 50, 51, 52, 53, 54, 55, 56, 57] (UInt8.ofNat n.val) = if D.half n.val < 10 then (D.half n.val : Int) else -1 := by decide
  have := key ⟨c.toNat, UInt8.toNat_lt c⟩
  simpa using this
set_option maxRecDepth 100000 in
theorem D.half16 (c : UInt8) : Lib.indexByte [48, 49, 50, 51, 52, 53, 54, 55, 56, 57, 97, 98, 99, 100, 101, 102] c = if D.half c.toNat < 16 then (D.half c.toNat : Int) else -1 := by
  have key : ∀ n : Fin 256, Lib.indexByte [48, 49, 50, 51, 52, 53, 54, 55, 56, 57, 97, 98, 99, 100, 101, 102] (UInt8.ofNat n.val) = if D.half n.val < 16 then (D.half n.val : Int) else -1 := by decide
  have := key ⟨c.toNat, UInt8.toNat_lt c⟩
  simpa using this
theorem D.indexByte' (s : ByteArray) (c : Int) (w : World) : Calls Tryd.prog 75 #[.string s, .int .u8 c] w fun e w' => e = .returned (.int .i64 (Lib.indexByte s.data.toList c.toNat.toUInt8)) ∧ w = w' :=
  (D.indexByte s c w).mono fun _ _ h => ⟨h.1, h.2.symm⟩
def D.DigEnd2 (v : Nat) (b : Nat) (t : List UInt8) (k : Nat) (w : World) (e : Ending) (w' : World) : Prop := e = .returned (.int .i64 v) ∧ D.Rd b t (k + 1) w' ∧ w.grownBy w' (some b)
set_option maxHeartbeats 1000000 in
theorem digit10_ok (b : Nat) (t : List UInt8) (k : Nat) (c : UInt8) (r : List UInt8) (w : World) (hd : t.drop k = c :: r) (h : D.Rd b t k w) (hl : t.length ≤ 1000000000000000) (hv : D.half c.toNat < 10) :
    Calls Tryd.prog 69 #[.pointer (some ⟨b, 0, none⟩), .int .i64 10] w (D.DigEnd2 (D.half c.toNat) b t k w) := by
  have Hn : Hid (Calls Tryd.prog 60 #[.pointer (some ⟨b, 0, none⟩)] w.drew (D.NextEnd b t k c w.drew)) := next_some b t k c r w.drew hd h hl
  have hI := D.half10 c
  rw [if_pos hv] at hI
  generalize D.half c.toNat = v at hI
  clear hd h hv
  go_enter Tryd.func69, Tryd.ntmps69
  go_wp2_with fail
  go_region_with (first | (go_at_call 60; refine Hn.out.mono ?_; rintro e w2 ⟨rfl, hr2, hg2⟩) | (go_at_call 75; refine (D.indexByte' _ _ _).mono ?_; rintro e w3 ⟨rfl, rfl⟩))
  all_goals
    have R : Hid (D.DigEnd2 v b t k w (.returned (.int .i64 v)) w2) := ⟨rfl, hr2, D.gb_trans (D.gb_drewN (D.gb_refl w _) 1) hg2⟩
    clear hr2 hg2
    go_wp2
    go_ret
    exact R.out
set_option maxHeartbeats 1000000 in
theorem digit10_bad (b : Nat) (t : List UInt8) (k : Nat) (c : UInt8) (r : List UInt8) (w : World) (hd : t.drop k = c :: r) (h : D.Rd b t k w) (hl : t.length ≤ 1000000000000000) (hv : ¬ D.half c.toNat < 10) :
    Calls Tryd.prog 69 #[.pointer (some ⟨b, 0, none⟩), .int .i64 10] w (fun e w' => e = .panicked [{ v := .iface 24 (.int .i64 4), recovered := false }] ∧ w.grownBy w' (some b)) := by
  have Hn : Hid (Calls Tryd.prog 60 #[.pointer (some ⟨b, 0, none⟩)] w.drew (D.NextEnd b t k c w.drew)) := next_some b t k c r w.drew hd h hl
  have hI := D.half10 c
  rw [if_neg hv] at hI
  clear hd h hv
  go_enter Tryd.func69, Tryd.ntmps69
  go_wp2_with fail
  go_region_with (first | (go_at_call 60; refine Hn.out.mono ?_; rintro e w2 ⟨rfl, hr2, hg2⟩) | (go_at_call 75; refine (D.indexByte' _ _ _).mono ?_; rintro e w3 ⟨rfl, rfl⟩))
  all_goals
    have R := Lib.hid (D.gb_trans (D.gb_drewN (D.gb_refl w (some b)) 1) hg2)
    clear hr2 hg2
    go_wp2_with (go_at_call 63; refine (fail_any _ _).mono ?_; rintro e w' ⟨rfl, rfl⟩)
    exact ⟨rfl, rfl, R.out⟩
set_option maxHeartbeats 1000000 in
theorem digit10_end (b : Nat) (t : List UInt8) (w : World) (h : D.Rd b t t.length w) :
    Calls Tryd.prog 69 #[.pointer (some ⟨b, 0, none⟩), .int .i64 10] w (fun e w' => e = .panicked [{ v := .iface 24 (.int .i64 4), recovered := false }] ∧ w.grownBy w' (some b)) := by
  have Hn : Hid (Calls Tryd.prog 60 #[.pointer (some ⟨b, 0, none⟩)] w.drew (fun e w' => e = .panicked [{ v := .iface 24 (.int .i64 4), recovered := false }] ∧ w.drew.grownBy w' (some b))) := next_end b t w.drew h
  clear h
  go_enter Tryd.func69, Tryd.ntmps69
  go_wp2_with fail
  go_region_dies
  all_goals
    refine Hn.out.mono ?_
    rintro e w2 ⟨rfl, hg2⟩
    exact ⟨rfl, rfl, D.gb_trans (D.gb_drewN (D.gb_refl w (some b)) 1) hg2⟩
set_option maxHeartbeats 1000000 in
theorem digit16_ok (b : Nat) (t : List UInt8) (k : Nat) (c : UInt8) (r : List UInt8) (w : World) (hd : t.drop k = c :: r) (h : D.Rd b t k w) (hl : t.length ≤ 1000000000000000) (hv : D.half c.toNat < 16) :
    Calls Tryd.prog 69 #[.pointer (some ⟨b, 0, none⟩), .int .i64 16] w (D.DigEnd2 (D.half c.toNat) b t k w) := by
  have Hn : Hid (Calls Tryd.prog 60 #[.pointer (some ⟨b, 0, none⟩)] w.drew (D.NextEnd b t k c w.drew)) := next_some b t k c r w.drew hd h hl
  have hI := D.half16 c
  rw [if_pos hv] at hI
  generalize D.half c.toNat = v at hI
  clear hd h hv
  go_enter Tryd.func69, Tryd.ntmps69
  go_wp2_with fail
  go_region_with (first | (go_at_call 60; refine Hn.out.mono ?_; rintro e w2 ⟨rfl, hr2, hg2⟩) | (go_at_call 75; refine (D.indexByte' _ _ _).mono ?_; rintro e w3 ⟨rfl, rfl⟩))
  all_goals
    have R : Hid (D.DigEnd2 v b t k w (.returned (.int .i64 v)) w2) := ⟨rfl, hr2, D.gb_trans (D.gb_drewN (D.gb_refl w _) 1) hg2⟩
    clear hr2 hg2
    go_wp2
    go_ret
    exact R.out
set_option maxHeartbeats 1000000 in
theorem digit16_bad (b : Nat) (t : List UInt8) (k : Nat) (c : UInt8) (r : List UInt8) (w : World) (hd : t.drop k = c :: r) (h : D.Rd b t k w) (hl : t.length ≤ 1000000000000000) (hv : ¬ D.half c.toNat < 16) :
    Calls Tryd.prog 69 #[.pointer (some ⟨b, 0, none⟩), .int .i64 16] w (fun e w' => e = .panicked [{ v := .iface 24 (.int .i64 4), recovered := false }] ∧ w.grownBy w' (some b)) := by
  have Hn : Hid (Calls Tryd.prog 60 #[.pointer (some ⟨b, 0, none⟩)] w.drew (D.NextEnd b t k c w.drew)) := next_some b t k c r w.drew hd h hl
  have hI := D.half16 c
  rw [if_neg hv] at hI
  clear hd h hv
  go_enter Tryd.func69, Tryd.ntmps69
  go_wp2_with fail
  go_region_with (first | (go_at_call 60; refine Hn.out.mono ?_; rintro e w2 ⟨rfl, hr2, hg2⟩) | (go_at_call 75; refine (D.indexByte' _ _ _).mono ?_; rintro e w3 ⟨rfl, rfl⟩))
  all_goals
    have R := Lib.hid (D.gb_trans (D.gb_drewN (D.gb_refl w (some b)) 1) hg2)
    clear hr2 hg2
    go_wp2_with (go_at_call 63; refine (fail_any _ _).mono ?_; rintro e w' ⟨rfl, rfl⟩)
    exact ⟨rfl, rfl, R.out⟩
set_option maxHeartbeats 1000000 in
theorem digit16_end (b : Nat) (t : List UInt8) (w : World) (h : D.Rd b t t.length w) :
    Calls Tryd.prog 69 #[.pointer (some ⟨b, 0, none⟩), .int .i64 16] w (fun e w' => e = .panicked [{ v := .iface 24 (.int .i64 4), recovered := false }] ∧ w.grownBy w' (some b)) := by
  have Hn : Hid (Calls Tryd.prog 60 #[.pointer (some ⟨b, 0, none⟩)] w.drew (fun e w' => e = .panicked [{ v := .iface 24 (.int .i64 4), recovered := false }] ∧ w.drew.grownBy w' (some b))) := next_end b t w.drew h
  clear h
  go_enter Tryd.func69, Tryd.ntmps69
  go_wp2_with fail
  go_region_dies
  all_goals
    refine Hn.out.mono ?_
    rintro e w2 ⟨rfl, hg2⟩
    exact ⟨rfl, rfl, D.gb_trans (D.gb_drewN (D.gb_refl w (some b)) 1) hg2⟩
end Go.Proofs.YtmjoijloflinnaaDoor
