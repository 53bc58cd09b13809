/- Encode of package runes: its contract. -/
import Derived.Test.YtnbijhmkhdjkiaaDoorRunesDec
import Derived.Laws.BytesArg
namespace Go.Proofs.YtnbijhmkhdjkiaaDoor
open Go.RowKit

def U.encB (r : Int) : ByteArray := ⟨(U.encL r).toArray⟩
theorem U.encB_data (r : Int) : (U.encB r).data.toList = U.encL r := by simp [U.encB]
theorem U.encB_no {r : Int} (h : U.isR r = false) : U.encB r = ⟨#[]⟩ ∧ U.encE r = 2 := by simp [U.encB, U.encL, U.encE, h]
theorem U.enc_of {r : Int} (h : U.isR r = true) (xs : List Int) (he : xs.map (fun n => n.toNat) = U.encN r.toNat) : strOfNums xs = U.encB r ∧ (0 : Int) = U.encE r := by
  refine ⟨?_, by simp [U.encE, h]⟩
  unfold strOfNums U.encB U.encL
  rw [if_pos h, ← he, List.map_map]
  rfl
theorem U.isR_bd {r : Int} (h : U.isR r = true) : 0 ≤ r ∧ r ≤ 1114111 := by
  simp [U.isR] at h; omega
theorem U.ret2e {a a' : ByteArray} {b b' : Int} (h : a = a' ∧ b = b') : Ending.returned (.tuple #[.string a, .int .i64 b]) = .returned (.tuple #[.string a', .int .i64 b']) := by
  obtain ⟨rfl, rfl⟩ := h; rfl
theorem conv_new (xs : List Int) (n : Nat) (hn : xs.length = n) (c : Nat) (W : World) :
    (convert 47 9 (.slice (some ⟨W.heap.size, 0, none⟩) n c)).run Tryd.prog (W.alloc (.cells (xs.map (Value.int .u8)).toArray 5)) = .ok (.string (strOfNums xs)) (W.alloc (.cells (xs.map (Value.int .u8)).toArray 5)) := by
  refine run_convert_bytes_arg _ 47 5 Tryd.underlying47 Tryd.underlying5 _ 0 n c xs hn (fun i hi => ?_) 9 Tryd.underlying9
  rw [Nat.zero_add, World.cell?_alloc_mark]
  have hi' : i < xs.length := by omega
  simp [List.getElem?_map, List.getElem?_eq_getElem hi']
theorem tab_alloc {w : World} (ht : U.Tab w) (n : Nat) (hn : n ≤ 4) (o : Obj) : (w.alloc o).cell? ⟨0, n, none⟩ = some (.int .i64 (U.base n)) :=
  (((Below.refl w.heap.size w).alloc (Nat.le_refl _) o).cell (p := ⟨_, _, none⟩) ht.sz).trans (ht.at_ hn)

set_option maxHeartbeats 400000 in
theorem encode_no (r : Int) (w : World) (h : U.isR r = false) :
    Calls Tryd.prog 21 #[.int .i64 r] w fun e w' => e = .returned (.tuple #[.string (U.encB r), .int .i64 (U.encE r)]) ∧ Below w.heap.size w w' := by
  have H := Lib.hid (U.encB_no h)
  go_enter Tryd.func21, Tryd.ntmps21
  go_wp2_with (first | (go_at_call 33; refine (isRune_any _ _).mono ?_; rintro e w' ⟨rfl, rfl⟩))
  go_ret2
  exact ⟨U.ret2e ⟨H.out.1.symm, H.out.2.symm⟩, Below.refl _ _⟩
set_option maxHeartbeats 400000 in
theorem encode1 (r : Int) (w : World) (h : U.isR r = true) (hn : U.wid r = 1) (h0 : 0 ≤ r) (h1 : r < 128) (ht : U.Tab w) :
    Calls Tryd.prog 21 #[.int .i64 r] w fun e w' => e = .returned (.tuple #[.string (U.encB r), .int .i64 (U.encE r)]) ∧ Below w.heap.size w w' := by
  have H := Lib.hid (U.enc_of h [r] (by unfold U.encN; rw [if_pos (by omega)]; simp))
  have hca : ∀ o : Obj, (w.alloc o).cell? ⟨0, 1, none⟩ = some (.int .i64 0) := fun o => tab_alloc ht 1 (by omega) o
  have e4 := U.or0 r (by omega) (by omega)
  have e5 : r % 256 = r := by omega
  have hcv := conv_new [r] 1 rfl 1 w
  simp only [List.map_cons, List.map_nil] at hcv
  go_enter Tryd.func21, Tryd.ntmps21
  have hmk : ∀ w, (Instr.makeSlice 47 (.int .i64 1) (.int .i64 1)).run Tryd.prog w = .ok (.slice (some ⟨w.heap.size, 0, none⟩) 1 1) (w.alloc (.cells #[.int .u8 0] 5)) := fun _ => by kernel_rfl
  go_wp2_with (first | (go_at_call 33; refine (isRune_any _ _).mono ?_; rintro e w' ⟨rfl, rfl⟩) | (go_at_call 34; refine (width_any _ _).mono ?_; rintro e w' ⟨rfl, rfl⟩))
  refine wp_loop_rounds 1 ?_
  rw [rounds_succ]
  go_wp2
  go_ret2
  exact ⟨U.ret2e H.out, (Below.refl _ _).alloc (Nat.le_refl _) _⟩
set_option maxHeartbeats 400000 in
theorem encode2 (r : Int) (w : World) (h : U.isR r = true) (hn : U.wid r = 2) (h0 : 128 ≤ r) (h1 : r < 2048) (ht : U.Tab w) :
    Calls Tryd.prog 21 #[.int .i64 r] w fun e w' => e = .returned (.tuple #[.string (U.encB r), .int .i64 (U.encE r)]) ∧ Below w.heap.size w w' := by
  have H := Lib.hid (U.enc_of h [192 + r / 64, 128 + r % 64] (by unfold U.encN; rw [if_neg (by omega), if_pos (by omega)]; simp; omega))
  have hca : ∀ o : Obj, (w.alloc o).cell? ⟨0, 2, none⟩ = some (.int .i64 192) := fun o => tab_alloc ht 2 (by omega) o
  have e1 := U.and63 r (by omega) (by omega)
  have e2 := U.or128 (r % 64) (by omega) (by omega)
  have e3 : (128 + r % 64) % 256 = 128 + r % 64 := by omega
  have e4 := U.or192 (r / 64) (by omega) (by omega)
  have e5 : (192 + r / 64) % 256 = 192 + r / 64 := by omega
  have hcv := conv_new [192 + r / 64, 128 + r % 64] 2 rfl 2 w
  simp only [List.map_cons, List.map_nil] at hcv
  go_enter Tryd.func21, Tryd.ntmps21
  have hmk : ∀ w, (Instr.makeSlice 47 (.int .i64 2) (.int .i64 2)).run Tryd.prog w = .ok (.slice (some ⟨w.heap.size, 0, none⟩) 2 2) (w.alloc (.cells #[.int .u8 0, .int .u8 0] 5)) := fun _ => by kernel_rfl
  go_wp2_with (first | (go_at_call 33; refine (isRune_any _ _).mono ?_; rintro e w' ⟨rfl, rfl⟩) | (go_at_call 34; refine (width_any _ _).mono ?_; rintro e w' ⟨rfl, rfl⟩))
  refine wp_loop_rounds 2 ?_
  rw [rounds_succ]
  go_wp2
  rw [rounds_succ]
  go_wp2
  go_ret2
  exact ⟨U.ret2e H.out, (Below.refl _ _).alloc (Nat.le_refl _) _⟩
set_option maxHeartbeats 400000 in
theorem encode3 (r : Int) (w : World) (h : U.isR r = true) (hn : U.wid r = 3) (h0 : 2048 ≤ r) (h1 : r < 65536) (ht : U.Tab w) :
    Calls Tryd.prog 21 #[.int .i64 r] w fun e w' => e = .returned (.tuple #[.string (U.encB r), .int .i64 (U.encE r)]) ∧ Below w.heap.size w w' := by
  have H := Lib.hid (U.enc_of h [224 + r / 64 / 64, 128 + r / 64 % 64, 128 + r % 64] (by unfold U.encN; rw [if_neg (by omega), if_neg (by omega), if_pos (by omega)]; simp; omega))
  have hca : ∀ o : Obj, (w.alloc o).cell? ⟨0, 3, none⟩ = some (.int .i64 224) := fun o => tab_alloc ht 3 (by omega) o
  have e1 := U.and63 r (by omega) (by omega)
  have e2 := U.or128 (r % 64) (by omega) (by omega)
  have e3 : (128 + r % 64) % 256 = 128 + r % 64 := by omega
  have f1 := U.and63 (r / 64) (by omega) (by omega)
  have f2 := U.or128 (r / 64 % 64) (by omega) (by omega)
  have f3 : (128 + r / 64 % 64) % 256 = 128 + r / 64 % 64 := by omega
  have e4 := U.or224 (r / 64 / 64) (by omega) (by omega)
  have e5 : (224 + r / 64 / 64) % 256 = 224 + r / 64 / 64 := by omega
  have hcv := conv_new [224 + r / 64 / 64, 128 + r / 64 % 64, 128 + r % 64] 3 rfl 3 w
  simp only [List.map_cons, List.map_nil] at hcv
  go_enter Tryd.func21, Tryd.ntmps21
  have hmk : ∀ w, (Instr.makeSlice 47 (.int .i64 3) (.int .i64 3)).run Tryd.prog w = .ok (.slice (some ⟨w.heap.size, 0, none⟩) 3 3) (w.alloc (.cells #[.int .u8 0, .int .u8 0, .int .u8 0] 5)) := fun _ => by kernel_rfl
  go_wp2_with (first | (go_at_call 33; refine (isRune_any _ _).mono ?_; rintro e w' ⟨rfl, rfl⟩) | (go_at_call 34; refine (width_any _ _).mono ?_; rintro e w' ⟨rfl, rfl⟩))
  refine wp_loop_rounds 3 ?_
  rw [rounds_succ]
  go_wp2
  rw [rounds_succ]
  go_wp2
  rw [rounds_succ]
  go_wp2
  go_ret2
  exact ⟨U.ret2e H.out, (Below.refl _ _).alloc (Nat.le_refl _) _⟩
set_option maxHeartbeats 400000 in
theorem encode4 (r : Int) (w : World) (h : U.isR r = true) (hn : U.wid r = 4) (h0 : 65536 ≤ r) (h1 : r ≤ 1114111) (ht : U.Tab w) :
    Calls Tryd.prog 21 #[.int .i64 r] w fun e w' => e = .returned (.tuple #[.string (U.encB r), .int .i64 (U.encE r)]) ∧ Below w.heap.size w w' := by
  have H := Lib.hid (U.enc_of h [240 + r / 64 / 64 / 64, 128 + r / 64 / 64 % 64, 128 + r / 64 % 64, 128 + r % 64] (by unfold U.encN; rw [if_neg (by omega), if_neg (by omega), if_neg (by omega)]; simp; omega))
  have hca : ∀ o : Obj, (w.alloc o).cell? ⟨0, 4, none⟩ = some (.int .i64 240) := fun o => tab_alloc ht 4 (by omega) o
  have e1 := U.and63 r (by omega) (by omega)
  have e2 := U.or128 (r % 64) (by omega) (by omega)
  have e3 : (128 + r % 64) % 256 = 128 + r % 64 := by omega
  have f1 := U.and63 (r / 64) (by omega) (by omega)
  have f2 := U.or128 (r / 64 % 64) (by omega) (by omega)
  have f3 : (128 + r / 64 % 64) % 256 = 128 + r / 64 % 64 := by omega
  have g1 := U.and63 (r / 64 / 64) (by omega) (by omega)
  have g2 := U.or128 (r / 64 / 64 % 64) (by omega) (by omega)
  have g3 : (128 + r / 64 / 64 % 64) % 256 = 128 + r / 64 / 64 % 64 := by omega
  have e4 := U.or240 (r / 64 / 64 / 64) (by omega) (by omega)
  have e5 : (240 + r / 64 / 64 / 64) % 256 = 240 + r / 64 / 64 / 64 := by omega
  have hcv := conv_new [240 + r / 64 / 64 / 64, 128 + r / 64 / 64 % 64, 128 + r / 64 % 64, 128 + r % 64] 4 rfl 4 w
  simp only [List.map_cons, List.map_nil] at hcv
  go_enter Tryd.func21, Tryd.ntmps21
  have hmk : ∀ w, (Instr.makeSlice 47 (.int .i64 4) (.int .i64 4)).run Tryd.prog w = .ok (.slice (some ⟨w.heap.size, 0, none⟩) 4 4) (w.alloc (.cells #[.int .u8 0, .int .u8 0, .int .u8 0, .int .u8 0] 5)) := fun _ => by kernel_rfl
  go_wp2_with (first | (go_at_call 33; refine (isRune_any _ _).mono ?_; rintro e w' ⟨rfl, rfl⟩) | (go_at_call 34; refine (width_any _ _).mono ?_; rintro e w' ⟨rfl, rfl⟩))
  refine wp_loop_rounds 4 ?_
  rw [rounds_succ]
  go_wp2
  rw [rounds_succ]
  go_wp2
  rw [rounds_succ]
  go_wp2
  rw [rounds_succ]
  go_wp2
  go_ret2
  exact ⟨U.ret2e H.out, (Below.refl _ _).alloc (Nat.le_refl _) _⟩
theorem encode_any (r : Int) (w : World) (ht : U.Tab w) :
    Calls Tryd.prog 21 #[.int .i64 r] w fun e w' => e = .returned (.tuple #[.string (U.encB r), .int .i64 (U.encE r)]) ∧ Below w.heap.size w w' := by
  cases h : U.isR r with
  | false => exact encode_no r w h
  | true =>
    have hb := U.isR_bd h
    by_cases h1 : r < 128
    · exact encode1 r w h (by unfold U.wid; rw [if_pos h1]) hb.1 h1 ht
    · by_cases h2 : r < 2048
      · exact encode2 r w h (by unfold U.wid; rw [if_neg h1, if_pos h2]) (by omega) h2 ht
      · by_cases h3 : r < 65536
        · exact encode3 r w h (by unfold U.wid; rw [if_neg h1, if_neg h2, if_pos h3]) (by omega) h3 ht
        · exact encode4 r w h (by unfold U.wid; rw [if_neg h1, if_neg h2, if_neg h3]) (by omega) hb.2 ht
end Go.Proofs.YtnbijhmkhdjkiaaDoor
