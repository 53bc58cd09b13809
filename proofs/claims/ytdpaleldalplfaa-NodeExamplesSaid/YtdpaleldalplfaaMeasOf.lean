/- Contracts of measure.Of, RunesBefore, LineOf. -/
import Derived.Test.YtdpaleldalplfaaMeasUnit
namespace Go.Proofs.Ytdpaleldalplfaa
open Go.RowKit Go.Shelf

/-- A measure, as a value. -/
def M.val (b r l : Int) : Value := .agg #[.int .i64 b, .int .i64 r, .int .i64 l]
theorem M.bcell {W w1 : World} (hb : Below W.heap.size W w1) : (∀ b o, b < W.heap.size → w1.cell? ⟨b, o, none⟩ = W.cell? ⟨b, o, none⟩) ∧ (∀ b o, b < W.heap.size → w1.frozen? ⟨b, o, none⟩ = W.frozen? ⟨b, o, none⟩) :=
  ⟨fun b o h => hb.cell (p := ⟨b, o, none⟩) h, fun b o h => hb.frozen (p := ⟨b, o, none⟩) h⟩

set_option maxHeartbeats 1000000 in
theorem toMeasure_any (b r l : Int) (w : World) :
    Calls Try.prog 68 #[.agg #[.int .i64 b, .int .i64 r, .int .i64 l]] w fun e w' => e = .returned (.agg #[.int .i64 b, .int .i64 r, .int .i64 l]) ∧ Below w.heap.size w w' := by
  go_enter Try.func68, Try.ntmps68
  go_wp2
  exact bodyPost_ret (v := .agg #[.int .i64 b, .int .i64 r, .int .i64 l]) (by simp [results, Try.results68, go_sem]) rfl ⟨rfl, ((Below.refl _ _).alloc (Nat.le_refl _) _).alloc (by simp) _⟩
theorem countAny_any (s : ByteArray) (w : World) (hs : s.size < 4611686018427387904) :
    Calls Try.prog 64 #[.string s, .func (.func 65) #[] #[]] w fun e w' => e = .returned (.int .i64 (s.size : Int)) ∧ w = w' := by
  have h := count_any 65 s _ w hs M.enters_any (M.asks_any s)
  rw [M.num_any] at h
  have e : ((s.size + 1 : Nat) : Int) - 1 = s.size := by omega
  rwa [e] at h
theorem countBnd_any (s : ByteArray) (w : World) (hs : s.size < 4611686018427387904) :
    Calls Try.prog 64 #[.string s, .func (.func 66) #[] #[]] w fun e w' => e = .returned (.int .i64 (U.cnt s.data.toList : Int)) ∧ w = w' := by
  have h := count_any 66 s _ w hs M.enters_bnd (M.asks_bnd s)
  rw [show s.size = s.data.toList.length from (U.len s).symm, M.num_bnd_all] at h
  have e : ((U.cnt s.data.toList + 1 : Nat) : Int) - 1 = U.cnt s.data.toList := by omega
  rwa [e] at h
theorem countLb_any (s : ByteArray) (w : World) (hs : s.size < 4611686018427387904) :
    Calls Try.prog 64 #[.string s, .func (.func 67) #[] #[]] w fun e w' => e = .returned (.int .i64 (M.lf s.data.toList : Int)) ∧ w = w' := by
  have h := count_any 67 s _ w hs M.enters_lb (M.asks_lb s hs)
  rw [show s.size = s.data.toList.length from (U.len s).symm, M.num_lb_all] at h
  have e : ((M.lf s.data.toList + 1 : Nat) : Int) - 1 = M.lf s.data.toList := by omega
  rwa [e] at h
set_option maxHeartbeats 1000000 in
theorem of_any (s : ByteArray) (w : World) (hs : s.size < 4611686018427387904) :
    Calls Try.prog 39 #[.string s] w fun e w' => e = .returned (.agg #[.int .i64 (s.size : Int), .int .i64 (U.cnt s.data.toList : Int), .int .i64 (M.lf s.data.toList : Int)]) ∧ Below w.heap.size w w' := by
  have Hs := Lib.hid hs
  clear hs
  go_enter Try.func39, Try.ntmps39
  go_wp2_with fail
  refine (countAny_any _ _ Hs.out).mono ?_
  rintro e w' ⟨rfl, rfl⟩
  go_wp2_with fail
  refine (countBnd_any _ _ Hs.out).mono ?_
  rintro e w' ⟨rfl, rfl⟩
  go_wp2_with fail
  refine (countLb_any _ _ Hs.out).mono ?_
  rintro e w' ⟨rfl, rfl⟩
  go_wp2_with fail
  refine (toMeasure_any _ _ _ _).mono ?_
  rintro e w' ⟨rfl, hb⟩
  obtain ⟨hc, hf⟩ := M.bcell hb
  have hz : w.heap.size + 1 ≤ w'.heap.size := by have := hb.size; simp at this; omega
  go_wp2
  exact bodyPost_ret (v := .agg #[.int .i64 (s.size : Int), .int .i64 (U.cnt s.data.toList : Int), .int .i64 (M.lf s.data.toList : Int)]) (by simp [results, Try.results39, go_sem, hc]) rfl
    ⟨rfl, (((((Below.refl w.heap.size w).alloc (Nat.le_refl _) _).trans (hb.mono (by simp))).setCell (p := ⟨w.heap.size, 0, none⟩) (Nat.le_refl _) _).setCell (p := ⟨w.heap.size, 1, none⟩) (Nat.le_refl _) _).setCell (p := ⟨w.heap.size, 2, none⟩) (Nat.le_refl _) _⟩
end Go.Proofs.Ytdpaleldalplfaa
