/- The contract of package delta's appendPiece. -/
import Derived.Test.YtmjoijloflinnaaDoorDeltaLib
import Derived.Test.YtmjoijloflinnaaDoorDeltaAdd
import Derived.Test.YtmjoijloflinnaaDoorDeltaText
import Derived.Lib.AppendIntMem
namespace Go.Proofs.YtmjoijloflinnaaDoor
open Go.RowKit

theorem D.digs_itoa (n : Nat) : Lib.itoa (n : Int) = D.digs n := by
  rw [Lib.itoa_nonneg]
  induction n using Nat.strongRecOn with
  | _ n ih =>
    by_cases h : n < 10
    · rw [Lib.decDigits, dif_pos h, D.digs_lt h]
    · rw [Lib.decDigits, dif_neg h, D.digs_ge h, ih (n / 10) (by omega)]
/-- The library's table of powers of ten lies as its text lays it, whatever is done from block B on. -/
def D.Pow (B : Nat) (w : World) : Prop := Lib.TabBelow Tryd.prog B w D.tab .u64 Lib.pow10Tab
theorem D.Pow.on {B : Nat} {w w' : World} (h : D.Pow B w) (hb : Below B w w') : D.Pow B w' := Lib.TabBelow.on h hb
theorem D.Pow.mono {B B' : Nat} {w : World} (h : D.Pow B w) (hB : B ≤ B') : D.Pow B' w := fun w' hb => h w' (hb.mono hB)
/-- A row of bytes of the call's own behind a call. -/
def D.PieceEnd (B : Nat) (T : List UInt8) (w : World) (e : Ending) (w' : World) : Prop := ∃ v, e = .returned v ∧ w'.ownsRow B 5 1 v T.length (D.bytesL T) ∧ Below B w w'
theorem appendInt_digs (B : Nat) (T : List UInt8) (n : Nat) (v : Value) (w : World) (hn : n ≤ 1000000000) (ho : w.ownsRow B 5 1 v T.length (D.bytesL T)) (hB : B ≤ w.heap.size) (hT : T.length ≤ 100000000) (hp : D.Pow B w) :
    Calls Tryd.prog 53 #[v, .int .i64 n, .int .i64 10] w (D.PieceEnd B (T ++ D.digs n) w) := by
  refine (D.appendInt B T.length n (by omega) (by omega) v _ w ho hB (by omega) _ rfl hp).mono ?_
  rintro e w' ⟨v', rfl, h1, h2, _⟩
  rw [D.digs_itoa] at h1
  refine ⟨v', rfl, ?_, h2⟩
  rw [List.length_append, D.bytesL_append]
  exact h1
set_option maxRecDepth 100000 in
set_option maxHeartbeats 2000000 in
theorem appendPiece_R (B : Nat) (T : List UInt8) (n : Nat) (v : Value) (w : World) (hn : n ≤ 1000000000) (ho : w.ownsRow B 5 1 v T.length (D.bytesL T)) (hB : B ≤ w.heap.size) (hT : T.length ≤ 10000000) (hp : D.Pow B w) :
    Calls Tryd.prog 45 #[v, .agg #[.int .u8 1, .int .i64 n, .string ⟨#[]⟩]] w (D.PieceEnd B (T ++ D.form1 (.R n)) w) := by
  obtain ⟨ib, hb, hb0, hb1, hb2⟩ := info_parts Tryd.infoByte
  have Hb := Lib.hid (And.intro hb (And.intro hb0 (And.intro hb1 hb2)))
  clear hb hb0 hb1 hb2
  obtain ⟨tb, tc, hv⟩ := D.slice_of_own ho
  subst hv
  have hne := Lib.hid (D.own_ne ho)
  have HO := Lib.hid (ho.alloc (.cells #[.int .u8 1, .int .i64 n, .string ⟨#[]⟩] 38))
  have Hp := Lib.hid hp
  have hfm : Hid (T ++ D.form1 (.R n) = (T ++ [61]) ++ D.digs n) := by show _ = _; rw [D.form1, List.append_assoc]; rfl
  have p1 : (w.alloc (.cells #[.int .u8 1, .int .i64 n, .string ⟨#[]⟩] 38)).cell? ⟨w.heap.size, 1, none⟩ = some (.int .i64 n) := World.cell?_alloc_new _ _ _ _
  have p2 := D.cell_old p1
  have hwB : Hid (Below B w (w.alloc (.cells #[.int .u8 1, .int .i64 n, .string ⟨#[]⟩] 38))) := (Below.refl _ _).alloc hB _
  have hlt : w.heap.size < (w.alloc (.cells #[.int .u8 1, .int .i64 n, .string ⟨#[]⟩] 38)).heap.size := by simp
  have hlt := Lib.hid hlt
  clear ho hp
  go_enter Tryd.func45, Tryd.ntmps45
  go_wp2_with fail
  obtain ⟨H, hH⟩ : ∃ H, Hid (w.heap.size = H) := ⟨_, rfl⟩
  generalize w.alloc (.cells #[.int .u8 1, .int .i64 n, .string ⟨#[]⟩] 38) = W1 at HO p1 p2 hwB hlt ⊢
  have hBW : B ≤ W1.heap.size := Nat.le_trans hB hwB.out.size
  have hlt := hlt.out
  go_region_law (first
    | (refine step_append_lies _ rfl (.tmp 10) (.tmp 11) 62 rfl B 5 ib (.int .u8 0) 1 1 Tryd.underlying62 Hb.out.1 Hb.out.2.1 Hb.out.2.2.1 Hb.out.2.2.2 rfl (by decide) (.slice tb T.length tc) T.length (D.bytesL T) rfl ?own _ 1 1 [.int .u8 61] rfl rfl ?news (fun u hu => by simp at hu; rw [hu]; rfl) (by decide) (by unfold maxLen; omega) (by omega) ?base _ rfl ?_
       case own => repeat (first | exact HO.out | refine World.ownsRow.drew ?_ | refine World.ownsRow.alloc ?_ _)
       case news => exact D.news _ _ _
       case base => first | omega | (simp; omega)
       intro g cp w1 hO1 hg1 hat1 hlt1
       have hL1 : Below B w w1 := by
         refine Below.grown ?_ hg1 ?_ (fun k e => (HO.out.lt k e).1)
         · repeat (first | exact hwB.out | refine Below.drew ?_ | refine Below.alloc ?_ (by first | omega | (simp; omega)) _)
         · first | omega | (simp; omega)
       have p1 : w1.cell? ⟨w.heap.size, 1, none⟩ = some (.int .i64 n) := by
         refine (World.cell?_of_block (hg1.block w.heap.size ?_ hne.out)).trans ?_
         · first | omega | (simp; omega)
         · first | exact p1 | exact p2 _
       clear hg1 hat1 hlt1)
    | (go_simp; go_at_call 53; refine (appendInt_digs B (T ++ [61]) n (.slice (some ⟨g, 0, none⟩) (T.length + 1) cp) _ hn ?own ?hB ?hT ?hp).mono ?_
       case own =>
         have hO2 : w1.ownsRow B 5 1 (.slice (some ⟨g, 0, none⟩) (T.length + 1) cp) (T ++ [61]).length (D.bytesL (T ++ [61])) := by rw [List.length_append, D.bytesL_append]; exact hO1
         repeat (first | exact hO2 | refine World.ownsRow.drew ?_)
       case hB => have := hL1.size; first | omega | (simp; omega)
       case hT => rw [List.length_append]; simp; omega
       case hp => exact Hp.out.on (by repeat (first | exact hL1 | refine Below.drew ?_))
       rintro e w2 ⟨v2, rfl, hO2, hb2⟩
       have hR : D.PieceEnd B (T ++ D.form1 (.R n)) w (.returned v2) w2 := by
         rw [hfm.out]
         refine ⟨v2, rfl, hO2, Below.trans ?_ hb2⟩
         repeat (first | exact hL1 | refine Below.drew ?_)
       have hR := Lib.hid hR
       clear hO2 hb2))
  all_goals
    go_wp2
    go_ret
    exact hR.out
set_option maxRecDepth 100000 in
set_option maxHeartbeats 2000000 in
theorem appendPiece_D (B : Nat) (T : List UInt8) (n : Nat) (v : Value) (w : World) (hn : n ≤ 1000000000) (ho : w.ownsRow B 5 1 v T.length (D.bytesL T)) (hB : B ≤ w.heap.size) (hT : T.length ≤ 10000000) (hp : D.Pow B w) :
    Calls Tryd.prog 45 #[v, .agg #[.int .u8 3, .int .i64 n, .string ⟨#[]⟩]] w (D.PieceEnd B (T ++ D.form1 (.D n)) w) := by
  obtain ⟨ib, hb, hb0, hb1, hb2⟩ := info_parts Tryd.infoByte
  have Hb := Lib.hid (And.intro hb (And.intro hb0 (And.intro hb1 hb2)))
  clear hb hb0 hb1 hb2
  obtain ⟨tb, tc, hv⟩ := D.slice_of_own ho
  subst hv
  have hne := Lib.hid (D.own_ne ho)
  have HO := Lib.hid (ho.alloc (.cells #[.int .u8 3, .int .i64 n, .string ⟨#[]⟩] 38))
  have Hp := Lib.hid hp
  have hfm : Hid (T ++ D.form1 (.D n) = (T ++ [45]) ++ D.digs n) := by show _ = _; rw [D.form1, List.append_assoc]; rfl
  have p1 : (w.alloc (.cells #[.int .u8 3, .int .i64 n, .string ⟨#[]⟩] 38)).cell? ⟨w.heap.size, 1, none⟩ = some (.int .i64 n) := World.cell?_alloc_new _ _ _ _
  have p2 := D.cell_old p1
  have hwB : Hid (Below B w (w.alloc (.cells #[.int .u8 3, .int .i64 n, .string ⟨#[]⟩] 38))) := (Below.refl _ _).alloc hB _
  have hlt : w.heap.size < (w.alloc (.cells #[.int .u8 3, .int .i64 n, .string ⟨#[]⟩] 38)).heap.size := by simp
  have hlt := Lib.hid hlt
  clear ho hp
  go_enter Tryd.func45, Tryd.ntmps45
  go_wp2_with fail
  obtain ⟨H, hH⟩ : ∃ H, Hid (w.heap.size = H) := ⟨_, rfl⟩
  generalize w.alloc (.cells #[.int .u8 3, .int .i64 n, .string ⟨#[]⟩] 38) = W1 at HO p1 p2 hwB hlt ⊢
  have hBW : B ≤ W1.heap.size := Nat.le_trans hB hwB.out.size
  have hlt := hlt.out
  go_region_law (first
    | (refine step_append_lies _ rfl (.tmp 18) (.tmp 19) 62 rfl B 5 ib (.int .u8 0) 1 1 Tryd.underlying62 Hb.out.1 Hb.out.2.1 Hb.out.2.2.1 Hb.out.2.2.2 rfl (by decide) (.slice tb T.length tc) T.length (D.bytesL T) rfl ?own _ 1 1 [.int .u8 45] rfl rfl ?news (fun u hu => by simp at hu; rw [hu]; rfl) (by decide) (by unfold maxLen; omega) (by omega) ?base _ rfl ?_
       case own => repeat (first | exact HO.out | refine World.ownsRow.drew ?_ | refine World.ownsRow.alloc ?_ _)
       case news => exact D.news _ _ _
       case base => first | omega | (simp; omega)
       intro g cp w1 hO1 hg1 hat1 hlt1
       have hL1 : Below B w w1 := by
         refine Below.grown ?_ hg1 ?_ (fun k e => (HO.out.lt k e).1)
         · repeat (first | exact hwB.out | refine Below.drew ?_ | refine Below.alloc ?_ (by first | omega | (simp; omega)) _)
         · first | omega | (simp; omega)
       have p1 : w1.cell? ⟨w.heap.size, 1, none⟩ = some (.int .i64 n) := by
         refine (World.cell?_of_block (hg1.block w.heap.size ?_ hne.out)).trans ?_
         · first | omega | (simp; omega)
         · first | exact p1 | exact p2 _
       clear hg1 hat1 hlt1)
    | (go_simp; go_at_call 53; refine (appendInt_digs B (T ++ [45]) n (.slice (some ⟨g, 0, none⟩) (T.length + 1) cp) _ hn ?own ?hB ?hT ?hp).mono ?_
       case own =>
         have hO2 : w1.ownsRow B 5 1 (.slice (some ⟨g, 0, none⟩) (T.length + 1) cp) (T ++ [45]).length (D.bytesL (T ++ [45])) := by rw [List.length_append, D.bytesL_append]; exact hO1
         repeat (first | exact hO2 | refine World.ownsRow.drew ?_)
       case hB => have := hL1.size; first | omega | (simp; omega)
       case hT => rw [List.length_append]; simp; omega
       case hp => exact Hp.out.on (by repeat (first | exact hL1 | refine Below.drew ?_))
       rintro e w2 ⟨v2, rfl, hO2, hb2⟩
       have hR : D.PieceEnd B (T ++ D.form1 (.D n)) w (.returned v2) w2 := by
         rw [hfm.out]
         refine ⟨v2, rfl, hO2, Below.trans ?_ hb2⟩
         repeat (first | exact hL1 | refine Below.drew ?_)
       have hR := Lib.hid hR
       clear hO2 hb2))
  all_goals
    go_wp2
    go_ret
    exact hR.out
end Go.Proofs.YtmjoijloflinnaaDoor
