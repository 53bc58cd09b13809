/- The contract of package delta's appendPiece at an insertion, and of Text. -/
import Derived.Test.YtmjoijloflinnaaDoorDeltaPiece
import Derived.StillTailTactics
namespace Go.Proofs.YtmjoijloflinnaaDoor
open Go.RowKit

/-- Bytes written so far, and the piece in its box. -/
structure D.PcAt (B : Nat) (Z t : List UInt8) (w : World) (v : Value) (wr : World) : Prop where
  own : wr.ownsRow B 5 1 v Z.length (D.bytesL Z)
  below : Below B w wr
  box : wr.cell? ⟨w.heap.size, 2, none⟩ = some (.string ⟨t.toArray⟩)
  ne : some w.heap.size ≠ v.ownBlock
  lt : w.heap.size < wr.heap.size
theorem D.hexL_snoc (t : List UInt8) (m : Nat) (hmt : m < t.length) : D.hexL (t.take (m + 1)) = D.hexL (t.take m) ++ [D.hexN ((t[m]'hmt).toNat / 16), D.hexN ((t[m]'hmt).toNat % 16)] := by
  unfold D.hexL
  rw [List.take_add_one, List.getElem?_eq_getElem hmt, List.flatMap_append]
  rfl
def D.digits : ByteArray := ⟨#[48, 49, 50, 51, 52, 53, 54, 55, 56, 57, 97, 98, 99, 100, 101, 102]⟩
theorem D.digit_at : ∀ k, k < 16 → ∀ h : k < D.digits.size, (D.digits[k]'h).toNat = (D.hexN k).toNat := by
  intro k hk
  rcases (show k = 0 ∨ k = 1 ∨ k = 2 ∨ k = 3 ∨ k = 4 ∨ k = 5 ∨ k = 6 ∨ k = 7 ∨ k = 8 ∨ k = 9 ∨ k = 10 ∨ k = 11 ∨ k = 12 ∨ k = 13 ∨ k = 14 ∨ k = 15 from by omega) with rfl | rfl | rfl | rfl | rfl | rfl | rfl | rfl | rfl | rfl | rfl | rfl | rfl | rfl | rfl | rfl <;> intro h <;> rfl
theorem D.digit_shr (N : Nat) (hN : N < 256) : ∀ h : ((N : Int) / 16).toNat < (⟨#[48, 49, 50, 51, 52, 53, 54, 55, 56, 57, 97, 98, 99, 100, 101, 102]⟩ : ByteArray).size, (((⟨#[48, 49, 50, 51, 52, 53, 54, 55, 56, 57, 97, 98, 99, 100, 101, 102]⟩ : ByteArray)[((N : Int) / 16).toNat]'h).toNat : Int) = ((D.hexN (N / 16)).toNat : Int) := by
  have e : ((N : Int) / 16).toNat = N / 16 := by omega
  rw [e]
  intro h
  rw [← D.digit_at (N / 16) (by omega) h]; rfl
set_option maxRecDepth 100000 in
theorem D.and15 (N : Nat) (h : N < 256) : bits BinOp.and IntKind.u8 (N : Int) 15 = ((N % 16 : Nat) : Int) := by
  have key : ∀ k : Fin 256, bits BinOp.and IntKind.u8 ((k.val : Nat) : Int) 15 = ((k.val % 16 : Nat) : Int) := by decide
  exact key ⟨N, h⟩
theorem D.digit_lit (M : Nat) (hM : M < 16) : ∀ h : M < (⟨#[48, 49, 50, 51, 52, 53, 54, 55, 56, 57, 97, 98, 99, 100, 101, 102]⟩ : ByteArray).size, ((⟨#[48, 49, 50, 51, 52, 53, 54, 55, 56, 57, 97, 98, 99, 100, 101, 102]⟩ : ByteArray)[M]'h).toNat = (D.hexN M).toNat := fun h => D.digit_at M hM h
set_option maxRecDepth 100000 in
set_option maxHeartbeats 2000000 in
theorem appendPiece_I (B : Nat) (T : List UInt8) (t : List UInt8) (v : Value) (w : World) (hn : t.length ≤ 10000000) (ho : w.ownsRow B 5 1 v T.length (D.bytesL T)) (hB : B ≤ w.heap.size) (hT : T.length ≤ 10000000) :
    Calls Tryd.prog 45 #[v, .agg #[.int .u8 2, .int .i64 0, .string ⟨t.toArray⟩]] w (D.PieceEnd B (T ++ D.form1 (.I t)) w) := by
  obtain ⟨ib, hb, hb0, hb1, hb2⟩ := info_parts Tryd.infoByte
  have Hb := Lib.hid (And.intro hb (And.intro hb0 (And.intro hb1 hb2)))
  clear hb hb0 hb1 hb2
  obtain ⟨tb, tc, hv⟩ := D.slice_of_own ho
  subst hv
  have hne := Lib.hid (D.own_ne ho)
  have HO := Lib.hid (ho.alloc (.cells #[.int .u8 2, .int .i64 0, .string ⟨t.toArray⟩] 38))
  have p1 : (w.alloc (.cells #[.int .u8 2, .int .i64 0, .string ⟨t.toArray⟩] 38)).cell? ⟨w.heap.size, 2, none⟩ = some (.string ⟨t.toArray⟩) := World.cell?_alloc_new _ _ _ _
  have hwB : Hid (Below B w (w.alloc (.cells #[.int .u8 2, .int .i64 0, .string ⟨t.toArray⟩] 38))) := (Below.refl _ _).alloc hB _
  have hlt : w.heap.size < (w.alloc (.cells #[.int .u8 2, .int .i64 0, .string ⟨t.toArray⟩] 38)).heap.size := by simp
  have hlt := Lib.hid hlt
  clear ho
  go_enter Tryd.func45, Tryd.ntmps45
  go_upto_region 6 with (fail)
  obtain ⟨H, hH⟩ : ∃ H, Hid (w.heap.size = H) := ⟨_, rfl⟩
  generalize w.alloc (.cells #[.int .u8 2, .int .i64 0, .string ⟨t.toArray⟩] 38) = W1 at HO p1 hwB hlt ⊢
  have hBW : B ≤ W1.heap.size := Nat.le_trans hB hwB.out.size
  have hlt := hlt.out
  go_wp2_with (at_builtin; refine wpList_append_lies _ rfl _ _ 62 rfl B 5 ib (.int .u8 0) 1 1 Tryd.underlying62 Hb.out.1 Hb.out.2.1 Hb.out.2.2.1 Hb.out.2.2.2 rfl (by decide) _ _ _ rfl (HO.out.alloc _) ⟨W1.heap.size, 0, none⟩ 1 1 [.int .u8 43] rfl rfl ?a1 ?a2 (by decide) ?a3 ?a4 ?a5 _ rfl ?_)
  case a1 => exact D.news _ _ _
  case a2 => intro u hu; simp at hu; rw [hu]; rfl
  case a3 => unfold maxLen; omega
  case a4 => omega
  case a5 => simp only [World.size_alloc]; omega
  intro g cp w3 hO3 hg3 hat3 hlt3
  have R : Hid (D.PcAt B (T ++ [43]) t w (.slice (some ⟨g, 0, none⟩) (T.length + 1) cp) w3) := by
    refine ⟨?_, (hwB.out.alloc hBW _).grown hg3 (by simp only [World.size_alloc]; omega) (fun k e => (HO.out.lt k e).1), ?_, ?_, ?_⟩
    · rw [D.bytesL_append, List.length_append]; exact hO3
    · exact (World.cell?_of_block (hg3.block w.heap.size (by simp only [World.size_alloc]; omega) hne.out)).trans (D.cell_old p1 _)
    · intro e
      simp only [Value.ownBlock, Option.some.injEq] at e
      rcases hat3 with h | h
      · exact hne.out (by rw [h, e])
      · omega
    · have := hg3.size; simp only [World.size_alloc] at this; omega
  have c2 := R.out.box
  have hsz : (⟨t.toArray⟩ : ByteArray).size = t.length := D.size_l t
  clear hO3 hg3 hat3 hlt3 p1
  go_wp2
  go_loopw [0, 30] (fun v i wx => ∃ m : Nat, m ≤ t.length ∧ i = .int .i64 m ∧ Hid (D.PcAt B ((T ++ [43]) ++ D.hexL (t.take m)) t w v wx)) (fun _ i _ => t.length - (intOf i).toNat)
  case atStart => exact ⟨0, Nat.zero_le _, rfl, by show D.PcAt _ _ _ _ _ _; exact (List.append_nil (T ++ [43])).symm ▸ R.out⟩
  case round =>
    obtain ⟨m, hm, rfl, hy⟩ := hrel
    have c2 := hy.out.box
    by_cases hmt : m < t.length
    · obtain ⟨Z, hZ⟩ : ∃ Z, Hid ((T ++ [43]) ++ D.hexL (t.take m) = Z) := ⟨_, show _ = _ from rfl⟩
      have hZl : Z.length ≤ 40000000 := by rw [← hZ.out, List.length_append, List.length_append, D.hexL_len, List.length_take]; have := Nat.min_le_right m t.length; simp only [List.length_cons, List.length_nil]; omega
      rw [hZ.out] at hy
      obtain ⟨tb3, tc3, rfl⟩ := D.slice_of_own hy.out.own
      have hmz : m < (⟨t.toArray⟩ : ByteArray).size := by omega
      have hb8 : ((⟨t.toArray⟩ : ByteArray)[m]).toNat < 256 := UInt8.toNat_lt _
      obtain ⟨N, hB'⟩ : ∃ N : Nat, ((⟨t.toArray⟩ : ByteArray)[m]).toNat = N := ⟨_, rfl⟩
      have hN' : Hid ((t[m]'hmt).toNat = N) := hB'
      rw [hB'] at hb8
      have d2 := D.cell_old c2
      have hBx : B ≤ wr.heap.size := Nat.le_trans hB hy.out.below.size
      have s0 : (0 : Int) ≤ (N : Int) / 16 := by omega
      have s1 : (N : Int) / 16 < 16 := by omega
      have s2 := D.digit_shr N hb8
      have hy4 : Hid (∀ ob : Obj, (wr.alloc ob).drew.ownsRow B 5 1 (.slice tb3 Z.length tc3) Z.length (D.bytesL Z)) := fun ob => (hy.out.own.alloc ob).drew
      obtain ⟨M, hM⟩ : ∃ M, Hid (N % 16 = M) := ⟨_, rfl⟩
      have hfin : Hid (∀ g5 cp5 w5, w5.ownsRow B 5 1 (.slice (some ⟨g5, 0, none⟩) (Z.length + 2) cp5) (Z.length + 2) (D.bytesL Z ++ [.int .u8 (D.hexN (N / 16)).toNat, .int .u8 (D.hexN M).toNat]) →
          (wr.alloc (.cells #[.int .u8 (D.hexN (N / 16)).toNat, .int .u8 (D.hexN M).toNat] 5)).drew.grownBy w5 (Value.ownBlock (.slice tb3 Z.length tc3)) → (Value.ownBlock (.slice tb3 Z.length tc3) = some g5 ∨ g5 = (wr.alloc (.cells #[.int .u8 (D.hexN (N / 16)).toNat, .int .u8 (D.hexN M).toNat] 5)).drew.heap.size) →
          D.PcAt B ((T ++ [43]) ++ D.hexL (t.take (m + 1))) t w (.slice (some ⟨g5, 0, none⟩) (Z.length + 2) cp5) w5) := fun g5 cp5 w5 hO5 hg5 hat5 => by
        have hl5 := hy.out.lt
        have h6 : wr.heap.size ≤ (wr.alloc (.cells #[.int .u8 (D.hexN (N / 16)).toNat, .int .u8 (D.hexN M).toNat] 5)).drew.heap.size := (World.grownBy_alloc wr _ none).size
        refine ⟨?_, ((hy.out.below.alloc hBx _).drew).grown hg5 (Nat.le_trans hBx h6) (fun k e => (hy.out.own.lt k e).1), ?_, ?_, ?_⟩
        · have e : (T ++ [43]) ++ D.hexL (t.take (m + 1)) = Z ++ [D.hexN (N / 16), D.hexN M] := by
            rw [← hZ.out, D.hexL_snoc t m hmt, hN'.out, hM.out]
            simp only [List.append_assoc]
          rw [e, D.bytesL_append, List.length_append]
          exact hO5
        · exact (World.cell?_of_block (hg5.block w.heap.size (Nat.lt_of_lt_of_le hl5 h6) hy.out.ne)).trans (D.cell_old hy.out.box _)
        · intro e
          simp only [Value.ownBlock, Option.some.injEq] at e
          rcases hat5 with h | h
          · exact hy.out.ne (by rw [h, e])
          · omega
        · exact Nat.lt_of_lt_of_le hl5 (Nat.le_trans h6 hg5.size)
      have a0 := D.and15 N hb8
      rw [hM.out] at a0
      have a1 : M < 16 := by have := hM.out; omega
      have a2 := D.digit_lit M a1
      have a3 : (M : Int) < 16 := by omega
      go_wp2_with fail
      go_region_law (first
        | (refine step_append_lies _ rfl (.tmp 33) (.tmp 46) 62 rfl B 5 ib (.int .u8 0) 1 1 Tryd.underlying62 Hb.out.1 Hb.out.2.1 Hb.out.2.2.1 Hb.out.2.2.2 rfl (by decide) (.slice tb3 Z.length tc3) Z.length (D.bytesL Z) rfl ?own _ 2 2 [.int .u8 (D.hexN (N / 16)).toNat, .int .u8 (D.hexN M).toNat] rfl rfl ?news (fun u hu => by simp at hu; rcases hu with rfl | rfl <;> rfl) (by decide) (by unfold maxLen; omega) (by omega) ?base _ rfl ?_
           case own => exact hy4.out _
           case news => exact D.news _ _ _
           case base => first | omega | (simp; omega)
           intro g5 cp5 w5 hO5 hg5 hat5 hlt5
           have R5 := Lib.hid (hfin.out g5 cp5 w5 hO5 hg5 hat5)
           clear hO5 hg5 hat5 hlt5))
      all_goals
        have c2 := R5.out.box
        go_wp2
        go_roundw
        case rel => exact ⟨m + 1, by omega, by go_num, R5⟩
        case measure => simp [intOf]; omega
    · obtain rfl : m = t.length := by omega
      obtain ⟨tb3, tc3, rfl⟩ := D.slice_of_own hy.out.own
      have R5 : Hid (D.PieceEnd B (T ++ D.form1 (.I t)) w (.returned (.slice tb3 ((T ++ [43]) ++ D.hexL (t.take t.length)).length tc3)) wr) := by
        have := hy.out
        rw [List.take_length] at this ⊢
        have e : T ++ D.form1 (.I t) = (T ++ [43]) ++ D.hexL t := by rw [D.form1, List.append_assoc]; rfl
        show D.PieceEnd _ _ _ _ _
        rw [e]
        exact ⟨_, rfl, this.own, this.below⟩
      obtain ⟨ln, hln⟩ : ∃ n, Hid (((T ++ [43]) ++ D.hexL (t.take t.length)).length = n) := ⟨_, show _ = _ from rfl⟩
      rw [hln.out] at R5 ⊢
      clear hy
      go_wp2
      go_ret
      exact R5.out
theorem appendPiece_any (B : Nat) (T : List UInt8) (q : D.Q) (v : Value) (w : World) (hi : D.in1 q ≤ 10000000) (hO : D.out1 q ≤ 10000000) (ho : w.ownsRow B 5 1 v T.length (D.bytesL T)) (hB : B ≤ w.heap.size) (hT : T.length ≤ 10000000) (hp : D.Pow B w) :
    Calls Tryd.prog 45 #[v, .agg #[.int .u8 (D.raw q).k, .int .i64 (D.raw q).n, .string (D.raw q).t]] w (D.PieceEnd B (T ++ D.form1 q) w) := by
  cases q with
  | R n => simp only [D.in1] at hi; exact appendPiece_R B T n v w (by omega) ho hB hT hp
  | I t => simp only [D.out1] at hO; exact appendPiece_I B T t v w hO ho hB hT
  | D n => simp only [D.in1] at hi; exact appendPiece_D B T n v w (by omega) ho hB hT hp
end Go.Proofs.YtmjoijloflinnaaDoor
