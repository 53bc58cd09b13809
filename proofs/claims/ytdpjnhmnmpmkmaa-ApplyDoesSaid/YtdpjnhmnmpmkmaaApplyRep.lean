/- The contracts of apply: Replace, Insert, Delete. -/
import Derived.Test.YtdpjnhmnmpmkmaaApplyDel
import Derived.Test.YtdpjnhmnmpmkmaaDeltaEqv
namespace Go.Proofs.Ytdpjnhmnmpmkmaa
open Go.RowKit

theorem A.norm_edit (n a k : Nat) (t : ByteArray) (ao : Option Addr) (c : Nat) (W : World) (M : D.Mk n a k t.data.toList) (ht : t.size ≤ 140737488351232) (hr : D.Row W ao ((D.edit n a k t.data.toList).map D.raw)) :
    Calls Try.prog 27 #[.slice ao ((D.edit n a k t.data.toList).map D.raw).length c] W (fun e w' => ∃ v, e = .returned (.tuple #[v, .int .i64 (D.mkE n a k t.data.toList)]) ∧ D.Made (D.mkP n a k t.data.toList) W v w') := by
  have hl : ((D.edit n a k t.data.toList).map D.raw).length ≤ 4 := by rw [List.length_map]; exact D.edit_len n a k _
  have htx : ∀ p ∈ (D.edit n a k t.data.toList).map D.raw, p.t.size ≤ 140737488351232 := by
    intro p hp
    rw [← D.four_kept n a k t M.range] at hp
    have hp := (List.mem_filter.1 hp).1
    simp only [D.four, List.mem_cons, List.not_mem_nil, or_false] at hp
    rcases hp with rfl | rfl | rfl | rfl
    · exact Nat.zero_le _
    · exact ht
    · exact Nat.zero_le _
    · exact Nat.zero_le _
  have := normalize_any ao c _ W (by unfold maxLen; omega) hr htx
  unfold D.NormEnd at this
  rw [M.err] at this
  rcases M.one with h | h
  · rw [h, if_pos rfl, M.made h] at this
    rw [h]; exact this
  · have e : D.mkP n a k t.data.toList = [] := by unfold D.mkP; rw [h]; rfl
    rw [h, if_neg (by decide)] at this
    rw [h, e]; exact this
set_option maxRecDepth 100000 in
set_option maxHeartbeats 2000000 in
theorem replace_any (n a k : Int) (t : ByteArray) (w : World) (n0 : -9223372036854775808 ≤ n) (n1 : n < 9223372036854775808) (a0 : -9223372036854775808 ≤ a) (a1 : a < 9223372036854775808) (k0 : -9223372036854775808 ≤ k) (k1 : k < 9223372036854775808) (hs : t.size ≤ 140737488351232) :
    Calls Try.prog 23 #[.int .i64 n, .int .i64 a, .int .i64 k, .string t] w (A.MkEnd n a k t w) := by
  rcases D.mk_cases n a k t.data.toList with ⟨hE, hP, hr⟩ | ⟨n, a, k, rfl, rfl, rfl, M⟩
  · have R : Hid (A.MkEnd n a k t w (.returned (.tuple #[.slice none 0 0, .int .i64 3])) w) := ⟨_, by rw [hE], by rw [hP]; exact D.Made.nil w (Below.refl _ _)⟩
    clear hE hP
    by_cases g1 : a < 0
    · clear hr
      go_enter Try.func23, Try.ntmps23
      go_wp2
      go_ret2
      exact R.out
    · by_cases g2 : n < a
      · clear hr
        go_enter Try.func23, Try.ntmps23
        go_wp2
        go_ret2
        exact R.out
      · by_cases g3 : k < 0
        · clear hr
          go_enter Try.func23, Try.ntmps23
          go_wp2
          go_ret2
          exact R.out
        · have g4 : n - a < k := by omega
          clear hr
          go_enter Try.func23, Try.ntmps23
          go_wp2
          go_ret2
          exact R.out
  · have hr := M.range
    have g1 : ¬ (a : Int) < 0 := by omega
    have g2 : ¬ (n : Int) < a := by omega
    have g3 : ¬ (k : Int) < 0 := by omega
    have g4 : ¬ (n : Int) - a < k := by omega
    obtain ⟨L, hL⟩ : ∃ L : List D.P, L = [⟨1, a, ⟨#[]⟩⟩, ⟨2, 0, t⟩, ⟨3, k, ⟨#[]⟩⟩, ⟨1, (n : Int) - a - k, ⟨#[]⟩⟩] := ⟨_, rfl⟩
    have hLl : L.length = 4 := by rw [hL]; rfl
    have hkeep : A.keep L = (D.edit n a k t.data.toList).map D.raw := by
      rw [← D.four_kept n a k t hr, hL]
      unfold D.four A.keep
      rw [show ((n - a - k : Nat) : Int) = (n : Int) - a - k by omega]
    have HD : Hid (Calls Try.prog 47 #[.slice (some ⟨w.heap.size, 0, none⟩) 4 4, .func (.func 48) #[] #[]] (w.alloc (.cells (D.cellsL L).toArray 38)) (fun e w' => e = .returned (.slice (some ⟨w.heap.size, 0, none⟩) (A.keep L).length 4) ∧ D.Row w' (some ⟨w.heap.size, 0, none⟩) (A.keep L) ∧ Below w.heap.size w w')) := by
      have := deleteFunc_any w.heap.size L w.heap.size w (w.alloc (.cells (D.cellsL L).toArray 38)) (by omega) (heap_alloc_new w _) (Nat.le_refl _) ((Below.refl _ _).alloc (Nat.le_refl _) _)
      unfold A.DfEnd at this
      rw [hLl] at this
      exact this
    rw [hkeep] at HD
    have HN : Hid (∀ W c, D.Row W (some ⟨w.heap.size, 0, none⟩) ((D.edit n a k t.data.toList).map D.raw) → Calls Try.prog 27 #[.slice (some ⟨w.heap.size, 0, none⟩) ((D.edit n a k t.data.toList).map D.raw).length c] W (fun e w' => ∃ v, e = .returned (.tuple #[v, .int .i64 (D.mkE n a k t.data.toList)]) ∧ D.Made (D.mkP n a k t.data.toList) W v w')) := fun W c h => A.norm_edit n a k t _ c W M hs h
    have R : Hid (∀ v w' W, Below w.heap.size w W → D.Made (D.mkP n a k t.data.toList) W v w' → A.MkEnd n a k t w (.returned (.tuple #[v, .int .i64 (D.mkE n a k t.data.toList)])) w') := fun v w' W hb hm => ⟨v, rfl, D.own_mono hm.own hb.size, hb.trans (hm.below.mono hb.size)⟩
    generalize D.mkE n a k t.data.toList = E at HN R
    generalize D.mkP n a k t.data.toList = P at HN R
    generalize (D.edit n a k t.data.toList).map D.raw = K at HD HN
    generalize K.length = N at HD HN
    have HL := Lib.hid hL
    clear M hkeep hLl hL a0 k0 n0 hs
    go_enter Try.func23, Try.ntmps23
    go_wp2_with fail
    rw [HL.out] at HD
    change Calls _ _ _ (w.alloc (.cells (D.cellsL [⟨1, a, ⟨#[]⟩⟩, ⟨2, 0, t⟩, ⟨3, k, ⟨#[]⟩⟩, ⟨1, (n : Int) - a - k, ⟨#[]⟩⟩]).toArray 38)) _
    refine HD.out.mono ?_
    rintro e w1 ⟨rfl, hrow, hb⟩
    have HM := Lib.hid (HN.out w1 4 hrow)
    have hb := Lib.hid hb
    clear hrow HD HN
    go_wp2_with fail
    refine HM.out.mono ?_
    rintro e w2 ⟨v, rfl, hm⟩
    have R2 := Lib.hid (R.out v w2 w1 hb.out hm)
    clear hm
    go_wp2
    go_ret2
    exact R2.out
theorem insert_any (n a : Int) (t : ByteArray) (w : World) (n0 : -9223372036854775808 ≤ n) (n1 : n < 9223372036854775808) (a0 : -9223372036854775808 ≤ a) (a1 : a < 9223372036854775808) (hs : t.size ≤ 140737488351232) :
    Calls Try.prog 25 #[.int .i64 n, .int .i64 a, .string t] w (A.MkEnd n a 0 t w) := by
  have H := Lib.hid (replace_any n a 0 t w n0 n1 a0 a1 (by decide) (by decide) hs)
  have R : Hid (∀ v w', D.Made (D.mkP n a 0 t.data.toList) w v w' → A.MkEnd n a 0 t w (.returned (.tuple #[v, .int .i64 (D.mkE n a 0 t.data.toList)])) w') := fun v w' hm => ⟨v, rfl, hm⟩
  unfold A.MkEnd at H
  generalize D.mkE n a 0 t.data.toList = E at H R
  generalize D.mkP n a 0 t.data.toList = P at H R
  go_enter Try.func25, Try.ntmps25
  go_wp2_with fail
  refine H.out.mono ?_
  rintro e w2 ⟨v, rfl, hm⟩
  have R2 := Lib.hid (R.out v w2 hm)
  clear hm
  go_wp2
  go_ret2
  exact R2.out
theorem delete_any (n a k : Int) (w : World) (n0 : -9223372036854775808 ≤ n) (n1 : n < 9223372036854775808) (a0 : -9223372036854775808 ≤ a) (a1 : a < 9223372036854775808) (k0 : -9223372036854775808 ≤ k) (k1 : k < 9223372036854775808) :
    Calls Try.prog 26 #[.int .i64 n, .int .i64 a, .int .i64 k] w (A.MkEnd n a k ⟨#[]⟩ w) := by
  have H := Lib.hid (replace_any n a k ⟨#[]⟩ w n0 n1 a0 a1 k0 k1 (by decide))
  have R : Hid (∀ v w', D.Made (D.mkP n a k []) w v w' → A.MkEnd n a k ⟨#[]⟩ w (.returned (.tuple #[v, .int .i64 (D.mkE n a k [])])) w') := fun v w' hm => ⟨v, rfl, hm⟩
  unfold A.MkEnd at H
  have e0 : (⟨#[]⟩ : ByteArray).data.toList = [] := rfl
  rw [e0] at H
  generalize D.mkE n a k [] = E at H R
  generalize D.mkP n a k [] = P at H R
  clear e0
  go_enter Try.func26, Try.ntmps26
  go_wp2_with fail
  refine H.out.mono ?_
  rintro e w2 ⟨v, rfl, hm⟩
  have R2 := Lib.hid (R.out v w2 hm)
  clear hm
  go_wp2
  go_ret2
  exact R2.out
end Go.Proofs.Ytdpjnhmnmpmkmaa
