/- The contracts of Between, and of the reference's Between. -/
import Derived.Test.YtdilkoogjkabfaaDoorDiffDel
import Derived.Test.YtdilkoogjkabfaaDoorApplyRep
import Derived.Test.YtdilkoogjkabfaaDoorDiffRefCom
import Derived.Test.YtdilkoogjkabfaaDoorDiffLines
namespace Go.Proofs.YtdilkoogjkabfaaDoor
open Go.RowKit

/-- What Between answers. -/
def F.BetEnd (a b : List UInt8) (w : World) (e : Ending) (w' : World) : Prop := ∃ v, e = .returned (.tuple #[v, .int .i64 (F.btE a b)]) ∧ D.Made (F.btP a b) w v w'
theorem F.bet_bad {a b : ByteArray} (h : 1048576 < a.size ∨ 1048576 < b.size) (w : World) : F.BetEnd a.data.toList b.data.toList w (.returned (.tuple #[.slice none 0 0, .int .i64 5])) w := by
  have e : F.btE a.data.toList b.data.toList = 5 := by rw [F.btE_eq, U.len, U.len, if_pos h]
  exact ⟨_, by rw [e], by rw [F.btP_bad (by rw [e]; decide)]; exact D.Made.nil w (Below.refl _ _)⟩
theorem F.mid_str {b : ByteArray} {p s : Nat} (h : p + s ≤ b.size) : (b.extract p (b.size - s)).data.toList = (b.data.toList.drop p).take (b.size - p - s) := by
  have e := D.part_bytes b p (b.size - s - p)
  rw [show p + (b.size - s - p) = b.size - s by omega, show b.size - s - p = b.size - p - s by omega] at e
  exact e
set_option maxRecDepth 100000 in
set_option maxHeartbeats 4000000 in
theorem between_any (a b : ByteArray) (w : World) (za : a.size ≤ 140737488351232) (zb : b.size ≤ 140737488351232) :
    Calls Tryd.prog 4 #[.string a, .string b] w (F.BetEnd a.data.toList b.data.toList w) := by
  have H0 := Lib.hid (tooLong_any a b w za zb)
  cases ht : F.tooB a b with
  | true =>
    have R := Lib.hid (F.bet_bad (a := a) (b := b) (F.tooB_t ht) w)
    rw [ht] at H0
    clear ht
    go_enter Tryd.func4, Tryd.ntmps4
    go_wp2_with fail
    refine H0.out.mono ?_
    rintro e w1 ⟨rfl, rfl⟩
    go_wp2
    go_ret2
    exact R.out
  | false =>
    obtain ⟨sa, sb⟩ := F.tooB_f ht
    have HC := Lib.hid (common_any a b w za zb)
    have sl := F.suf_le a.data.toList b.data.toList
    rw [U.len, U.len] at sl
    obtain ⟨p, hp⟩ : ∃ p, Hid (F.pre a.data.toList b.data.toList = p) := ⟨_, rfl⟩
    obtain ⟨s, hs⟩ : ∃ s, Hid (F.suf a.data.toList b.data.toList = s) := ⟨_, rfl⟩
    unfold F.ComEnd at HC
    rw [hp.out, hs.out] at HC sl
    obtain ⟨x1, e1⟩ : ∃ x1 : Nat, (a.size : Int) - (p : Int) = (x1 : Int) := ⟨a.size - p, by omega⟩
    obtain ⟨k, e2⟩ : ∃ k : Nat, (x1 : Int) - (s : Int) = (k : Int) := ⟨x1 - s, by omega⟩
    obtain ⟨y1, e3⟩ : ∃ y1 : Nat, (b.size : Int) - (s : Int) = (y1 : Int) := ⟨b.size - s, by omega⟩
    obtain ⟨t, ht'⟩ : ∃ t, t = b.extract p y1 := ⟨_, rfl⟩
    have hsl : ∀ W, (Instr.slice 9 (.string b) (some (.int .i64 (p : Int))) (some (.int .i64 (y1 : Int))) none).run Tryd.prog W = .ok (.string t) W := fun W => by
      rw [ht']; exact run_slice_string W 9 b .i64 .i64 (p : Int) (y1 : Int) Tryd.underlying9 (by omega) (by omega) (by omega)
    have hm : t.data.toList = F.mid a.data.toList b.data.toList := by
      rw [ht', show y1 = b.size - s by omega, F.mid_str (by omega)]
      unfold F.mid; rw [hp.out, hs.out, U.len]
    have ek : k = a.size - p - s := by omega
    have hE : D.mkE (a.size : Int) (p : Int) (k : Int) t.data.toList = F.btE a.data.toList b.data.toList := by unfold F.btE; rw [hp.out, hs.out, U.len, ← hm, ek]
    have hP : D.mkP (a.size : Int) (p : Int) (k : Int) t.data.toList = F.btP a.data.toList b.data.toList := by unfold F.btP; rw [hp.out, hs.out, U.len, ← hm, ek]
    rcases D.mk_cases (a.size : Int) (p : Int) (k : Int) t.data.toList with ⟨_, _, hr⟩ | ⟨n', a', k', en, ea, ek', M⟩
    · omega
    · obtain rfl : a.size = n' := by omega
      obtain rfl : p = a' := by omega
      obtain rfl : k = k' := by omega
      have hr := M.range
      have tz : t.size ≤ 140737488351232 := by
        have h := congrArg List.length hm
        rw [U.len, F.mid_len, U.len] at h
        omega
      obtain ⟨L, hL⟩ : ∃ L : List D.P, L = [⟨1, p, ⟨#[]⟩⟩, ⟨2, 0, t⟩, ⟨3, k, ⟨#[]⟩⟩, ⟨1, s, ⟨#[]⟩⟩] := ⟨_, rfl⟩
      have hLl : L.length = 4 := by rw [hL]; rfl
      have hkeep : A.keep L = (D.edit a.size p k t.data.toList).map D.raw := by
        rw [← D.four_kept a.size p k t hr, hL]
        unfold D.four A.keep
        rw [show ((a.size - p - k : Nat) : Int) = (s : Int) by omega]
      have HD : Hid (∀ V, Below w.heap.size w V → Calls Tryd.prog 10 #[.slice (some ⟨V.heap.size, 0, none⟩) 4 4, .func (.func 11) #[] #[]] (V.alloc (.cells (D.cellsL L).toArray 29)) (fun e w' => e = .returned (.slice (some ⟨V.heap.size, 0, none⟩) (A.keep L).length 4) ∧ D.Row w' (some ⟨V.heap.size, 0, none⟩) (A.keep L) ∧ Below w.heap.size w w')) := fun V hb => by
        have := deleteFunc8_any V.heap.size L w.heap.size w (V.alloc (.cells (D.cellsL L).toArray 29)) (by omega) (heap_alloc_new V _) hb.size (hb.alloc hb.size _)
        unfold A.DfEnd at this
        rw [hLl] at this
        exact this
      rw [hkeep] at HD
      have HN : Hid (∀ W g c, D.Row W (some ⟨g, 0, none⟩) ((D.edit a.size p k t.data.toList).map D.raw) → Calls Tryd.prog 9 #[.slice (some ⟨g, 0, none⟩) ((D.edit a.size p k t.data.toList).map D.raw).length c] W (fun e w' => ∃ v, e = .returned (.tuple #[v, .int .i64 (F.btE a.data.toList b.data.toList)]) ∧ D.Made (F.btP a.data.toList b.data.toList) W v w')) := fun W g c h => by
        rw [← hE, ← hP]; exact A.norm_edit a.size p k t _ c W M tz h
      have RR : Hid (∀ v w' W, Below w.heap.size w W → D.Made (F.btP a.data.toList b.data.toList) W v w' → F.BetEnd a.data.toList b.data.toList w (.returned (.tuple #[v, .int .i64 (F.btE a.data.toList b.data.toList)])) w') := fun v w' W hb hm => ⟨v, rfl, hm.weak hb⟩
      generalize F.btE a.data.toList b.data.toList = E at HN RR
      generalize F.btP a.data.toList b.data.toList = P at HN RR
      generalize (D.edit a.size p k t.data.toList).map D.raw = K at HD HN
      generalize K.length = N at HD HN
      have HL := Lib.hid hL
      rw [ht] at H0
      clear M hkeep hLl hL hr hE hP hm ht' ek hp hs en ea ek' ht
      go_enter Tryd.func4, Tryd.ntmps4
      go_wp2_with fail
      refine H0.out.mono ?_
      rintro e w0 ⟨rfl, rfl⟩
      go_wp2_with fail
      refine HC.out.mono ?_
      rintro e w1 ⟨rfl, hb⟩
      have H3 := HD.out w1 hb
      have H3 := Lib.hid H3
      clear hb HC HD H0
      go_wp2_with fail
      rw [HL.out] at H3
      change Calls _ _ _ (w1.alloc (.cells (D.cellsL [⟨1, p, ⟨#[]⟩⟩, ⟨2, 0, t⟩, ⟨3, k, ⟨#[]⟩⟩, ⟨1, s, ⟨#[]⟩⟩]).toArray 29)) _
      refine H3.out.mono ?_
      rintro e w2 ⟨rfl, hrow, hb2⟩
      have H4 := Lib.hid (HN.out w2 w1.heap.size 4 hrow)
      have HB := Lib.hid hb2
      clear hrow hb2 HN H3
      go_wp2_with fail
      refine H4.out.mono ?_
      rintro e w3 ⟨v, rfl, hm⟩
      have R := Lib.hid (RR.out v w3 w2 HB.out hm)
      clear hm H4 RR
      go_wp2
      go_ret2
      exact R.out
end Go.Proofs.YtdilkoogjkabfaaDoor
