/- The contracts of Between, the program's and the reference's. -/
import Derived.Test.YtmbgcbgbdjiacaaPackMSym
import Derived.Test.YtmbgcbgbdjiacaaMarkRef4
namespace Go.Proofs.Ytmbgcbgbdjiacaa
open Go.RowKit

theorem K.inside_snoc (l : List K.M) (f t : Int) (k : Nat) (p : K.M) (h : l[k]? = some p) : K.inside (l.take (k + 1)) f t = K.inside (l.take k) f t ++ (if f ≤ p.at_ ∧ p.at_ ≤ t then [p] else []) := by
  rw [List.take_add_one, h]
  unfold K.inside
  rw [List.filter_append]
  by_cases e : f ≤ p.at_ ∧ p.at_ ≤ t
  · rw [if_pos e]; simp [e.1, e.2]
  · rw [if_neg e]
    have : (decide (f ≤ p.at_) && decide (p.at_ ≤ t)) = false := by
      rw [← Bool.not_eq_true, Bool.and_eq_true, decide_eq_true_iff, decide_eq_true_iff]; exact e
    simp [this]
theorem K.inside_le (l : List K.M) (f t : Int) : (K.inside l f t).length ≤ l.length := List.length_filter_le _ _
set_option maxHeartbeats 2000000 in
theorem between9_any (ao : Option Addr) (ca : Nat) (l : List K.M) (f t : Int) (w : World) (hr : K.Row w ao l) (la : l.length ≤ 1000000) :
    Calls Try.prog 26 #[.slice ao l.length ca, .int .i64 f, .int .i64 t] w fun e w' => ∃ v, e = .returned v ∧ K.Made (K.btw l f t) w v w' := by
  have Hr := Lib.hid hr
  have hM := K.Made.nil w (Below.refl _ _)
  clear hr
  go_enter Try.func26, Try.ntmps26
  go_wp2
  go_loopw [7, 12] (fun v j wr => ∃ k : Nat, k ≤ l.length ∧ j = .int .i64 k ∧ Hid (K.Made (K.inside (l.take k) f t) w v wr)) (fun _ j _ => l.length - (intOf j).toNat)
  case atStart => exact ⟨0, Nat.zero_le _, rfl, hM⟩
  case round =>
    obtain ⟨k, hk, rfl, hL⟩ := hrel
    clear hM
    by_cases hlt : k < l.length
    · obtain ⟨p, hp, hpd⟩ := K.drop_cons hlt
      obtain ⟨b1, o1, e1, l1, hc⟩ := Hr.out k p hp
      have hb := Lib.hid hL.out.below
      have hbs := hb.out.size
      obtain ⟨c0, c1, c2⟩ := K.cell3 hb.out l1 hc
      subst e1
      clear hc hpd
      have hst := Lib.hid (K.inside_snoc l f t k p hp)
      have hle : (K.inside (l.take k) f t).length ≤ l.length := Nat.le_trans (K.inside_le _ _ _) (by simp; omega)
      clear hp
      by_cases he : f ≤ p.at_
      · have q1 : decide (f ≤ p.at_) = true := by simpa using he
        by_cases he2 : p.at_ ≤ t
        · have q2 : decide (p.at_ ≤ t) = true := by simpa using he2
          have hF : Hid (K.inside (l.take (k + 1)) f t = K.inside (l.take k) f t ++ [p]) := by show _ = _; rw [hst.out, if_pos ⟨he, he2⟩]
          obtain ⟨X, hX⟩ : ∃ X, Hid (K.inside (l.take k) f t = X) := ⟨_, rfl⟩
          rw [hX.out] at hL hle hF
          clear hst he he2
          obtain ⟨W1, hW1⟩ : ∃ W1, Hid (W1 = wr.alloc (.cells #[.int .u32 p.id, .int .i64 p.at_, .int .u8 p.g] 32)) := ⟨_, rfl⟩
          have hb1 := (Below.refl wr.heap.size wr).alloc (Nat.le_refl _) (.cells #[.int .u32 p.id, .int .i64 p.at_, .int .u8 p.g] 32)
          have hL1 := Lib.hid (hL.out.kept hb1)
          have hbs1 : w.heap.size ≤ (wr.alloc (.cells #[.int .u32 p.id, .int .i64 p.at_, .int .u8 p.g] 32)).heap.size := by simp; omega
          clear hb1
          go_wp2_with (at_builtin; refine K.append_mark rfl _ _ rfl w.heap.size _ X rfl hL1.out.own p 1 ?a0 ?a1 ?a2 ?_)
          case a0 =>
            rw [World.size_alloc]; rfl
          case a1 => omega
          case a2 => exact hbs1
          intro Z v' w3 hZ hO hg
          have hx1 : Hid (K.Made (K.inside (l.take (k + 1)) f t) w v' w3) := by
            show K.Made _ _ _ _
            rw [hF.out]
            have := hL1.out.on hO hg
            rw [hZ.out] at this
            exact this
          clear hO hg hL1 hL
          go_wp2
          go_roundw
          case rel => exact ⟨k + 1, by omega, by go_num, hx1⟩
          case measure => simp [intOf]; omega
        · have q2 : decide (p.at_ ≤ t) = false := by simpa using he2
          have hF : Hid (K.inside (l.take (k + 1)) f t = K.inside (l.take k) f t) := by show _ = _; rw [hst.out, if_neg (fun h => he2 h.2), List.append_nil]
          clear hst he he2
          go_wp2
          go_roundw
          case rel => exact ⟨k + 1, by omega, by go_num, by rw [hF.out]; exact hL.out.kept ((Below.refl _ _).alloc (Nat.le_refl _) _)⟩
          case measure => simp [intOf]; omega
      · have q1 : decide (f ≤ p.at_) = false := by simpa using he
        have hF : Hid (K.inside (l.take (k + 1)) f t = K.inside (l.take k) f t) := by show _ = _; rw [hst.out, if_neg (fun h => he h.1), List.append_nil]
        clear hst he
        go_wp2
        go_roundw
        case rel => exact ⟨k + 1, by omega, by go_num, by rw [hF.out]; exact hL.out.kept ((Below.refl _ _).alloc (Nat.le_refl _) _)⟩
        case measure => simp [intOf]; omega
    · obtain rfl : k = l.length := by omega
      rw [List.take_length] at hL
      have hle := K.inside_le l f t
      have HS : Hid (∀ v, K.Made (K.inside l f t) w v wr → Calls Try.prog 43 #[v, .func (.func 44) #[] #[]] wr fun e w' => e = .returned (.tuple #[]) ∧ K.Made (K.btw l f t) w v w') := fun v h => sortStable_any _ v w wr h (by omega)
      go_wp2_with (go_at_call 43; refine (HS.out _ hL.out).mono ?_; rintro e w3 ⟨rfl, hm⟩; have R := Lib.hid hm; clear hm)
      go_ret
      exact ⟨_, rfl, R.out⟩
end Go.Proofs.Ytmbgcbgbdjiacaa
