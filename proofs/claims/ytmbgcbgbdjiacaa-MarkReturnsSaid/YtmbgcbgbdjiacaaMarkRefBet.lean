/- The contract of the reference's Between. -/
import Derived.Test.YtmbgcbgbdjiacaaMarkBet
namespace Go.Proofs.Ytmbgcbgbdjiacaa
open Go.RowKit

theorem K.srt_snoc (a : List K.M) (p : K.M) : K.srt (a ++ [p]) = K.ins (K.srt a) p := by unfold K.srt; rw [List.foldl_append]; rfl
theorem K.srt_len (a : List K.M) : (K.srt a).length = a.length := by
  have : ∀ (l acc : List K.M), (l.foldl K.ins acc).length = acc.length + l.length := by
    intro l
    induction l with
    | nil => intro acc; rfl
    | cons x l ih => intro acc; rw [List.foldl_cons, ih, K.ins_len, List.length_cons]; omega
  unfold K.srt
  rw [this]; simp
/-- Where a mark is put behind all that are not greater. -/
theorem K.ins_at : ∀ {X : List K.M} {p : K.M} {a : Nat}, K.Asc X → a ≤ X.length → (∀ j q, a ≤ j → X[j]? = some q → ¬ K.le q p = true) → (a = 0 ∨ ∃ q, X[a - 1]? = some q ∧ K.le q p = true) → K.ins X p = X.take a ++ p :: X.drop a
  | [], p, a, _, h, _, _ => by simp at h; subst h; rfl
  | x :: X, p, 0, hs, _, h1, _ => by
    have := h1 0 x (Nat.le_refl _) rfl
    unfold K.ins; rw [if_neg this]; rfl
  | x :: X, p, a + 1, hs, h, h1, h2 => by
    have hs' := List.pairwise_cons.1 hs
    have hx : K.le x p = true := by
      rcases h2 with h2 | ⟨q, hq, h2⟩
      · omega
      · rw [Nat.add_sub_cancel] at hq
        cases a with
        | zero => simp at hq; subst hq; exact h2
        | succ a =>
          have : q ∈ X := List.mem_of_getElem? (by simpa using hq)
          exact K.le_trans (hs'.1 q this) h2
    unfold K.ins
    rw [if_pos hx, K.ins_at hs'.2 (by simpa using h) (fun j q hj hq => h1 (j + 1) q (by omega) (by simpa using hq)) (by
      cases a with
      | zero => exact .inl rfl
      | succ a =>
        rcases h2 with h2 | ⟨q, hq, h2⟩
        · omega
        · exact .inr ⟨q, by simpa using hq, h2⟩)]
    rfl
set_option maxRecDepth 100000 in
set_option maxHeartbeats 8000000 in
theorem refBetween9_any (ao : Option Addr) (ca : Nat) (l : List K.M) (f t : Int) (w : World) (hr : K.Row w ao l) (la : l.length ≤ 1000000) :
    Calls Try.prog 27 #[.slice ao l.length ca, .int .i64 f, .int .i64 t] w fun e w' => ∃ v, e = .returned v ∧ K.Made (K.btw l f t) w v w' := by
  have Hr := Lib.hid hr
  have hM := K.Made.nil w (Below.refl _ _)
  clear hr
  go_enter Try.func27, Try.ntmps27
  go_wp2
  go_loopw [7, 8] (fun v j wr => ∃ k : Nat, k ≤ l.length ∧ j = .int .i64 k ∧ Hid (K.Made (K.srt (K.inside (l.take k) f t)) w v wr)) (fun _ j _ => l.length - (intOf j).toNat)
  case atStart => exact ⟨0, Nat.zero_le _, rfl, hM⟩
  case round =>
    obtain ⟨k, hk, rfl, hL⟩ := hrel
    clear hM
    by_cases hlt : k < l.length
    · obtain ⟨p, hp, hpd⟩ := K.drop_cons hlt
      obtain ⟨b1, o1, e1, l1, hc⟩ := Hr.out k p hp
      have hb := Lib.hid hL.out.below
      have hbs := hb.out.size
      obtain ⟨c0, c1, c2⟩ := K.cell3 hb.out l1 hc
      subst e1
      clear hc hpd
      have hst := Lib.hid (K.inside_snoc l f t k p hp)
      have hle : (K.srt (K.inside (l.take k) f t)).length ≤ l.length := by rw [K.srt_len]; exact Nat.le_trans (K.inside_le _ _ _) (by simp; omega)
      have hpf := Lib.hid hp
      clear hp
      by_cases he : p.at_ < f
      · have q1 : decide (p.at_ < f) = true := by simpa using he
        have hF : Hid (K.inside (l.take (k + 1)) f t = K.inside (l.take k) f t) := by show _ = _; rw [hst.out, if_neg (by omega), List.append_nil]
        clear hst he hle
        go_wp2
        go_roundw
        case rel => exact ⟨k + 1, by omega, by go_num, by rw [hF.out]; exact hL.out.kept ((Below.refl _ _).alloc (Nat.le_refl _) _)⟩
        case measure => simp [intOf]; omega
      · have q1 : decide (p.at_ < f) = false := by simpa using he
        by_cases he2 : t < p.at_
        · have q2 : decide (t < p.at_) = true := by simpa using he2
          have hF : Hid (K.inside (l.take (k + 1)) f t = K.inside (l.take k) f t) := by show _ = _; rw [hst.out, if_neg (by omega), List.append_nil]
          clear hst he he2 hle
          go_wp2
          go_roundw
          case rel => exact ⟨k + 1, by omega, by go_num, by rw [hF.out]; exact hL.out.kept ((Below.refl _ _).alloc (Nat.le_refl _) _)⟩
          case measure => simp [intOf]; omega
        · have q2 : decide (t < p.at_) = false := by simpa using he2
          have hF : Hid (K.srt (K.inside (l.take (k + 1)) f t) = K.ins (K.srt (K.inside (l.take k) f t)) p) := by show _ = _; rw [hst.out, if_pos (by omega), K.srt_snoc]
          obtain ⟨X, hX⟩ : ∃ X, Hid (K.srt (K.inside (l.take k) f t) = X) := ⟨_, rfl⟩
          have hXs : Hid (K.Asc X) := by show K.Asc X; rw [← hX.out]; exact K.srt_asc _
          rw [hX.out] at hL hle hF
          have hbx := K.Box.new wr p 32
          have hL1 := Lib.hid (hL.out.kept ((Below.refl _ _).alloc (Nat.le_refl _) (.cells #[.int .u32 p.id, .int .i64 p.at_, .int .u8 p.g] 32)))
          obtain ⟨vo, vc, hv, hcap, hnil, _⟩ := hL1.out.form2
          subst hv
          have Hbx := Lib.hid hbx
          clear hst he he2 hL hbx
          obtain ⟨bx, hbxe⟩ : ∃ bx, bx = wr.heap.size := ⟨_, rfl⟩
          rw [← hbxe] at Hbx
          go_upto_block 2 with (fail)
          rw [← hbxe]
          clear hbxe
          go_cut [10] from 34 to 70 (fun v wx => ∃ a : Nat, v = .int .i64 a ∧ a ≤ X.length ∧ Hid (K.ins X p = X.take a ++ p :: X.drop a) ∧ Hid (K.Made X w (.slice vo X.length vc) wx) ∧ Hid (K.Box wx bx p))
          case first =>
            go_wp2
            go_loopw [10] (fun v wx => ∃ a : Nat, v = .int .i64 a ∧ a ≤ X.length ∧ Hid (∀ j q, a ≤ j → X[j]? = some q → ¬ K.le q p = true) ∧ Hid (K.Made X w (.slice vo X.length vc) wx) ∧ Hid (K.Box wx bx p)) (fun v _ => (intOf v).toNat)
            case atStart => exact ⟨X.length, rfl, Nat.le_refl _, (fun j q hj hq => by have := (List.getElem?_eq_some_iff.1 hq).1; omega), hL1, Hbx⟩
            case round =>
              obtain ⟨a, rfl, haX, hA, hM, hB⟩ := hrel
              clear hL1 Hbx c0 c1 c2
              by_cases h0 : 0 < a
              · have q3 : decide ((0 : Int) < (a : Int)) = true := by simp; omega
                obtain ⟨d, hd⟩ : ∃ d, d + 1 = a := ⟨a - 1, by omega⟩
                have hdX : d < X.length := by omega
                obtain ⟨q, hq⟩ : ∃ q, X[d]? = some q := ⟨X[d]'hdX, List.getElem?_eq_getElem _⟩
                obtain ⟨b2, o2, e2, _, d0, d1, d2⟩ := hM.out.row d q hq
                subst e2
                have w1 : IntKind.i64.wrap ((a : Int) - 1) = (d : Int) := by rw [IntWalk.i64_in _ (by omega)]; omega
                obtain ⟨_, x0, x1, x2, _, _, _⟩ := hB.out
                have hgo : Hid (¬ K.le q p = true → ∀ j r, d ≤ j → X[j]? = some r → ¬ K.le r p = true) := fun hq2 j r hj hr => by
                  by_cases e : j = d
                  · subst e; rw [hq] at hr; cases hr; exact hq2
                  · exact hA.out j r (by omega) hr
                have hstp : Hid (K.le q p = true → K.ins X p = X.take a ++ p :: X.drop a) := fun hq2 => K.ins_at hXs.out haX hA.out (.inr ⟨q, by rw [show a - 1 = d by omega]; exact hq, hq2⟩)
                have hle' : Hid (K.le q p = true ↔ q.at_ < p.at_ ∨ (q.at_ = p.at_ ∧ q.id ≤ p.id)) := K.le_iff q p
                clear hq hA
                by_cases g1 : p.at_ < q.at_
                · have q4 : decide (p.at_ < q.at_) = true := by simpa using g1
                  have R := Lib.hid (hgo.out (fun h => by have := hle'.out.1 h; omega))
                  clear hgo hstp hle' g1
                  go_wp2_with fail
                  go_quiet (fail)
                  go_wp2
                  go_roundw
                  case rel => exact ⟨d, rfl, by omega, R, hM.out.drewN _, hB.out.drewN _⟩
                  case measure => simp [intOf]; omega
                · have q4 : decide (p.at_ < q.at_) = false := by simpa using g1
                  by_cases g2 : q.at_ = p.at_
                  · have q5 : (q.at_ == p.at_) = true := by simpa using g2
                    by_cases g3 : p.id < q.id
                    · have q6 : decide (p.id < q.id) = true := by simpa using g3
                      have R := Lib.hid (hgo.out (fun h => by have := hle'.out.1 h; omega))
                      clear hgo hstp hle' g1 g2 g3
                      go_wp2_with fail
                      go_quiet (fail)
                      go_wp2
                      go_roundw
                      case rel => exact ⟨d, rfl, by omega, R, hM.out.drewN _, hB.out.drewN _⟩
                      case measure => simp [intOf]; omega
                    · have q6 : decide (p.id < q.id) = false := by simpa using g3
                      have R := Lib.hid (hstp.out (hle'.out.2 (by omega)))
                      clear hgo hstp hle' g1 g2 g3
                      go_wp2_with fail
                      go_quiet (fail)
                      go_wp2
                      go_meet
                      case rel => exact ⟨a, rfl, haX, R, hM.out.drewN _, hB.out.drewN _⟩
                  · have q5 : (q.at_ == p.at_) = false := by simpa using g2
                    have R := Lib.hid (hstp.out (hle'.out.2 (by omega)))
                    clear hgo hstp hle' g1 g2
                    go_wp2_with fail
                    go_quiet (fail)
                    go_wp2
                    go_meet
                    case rel => exact ⟨a, rfl, haX, R, hM.out.drewN _, hB.out.drewN _⟩
              · obtain rfl : a = 0 := by omega
                have R : Hid (K.ins X p = X.take 0 ++ p :: X.drop 0) := K.ins_at hXs.out haX hA.out (.inl rfl)
                go_wp2_with fail
                go_quiet (fail)
                go_wp2
                go_meet
                case rel => exact ⟨0, rfl, haX, R, hM.out.drewN _, hB.out.drewN _⟩
          case rest =>
            obtain ⟨a, rfl, haX, hins, hM, hX3⟩ := hcut
            obtain ⟨W0, rfl⟩ : ∃ W0 : World, W0 = wc := ⟨_, rfl⟩
            have hd : Hid (K.srt (K.inside (l.take (k + 1)) f t) = X.take a ++ p :: X.drop a) := by show _ = _; rw [hF.out, hins.out]
            obtain ⟨lt, y0, y1, y2, _, _, _⟩ := (⟨hX3.out.lt, hX3.out.c0, hX3.out.c1, hX3.out.c2, hX3.out.f0, hX3.out.f1, hX3.out.f2⟩ : _ ∧ _ ∧ _ ∧ _ ∧ _ ∧ _ ∧ _)
            have hrX := hM.out.row
            have rT := Lib.hid (hrX.take a)
            obtain ⟨uo, uc, hsU, rU, nU⟩ := K.slice_from W0 vo X vc a hcap haX hnil hrX
            have rU := Lib.hid rU
            have nU := Lib.hid nU
            have Hnil := Lib.hid hnil
            have hsT := fun (V : World) => K.slice_to vo X.length vc a (Nat.le_trans haX hcap) V
            obtain ⟨T, hT⟩ : ∃ T, Hid (X.take a = T) := ⟨_, rfl⟩
            obtain ⟨U, hU⟩ : ∃ U, Hid (X.drop a = U) := ⟨_, rfl⟩
            have hTl : T.length = a := by rw [← hT.out, List.length_take]; omega
            have hUl : U.length ≤ 1000000 := by rw [← hU.out, List.length_drop]; omega
            have hTl2 : T.length ≤ 1000000 := by omega
            rw [hT.out] at rT
            rw [hU.out] at rU hsU
            rw [hT.out, hU.out] at hd
            rw [← hTl] at hsT hsU haX ⊢
            obtain ⟨ip, hp, hp0, hp1, hp2⟩ := info_parts Try.infoMark
            have Hp := Lib.hid (And.intro hp (And.intro hp0 (And.intro hp1 hp2)))
            have hBW := hM.out.below
            have HBW := Lib.hid hBW
            clear hp hp0 hp1 hp2 hrX hM hX3 hcap hBW hT hU hTl hL1 Hbx hF hXs hins hX hle hnil c0 c1 c2 hpf
            go_wp2
            go_region_law (first
              | (refine K.step_first rfl (.tmp 71) (.tmp 74) rfl W0.heap.size _ rfl ?own vo vc T rfl Hnil.out ?row ?base (by omega) 0 W0 rfl ?bel ?_
                 case own => repeat' (first | with_reducible refine World.ownsRow.drew ?_ | with_reducible refine K.made0 ?_ ?_ | with_reducible refine World.ownsRow.alloc ?_ _ | rfl | (simp; done) | (simp; omega))
                 case row => exact rT.out.below (by repeat' (first | with_reducible exact Below.refl _ _ | with_reducible refine Below.drew ?_ | with_reducible refine Below.alloc ?_ ?_ _ | exact Nat.le_refl _ | (simp; done) | (simp; omega)))
                 case bel => repeat' (first | with_reducible exact Below.refl _ _ | with_reducible refine Below.drew ?_ | with_reducible refine Below.alloc ?_ ?_ _ | exact Nat.le_refl _ | (simp; done) | (simp; omega))
                 case base => first | exact Nat.le_refl _ | (simp; done) | (simp; omega)
                 intro v3 w3 hO3 hb3 hk3
                 have o3 := Lib.hid hO3
                 have hs3 := hb3.size
                 have z0 := ((D.bcell hb3).1 _ 0 lt).trans y0
                 have z1 := ((D.bcell hb3).1 _ 1 lt).trans y1
                 have z2 := ((D.bcell hb3).1 _ 2 lt).trans y2
                 have hb3 := Lib.hid hb3
                 have hk3 := Lib.hid hk3
                 clear hO3)
              | (refine K.step_append rfl (.tmp 75) (.tmp 77) rfl W0.heap.size v3 T.length (K.cellsM T) rfl ?own2 _ 1 [p] rfl ?nil2 ?row2 ?base2 (by simp; omega) ?_
                 case own2 => repeat (first | with_reducible exact o3.out | with_reducible refine World.ownsRow.drew ?_ | with_reducible refine World.ownsRow.alloc ?_ _)
                 case nil2 => exact fun h => nomatch h
                 case row2 => repeat' (first | with_reducible refine K.Row.drew ?_ | with_reducible refine K.row_lit' p ?_ | with_reducible refine hk3.out _ p ?_ ?_ | rfl | (simp; done) | (simp; omega) | with_reducible refine K.Row.alloc ?_ _)
                 case base2 => first | exact hs3 | (simp; done) | (simp; omega)
                 intro v4 w4 hO4 hg4
                 have o4 := Lib.hid hO4
                 have hb4 : Hid (Below W0.heap.size W0 w4) := by
                   refine Below.grown (row := v3.ownBlock) ?_ hg4 (by first | exact hs3 | (simp; done) | (simp; omega)) (fun k e => (o3.out.lt k e).1)
                   repeat' (first | with_reducible exact hb3.out | with_reducible refine Below.drew ?_ | with_reducible refine Below.alloc ?_ ?_ _ | exact hs3 | (simp; done) | (simp; omega))
                 clear hO4 hg4))
            all_goals
              clear o3 hb3 hk3 hs3 hsT
              obtain ⟨_, _, rfl⟩ := D.slice_of_own o4.out
              go_wp2_with (at_builtin; refine K.append_src' (w0 := W0) rfl _ _ rfl _ _ _ rfl o4.out hb4.out uo uc U rfl nU.out (rU.out.below hb4.out) ?z1 ?_)
              case z1 => simp; omega
              intro v5 w5 hO5 hb5
              have R : Hid (K.Made (T ++ p :: U) w v5 w5) := by
                show K.Made _ _ _ _
                refine ⟨?_, HBW.out.trans (hb5.mono HBW.out.size)⟩
                have h := D.own_mono hO5 HBW.out.size
                have e1 : (T ++ p :: U).length = T.length + 1 + U.length := by simp; omega
                have e2 : K.cellsM (T ++ p :: U) = K.cellsM T ++ (K.cellsM [p] ++ K.cellsM U) := by rw [show T ++ p :: U = T ++ ([p] ++ U) by simp, K.cellsM_append, K.cellsM_append]
                rw [e1, e2]
                exact h
              clear hO5 hb5
              clear o4 hb4 z0 z1 z2 y0 y1 y2
              go_wp2
              go_roundw
              case rel => exact ⟨k + 1, by omega, by go_num, by rw [hd.out]; exact R⟩
              case measure => simp [intOf]; omega
    · obtain rfl : k = l.length := by omega
      rw [List.take_length] at hL
      go_wp2
      go_ret
      exact ⟨_, rfl, hL.out⟩
end Go.Proofs.Ytmbgcbgbdjiacaa
