/- The walk of layer 14's law Joins. -/
import Derived.Test.YtniccjbcchdkoaaCkCat
namespace Go.Proofs.Ytniccjbcchdkoaa
open Go.RowKit

set_option maxRecDepth 100000 in
set_option maxHeartbeats 4000000 in
theorem chunkJoins_walk (a b : ByteArray) (w : World) (za : a.size ≤ 140737488351232) (zb : b.size ≤ 140737488351232) :
    Calls Try.prog 9 #[.string a, .string b] w fun e w' => e = .returned (.bool true) ∧ Below w.heap.size w w' := by
  have HW := Ck.hW
  have HJ := fun W => join14_any a b W
  unfold Ck.JnEnd at HJ
  have la := C14.leaf_iff a.data.toList
  have lb := C14.leaf_iff b.data.toList
  rw [Ck.len] at la lb
  have K0 := Lib.hid (Ck.kn0 w)
  by_cases hab : C14.leaf a.data.toList = true ∧ C14.leaf b.data.toList = true
  · have e1 : C14.jnE a.data.toList b.data.toList = 0 := if_pos hab
    have e2 : C14.jnL a.data.toList b.data.toList = C14.join a.data.toList b.data.toList := by unfold C14.jnL; rw [if_pos e1]
    rw [e1, e2] at HJ
    obtain ⟨a1, a2⟩ := la.1 hab.1
    obtain ⟨b1, b2⟩ := lb.1 hab.2
    have JD := C14.join_does hab.1 hab.2
    have hflat := JD.flat
    have htwo := JD.two
    rw [Ck.len, Ck.len] at htwo
    have hone : a.size + b.size ≤ 16 → C14.join a.data.toList b.data.toList = [a.data.toList ++ b.data.toList] := fun h => by unfold C14.join; rw [if_pos (by rw [List.length_append, Ck.len, Ck.len]; exact h)]
    have hcat : ∀ V, (Op.stringOp .add a b).run Try.prog V = .ok (.string (a ++ b)) V := fun V => run_string_add_sum V a b (by omega)
    have hcd : (a ++ b).data.toList = a.data.toList ++ b.data.toList := by simp
    have hcs : (a ++ b).size = a.size + b.size := ByteArray.size_append
    rw [← hcd] at hone hflat
    have hcs2 : (a ++ b).size ≤ 32 := by omega
    generalize a ++ b = c at *
    clear la lb hab e1 e2 JD hcd hcs za zb
    by_cases h16 : a.size + b.size ≤ 16
    · rw [hone h16] at HJ
      have HJ : Hid (∀ W, Calls Try.prog 31 #[.string a, .string b] W fun e w' => ∃ v, e = .returned (.tuple #[v, .int .i64 0]) ∧ V.Made 9 [.string c] W v w') := fun W => by rw [V.str_of c]; exact HJ W
      have HC : Hid (∀ ao ca W, V.Row W ao [.string c] → 1 ≤ ca → Calls Try.prog 37 #[.slice ao 1 ca, .string ⟨#[]⟩] W fun e w' => e = .returned (.string c) ∧ Below W.heap.size W w') := fun ao ca W hr hca => Ck.cat_any [c] ao ca 1 c W hr rfl hca (by simp) (by decide) (by omega)
      have hI : (a.size : Int) + (b.size : Int) ≤ 16 := by omega
      clear hone hflat htwo h16
      go_enter Try.func9, Try.ntmps9
      go_wp2_with fail
      refine (HJ.out _).mono ?_
      rintro e w1 ⟨v, rfl, hm⟩
      obtain ⟨p1, c1, rfl, hcap, K1⟩ := K0.out.madeC hm (n := 1) rfl
      clear hm K0 HJ
      go_wp2_with fail
      refine (HC.out _ _ _ K1.out.r0 hcap).mono ?_
      rintro e w2 ⟨rfl, hb⟩
      have K2 := Lib.hid (K1.out.on hb)
      clear hb K1 HC
      go_wp2_with fail
      refine (HW.out _).mono ?_
      rintro e w3 ⟨rfl, hb⟩
      have B3 := Lib.hid (K2.out.on hb).below
      clear hb HW K2
      go_wp2
      go_ret
      exact ⟨rfl, B3.out⟩
    · obtain ⟨X, Y, hXY, x8, x16, y8, y16, hjj⟩ := htwo (by omega)
      rw [hXY] at HJ hflat
      have HJ2 : Hid (∀ W, Calls Try.prog 31 #[V.str X, V.str Y] W fun e w' => ∃ v, e = .returned (.tuple #[v, .int .i64 0]) ∧ V.Made 9 [V.str X, V.str Y] W v w') := fun W => by
        have := join14_any ⟨X.toArray⟩ ⟨Y.toArray⟩ W
        unfold Ck.JnEnd at this
        dsimp only at this
        have f1 : C14.jnE X Y = 0 := if_pos ⟨(C14.leaf_iff _).2 ⟨by omega, x16⟩, (C14.leaf_iff _).2 ⟨by omega, y16⟩⟩
        have f2 : C14.jnL X Y = [X, Y] := by unfold C14.jnL; rw [if_pos f1, hjj]
        rw [f1, f2] at this
        exact this
      have HC : Hid (∀ ao ca W, V.Row W ao [V.str X, V.str Y] → 2 ≤ ca → Calls Try.prog 37 #[.slice ao 2 ca, .string ⟨#[]⟩] W fun e w' => e = .returned (.string c) ∧ Below W.heap.size W w') := fun ao ca W hr hca => Ck.cat_any [⟨X.toArray⟩, ⟨Y.toArray⟩] ao ca 2 c W hr rfl hca (by rw [← hflat]; simp) (by decide) (by omega)
      have HT : Hid (∀ ao bo ca cb W, V.Row W ao [V.str X, V.str Y] → V.Row W bo [V.str X, V.str Y] → Calls Try.prog 28 #[.slice ao 2 ca, .slice bo 2 cb] W fun e w' => e = .returned (.bool true) ∧ Below W.heap.size W w') := fun ao bo ca cb W ha hb => (Ck.hTexts (L := [X, Y]) (k := 2) rfl (by decide)).out ao bo ca cb W ha hb
      have HJ : Hid (∀ W, Calls Try.prog 31 #[.string a, .string b] W fun e w' => ∃ v, e = .returned (.tuple #[v, .int .i64 0]) ∧ V.Made 9 [V.str X, V.str Y] W v w') := HJ
      have xs : (⟨X.toArray⟩ : ByteArray).size = X.length := D.size_l X
      have ys : (⟨Y.toArray⟩ : ByteArray).size = Y.length := D.size_l Y
      rw [← xs] at x8 x16
      rw [← ys] at y8 y16
      have hI : ¬ (a.size : Int) + (b.size : Int) ≤ 16 := by omega
      unfold V.str at HJ HJ2 HC HT
      clear hone hflat h16 hXY hjj xs ys
      generalize (⟨X.toArray⟩ : ByteArray) = x at *
      generalize (⟨Y.toArray⟩ : ByteArray) = y at *
      go_enter Try.func9, Try.ntmps9
      go_wp2_with fail
      refine (HJ.out _).mono ?_
      rintro e w1 ⟨v, rfl, hm⟩
      obtain ⟨p1, c1, rfl, hcap, K1⟩ := K0.out.madeC hm (n := 2) rfl
      clear hm K0 HJ
      go_wp2_with fail
      refine (HC.out _ _ _ K1.out.r0 hcap).mono ?_
      rintro e w2 ⟨rfl, hb⟩
      have K2 := Lib.hid (K1.out.on hb)
      clear hb K1 HC
      obtain ⟨g, o, rfl, hg, c0⟩ := K2.out.r0 0 _ rfl
      obtain ⟨_, _, e1, _, c1'⟩ := K2.out.r0 1 _ rfl
      injection e1 with e1
      injection e1 with e1 e2
      subst e1
      subst e2
      rw [Nat.add_zero] at c0
      have Kd := Lib.hid (Ck.Kn.on K2.out (Below.refl _ _).drew)
      go_upto_region 10 with (fail)
      go_cut [7, 8] (fun v e wx => ∃ o3 c3, v = .slice o3 2 c3 ∧ e = .int .i64 0 ∧ Hid (Ck.Kn w wx ((o3, [.string x, .string y]) :: [(some ⟨g, o, none⟩, [.string x, .string y])])))
      case first =>
        go_region_with (go_at_call 31; (with_reducible refine (HJ2.out _).mono ?_); rintro e w3 ⟨v, rfl, hm⟩; obtain ⟨o3, c3, rfl, K3⟩ := Kd.out.made hm (n := 2) rfl; clear hm)
        all_goals
          go_wp2_with fail
          go_meet
          case rel => exact ⟨_, _, rfl, rfl, K3⟩
      case rest =>
      obtain ⟨o3, c3, rfl, rfl, K3⟩ := hcut
      obtain ⟨w3, rfl⟩ : ∃ w3 : World, w3 = wc := ⟨_, rfl⟩
      clear K2 Kd c0 c1' HJ2
      go_wp2_with fail
      refine (HT.out _ _ _ _ _ K3.out.tl.r0 K3.out.r0).mono ?_
      rintro e w4 ⟨rfl, hb⟩
      have K4 := Lib.hid (K3.out.on hb)
      clear hb K3 HT
      go_wp2_with fail
      refine (HW.out _).mono ?_
      rintro e w5 ⟨rfl, hb⟩
      have B5 := Lib.hid (K4.out.on hb).below
      clear hb HW K4
      go_wp2
      go_ret
      exact ⟨rfl, B5.out⟩
  · have e1 : C14.jnE a.data.toList b.data.toList = 2 := if_neg hab
    have e2 : C14.jnL a.data.toList b.data.toList = [] := by unfold C14.jnL; rw [if_neg (by rw [e1]; decide)]
    rw [e1, e2] at HJ
    have HJ : Hid (∀ W, Calls Try.prog 31 #[.string a, .string b] W fun e w' => ∃ v, e = .returned (.tuple #[v, .int .i64 2]) ∧ V.Made 9 [] W v w') := HJ
    have hn : Hid (¬ (1 ≤ a.size ∧ a.size ≤ 16 ∧ 1 ≤ b.size ∧ b.size ≤ 16)) := fun ⟨p, q, r, t⟩ => hab ⟨la.2 ⟨p, q⟩, lb.2 ⟨r, t⟩⟩
    clear e1 e2 hab la lb
    by_cases h1 : a.size < 1
    · clear hn
      go_enter Try.func9, Try.ntmps9
      go_wp2_with fail
      refine (HJ.out _).mono ?_
      rintro e w1 ⟨v, rfl, hm⟩
      obtain ⟨a1, c1, rfl, K1⟩ := K0.out.made hm (n := 0) rfl
      clear hm K0 HJ
      go_wp2_with fail
      refine (HW.out _).mono ?_
      rintro e w2 ⟨rfl, hb⟩
      have B2 := Lib.hid (K1.out.on hb).below
      clear hb HW K1
      go_wp2
      go_ret
      exact ⟨rfl, B2.out⟩
    · by_cases h2 : 16 < a.size
      · clear hn
        go_enter Try.func9, Try.ntmps9
        go_wp2_with fail
        refine (HJ.out _).mono ?_
        rintro e w1 ⟨v, rfl, hm⟩
        obtain ⟨a1, c1, rfl, K1⟩ := K0.out.made hm (n := 0) rfl
        clear hm K0 HJ
        go_wp2_with fail
        refine (HW.out _).mono ?_
        rintro e w2 ⟨rfl, hb⟩
        have B2 := Lib.hid (K1.out.on hb).below
        clear hb HW K1
        go_wp2
        go_ret
        exact ⟨rfl, B2.out⟩
      · by_cases h3 : b.size < 1
        · clear hn
          go_enter Try.func9, Try.ntmps9
          go_wp2_with fail
          refine (HJ.out _).mono ?_
          rintro e w1 ⟨v, rfl, hm⟩
          obtain ⟨a1, c1, rfl, K1⟩ := K0.out.made hm (n := 0) rfl
          clear hm K0 HJ
          go_wp2_with fail
          refine (HW.out _).mono ?_
          rintro e w2 ⟨rfl, hb⟩
          have B2 := Lib.hid (K1.out.on hb).below
          clear hb HW K1
          go_wp2
          go_ret
          exact ⟨rfl, B2.out⟩
        · have h4 : 16 < b.size := by
            by_cases h5 : 16 < b.size
            · exact h5
            · exact absurd ⟨by omega, by omega, by omega, by omega⟩ hn.out
          clear hn
          go_enter Try.func9, Try.ntmps9
          go_wp2_with fail
          refine (HJ.out _).mono ?_
          rintro e w1 ⟨v, rfl, hm⟩
          obtain ⟨a1, c1, rfl, K1⟩ := K0.out.made hm (n := 0) rfl
          clear hm K0 HJ
          go_wp2_with fail
          refine (HW.out _).mono ?_
          rintro e w2 ⟨rfl, hb⟩
          have B2 := Lib.hid (K1.out.on hb).below
          clear hb HW K1
          go_wp2
          go_ret
          exact ⟨rfl, B2.out⟩
end Go.Proofs.Ytniccjbcchdkoaa
