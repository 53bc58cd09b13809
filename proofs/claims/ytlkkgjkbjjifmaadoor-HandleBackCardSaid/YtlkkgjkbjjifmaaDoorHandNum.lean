/- The contracts of the reference of layer 10: number, Parse. -/
import Derived.Test.YtlkkgjkbjjifmaaDoorHandRef2
namespace Go.Proofs.YtlkkgjkbjjifmaaDoor
open Go.RowKit

theorem H.sat_cons (n : Nat) (c : UInt8) (r : List UInt8) : H.sat n (c :: r) = if c.toNat < 48 ∨ 57 < c.toNat then none else H.sat (if n < 576460752303423488 then 10 * n + (c.toNat - 48) else 9223372036854775808) r := by
  rw [H.sat]
  by_cases h : H.isD c = true
  · have k := (H.isD_iff c).1 h
    rw [if_pos h]
    exact (if_neg (by omega)).symm
  · have k : ¬ (48 ≤ c.toNat ∧ c.toNat ≤ 57) := fun x => h ((H.isD_iff c).2 x)
    rw [if_neg h]
    exact (if_pos (by omega)).symm
def H.NumEnd (l : List UInt8) (w : World) (e : Ending) (w' : World) : Prop := e = .returned (.tuple #[.int .u64 ((H.num l).getD 0 : Nat), .bool (H.num l).isSome]) ∧ w = w'
set_option maxRecDepth 100000 in
set_option maxHeartbeats 4000000 in
theorem refNumber10_any (t : List UInt8) (w : World) (hl : t.length ≤ 140737488351232) : Calls Tryd.prog 35 #[.string ⟨t.toArray⟩] w (H.NumEnd t w) := by
  have hsz : (⟨t.toArray⟩ : ByteArray).size = t.length := D.size_l t
  have bad : Hid (H.num t = none → H.NumEnd t w (.returned (.tuple #[.int .u64 0, .bool false])) w) := fun h => ⟨by rw [h]; rfl, rfl⟩
  by_cases h1 : t.length < 1
  · have R := Lib.hid (bad.out (by unfold H.num; rw [if_pos (Or.inl h1)]))
    have q1 : decide ((t.length : Int) < 1) = true := by simp; omega
    clear bad h1
    go_enter Tryd.func35, Tryd.ntmps35
    go_wp2
    go_ret2
    exact R.out
  · have q1 : decide ((t.length : Int) < 1) = false := by simp; omega
    by_cases h2 : 20 < t.length
    · have R := Lib.hid (bad.out (by unfold H.num; rw [if_pos (Or.inr (Or.inl h2))]))
      have q2 : decide ((20 : Int) < (t.length : Int)) = true := by simp; omega
      clear bad h1 h2
      go_enter Tryd.func35, Tryd.ntmps35
      go_wp2
      go_ret2
      exact R.out
    · have q2 : decide ((20 : Int) < (t.length : Int)) = false := by simp; omega
      have z0 : 0 < (⟨t.toArray⟩ : ByteArray).size := by omega
      obtain ⟨V0, b0⟩ : ∃ V0 : Nat, ((⟨t.toArray⟩ : ByteArray)[0]'z0).toNat = V0 := ⟨_, rfl⟩
      have hld : H.lead t = (decide (1 < t.length) && decide (V0 = 48)) := by
        unfold H.lead
        cases t with
        | nil => simp at h1
        | cons c r =>
          have e : c.toNat = V0 := b0
          congr 1
          rw [← e]
          by_cases hc : c = 48
          · subst hc; rfl
          · have : ¬ c.toNat = 48 := fun h => hc (UInt8.toNat_inj.1 (by show c.toNat = 48; omega))
            simp [hc, this]
      by_cases h3 : 1 < t.length ∧ V0 = 48
      · obtain ⟨h3, rfl⟩ := h3
        have R := Lib.hid (bad.out (by unfold H.num; rw [if_pos (Or.inr (Or.inr (by rw [hld]; simpa using h3)))]))
        have q3 : decide ((1 : Int) < (t.length : Int)) = true := by simp; omega
        clear bad h1 h2 hld h3
        go_enter Tryd.func35, Tryd.ntmps35
        go_wp2
        go_ret2
        exact R.out
      · have hnum : Hid (H.num t = H.sat 0 t) := by
          show _ = _
          unfold H.num
          rw [if_neg]
          rintro (h | h | h)
          · omega
          · omega
          · rw [hld] at h
            simp at h
            exact h3 h
        have hq : decide ((1 : Int) < (t.length : Int)) = false ∨ (decide ((1 : Int) < (t.length : Int)) = true ∧ ((V0 : Int) == 48) = false) := by
          by_cases h : 1 < t.length
          · exact .inr ⟨by simp; omega, by simp; omega⟩
          · exact .inl (by simp; omega)
        have hl20 : t.length ≤ 20 := by omega
        clear bad h1 h2 hld h3
        rcases hq with q3 | ⟨q3, q4⟩
        all_goals
          go_enter Tryd.func35, Tryd.ntmps35
          go_wp2
          go_loopw [4, 5] (fun u v wr => ∃ (j : Nat) (n : Int), j ≤ t.length ∧ 0 ≤ n ∧ n ≤ 9223372036854775808 ∧ v = .int .i64 j ∧ u = .int .u64 n ∧ Hid (H.num t = H.sat n.toNat (t.drop j)) ∧ wr = w) (fun _ v _ => t.length - (intOf v).toNat)
          case atStart => exact ⟨0, 0, Nat.zero_le _, by omega, by omega, rfl, rfl, hnum.out, rfl⟩
          case round =>
            obtain ⟨j, n, hj, hn0, hn, rfl, rfl, hz, hw⟩ := hrel
            subst hw
            clear b0 z0 hnum
            by_cases hlt : j < t.length
            · have hjz : j < (⟨t.toArray⟩ : ByteArray).size := by omega
              obtain ⟨V, hV⟩ : ∃ V : Nat, ((⟨t.toArray⟩ : ByteArray)[j]'hjz).toNat = V := ⟨_, rfl⟩
              have hV8 : V < 256 := hV ▸ UInt8.toNat_lt _
              have hnx : Hid (H.num t = if V < 48 ∨ 57 < V then none else H.sat (if n.toNat < 576460752303423488 then 10 * n.toNat + (V - 48) else 9223372036854775808) (t.drop (j + 1))) := by
                show _ = _
                rw [hz.out, List.drop_eq_getElem_cons hlt, H.sat_cons]
                have : (t[j]'hlt).toNat = V := hV
                rw [this]
              clear hz
              by_cases v1 : V < 48
              · have R : Hid (H.NumEnd t wr (.returned (.tuple #[.int .u64 0, .bool false])) wr) := by
                  have e : H.num t = none := by rw [hnx.out, if_pos (Or.inl v1)]
                  exact ⟨by rw [e]; rfl, rfl⟩
                clear hnx
                go_wp2
                go_ret2
                exact R.out
              · by_cases v2 : 57 < V
                · have R : Hid (H.NumEnd t wr (.returned (.tuple #[.int .u64 0, .bool false])) wr) := by
                    have e : H.num t = none := by rw [hnx.out, if_pos (Or.inr v2)]
                    exact ⟨by rw [e]; rfl, rfl⟩
                  clear hnx
                  go_wp2
                  go_ret2
                  exact R.out
                · by_cases hb : n < 576460752303423488
                  · have R : Hid (H.num t = H.sat (10 * n + ((V : Int) - 48)).toNat (t.drop (j + 1))) := by show _ = _; rw [hnx.out, if_neg (by omega), if_pos (by omega)]; congr 1; omega
                    have qb : decide (n < 576460752303423488) = true := by simpa using hb
                    clear hnx
                    go_wp2
                    go_roundw
                    case rel => exact ⟨j + 1, 10 * n + ((V : Int) - 48), by omega, by omega, by omega, by go_num, by first | rfl | go_num, R, by first | trivial | rfl⟩
                    case measure => simp [intOf]; omega
                  · have R : Hid (H.num t = H.sat (9223372036854775808 : Int).toNat (t.drop (j + 1))) := by show _ = _; rw [hnx.out, if_neg (by omega), if_neg (by omega)]; rfl
                    have qb : decide (n < 576460752303423488) = false := by simpa using hb
                    clear hnx
                    go_wp2
                    go_roundw
                    case rel => exact ⟨j + 1, 9223372036854775808, by omega, by omega, by omega, by go_num, rfl, R, by first | trivial | rfl⟩
                    case measure => simp [intOf]; omega
            · obtain rfl : j = t.length := by omega
              have R : Hid (H.NumEnd t wr (.returned (.tuple #[.int .u64 n, .bool true])) wr) := by
                have e : H.num t = some n.toNat := by rw [hz.out, List.drop_length]; rfl
                exact ⟨by rw [e]; show _ = Ending.returned (.tuple #[.int .u64 ((n.toNat : Nat) : Int), .bool true]); rw [show ((n.toNat : Nat) : Int) = n by omega], rfl⟩
              clear hz
              go_wp2
              go_ret2
              exact R.out
theorem H.sat_le : ∀ (l : List UInt8) (n x : Nat), n ≤ 9223372036854775808 → H.sat n l = some x → x ≤ 9223372036854775808
  | [], n, x, h, e => by
    unfold H.sat at e
    cases e; exact h
  | c :: r, n, x, h, e => by
    rw [H.sat_cons] at e
    have hc := UInt8.toNat_lt c
    by_cases k : c.toNat < 48 ∨ 57 < c.toNat
    · rw [if_pos k] at e; cases e
    · rw [if_neg k] at e
      refine H.sat_le r _ x ?_ e
      split <;> omega
theorem H.num_le {l : List UInt8} {x : Nat} (h : H.num l = some x) : x ≤ 9223372036854775808 := by
  unfold H.num at h
  split at h
  · cases h
  · exact H.sat_le l 0 x (by omega) h
theorem H.dot_step (t : List UInt8) (j : Nat) (hj : j < t.length) : H.dot (t.take j) (t.drop j) = if (t[j]'hj).toNat = 46 then some (t.take j, t.drop (j + 1)) else H.dot (t.take (j + 1)) (t.drop (j + 1)) := by
  rw [List.drop_eq_getElem_cons hj, H.dot]
  by_cases h : t[j]'hj = 46
  · rw [if_pos h, if_pos (by rw [h]; rfl)]
  · rw [if_neg h, if_neg (fun e => h (UInt8.toNat_inj.1 (by rw [e]; rfl))), List.take_add_one, List.getElem?_eq_getElem hj]; rfl
def H.ParEnd (t : List UInt8) (w : World) (e : Ending) (w' : World) : Prop := e = .returned (.tuple #[.int .u64 (H.parse t).1, .int .i64 (H.parse t).2]) ∧ w = w'
theorem H.par_end {t : List UInt8} {w : World} {a b : Int} (h : H.parse t = (a, b)) : H.ParEnd t w (.returned (.tuple #[.int .u64 a, .int .i64 b])) w := ⟨by rw [h], rfl⟩
set_option maxRecDepth 100000 in
set_option maxHeartbeats 4000000 in
theorem refParse10_any (t : List UInt8) (w : World) (hl : t.length ≤ 140737488351232) : Calls Tryd.prog 23 #[.string ⟨t.toArray⟩] w (H.ParEnd t w) := by
  have hsz : (⟨t.toArray⟩ : ByteArray).size = t.length := D.size_l t
  go_enter Tryd.func23, Tryd.ntmps23
  go_wp2
  go_loopw [4] (fun v wr => ∃ j : Nat, j ≤ t.length ∧ v = .int .i64 j ∧ Hid (H.dot [] t = H.dot (t.take j) (t.drop j)) ∧ wr = w) (fun v _ => t.length - (intOf v).toNat)
  case atStart => exact ⟨0, Nat.zero_le _, rfl, rfl, rfl⟩
  case round =>
    obtain ⟨j, hj, rfl, hz, hw⟩ := hrel
    subst hw
    by_cases hlt : j < t.length
    · have hjz : j < (⟨t.toArray⟩ : ByteArray).size := by omega
      obtain ⟨V, hV⟩ : ∃ V : Nat, ((⟨t.toArray⟩ : ByteArray)[j]'hjz).toNat = V := ⟨_, rfl⟩
      have hst := H.dot_step t j hlt
      rw [show (t[j]'hlt).toNat = V from hV, ← hz.out] at hst
      have hst := Lib.hid hst
      clear hz
      by_cases hv : V = 46
      · subst hv
        have hd : H.dot [] t = some (t.take j, t.drop (j + 1)) := by rw [hst.out, if_pos rfl]
        have hp : Hid (H.parse t = H.two (t.take j) (t.drop (j + 1))) := by show _ = _; unfold H.parse; rw [hd]
        have hs1 : ∀ W, (Instr.slice 9 (.string ⟨t.toArray⟩) none (some (.int .i64 (j : Int))) none).run Tryd.prog W = .ok (.string ⟨(t.take j).toArray⟩) W := fun W => by
          have e1 : (⟨t.toArray⟩ : ByteArray).extract 0 j = ⟨(t.take j).toArray⟩ := by rw [← D.bytes_eq ((⟨t.toArray⟩ : ByteArray).extract 0 j)]; simp
          have := run_slice_string_h (P := Tryd.prog) W 9 ⟨t.toArray⟩ Tryd.underlying9 .i64 (j : Int) (by omega) (by omega)
          rw [Int.toNat_natCast, e1] at this
          exact this
        have hs2 : ∀ W, (Instr.slice 9 (.string ⟨t.toArray⟩) (some (.int .i64 ((j : Int) + 1))) none none).run Tryd.prog W = .ok (.string ⟨(t.drop (j + 1)).toArray⟩) W := fun W => by
          have e1 : (⟨t.toArray⟩ : ByteArray).extract (j + 1) (⟨t.toArray⟩ : ByteArray).size = ⟨(t.drop (j + 1)).toArray⟩ := by rw [← D.bytes_eq ((⟨t.toArray⟩ : ByteArray).extract (j + 1) (⟨t.toArray⟩ : ByteArray).size)]; simp [hsz]; exact List.take_of_length_le (by rw [List.length_drop]; exact Nat.le_refl _)
          have := run_slice_string_l (P := Tryd.prog) W 9 ⟨t.toArray⟩ Tryd.underlying9 .i64 ((j : Int) + 1) (by omega) (by omega)
          rw [show ((j : Int) + 1).toNat = j + 1 by omega, e1] at this
          exact this
        have N1 : Hid (Calls Tryd.prog 35 #[.string ⟨(t.take j).toArray⟩] wr (H.NumEnd (t.take j) wr)) := refNumber10_any (t.take j) wr (by rw [List.length_take]; omega)
        have N2 : Hid (Calls Tryd.prog 35 #[.string ⟨(t.drop (j + 1)).toArray⟩] wr (H.NumEnd (t.drop (j + 1)) wr)) := refNumber10_any (t.drop (j + 1)) wr (by rw [List.length_drop]; omega)
        have w1 : IntKind.i64.wrap ((j : Int) + 1) = (j : Int) + 1 := IntWalk.i64_in _ (by omega)
        unfold H.NumEnd at N1 N2
        clear hst hd
        generalize t.take j = x at hp hs1 N1
        generalize t.drop (j + 1) = y at hp hs2 N2
        cases hx : H.num x with
        | none =>
          have R := Lib.hid (H.par_end (w := wr) (show H.parse t = (0, 4) by rw [hp.out]; unfold H.two; rw [hx]))
          rw [hx] at N1
          generalize ((H.num y).getD 0 : Nat) = gy at N2
          generalize (H.num y).isSome = sy at N2
          clear hp hx
          go_wp2_with fail
          refine N1.out.mono ?_
          rintro e w2 ⟨rfl, rfl⟩
          go_wp2_with fail
          refine N2.out.mono ?_
          rintro e w2 ⟨rfl, rfl⟩
          go_wp2
          go_ret2
          exact R.out
        | some s =>
          rw [hx] at N1
          cases hy : H.num y with
          | none =>
            have R := Lib.hid (H.par_end (w := wr) (show H.parse t = (0, 4) by rw [hp.out]; unfold H.two; rw [hx, hy]))
            rw [hy] at N2
            clear hp hx hy
            go_wp2_with fail
            refine N1.out.mono ?_
            rintro e w2 ⟨rfl, rfl⟩
            go_wp2_with fail
            refine N2.out.mono ?_
            rintro e w2 ⟨rfl, rfl⟩
            go_wp2
            go_ret2
            exact R.out
          | some g =>
            rw [hy] at N2
            have ls := H.num_le hx
            have lg := H.num_le hy
            have hp2 : Hid (H.parse t = if 16384 ≤ s then (0, 3) else (H.mkV s g, H.mkE s g)) := by show _ = _; rw [hp.out]; unfold H.two; rw [hx, hy]
            clear hp hx hy
            simp only [Option.getD_some, Option.isSome_some] at N1 N2
            obtain ⟨si, hsi⟩ : ∃ si : Int, (s : Int) = si := ⟨_, rfl⟩
            obtain ⟨gi, hgi⟩ : ∃ gi : Int, (g : Int) = gi := ⟨_, rfl⟩
            have s0 : 0 ≤ si := by omega
            have s1 : si ≤ 9223372036854775808 := by omega
            have g0 : 0 ≤ gi := by omega
            have g1 : gi ≤ 9223372036854775808 := by omega
            rw [hsi, hgi] at hp2
            rw [hsi] at N1
            rw [hgi] at N2
            by_cases hbig : 16384 ≤ si
            · have R := Lib.hid (H.par_end (w := wr) (show H.parse t = (0, 3) by rw [hp2.out, if_pos (by omega)]))
              clear hp2 ls lg hsi hgi
              go_wp2_with fail
              refine N1.out.mono ?_
              rintro e w2 ⟨rfl, rfl⟩
              go_wp2_with fail
              refine N2.out.mono ?_
              rintro e w2 ⟨rfl, rfl⟩
              go_wp2
              go_ret2
              exact R.out
            · have R := Lib.hid (H.par_end (w := wr) (show H.parse t = (H.mkV si gi, H.mkE si gi) by rw [hp2.out, if_neg (by omega)]))
              have HM := Lib.hid (refMake10_any si gi (by omega) (by omega) g0 (by omega) wr)
              clear hp2 ls lg hsi hgi
              generalize H.mkV si gi = mv at *
              generalize H.mkE si gi = me at *
              go_wp2_with fail
              refine N1.out.mono ?_
              rintro e w2 ⟨rfl, rfl⟩
              go_wp2_with fail
              refine N2.out.mono ?_
              rintro e w2 ⟨rfl, rfl⟩
              go_wp2_with fail
              refine HM.out.mono ?_
              rintro e w2 ⟨rfl, rfl⟩
              go_wp2
              go_ret2
              exact R.out
      · have hz : Hid (H.dot [] t = H.dot (t.take (j + 1)) (t.drop (j + 1))) := by show _ = _; rw [hst.out, if_neg hv]
        have q1 : ((V : Int) != 46) = true := by simp; omega
        clear hst
        go_wp2
        go_roundw
        case rel => exact ⟨j + 1, by omega, by go_num, hz, by first | trivial | rfl⟩
        case measure => simp [intOf]; omega
    · obtain rfl : j = t.length := by omega
      have R := Lib.hid (H.par_end (w := wr) (show H.parse t = (0, 4) by unfold H.parse; rw [hz.out, List.drop_length]; rfl))
      clear hz
      go_wp2
      go_ret2
      exact R.out
end Go.Proofs.YtlkkgjkbjjifmaaDoor
