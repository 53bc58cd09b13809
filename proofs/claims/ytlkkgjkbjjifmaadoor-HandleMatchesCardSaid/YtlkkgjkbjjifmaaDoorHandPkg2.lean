/- The contracts of package handle: number, Parse; strings.Cut at a period. -/
import Derived.Test.YtlkkgjkbjjifmaaDoorHandPkg1
import Derived.Test.YtlkkgjkbjjifmaaDoorHandNum
import Derived.Test.YtlkkgjkbjjifmaaDoorHandRow
import Derived.Test.YtlkkgjkbjjifmaaDoorHandLib
import Derived.BigQuiet
namespace Go.Proofs.YtlkkgjkbjjifmaaDoor
open Go.RowKit

/-! ### Numbers that are bounded at each digit -/
def H.lim (m : Nat) : Nat → List UInt8 → Option Nat
  | n, [] => some n
  | n, c :: r => if c.toNat < 48 ∨ 57 < c.toNat then none else H.lim m (min (10 * n + (c.toNat - 48)) m) r
def H.numM (m : Nat) (l : List UInt8) : Option Nat := if l.length < 1 ∨ 20 < l.length ∨ H.lead l = true then none else H.lim m 0 l
theorem H.lim_sat (m : Nat) (hm : m ≤ 576460752303423488) : ∀ (l : List UInt8) (a b : Nat), a = min b m → H.lim m a l = (H.sat b l).map fun x => min x m
  | [], a, b, h => by unfold H.lim H.sat; rw [h]; rfl
  | c :: r, a, b, h => by
    rw [H.sat_cons, H.lim]
    have hc := UInt8.toNat_lt c
    by_cases k : c.toNat < 48 ∨ 57 < c.toNat
    · rw [if_pos k, if_pos k]; rfl
    · rw [if_neg k, if_neg k]
      refine H.lim_sat m hm r _ _ ?_
      split <;> omega
theorem H.numM_num (m : Nat) (hm : m ≤ 576460752303423488) (l : List UInt8) : H.numM m l = (H.num l).map fun x => min x m := by
  unfold H.numM H.num
  split
  · rfl
  · exact H.lim_sat m hm l 0 0 (by omega)
theorem H.two_no (x y : List UInt8) (h : H.numM 16384 x = none ∨ H.numM 4294967296 y = none) : H.two x y = (0, 4) := by
  rw [H.numM_num _ (by omega), H.numM_num _ (by omega)] at h
  unfold H.two
  rcases h with h | h
  · rw [Option.map_eq_none_iff.1 h]
  · rw [Option.map_eq_none_iff.1 h]
    cases H.num x <;> rfl
set_option maxRecDepth 100000 in
theorem H.two_ok (x y : List UInt8) (s g : Nat) (hs : H.numM 16384 x = some s) (hg : H.numM 4294967296 y = some g) : H.two x y = (H.mkV s g, H.mkE s g) ∧ s ≤ 16384 ∧ g ≤ 4294967296 := by
  rw [H.numM_num _ (by omega)] at hs hg
  obtain ⟨s0, es, rfl⟩ := Option.map_eq_some_iff.1 hs
  obtain ⟨g0, eg, rfl⟩ := Option.map_eq_some_iff.1 hg
  refine ⟨?_, by omega, by omega⟩
  unfold H.two
  rw [es, eg]
  show (if 16384 ≤ s0 then ((0 : Int), (3 : Int)) else _) = _
  by_cases h : 16384 ≤ s0
  · rw [if_pos h]
    have e : H.mkE ((min s0 16384 : Nat) : Int) ((min g0 4294967296 : Nat) : Int) = 3 := by unfold H.mkE; rw [if_pos (by omega)]
    rw [H.mkV, e]; rfl
  · rw [if_neg h, show min s0 16384 = s0 by omega]
    by_cases k : g0 ≤ 4294967296
    · rw [show min g0 4294967296 = g0 by omega]
    · have e1 : H.mkE (s0 : Int) (g0 : Int) = 3 := by unfold H.mkE; rw [if_neg (by omega), if_pos (by omega)]
      have e2 : H.mkE (s0 : Int) ((min g0 4294967296 : Nat) : Int) = 3 := by unfold H.mkE; rw [if_neg (by omega), if_pos (by omega)]
      unfold H.mkV; rw [e1, e2, if_neg (by decide), if_neg (by decide)]
theorem H.dot_index : ∀ (l g : List UInt8), (Lib.indexByte l 46 = -1 ∧ H.dot g l = none) ∨ ∃ i : Nat, Lib.indexByte l 46 = (i : Int) ∧ i < l.length ∧ H.dot g l = some (g ++ l.take i, l.drop (i + 1))
  | [], g => .inl ⟨rfl, rfl⟩
  | c :: r, g => by
    rw [H.dot, Lib.indexByte]
    by_cases h : c = 46
    · subst h
      exact .inr ⟨0, by simp, by simp, by simp⟩
    · have hb : (c == 46) = false := by simpa using h
      rw [if_neg h, hb]
      rcases H.dot_index r (g ++ [c]) with ⟨h1, h2⟩ | ⟨i, h1, h2, h3⟩
      · exact .inl ⟨by rw [h1]; rfl, h2⟩
      · refine .inr ⟨i + 1, ?_, by simp; omega, ?_⟩
        · rw [h1]
          have : ((i : Int) == -1) = false := by simp
          rw [this]; simp
        · rw [h3]; simp
/-- What strings.Cut returns at a period. -/
def H.cutP (t : List UInt8) : List UInt8 × List UInt8 × Bool := match H.dot [] t with | none => (t, [], false) | some (x, y) => (x, y, true)
theorem H.parse_cut (t : List UInt8) : H.parse t = H.two (H.cutP t).1 (H.cutP t).2.1 := by
  unfold H.parse H.cutP
  cases h : H.dot [] t with
  | none => exact (H.two_no _ _ (.inr (by unfold H.numM; rw [if_pos (.inl (by simp))]))).symm
  | some p => rfl
theorem H.cutP_len (t : List UInt8) : (H.cutP t).1.length ≤ t.length ∧ (H.cutP t).2.1.length ≤ t.length := by
  unfold H.cutP
  rcases H.dot_index t [] with ⟨_, h⟩ | ⟨i, _, _, h⟩
  · rw [h]; simp
  · rw [h]; simp; omega
def H.CutEnd (t : List UInt8) (w : World) (e : Ending) (w' : World) : Prop := e = .returned (.tuple #[.string ⟨(H.cutP t).1.toArray⟩, .string ⟨(H.cutP t).2.1.toArray⟩, .bool (H.cutP t).2.2]) ∧ Below w.heap.size w w'
set_option maxRecDepth 100000 in
set_option maxHeartbeats 2000000 in
theorem liteCut10_any (t : List UInt8) (w : World) (hl : t.length ≤ 140737488351232) : Calls Tryd.prog 46 #[.string ⟨t.toArray⟩, .string ⟨#[46]⟩] w (H.CutEnd t w) := by
  have hsz : (⟨t.toArray⟩ : ByteArray).size = t.length := D.size_l t
  have HI0 := Any.stringslite_Index_one H.laysIndex ⟨t.toArray⟩ 46 w
  change Calls Tryd.prog 56 _ _ _ at HI0
  rw [show (⟨t.toArray⟩ : ByteArray).data.toList = t by simp] at HI0
  rcases H.dot_index t [] with ⟨h1, h2⟩ | ⟨i, h1, h2, h3⟩
  · rw [h1] at HI0
    have R : Hid (∀ w', Below w.heap.size w w' → H.CutEnd t w (.returned (.tuple #[.string ⟨t.toArray⟩, .string ⟨#[]⟩, .bool false])) w') := fun w' hb => ⟨by unfold H.cutP; rw [h2], hb⟩
    have HI := Lib.hid HI0
    clear HI0 h1 h2
    go_enter Tryd.func46, Tryd.ntmps46
    go_wp2_with (go_at_call 56; refine HI.out.mono ?_; rintro e w' ⟨rfl, rfl⟩)
    go_ret3
    exact R.out _ (Below.refl _ _)
  · rw [h1] at HI0
    rw [List.nil_append] at h3
    have R : Hid (∀ w', Below w.heap.size w w' → H.CutEnd t w (.returned (.tuple #[.string ⟨(t.take i).toArray⟩, .string ⟨(t.drop (i + 1)).toArray⟩, .bool true])) w') := fun w' hb => ⟨by unfold H.cutP; rw [h3], hb⟩
    have hs1 : ∀ W, (Instr.slice 9 (.string ⟨t.toArray⟩) none (some (.int .i64 (i : Int))) none).run Tryd.prog W = .ok (.string ⟨(t.take i).toArray⟩) W := fun W => by
      have e1 : (⟨t.toArray⟩ : ByteArray).extract 0 i = ⟨(t.take i).toArray⟩ := by rw [← D.bytes_eq ((⟨t.toArray⟩ : ByteArray).extract 0 i)]; simp
      have := run_slice_string_h (P := Tryd.prog) W 9 ⟨t.toArray⟩ Tryd.underlying9 .i64 (i : Int) (by omega) (by omega)
      rw [Int.toNat_natCast, e1] at this
      exact this
    have hs2 : ∀ W, (Instr.slice 9 (.string ⟨t.toArray⟩) (some (.int .i64 ((i : Int) + 1))) none none).run Tryd.prog W = .ok (.string ⟨(t.drop (i + 1)).toArray⟩) W := fun W => by
      have e1 : (⟨t.toArray⟩ : ByteArray).extract (i + 1) (⟨t.toArray⟩ : ByteArray).size = ⟨(t.drop (i + 1)).toArray⟩ := by rw [← D.bytes_eq ((⟨t.toArray⟩ : ByteArray).extract (i + 1) (⟨t.toArray⟩ : ByteArray).size)]; simp [hsz]; exact List.take_of_length_le (by rw [List.length_drop]; exact Nat.le_refl _)
      have := run_slice_string_l (P := Tryd.prog) W 9 ⟨t.toArray⟩ Tryd.underlying9 .i64 ((i : Int) + 1) (by omega) (by omega)
      rw [show ((i : Int) + 1).toNat = i + 1 by omega, e1] at this
      exact this
    have w1 : IntKind.i64.wrap ((i : Int) + 1) = (i : Int) + 1 := IntWalk.i64_in _ (by omega)
    have HI := Lib.hid HI0
    clear HI0 h1 h3
    generalize t.take i = x at hs1 R
    generalize t.drop (i + 1) = y at hs2 R
    go_enter Tryd.func46, Tryd.ntmps46
    go_wp2_with (go_at_call 56; refine HI.out.mono ?_; rintro e w' ⟨rfl, rfl⟩)
    go_quiet (fail)
    go_wp2
    go_ret3
    exact R.out _ (H.drewN (Below.refl _ _) _)
set_option maxHeartbeats 1000000 in
theorem cut10_any (t : List UInt8) (w : World) (hl : t.length ≤ 140737488351232) : Calls Tryd.prog 33 #[.string ⟨t.toArray⟩, .string ⟨#[46]⟩] w (H.CutEnd t w) := by
  have HC := Lib.hid (liteCut10_any t w hl)
  unfold H.CutEnd at HC ⊢
  generalize (H.cutP t).1 = x at *
  generalize (H.cutP t).2.1 = y at *
  generalize (H.cutP t).2.2 = b at *
  go_enter Tryd.func33, Tryd.ntmps33
  go_wp2_with (go_at_call 46; refine HC.out.mono ?_; rintro e w' ⟨rfl, hb⟩; have hb := Lib.hid hb)
  go_ret3
  exact ⟨rfl, hb.out⟩
/-! ### number -/
def H.NumMEnd (m : Nat) (l : List UInt8) (w : World) (e : Ending) (w' : World) : Prop := e = .returned (.tuple #[.int .u64 ((H.numM m l).getD 0 : Nat), .bool (H.numM m l).isSome]) ∧ w = w'
set_option maxRecDepth 100000 in
set_option maxHeartbeats 4000000 in
theorem number10_any (t : List UInt8) (m : Nat) (mi : Int) (hm : (m : Int) = mi) (hm1 : 1 ≤ m) (hm2 : m ≤ 4294967296) (w : World) (hl : t.length ≤ 140737488351232) : Calls Tryd.prog 34 #[.string ⟨t.toArray⟩, .int .u64 mi] w (H.NumMEnd m t w) := by
  have hsz : (⟨t.toArray⟩ : ByteArray).size = t.length := D.size_l t
  have bad : Hid (H.numM m t = none → H.NumMEnd m t w (.returned (.tuple #[.int .u64 0, .bool false])) w) := fun h => ⟨by rw [h]; rfl, rfl⟩
  by_cases h1 : t = []
  · have R := Lib.hid (bad.out (by unfold H.numM; rw [if_pos (Or.inl (by rw [h1]; simp))]))
    subst h1
    clear bad
    go_enter Tryd.func34, Tryd.ntmps34
    go_wp2
    go_ret2
    exact R.out
  · have hpos : 0 < t.length := List.length_pos_iff.2 h1
    have hne1 : t.isEmpty = false := by
      cases t with
      | nil => exact absurd rfl h1
      | cons c r => rfl
    by_cases h2 : 20 < t.length
    · have R := Lib.hid (bad.out (by unfold H.numM; rw [if_pos (Or.inr (Or.inl h2))]))
      have q2 : decide ((20 : Int) < (t.length : Int)) = true := by simp; omega
      clear bad h2
      go_enter Tryd.func34, Tryd.ntmps34
      go_wp2
      go_ret2
      exact R.out
    · have q2 : decide ((20 : Int) < (t.length : Int)) = false := by simp; omega
      have z0 : 0 < (⟨t.toArray⟩ : ByteArray).size := by omega
      obtain ⟨V0, b0⟩ : ∃ V0 : Nat, ((⟨t.toArray⟩ : ByteArray)[0]'z0).toNat = V0 := ⟨_, rfl⟩
      have hld : H.lead t = (decide (1 < t.length) && decide (V0 = 48)) := by
        unfold H.lead
        cases t with
        | nil => simp at h1
        | cons c r =>
          have e : c.toNat = V0 := b0
          congr 1
          rw [← e]
          by_cases hc : c = 48
          · subst hc; rfl
          · have : ¬ c.toNat = 48 := fun h => hc (UInt8.toNat_inj.1 (by show c.toNat = 48; omega))
            simp [hc, this]
      by_cases h3 : 1 < t.length ∧ V0 = 48
      · obtain ⟨h3, rfl⟩ := h3
        have R := Lib.hid (bad.out (by unfold H.numM; rw [if_pos (Or.inr (Or.inr (by rw [hld]; simpa using h3)))]))
        have q3 : decide ((1 : Int) < (t.length : Int)) = true := by simp; omega
        clear bad h2 hld h3
        go_enter Tryd.func34, Tryd.ntmps34
        go_wp2
        go_ret2
        exact R.out
      · have hnum : Hid (H.numM m t = H.lim m 0 t) := by
          show _ = _
          unfold H.numM
          rw [if_neg]
          rintro (h | h | h)
          · omega
          · omega
          · rw [hld] at h
            simp at h
            exact h3 h
        have hq : decide ((1 : Int) < (t.length : Int)) = false ∨ (decide ((1 : Int) < (t.length : Int)) = true ∧ ((V0 : Int) == 48) = false) := by
          by_cases h : 1 < t.length
          · exact .inr ⟨by simp; omega, by simp; omega⟩
          · exact .inl (by simp; omega)
        have hl20 : t.length ≤ 20 := by omega
        have hmi : 1 ≤ mi ∧ mi ≤ 4294967296 := by omega
        have HM := Lib.hid hm
        have hm1' := hmi.1
        have hm2' := hmi.2
        clear bad h2 hld h3 hm hm1 hm2 hmi
        rcases hq with q3 | ⟨q3, q4⟩
        all_goals
          go_enter Tryd.func34, Tryd.ntmps34
          go_wp2
          go_loopw [6, 27] (fun u v wr => ∃ (j : Nat) (n : Int), j ≤ t.length ∧ 0 ≤ n ∧ n ≤ mi ∧ v = .int .i64 j ∧ u = .int .u64 n ∧ Hid (H.numM m t = H.lim m n.toNat (t.drop j)) ∧ wr = w) (fun _ v _ => t.length - (intOf v).toNat)
          case atStart => exact ⟨0, 0, Nat.zero_le _, by omega, by omega, rfl, rfl, hnum.out, rfl⟩
          case round =>
            obtain ⟨j, n, hj, hn0, hn, rfl, rfl, hz, hw⟩ := hrel
            subst hw
            clear b0 z0 hnum
            by_cases hlt : j < t.length
            · have hjz : j < (⟨t.toArray⟩ : ByteArray).size := by omega
              obtain ⟨V, hV⟩ : ∃ V : Nat, ((⟨t.toArray⟩ : ByteArray)[j]'hjz).toNat = V := ⟨_, rfl⟩
              have hV8 : V < 256 := hV ▸ UInt8.toNat_lt _
              have hnx : Hid (H.numM m t = if V < 48 ∨ 57 < V then none else H.lim m (min (10 * n.toNat + (V - 48)) m) (t.drop (j + 1))) := by
                show _ = _
                rw [hz.out, List.drop_eq_getElem_cons hlt, H.lim]
                have : (t[j]'hlt).toNat = V := hV
                rw [this]
              clear hz
              by_cases v1 : V < 48
              · have R : Hid (H.NumMEnd m t wr (.returned (.tuple #[.int .u64 0, .bool false])) wr) := by
                  have e : H.numM m t = none := by rw [hnx.out, if_pos (Or.inl v1)]
                  exact ⟨by rw [e]; rfl, rfl⟩
                clear hnx
                go_wp2
                go_ret2
                exact R.out
              · by_cases v2 : 57 < V
                · have R : Hid (H.NumMEnd m t wr (.returned (.tuple #[.int .u64 0, .bool false])) wr) := by
                    have e : H.numM m t = none := by rw [hnx.out, if_pos (Or.inr v2)]
                    exact ⟨by rw [e]; rfl, rfl⟩
                  clear hnx
                  go_wp2
                  go_ret2
                  exact R.out
                · obtain ⟨y, hy⟩ : ∃ y : Int, min (10 * n + ((V : Int) - 48)) mi = y := ⟨_, rfl⟩
                  have y0 : 0 ≤ y := by omega
                  have y1 : y ≤ mi := by omega
                  have R : Hid (H.numM m t = H.lim m y.toNat (t.drop (j + 1))) := by
                    have := HM.out
                    show _ = _; rw [hnx.out, if_neg (by omega)]; congr 1; omega
                  clear hnx
                  go_wp2
                  go_roundw
                  case rel => exact ⟨j + 1, y, by omega, by omega, by omega, by go_num, by first | rfl | go_num, R, by first | trivial | rfl⟩
                  case measure => simp [intOf]; omega
            · obtain rfl : j = t.length := by omega
              have R : Hid (H.NumMEnd m t wr (.returned (.tuple #[.int .u64 n, .bool true])) wr) := by
                have e : H.numM m t = some n.toNat := by rw [hz.out, List.drop_length]; rfl
                exact ⟨by rw [e]; show _ = Ending.returned (.tuple #[.int .u64 ((n.toNat : Nat) : Int), .bool true]); rw [show ((n.toNat : Nat) : Int) = n by omega], rfl⟩
              clear hz
              go_wp2
              go_ret2
              exact R.out
end Go.Proofs.YtlkkgjkbjjifmaaDoor
