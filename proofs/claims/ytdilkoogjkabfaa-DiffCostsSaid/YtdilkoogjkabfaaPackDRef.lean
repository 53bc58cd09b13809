/- Texts joined: DiffRef1 DiffRef2 DiffLeast -/
import Derived.Test.YtdilkoogjkabfaaPackDIter
import Derived.Test.YtdilkoogjkabfaaDiffCom
import Derived.Test.YtdilkoogjkabfaaDiffLines
import Derived.Deep.DeepCutAuto
import Derived.Deep.CutBlock
import Derived.Test.YtdilkoogjkabfaaDiffCst
import Derived.Test.YtdilkoogjkabfaaPackARef
import Derived.IntWalk
import Derived.RegionTactic
import Derived.Deep.QuietTactic
import Derived.BigQuiet
import Derived.ChangeAlike
import Derived.BigRegion
/- DiffRef1 -/
namespace Go.Proofs.Ytdilkoogjkabfaa
open Go.RowKit

/-- What Rows answers. -/
def F.RwEnd (s : List UInt8) (w : World) (e : Ending) (w' : World) : Prop := ∃ v, e = .returned v ∧ V.Made 9 ((F.rows s).map V.str) w v w'
set_option maxRecDepth 100000 in
set_option maxHeartbeats 4000000 in
theorem refRows_any (s : ByteArray) (w : World) (hs : s.size ≤ 1048576) :
    Calls Try.prog 20 #[.string s] w (F.RwEnd s.data.toList w) := by
  obtain ⟨i0, hi, hz0, hz1, hz2⟩ := info_parts Try.infoStr8
  have HI := Lib.hid (And.intro hi (And.intro hz0 (And.intro hz1 hz2)))
  clear hi hz0 hz1 hz2
  obtain ⟨S, hS⟩ : ∃ S, Hid (s.data.toList = S) := ⟨_, rfl⟩
  have hSl : Hid (S.length = s.size) := by show _ = _; rw [← hS.out, U.len]
  rw [hS.out]
  have LN : Hid (∀ k, (F.rows (S.take k)).length ≤ k) := fun k => by
    have := F.rows_len (S.take k)
    have h2 : (S.take k).length ≤ k := List.length_take_le _ _
    omega
  go_enter Try.func20, Try.ntmps20
  go_wp2
  go_loopw [3, 4, 5] (fun v a i wr => ∃ k j : Nat, k ≤ j ∧ j ≤ s.size ∧ i = .int .i64 (j : Int) ∧ a = .int .i64 (k : Int) ∧ Hid (j < s.size → F.RL S k j) ∧ Hid (j = s.size → k = s.size) ∧ Hid (V.Made 9 ((F.rows (S.take k)).map V.str) w v wr)) (fun _ _ i _ => s.size - (intOf i).toNat)
  case atStart => exact ⟨0, 0, Nat.le_refl _, Nat.zero_le _, rfl, rfl, fun _ => F.RL.zero S, fun h => h, V.Made.nil _ _ (Below.refl _ _)⟩
  case round =>
    obtain ⟨k, j, hkj, hj, rfl, rfl, hR, hE, hM⟩ := hrel
    obtain ⟨W0, rfl⟩ : ∃ W0 : World, W0 = wr := ⟨_, rfl⟩
    by_cases hlt : j < s.size
    · have hix := F.at_str s j hlt
      obtain ⟨c, hc⟩ : ∃ c, Hid (S.getD j 0 = c) := ⟨_, rfl⟩
      have hat : Hid (S[j]? = some c) := by
        show _ = _
        have hl : j < S.length := by rw [hSl.out]; exact hlt
        rw [← hc.out, List.getD_eq_getElem?_getD, List.getElem?_eq_getElem hl]; rfl
      rw [hS.out, hc.out] at hix
      have APP : Hid (∀ v' W, V.Made 9 ((F.rows (S.take k)).map V.str ++ [V.str ((S.drop k).take (j + 1 - k))]) w v' W → F.rows (S.take (j + 1)) = F.rows (S.take k) ++ [(S.drop k).take (j + 1 - k)] → V.Made 9 ((F.rows (S.take (j + 1))).map V.str) w v' W) := fun v' W h e => by
        rw [e, List.map_append]; exact h
      by_cases hc10 : c = 10
      · subst hc10
        have hf := (hR.out hlt).feed hat.out
        have hRW : Hid (F.rows (S.take (j + 1)) = F.rows (S.take k) ++ [(S.drop k).take (j + 1 - k)]) := hf.1
        have RLn : Hid (j + 1 < s.size → F.RL S (j + 1) (j + 1)) := fun _ => hf.2
        have hix : ∀ W, (Instr.index 9 (.string s) (.int .i64 (j : Int))).run Try.prog W = .ok (.int .u8 10) W := hix
        clear hf
        obtain ⟨T, hT⟩ : ∃ T : ByteArray, T = s.extract k (j + 1) := ⟨_, rfl⟩
        have hsl : ∀ W, (Instr.slice 9 (.string s) (some (.int .i64 (k : Int))) (some (.int .i64 ((j : Int) + 1))) none).run Try.prog W = .ok (.string T) W := fun W => by
          rw [hT]; exact run_slice_string W 9 s .i64 .i64 (k : Int) ((j : Int) + 1) Try.underlying9 (by omega) (by omega) (by omega)
        have hTV : Hid (V.str ((S.drop k).take (j + 1 - k)) = .string T) := by
          show _ = _
          rw [hT, ← hS.out, show j + 1 = k + (j + 1 - k) by omega, V.str_part, show k + (j + 1 - k) - k = j + 1 - k by omega]
        have hl := LN.out k
        obtain ⟨X, hX⟩ : ∃ X, Hid ((F.rows (S.take k)).map V.str = X) := ⟨_, rfl⟩
        have hXl : X.length ≤ 1048576 := by rw [← hX.out, List.length_map]; omega
        have hMo := hM.out.own
        have hMz := hM.out.below.size
        rw [hX.out] at hMo
        obtain ⟨pa, pc, rfl⟩ : ∃ pa pc, u3 = .slice pa X.length pc := by rw [← hX.out]; exact hM.out.slice
        have HO := Lib.hid hMo
        have AP : Hid (∀ Z v' W, Hid (Z = X ++ [.string T]) → W.ownsRow w.heap.size 9 1 v' Z.length Z → W0.grownBy W (Value.slice pa X.length pc).ownBlock → V.Made 9 ((F.rows (S.take (j + 1))).map V.str) w v' W) := fun Z v' W hZ h1 h2 => by
          refine APP.out v' W ?_ hRW.out
          have e : (F.rows (S.take k)).map V.str ++ [V.str ((S.drop k).take (j + 1 - k))] = Z := by rw [hX.out, hTV.out, hZ.out]
          rw [e]
          have h5 : V.Made 9 X w (.slice pa X.length pc) W0 := by have := hM.out; rw [hX.out] at this; exact this
          exact h5.on h1 h2
        clear hT hl hM hMo APP hR hE hat hc
        go_wp2_with (at_builtin; refine V.append_one Try.underlying33 HI.out.1 HI.out.2.1 HI.out.2.2.1 HI.out.2.2.2 rfl (by decide) rfl _ _ rfl w.heap.size _ X rfl HO.out (.string T) rfl 1 rfl ?a1 ?a2 ?_)
        case a1 => omega
        case a2 => omega
        intro Z v' w3 hZ h1' h2'
        have R := Lib.hid (AP.out Z v' w3 hZ h1' h2')
        clear h1' h2' hZ AP HO
        go_wp2
        go_roundw
        case rel => exact ⟨j + 1, j + 1, Nat.le_refl _, by omega, by go_num, by go_num, RLn, fun h => h, R⟩
        case measure => simp [intOf]; omega
      · have hx : Hid (c.toNat = 10 → False) := fun e => hc10 (UInt8.toNat_inj.1 (by rw [e]; rfl))
        have hs10 : S[j]? ≠ some 10 := by rw [hat.out]; intro e; exact hc10 (Option.some.inj e)
        have hsk := (hR.out hlt).skip hs10
        have hq : (((c.toNat : Nat) : Int) == 10) = false := by
          rw [beq_eq_false_iff_ne]; intro e; exact hx.out (by omega)
        generalize c.toNat = x at *
        by_cases hl1 : j + 1 = s.size
        · have e1 : (s.size : Int) - 1 = (j : Int) := by omega
          have hRW : Hid (F.rows (S.take (j + 1)) = F.rows (S.take k) ++ [(S.drop k).take (j + 1 - k)]) := by
            have h2 := hsk
            rw [hl1, ← hSl.out] at h2
            have := h2.last (by rw [hSl.out]; omega)
            show _ = _
            rw [hl1, ← hSl.out, List.take_length, List.take_of_length_le (i := S.length - k) (by rw [List.length_drop]; omega)]
            exact this
          have RLn : Hid (j + 1 < s.size → F.RL S (j + 1) (j + 1)) := fun h => absurd h (by omega)
          clear hs10 hsk hl1 hx
          obtain ⟨T, hT⟩ : ∃ T : ByteArray, T = s.extract k (j + 1) := ⟨_, rfl⟩
          have hsl : ∀ W, (Instr.slice 9 (.string s) (some (.int .i64 (k : Int))) (some (.int .i64 ((j : Int) + 1))) none).run Try.prog W = .ok (.string T) W := fun W => by
            rw [hT]; exact run_slice_string W 9 s .i64 .i64 (k : Int) ((j : Int) + 1) Try.underlying9 (by omega) (by omega) (by omega)
          have hTV : Hid (V.str ((S.drop k).take (j + 1 - k)) = .string T) := by
            show _ = _
            rw [hT, ← hS.out, show j + 1 = k + (j + 1 - k) by omega, V.str_part, show k + (j + 1 - k) - k = j + 1 - k by omega]
          have hl := LN.out k
          obtain ⟨X, hX⟩ : ∃ X, Hid ((F.rows (S.take k)).map V.str = X) := ⟨_, rfl⟩
          have hXl : X.length ≤ 1048576 := by rw [← hX.out, List.length_map]; omega
          have hMo := hM.out.own
          have hMz := hM.out.below.size
          rw [hX.out] at hMo
          obtain ⟨pa, pc, rfl⟩ : ∃ pa pc, u3 = .slice pa X.length pc := by rw [← hX.out]; exact hM.out.slice
          have HO := Lib.hid hMo
          have AP : Hid (∀ Z v' W, Hid (Z = X ++ [.string T]) → W.ownsRow w.heap.size 9 1 v' Z.length Z → W0.grownBy W (Value.slice pa X.length pc).ownBlock → V.Made 9 ((F.rows (S.take (j + 1))).map V.str) w v' W) := fun Z v' W hZ h1 h2 => by
            refine APP.out v' W ?_ hRW.out
            have e : (F.rows (S.take k)).map V.str ++ [V.str ((S.drop k).take (j + 1 - k))] = Z := by rw [hX.out, hTV.out, hZ.out]
            rw [e]
            have h5 : V.Made 9 X w (.slice pa X.length pc) W0 := by have := hM.out; rw [hX.out] at this; exact this
            exact h5.on h1 h2
          clear hT hl hM hMo APP hR hE hat hc
          go_wp2_with (at_builtin; refine V.append_one Try.underlying33 HI.out.1 HI.out.2.1 HI.out.2.2.1 HI.out.2.2.2 rfl (by decide) rfl _ _ rfl w.heap.size _ X rfl HO.out (.string T) rfl 1 rfl ?b1 ?b2 ?_)
          case b1 => omega
          case b2 => omega
          intro Z v' w3 hZ h1' h2'
          have R := Lib.hid (AP.out Z v' w3 hZ h1' h2')
          clear h1' h2' hZ AP HO
          go_wp2
          go_roundw
          case rel => exact ⟨j + 1, j + 1, Nat.le_refl _, by omega, by go_num, by go_num, RLn, fun h => h, R⟩
          case measure => simp [intOf]; omega
        · obtain ⟨z1, e1⟩ : ∃ z1 : Nat, (s.size : Int) - 1 = (z1 : Int) := ⟨s.size - 1, by omega⟩
          have hq2 : ((j : Int) == (z1 : Int)) = false := by simp; omega
          have RLn : Hid (j + 1 < s.size → F.RL S k (j + 1)) := fun _ => hsk
          clear hs10 hsk hx APP hR hE hat hc
          go_wp2
          go_roundw
          case rel => exact ⟨k, j + 1, by omega, by omega, by go_num, rfl, RLn, fun h => absurd h hl1, hM⟩
          case measure => simp [intOf]; omega
    · obtain rfl : j = s.size := by omega
      have hk : k = s.size := hE.out rfl
      have R : F.RwEnd S w (.returned u3) W0 := ⟨_, rfl, by
        have := hM.out
        rw [hk, ← hSl.out, List.take_length] at this
        exact this⟩
      have R := Lib.hid R
      clear hM hE hR hk
      go_wp2
      go_ret
      exact R.out
set_option maxHeartbeats 1000000 in
theorem refEdge_any (s : ByteArray) (k : Int) (w : World) (hs : s.size ≤ 140737488351232) :
    Calls Try.prog 46 #[.string s, .int .i64 k] w fun e w' => e = .returned (.bool (F.edgeB s.data.toList k)) ∧ w = w' := by
  by_cases h0 : k = 0
  · subst h0
    have R : Hid (F.edgeB s.data.toList 0 = true) := by show _ = _; simp [F.edgeB]
    go_enter Try.func46, Try.ntmps46
    go_wp2
    go_ret
    exact ⟨F.ret_bool (by rw [R.out]), rfl⟩
  · have q0 : (k == 0) = false := by simpa using h0
    by_cases h1 : k = s.size
    · subst h1
      have R : Hid (F.edgeB s.data.toList (s.size : Int) = true) := by show _ = _; unfold F.edgeB; rw [U.len]; simp
      go_enter Try.func46, Try.ntmps46
      go_wp2
      go_ret
      exact ⟨F.ret_bool (by rw [R.out]), rfl⟩
    · have q1 : (k == (s.size : Int)) = false := by simpa using h1
      by_cases h2 : 0 < k
      · have q2 : decide (0 < k) = true := by simpa using h2
        by_cases h3 : k < s.size
        · have q3 : decide (k < (s.size : Int)) = true := by simpa using h3
          obtain ⟨j, hj⟩ : ∃ j : Nat, k - 1 = (j : Int) := ⟨(k - 1).toNat, by omega⟩
          have hix := F.at_str s j (by omega)
          have R : Hid (F.edgeB s.data.toList k = ((((s.data.toList.getD j 0).toNat : Nat) : Int) == 10)) := by
            show _ = _
            unfold F.edgeB
            rw [U.len, q0, q1, q2, q3, hj]
            simp only [Bool.false_or, Bool.true_and, Int.toNat_natCast]
            rw [Bool.eq_iff_iff, beq_iff_eq, beq_iff_eq]
            constructor
            · intro h; rw [h]; rfl
            · intro h; exact UInt8.toNat_inj.1 (by show _ = 10; omega)
          generalize (s.data.toList.getD j 0).toNat = x at *
          go_enter Try.func46, Try.ntmps46
          go_wp2
          go_ret
          exact ⟨F.ret_bool (by rw [R.out]), rfl⟩
        · have q3 : decide (k < (s.size : Int)) = false := by simpa using h3
          have R : Hid (F.edgeB s.data.toList k = false) := by show _ = _; unfold F.edgeB; rw [U.len, q0, q1, q2, q3]; rfl
          go_enter Try.func46, Try.ntmps46
          go_wp2
          go_ret
          exact ⟨F.ret_bool (by rw [R.out]), rfl⟩
      · have q2 : decide (0 < k) = false := by simpa using h2
        have R : Hid (F.edgeB s.data.toList k = false) := by show _ = _; unfold F.edgeB; rw [U.len, q0, q1, q2]; rfl
        go_enter Try.func46, Try.ntmps46
        go_wp2
        go_ret
        exact ⟨F.ret_bool (by rw [R.out]), rfl⟩
/-- Is it too much for Lines? -/
def F.tlB (a b : List UInt8) : Bool := F.lnE a b != 0
theorem F.tlB_t {a b : List UInt8} (h : 1048576 < a.length ∨ 1048576 < b.length ∨ 1024 < (F.rows a).length ∨ 1024 < (F.rows b).length) : F.tlB a b = true := by
  unfold F.tlB F.lnE; rw [if_pos h]; rfl
theorem F.tlB_f {a b : List UInt8} (h : ¬ (1048576 < a.length ∨ 1048576 < b.length ∨ 1024 < (F.rows a).length ∨ 1024 < (F.rows b).length)) : F.tlB a b = false := by
  unfold F.tlB F.lnE; rw [if_neg h]; rfl
set_option maxHeartbeats 2000000 in
theorem refTooLong_any (a b : ByteArray) (w : World) (za : a.size ≤ 140737488351232) (zb : b.size ≤ 140737488351232) :
    Calls Try.prog 17 #[.string a, .string b] w fun e w' => e = .returned (.bool (F.tlB a.data.toList b.data.toList)) ∧ Below w.heap.size w w' := by
  by_cases h1 : 1048576 < a.size
  · have q1 : decide (1048576 < a.size) = true := by simpa using h1
    have R := Lib.hid (F.tlB_t (a := a.data.toList) (b := b.data.toList) (by rw [U.len]; exact .inl h1))
    go_enter Try.func17, Try.ntmps17
    go_wp2
    go_ret
    exact ⟨F.ret_bool (by rw [R.out]), Below.refl _ _⟩
  · have q1 : decide (1048576 < a.size) = false := by simpa using h1
    by_cases h2 : 1048576 < b.size
    · have q2 : decide (1048576 < b.size) = true := by simpa using h2
      have R := Lib.hid (F.tlB_t (a := a.data.toList) (b := b.data.toList) (by rw [U.len, U.len]; exact .inr (.inl h2)))
      go_enter Try.func17, Try.ntmps17
      go_wp2
      go_ret
      exact ⟨F.ret_bool (by rw [R.out]), Below.refl _ _⟩
    · have q2 : decide (1048576 < b.size) = false := by simpa using h2
      have HA := Lib.hid (refRows_any a w (by omega))
      have HB : Hid (∀ W, Calls Try.prog 20 #[.string b] W (F.RwEnd b.data.toList W)) := fun W => refRows_any b W (by omega)
      have ra := F.rows_len a.data.toList
      have rb := F.rows_len b.data.toList
      rw [U.len] at ra rb
      obtain ⟨n, hn⟩ : ∃ n, Hid ((F.rows a.data.toList).length = n) := ⟨_, rfl⟩
      obtain ⟨m, hm⟩ : ∃ m, Hid ((F.rows b.data.toList).length = m) := ⟨_, rfl⟩
      have T : Hid (F.tlB a.data.toList b.data.toList = (decide (1024 < n) || decide (1024 < m))) := by
        show _ = _
        by_cases c : 1024 < n ∨ 1024 < m
        · rw [F.tlB_t (by rw [U.len, U.len, hn.out, hm.out]; omega)]
          rcases c with c | c <;> simp [c]
        · rw [F.tlB_f (by rw [U.len, U.len, hn.out, hm.out]; omega)]
          have c1 : ¬ 1024 < n := by omega
          have c2 : ¬ 1024 < m := by omega
          simp [c1, c2]
      rw [hn.out] at ra
      rw [hm.out] at rb
      unfold F.RwEnd at HA HB
      have goA : Hid (∀ v w', V.Made 9 ((F.rows a.data.toList).map V.str) w v w' → ∃ ao c, v = .slice ao n c) := fun v w' h => by
        obtain ⟨ao, c, hv⟩ := h.slice
        rw [List.length_map, hn.out] at hv
        exact ⟨ao, c, hv⟩
      have goB : Hid (∀ v W w', V.Made 9 ((F.rows b.data.toList).map V.str) W v w' → ∃ ao c, v = .slice ao m c) := fun v W w' h => by
        obtain ⟨ao, c, hv⟩ := h.slice
        rw [List.length_map, hm.out] at hv
        exact ⟨ao, c, hv⟩
      by_cases h3 : 1024 < n
      · have q3 : decide (1024 < n) = true := by simpa using h3
        go_enter Try.func17, Try.ntmps17
        go_wp2_with fail
        refine HA.out.mono ?_
        rintro e w1 ⟨v, rfl, hm1⟩
        obtain ⟨ao, c, rfl⟩ := goA.out v w1 hm1
        have B1 := Lib.hid hm1.below
        clear hm1
        go_wp2
        go_ret
        exact ⟨F.ret_bool (by rw [T.out, q3]; rfl), B1.out⟩
      · have q3 : decide (1024 < n) = false := by simpa using h3
        go_enter Try.func17, Try.ntmps17
        go_wp2_with fail
        refine HA.out.mono ?_
        rintro e w1 ⟨v, rfl, hm1⟩
        obtain ⟨ao, c, rfl⟩ := goA.out v w1 hm1
        have B1 := Lib.hid hm1.below
        clear hm1
        go_wp2_with fail
        refine (HB.out w1).mono ?_
        rintro e w2 ⟨v, rfl, hm2⟩
        obtain ⟨bo, d, rfl⟩ := goB.out v w1 w2 hm2
        have B2 := Lib.hid (B1.out.trans (hm2.below.mono B1.out.size))
        clear hm2
        go_wp2
        go_ret
        exact ⟨F.ret_bool (by rw [T.out, q3, Bool.false_or, Bool.eq_iff_iff]; simp only [Bool.or_eq_true, decide_eq_true_eq]; omega), B2.out⟩
end Go.Proofs.Ytdilkoogjkabfaa
/- DiffRef2 -/
namespace Go.Proofs.Ytdilkoogjkabfaa
open Go.RowKit

/-- Does a delta go by lines? -/
def F.byB (a b : List UInt8) (l : List D.P) : Bool := decide (D.fitE a l = 0) && decide (D.resP a l = b) && (List.range l.length).all fun j => F.edgeB a (D.inP (l.take (j + 1))) && F.edgeB b (D.outP (l.take (j + 1)))
theorem F.byB_iff {a b : List UInt8} {l : List D.P} : F.byB a b l = true ↔ D.fitE a l = 0 ∧ D.resP a l = b ∧ F.allE a b l l.length := by
  unfold F.byB F.allE
  simp only [Bool.and_eq_true, decide_eq_true_eq, List.all_eq_true, List.mem_range, and_assoc]
theorem F.byB_no {a b : List UInt8} {l : List D.P} (h : ¬ (D.fitE a l = 0 ∧ D.resP a l = b ∧ F.allE a b l l.length)) : F.byB a b l = false := by
  cases c : F.byB a b l with
  | false => rfl
  | true => exact absurd (F.byB_iff.1 c) h
theorem F.outL_take (a : List D.Q) (k : Nat) (q : D.Q) (h : a[k]? = some q) : D.outL (a.take (k + 1)) = D.outL (a.take k) + D.out1 q ∧ D.outL (a.take k) + D.out1 q ≤ D.outL a := by
  have e : D.outL (a.take (k + 1)) = D.outL (a.take k) + D.out1 q := by rw [List.take_add_one, h, D.outL_append]; simp [D.outL]
  refine ⟨e, ?_⟩
  rw [← e]
  conv => rhs; rw [← List.take_append_drop (k + 1) a, D.outL_append]
  omega
set_option maxRecDepth 100000 in
set_option maxHeartbeats 4000000 in
theorem refByLines_any (a b : ByteArray) (ao : Option Addr) (cap : Nat) (l : List D.P) (w : World) (za : a.size ≤ 140737488351232) (zb : b.size ≤ 140737488351232) (hn : l.length ≤ maxLen) (hr : D.Row w ao l) (ht : ∀ p ∈ l, p.t.size ≤ 140737488351232) :
    Calls Try.prog 19 #[.string a, .string b, .slice ao l.length cap] w fun e w' => e = .returned (.bool (F.byB a.data.toList b.data.toList l)) ∧ Below w.heap.size w w' := by
  have HA := Lib.hid (refApply_any a ao cap l w za hn hr ht)
  by_cases hf : D.fitE a.data.toList l = 0
  · by_cases hres : D.resP a.data.toList l = b.data.toList
    · have h : D.chk l = 0 := by
        unfold D.fitE at hf
        by_cases c : D.chk l = 0
        · exact c
        · rw [if_neg c] at hf; exact absurd hf c
      obtain ⟨hraw, pa, hl, hle, hiL, hoL⟩ := D.valid_qs h
      have Hr := Lib.hid hr
      obtain ⟨n, hnn⟩ : ∃ n, Hid (l.length = n) := ⟨_, rfl⟩
      have hn4 : n ≤ 4096 := by rw [← hnn.out]; omega
      have HQ : Hid (∀ k, k < n → ∃ q, (D.qs l)[k]? = some q ∧ l[k]? = some (D.raw q) ∧ D.inP (l.take (k + 1)) = D.inP (l.take k) + (D.in1 q : Int) ∧ D.outP (l.take (k + 1)) = D.outP (l.take k) + (D.out1 q : Int) ∧ D.inP (l.take k) + (D.in1 q : Int) ≤ 1048576 ∧ D.outP (l.take k) + (D.out1 q : Int) ≤ 1048576) := fun k hk => by
        obtain ⟨q, hq⟩ : ∃ q, (D.qs l)[k]? = some q := ⟨_, List.getElem?_eq_getElem (by rw [hl, hnn.out]; exact hk)⟩
        have e : ∀ j, D.inP (l.take j) = (D.inL ((D.qs l).take j) : Int) ∧ D.outP (l.take j) = (D.outL ((D.qs l).take j) : Int) := fun j => by
          have : l.take j = ((D.qs l).take j).map D.raw := by rw [List.map_take, hraw]
          rw [this, D.inP_raw, D.outP_raw]; exact ⟨rfl, rfl⟩
        obtain ⟨i1, i2⟩ := D.inL_take_le (D.qs l) k q hq
        obtain ⟨o1, o2⟩ := F.outL_take (D.qs l) k q hq
        refine ⟨q, hq, by conv => lhs; rw [← hraw]
                          rw [List.getElem?_map, hq]; rfl, ?_⟩
        rw [(e _).1, (e _).1, (e _).2, (e _).2]
        omega
      have HZ : Hid (∀ k, 0 ≤ D.inP (l.take k) ∧ 0 ≤ D.outP (l.take k)) := fun k => by
        have : l.take k = ((D.qs l).take k).map D.raw := by rw [List.map_take, hraw]
        rw [this, D.inP_raw, D.outP_raw]; omega
      have BT : Hid (F.allE a.data.toList b.data.toList l n → F.byB a.data.toList b.data.toList l = true) := fun c => by
        rw [F.byB_iff, hnn.out]; exact ⟨hf, hres, c⟩
      have BF : Hid (∀ k, k < n → ¬ (F.edgeB a.data.toList (D.inP (l.take (k + 1))) = true ∧ F.edgeB b.data.toList (D.outP (l.take (k + 1))) = true) → F.byB a.data.toList b.data.toList l = false) := fun k hk c => by
        refine F.byB_no (fun e => c (e.2.2 k (by rw [hnn.out]; exact hk)))
      rw [hf, hres] at HA
      rw [hnn.out] at HA ⊢
      rw [D.bytes_eq] at HA
      have eq : (b.toList == b.toList) = true := by simp
      clear hf hres h hraw pa hl hle hiL hoL hr hn ht
      generalize F.byB a.data.toList b.data.toList l = RR at *
      go_enter Try.func19, Try.ntmps19
      go_wp2_with fail
      refine HA.out.mono ?_
      rintro e w1 ⟨rfl, hb⟩
      have HB := Lib.hid hb
      have HR1 := Lib.hid (Hr.out.below hb)
      clear hb HA
      go_wp2
      go_loop [9, 10, 11] (fun c d i => ∃ k : Nat, k ≤ n ∧ i = .int .i64 (k : Int) ∧ c = .int .i64 (D.inP (l.take k)) ∧ d = .int .i64 (D.outP (l.take k)) ∧ Hid (F.allE a.data.toList b.data.toList l k)) (fun _ _ i => n - (intOf i).toNat)
      case atStart => exact ⟨0, Nat.zero_le _, rfl, rfl, rfl, F.allE_zero _ _ _⟩
      case round =>
        obtain ⟨k, hk, rfl, rfl, rfl, hA⟩ := hrel
        by_cases hlt : k < n
        · obtain ⟨q, _, hp, i1, o1, i2, o2⟩ := HQ.out k hlt
          obtain ⟨b1, o3, e, hbl, c0, c1, c2⟩ := HR1.out k _ hp
          subst e
          obtain ⟨z1, z2⟩ := HZ.out k
          have E1 : ∀ x, Calls Try.prog 46 #[.string a, .int .i64 x] w1 fun e w' => e = .returned (.bool (F.edgeB a.data.toList x)) ∧ w1 = w' := fun x => refEdge_any a x w1 za
          have E2 : ∀ x, Calls Try.prog 46 #[.string b, .int .i64 x] w1 fun e w' => e = .returned (.bool (F.edgeB b.data.toList x)) ∧ w1 = w' := fun x => refEdge_any b x w1 zb
          have H1 := E1 (D.inP (l.take (k + 1)))
          have H2 := E2 (D.outP (l.take (k + 1)))
          have AS : F.edgeB a.data.toList (D.inP (l.take (k + 1))) = true → F.edgeB b.data.toList (D.outP (l.take (k + 1))) = true → F.allE a.data.toList b.data.toList l (k + 1) := fun h1 h2 => F.allE_succ hA.out h1 h2
          have AF := BF.out k hlt
          have AS := Lib.hid AS
          have AF := Lib.hid AF
          generalize F.edgeB a.data.toList (D.inP (l.take (k + 1))) = x1 at H1 AS AF
          generalize F.edgeB b.data.toList (D.outP (l.take (k + 1))) = x2 at H2 AS AF
          have I1 := Lib.hid i1
          have O1 := Lib.hid o1
          rw [i1] at H1
          rw [o1] at H2
          clear i1 o1 E1 E2 hp
          generalize D.inP (l.take k) = zi at *
          generalize D.outP (l.take k) = zo at *
          cases q with
          | R m =>
            simp only [D.raw] at c0 c1 c2
            simp only [D.in1, D.out1] at *
            have H1 := Lib.hid H1
            have H2 := Lib.hid H2
            cases x1 with
            | true =>
              cases x2 with
              | true =>
                have A2 := Lib.hid (AS.out rfl rfl)
                clear AS AF
                go_wp2_with (go_at_call 46; first | (with_reducible refine H1.out.mono ?_; rintro e w' ⟨rfl, rfl⟩) | (with_reducible refine H2.out.mono ?_; rintro e w' ⟨rfl, rfl⟩))
                go_round
                case rel => exact ⟨k + 1, by omega, by go_num, by rw [I1.out], by rw [O1.out], A2⟩
                case measure => simp [intOf]; omega
              | false =>
                have A2 := Lib.hid (AF.out (by simp))
                clear AS AF
                go_wp2_with (go_at_call 46; first | (with_reducible refine H1.out.mono ?_; rintro e w' ⟨rfl, rfl⟩) | (with_reducible refine H2.out.mono ?_; rintro e w' ⟨rfl, rfl⟩))
                go_ret
                exact ⟨F.ret_bool (by rw [A2.out]), HB.out⟩
            | false =>
              have A2 := Lib.hid (AF.out (by simp))
              clear AS AF
              go_wp2_with (go_at_call 46; with_reducible refine H1.out.mono ?_; rintro e w' ⟨rfl, rfl⟩)
              go_ret
              exact ⟨F.ret_bool (by rw [A2.out]), HB.out⟩
          | I t =>
            simp only [D.raw] at c0 c1 c2
            have hz : (⟨t.toArray⟩ : ByteArray).size = t.length := D.size_l t
            simp only [D.in1, D.out1, Int.natCast_zero, Int.add_zero] at *
            rw [← hz] at H2 O1 o2
            generalize (⟨t.toArray⟩ : ByteArray) = T at *
            have H1 := Lib.hid H1
            have H2 := Lib.hid H2
            clear hz
            cases x1 with
            | true =>
              cases x2 with
              | true =>
                have A2 := Lib.hid (AS.out rfl rfl)
                clear AS AF
                go_wp2_with (go_at_call 46; first | (with_reducible refine H1.out.mono ?_; rintro e w' ⟨rfl, rfl⟩) | (with_reducible refine H2.out.mono ?_; rintro e w' ⟨rfl, rfl⟩))
                go_round
                case rel => exact ⟨k + 1, by omega, by go_num, by rw [I1.out], by rw [O1.out], A2⟩
                case measure => simp [intOf]; omega
              | false =>
                have A2 := Lib.hid (AF.out (by simp))
                clear AS AF
                go_wp2_with (go_at_call 46; first | (with_reducible refine H1.out.mono ?_; rintro e w' ⟨rfl, rfl⟩) | (with_reducible refine H2.out.mono ?_; rintro e w' ⟨rfl, rfl⟩))
                go_ret
                exact ⟨F.ret_bool (by rw [A2.out]), HB.out⟩
            | false =>
              have A2 := Lib.hid (AF.out (by simp))
              clear AS AF
              go_wp2_with (go_at_call 46; with_reducible refine H1.out.mono ?_; rintro e w' ⟨rfl, rfl⟩)
              go_ret
              exact ⟨F.ret_bool (by rw [A2.out]), HB.out⟩
          | D m =>
            simp only [D.raw] at c0 c1 c2
            simp only [D.in1, D.out1, Int.natCast_zero, Int.add_zero] at *
            have H1 := Lib.hid H1
            have H2 := Lib.hid H2
            cases x1 with
            | true =>
              cases x2 with
              | true =>
                have A2 := Lib.hid (AS.out rfl rfl)
                clear AS AF
                go_wp2_with (go_at_call 46; first | (with_reducible refine H1.out.mono ?_; rintro e w' ⟨rfl, rfl⟩) | (with_reducible refine H2.out.mono ?_; rintro e w' ⟨rfl, rfl⟩))
                go_round
                case rel => exact ⟨k + 1, by omega, by go_num, by rw [I1.out], by rw [O1.out], A2⟩
                case measure => simp [intOf]; omega
              | false =>
                have A2 := Lib.hid (AF.out (by simp))
                clear AS AF
                go_wp2_with (go_at_call 46; first | (with_reducible refine H1.out.mono ?_; rintro e w' ⟨rfl, rfl⟩) | (with_reducible refine H2.out.mono ?_; rintro e w' ⟨rfl, rfl⟩))
                go_ret
                exact ⟨F.ret_bool (by rw [A2.out]), HB.out⟩
            | false =>
              have A2 := Lib.hid (AF.out (by simp))
              clear AS AF
              go_wp2_with (go_at_call 46; with_reducible refine H1.out.mono ?_; rintro e w' ⟨rfl, rfl⟩)
              go_ret
              exact ⟨F.ret_bool (by rw [A2.out]), HB.out⟩
        · obtain rfl : k = n := by omega
          have R := Lib.hid (BT.out hA.out)
          go_wp2
          go_ret
          exact ⟨F.ret_bool (by rw [R.out]), HB.out⟩
    · have R := Lib.hid (F.byB_no (a := a.data.toList) (b := b.data.toList) (l := l) (fun e => hres e.2.1))
      have hq : ((⟨(D.resP a.data.toList l).toArray⟩ : ByteArray).toList == b.toList) = false := by
        rw [beq_eq_false_iff_ne, ByteArray.toList_eq, ByteArray.toList_eq]
        intro e; exact hres (by simpa using e)
      rw [hf] at HA
      generalize F.byB a.data.toList b.data.toList l = RR at *
      generalize (⟨(D.resP a.data.toList l).toArray⟩ : ByteArray) = T at *
      clear hf hres hr hn ht
      go_enter Try.func19, Try.ntmps19
      go_wp2_with fail
      refine HA.out.mono ?_
      rintro e w1 ⟨rfl, hb⟩
      have HB := Lib.hid hb
      clear hb HA
      go_wp2
      go_ret
      exact ⟨F.ret_bool (by rw [R.out]), HB.out⟩
  · have R := Lib.hid (F.byB_no (a := a.data.toList) (b := b.data.toList) (l := l) (fun e => hf e.1))
    have q9 : (D.fitE a.data.toList l != 0) = true := by simpa using hf
    generalize F.byB a.data.toList b.data.toList l = RR at *
    generalize D.fitE a.data.toList l = E at *
    generalize (⟨(D.resP a.data.toList l).toArray⟩ : ByteArray) = T at *
    clear hf hr hn ht
    go_enter Try.func19, Try.ntmps19
    go_wp2_with fail
    refine HA.out.mono ?_
    rintro e w1 ⟨rfl, hb⟩
    have HB := Lib.hid hb
    clear hb HA
    go_wp2
    go_ret
    exact ⟨F.ret_bool (by rw [R.out]), HB.out⟩
end Go.Proofs.Ytdilkoogjkabfaa
/- DiffLeast -/
namespace Go.Proofs.Ytdilkoogjkabfaa
open Go.RowKit

theorem F.set_size (W : World) (p : Addr) (v : Value) : (W.setCell p v).heap.size = W.heap.size := by simp
/-- A block of ints. -/
structure F.Ints (c : Nat) (G : Nat → Int) (g : Nat) (W : World) : Prop where
  cells : ∀ j, j < c → W.cell? ⟨g, j, none⟩ = some (.int .i64 (G j))
  free : ∀ j, W.frozen? ⟨g, j, none⟩ = false
  lt : g < W.heap.size
theorem F.Ints.below {c : Nat} {G : Nat → Int} {g : Nat} {W W' : World} (h : F.Ints c G g W) (hb : Below W.heap.size W W') : F.Ints c G g W' :=
  ⟨fun j hj => (hb.cell (p := ⟨g, j, none⟩) h.lt).trans (h.cells j hj), fun j => (hb.frozen (p := ⟨g, j, none⟩) h.lt).trans (h.free j), Nat.lt_of_lt_of_le h.lt hb.size⟩
theorem F.Ints.set {c : Nat} {G : Nat → Int} {g : Nat} {W : World} (h : F.Ints c G g W) (t : Nat) (v : Int) : F.Ints c (fun u => if u = t then v else G u) g (W.setCell ⟨g, t, none⟩ (.int .i64 v)) := by
  refine ⟨fun j hj => ?_, fun j => (World.frozen?_setCell _ _ _ _).trans (h.free j), by rw [F.set_size]; exact h.lt⟩
  by_cases e : j = t
  · subst e; rw [if_pos rfl]; exact World.cell?_setCell_same _ _ _ (h.cells j hj)
  · rw [if_neg e]
    exact (World.cell?_setCell_other _ ⟨g, t, none⟩ ⟨g, j, none⟩ _ (by simp only [ne_eq, Addr.mk.injEq, not_and]; intro _ c; exact absurd c (by omega))).trans (h.cells j hj)
theorem F.Ints.other {c : Nat} {G : Nat → Int} {g g' o : Nat} {v : Value} {W : World} (h : F.Ints c G g W) (hg : g ≠ g') : F.Ints c G g (W.setCell ⟨g', o, none⟩ v) := by
  refine ⟨fun j hj => (World.cell?_of_block (w := W) (a := ⟨g, j, none⟩) (Below.heap_setCell _ _ _ g hg)).trans (h.cells j hj), fun j => (World.frozen?_setCell _ _ _ _).trans (h.free j), by rw [F.set_size]; exact h.lt⟩
theorem F.Ints.drew {c : Nat} {G : Nat → Int} {g : Nat} {W : World} (h : F.Ints c G g W) : F.Ints c G g W.drew := h.below (Below.refl _ _).drew
theorem F.ints_made (w : World) (c : Nat) : F.Ints c (fun _ => 0) w.heap.size (w.alloc (.cells (madeCells #[.int .i64 0] c) 3)) := by
  have hbk := heap_alloc_new w (.cells (madeCells #[.int .i64 0] c) 3 (0, 0))
  refine ⟨fun j hj => ?_, fun j => frozen_of_row _ _ _ _ _ hbk, by simp⟩
  rw [Lib.cell_of_heap hbk, ← Array.getElem?_toList, toList_madeCells_one, List.getElem?_replicate, if_pos hj]
def F.LsEnd (a b : List UInt8) (w : World) (e : Ending) (w' : World) : Prop := e = .returned (.int .i64 (F.dist a b : Nat)) ∧ Below w.heap.size w w'
theorem F.tab_bd {x y : List (List UInt8)} (hx : F.sumW List.length x ≤ 1048576) (hy : F.sumW List.length y ≤ 1048576) (i k : Nat) : F.tab List.length x y i k ≤ 2097152 := by
  have := F.tab_le (w := List.length) x y i k; omega
set_option maxRecDepth 100000 in
set_option maxHeartbeats 8000000 in
theorem refLeast_any (a b : ByteArray) (w : World) (sa : a.size ≤ 1048576) (sb : b.size ≤ 1048576) (na : (F.rows a.data.toList).length ≤ 1024) (nb : (F.rows b.data.toList).length ≤ 1024) :
    Calls Try.prog 22 #[.string a, .string b] w (F.LsEnd a.data.toList b.data.toList w) := by
  have HA := Lib.hid (refRows_any a w sa)
  have HB : Hid (∀ W, Calls Try.prog 20 #[.string b] W (F.RwEnd b.data.toList W)) := fun W => refRows_any b W sb
  have SX : Hid (F.sumW List.length (F.rows a.data.toList) ≤ 1048576) := by show _ ≤ _; rw [F.sum_rows, U.len]; exact sa
  have SY : Hid (F.sumW List.length (F.rows b.data.toList) ≤ 1048576) := by show _ ≤ _; rw [F.sum_rows, U.len]; exact sb
  unfold F.RwEnd at HA HB
  unfold F.LsEnd F.dist
  generalize F.rows a.data.toList = x at *
  generalize F.rows b.data.toList = y at *
  obtain ⟨n, hn⟩ : ∃ n, Hid (x.length = n) := ⟨_, rfl⟩
  obtain ⟨m, hm⟩ : ∃ m, Hid (y.length = m) := ⟨_, rfl⟩
  rw [hn.out] at na
  rw [hm.out] at nb
  obtain ⟨c, hc⟩ : ∃ c, Hid (m + 1 = c) := ⟨_, rfl⟩
  have hc1 : (m : Int) + 1 = (c : Int) := by have := hc.out; omega
  have c2 : c ≤ 1025 := by have := hc.out; omega
  have hmk := run_make_row' (P := Try.prog) 63 3 (.int .i64 0) 8 Try.underlying63 (by kernel_rfl) rfl .i64 .i64 c (by omega) (by omega)
  have FIN : Hid (F.tab List.length x y n m = F.lc List.length x y) := by show _ = _; rw [← hn.out, ← hm.out, F.tab_end]
  clear sa sb
  go_enter Try.func22, Try.ntmps22
  go_wp2_with fail
  refine HA.out.mono ?_
  rintro e w1 ⟨v, rfl, hm1⟩
  obtain ⟨ao, ca, hv, hca, hra⟩ := V.row_cap hm1.own
  rw [List.length_map, hn.out] at hv
  subst hv
  have M1 := Lib.hid (And.intro hm1.below hra)
  clear hm1 hra hca HA
  go_wp2_with fail
  refine (HB.out w1).mono ?_
  rintro e w2 ⟨v, rfl, hm2⟩
  obtain ⟨bo, cb, hv, hcb, hrb⟩ := V.row_cap hm2.own
  rw [List.length_map, hm.out] at hv
  subst hv
  have RA := Lib.hid (M1.out.2.below hm2.below)
  have RB := Lib.hid hrb
  have B2 := Lib.hid (M1.out.1.trans (hm2.below.mono M1.out.1.size))
  clear hm2 hrb hcb M1 HB
  have Z2 : Hid (w.heap.size ≤ w2.heap.size) := B2.out.size
  have I0 := Lib.hid (F.ints_made w2 c)
  have B3 : Hid (Below w2.heap.size w2 (w2.alloc (.cells (madeCells #[.int .i64 0] c) 3))) := (Below.refl _ _).alloc (Nat.le_refl _) _
  obtain ⟨g, hg⟩ : ∃ g, Hid (w2.heap.size = g) := ⟨_, rfl⟩
  rw [hg.out] at I0
  have G0 : Hid (w2.heap.size ≤ g) := by show _ ≤ _; rw [hg.out]; exact Nat.le_refl _
  have str : ∀ (ao : Option Addr) (x : List (List UInt8)) (W : World) (i : Nat) (a : List UInt8), V.Row w2 ao (x.map V.str) → Below w2.heap.size w2 W → x[i]? = some a → ∃ b o, ao = some ⟨b, o, none⟩ ∧ b < w2.heap.size ∧ ∃ s : ByteArray, s.size = a.length ∧ W.cell? ⟨b, o + i, none⟩ = some (.string s) ∧ s = ⟨a.toArray⟩ := fun ao x W i a h hb ha => by
    obtain ⟨b, o, e, hl, hc⟩ := h.str hb ha
    exact ⟨b, o, e, hl, ⟨a.toArray⟩, D.size_l a, hc, rfl⟩
  have ST := Lib.hid str
  clear str
  have TB : Hid (∀ i k, F.tab List.length x y i k ≤ 2097152) := fun i k => F.tab_bd SX.out SY.out i k
  have S0 : Hid (∀ j, j ≤ 0 → (fun _ : Nat => (0 : Int)) j = ((F.tab List.length x y 0 j : Nat) : Int)) := fun j hj => by
    obtain rfl : j = 0 := by omega
    rw [F.tab_00]; rfl
  go_wp2
  rw [hg.out]
  go_loopw [8] (fun v wr => ∃ (k : Nat) (G : Nat → Int), k ≤ m ∧ v = .int .i64 (k : Int) ∧ Hid (F.Ints c G g wr) ∧ Hid (∀ j, j ≤ k → G j = (F.tab List.length x y 0 j : Nat)) ∧ Hid (Below w2.heap.size w2 wr)) (fun v _ => m - (intOf v).toNat)
  case atStart => exact ⟨0, fun _ => 0, Nat.zero_le _, rfl, I0, S0, B3⟩
  case round =>
    obtain ⟨k, G, hk, rfl, hI, hG, hB⟩ := hrel
    obtain ⟨W0, rfl⟩ : ∃ W0 : World, W0 = wr := ⟨_, rfl⟩
    clear B3 I0
    by_cases hlt : k < m
    · obtain ⟨d, hd⟩ : ∃ d, y[k]? = some d := ⟨_, List.getElem?_eq_getElem (by rw [hm.out]; exact hlt)⟩
      obtain ⟨b2, o2, rfl, lb2, s, hsz, f2, es⟩ := ST.out bo y W0 k d RB.out hB.out hd
      clear es
      have kc : k + 1 < c := by have := hc.out; omega
      have c0 := hI.out.cells k (by omega)
      have c1 := hI.out.cells (k + 1) kc
      have fz := hI.out.free (k + 1)
      have e0 := hG.out k (Nat.le_refl _)
      rw [e0] at c0
      have tb := TB.out 0 k
      have sb := F.sum_at hd
      have SYo := SY.out
      have hst := F.tab_0k (w := List.length) x y k d hd
      have HST : Hid ((F.tab List.length x y 0 (k + 1) : Nat) = F.tab List.length x y 0 k + d.length) := hst
      generalize F.tab List.length x y 0 k = t0 at *
      generalize G (k + 1) = xx at c1
      obtain ⟨v, hv⟩ : ∃ v : Nat, (t0 : Int) + (s.size : Int) = (v : Int) := ⟨t0 + s.size, by omega⟩
      have HV : Hid (v = F.tab List.length x y 0 (k + 1)) := by show _ = _; rw [HST.out]; omega
      have wr1 : IntKind.i64.wrap ((t0 : Int) + (s.size : Int)) = (v : Int) := by rw [hv]; exact IntWalk.i64_in _ (by omega)
      have wr2 : IntKind.i64.wrap ((k : Int) + 1) = (k : Int) + 1 := IntWalk.i64_in _ (by omega)
      have ng : ¬ g = b2 := by have := G0.out; omega
      have ng2 : ¬ b2 = g := by omega
      have kc1 : k < c := by omega
      have l5 : ((k : Int) + 1).toNat = k + 1 := by omega
      have l6 : (k : Int) + 1 < (c : Int) := by omega
      have R : Hid (∃ G', Hid (F.Ints c G' g (W0.setCell ⟨g, k + 1, none⟩ (.int .i64 (v : Int))).drew) ∧ Hid (∀ j, j ≤ k + 1 → G' j = (F.tab List.length x y 0 j : Nat)) ∧ Hid (Below w2.heap.size w2 (W0.setCell ⟨g, k + 1, none⟩ (.int .i64 (v : Int))).drew)) := by
        refine ⟨_, (hI.out.set (k + 1) (v : Int)).drew, fun j hj => ?_, (hB.out.setCell (p := ⟨g, _, none⟩) G0.out _).drew⟩
        by_cases e : j = k + 1
        · subst e; rw [if_pos rfl, HV.out]
        · rw [if_neg e]; exact hG.out j (by omega)
      clear e0 hd hsz sb SYo hst HST hv HV lb2 hI hG hB
      go_wp2
      go_region
      go_wp2
      obtain ⟨G', r1, r2, r3⟩ := R.out
      go_roundw
      case rel => exact ⟨k + 1, G', by omega, by go_num, r1, r2, r3⟩
      case measure => simp [intOf]; omega
    · obtain rfl : k = m := by omega
      have Z := Lib.hid (And.intro hI.out (And.intro hG.out hB.out))
      clear hI hG hB
      go_wp2
      go_loopw [7, 9] (fun u v wr => ∃ (i : Nat) (g : Nat) (G : Nat → Int), i ≤ n ∧ v = .int .i64 (i : Int) ∧ u = .slice (some ⟨g, 0, none⟩) c c ∧ w2.heap.size ≤ g ∧ Hid (F.Ints c G g wr) ∧ Hid (∀ j, j ≤ k → G j = (F.tab List.length x y i j : Nat)) ∧ Hid (Below w2.heap.size w2 wr)) (fun _ v _ => n - (intOf v).toNat)
      case atStart => exact ⟨0, g, G, Nat.zero_le _, rfl, rfl, G0.out, Z.out.1, Z.out.2.1, Z.out.2.2⟩
      case round =>
        obtain ⟨i, g, G, hi, rfl, rfl, gw, hI, hG, hB⟩ := hrel
        obtain ⟨W0, rfl⟩ : ∃ W0 : World, W0 = wr := ⟨_, rfl⟩
        clear Z
        by_cases hin : i < n
        · obtain ⟨d, hd⟩ : ∃ d, x[i]? = some d := ⟨_, List.getElem?_eq_getElem (by rw [hn.out]; exact hin)⟩
          obtain ⟨b1, o1, rfl, lb1, s, hsz, _, es⟩ := ST.out ao x W0 i d RA.out hB.out hd
          have sb := F.sum_at hd
          have SXo := SX.out
          have ES := Lib.hid es
          clear es
          have SS : Hid (∀ W, Below w2.heap.size w2 W → W.cell? ⟨b1, o1 + i, none⟩ = some (.string s)) := fun W hb => by
            obtain ⟨b1', o1', e', _, s', _, hc', es'⟩ := ST.out _ x W i d RA.out hb hd
            cases e'
            rw [hc', es', ES.out]
          have f2 := SS.out _ (hB.out.alloc hB.out.size (.cells (madeCells #[.int .i64 0] c) 3))
          have J0 := Lib.hid (F.ints_made W0 c)
          have I1 := Lib.hid (hI.out.below ((Below.refl _ W0).alloc (Nat.le_refl _) (.cells (madeCells #[.int .i64 0] c) 3)))
          have B1 : Hid (Below w2.heap.size w2 (W0.alloc (.cells (madeCells #[.int .i64 0] c) 3))) := hB.out.alloc hB.out.size _
          have c0' : 0 < c := by omega
          have k0 := J0.out.cells 0 c0'
          have fz := J0.out.free 0
          have c1 := I1.out.cells 0 c0'
          have e0 := hG.out 0 (Nat.zero_le _)
          rw [e0] at c1
          have tb := TB.out i 0
          have HST : Hid (F.tab List.length x y (i + 1) 0 = F.tab List.length x y i 0 + d.length) := F.tab_i0 (w := List.length) x y i d hd
          have hzz := hB.out.size
          have gl := hI.out.lt
          generalize F.tab List.length x y i 0 = t0 at *
          obtain ⟨v, hv⟩ : ∃ v : Nat, (t0 : Int) + (s.size : Int) = (v : Int) := ⟨t0 + s.size, by omega⟩
          have HV : Hid (v = F.tab List.length x y (i + 1) 0) := by show _ = _; rw [HST.out]; omega
          have wr1 : IntKind.i64.wrap ((t0 : Int) + (s.size : Int)) = (v : Int) := by rw [hv]; exact IntWalk.i64_in _ (by omega)
          obtain ⟨g2, hg2⟩ : ∃ g2, Hid (W0.heap.size = g2) := ⟨_, rfl⟩
          have gw2 : w2.heap.size ≤ g2 := by have := hg2.out; omega
          have ng : ¬ g = g2 := by have := hg2.out; omega
          have ng2 : ¬ g2 = g := by omega
          have nb1 : ¬ b1 = g2 := by omega
          have nb2 : ¬ b1 = g := by omega
          obtain ⟨W1, hW1⟩ : ∃ W1, Hid (W0.alloc (.cells (madeCells #[.int .i64 0] c) 3) = W1) := ⟨_, rfl⟩
          rw [hW1.out, hg2.out] at J0
          rw [hW1.out] at I1 B1 f2 c1
          rw [hW1.out, hg2.out] at k0 fz
          have R : Hid (∃ G', Hid (F.Ints c G g ((W1.setCell ⟨g2, 0, none⟩ (.int .i64 (v : Int))).drew)) ∧ Hid (F.Ints c G' g2 (W1.setCell ⟨g2, 0, none⟩ (.int .i64 (v : Int))).drew) ∧ Hid (∀ j, j ≤ 0 → G' j = (F.tab List.length x y (i + 1) j : Nat)) ∧ Hid (Below w2.heap.size w2 (W1.setCell ⟨g2, 0, none⟩ (.int .i64 (v : Int))).drew)) := by
            refine ⟨_, (I1.out.other ng).drew, (J0.out.set 0 (v : Int)).drew, fun j hj => ?_, (B1.out.setCell (p := ⟨g2, _, none⟩) gw2 _).drew⟩
            obtain rfl : j = 0 := by omega
            rw [if_pos rfl, HV.out]
          clear e0 hsz HST hv HV hI hB J0 I1 B1 hzz gl lb1
          go_wp2
          rw [hW1.out, hg2.out]
          go_region
          go_wp2
          obtain ⟨G2, r1, r2, r3, r4⟩ := R.out
          have R4 := Lib.hid (And.intro r1.out (And.intro r2.out (And.intro r3.out r4.out)))
          clear r1 r2 r3 r4 R k0 fz c1 f2
          go_loopw [11] (fun v wr => ∃ (l : Nat) (G2 : Nat → Int), l ≤ k ∧ v = .int .i64 (l : Int) ∧ Hid (F.Ints c G g wr) ∧ Hid (F.Ints c G2 g2 wr) ∧ Hid (∀ j, j ≤ l → G2 j = (F.tab List.length x y (i + 1) j : Nat)) ∧ Hid (Below w2.heap.size w2 wr)) (fun v _ => k - (intOf v).toNat)
          case atStart => exact ⟨0, G2, Nat.zero_le _, rfl, R4.out.1, R4.out.2.1, R4.out.2.2.1, R4.out.2.2.2⟩
          case round =>
            obtain ⟨l, G2, hl, rfl, hI, hJ, hG2, hB⟩ := hrel
            obtain ⟨W2, rfl⟩ : ∃ W2 : World, W2 = wr := ⟨_, rfl⟩
            clear R4
            by_cases hlt : l < k
            · obtain ⟨e, he⟩ : ∃ e, y[l]? = some e := ⟨_, List.getElem?_eq_getElem (by rw [hm.out]; exact hlt)⟩
              obtain ⟨b2, o2, rfl, lb2, s2, hsz2, f2, es2⟩ := ST.out bo y W2 l e RB.out hB.out he
              have f1 := SS.out _ hB.out
              have sb2 := F.sum_at he
              have SYo := SY.out
              have ES2 := Lib.hid es2
              clear es2
              have SS2 : Hid (∀ W, Below w2.heap.size w2 W → W.cell? ⟨b2, o2 + l, none⟩ = some (.string s2)) := fun W hb => by
                obtain ⟨b1', o1', e', _, s', _, hc', es'⟩ := ST.out _ y W l e RB.out hb he
                cases e'
                rw [hc', es', ES2.out]
              have lc : l + 1 < c := by have := hc.out; omega
              have lc1 : l < c := by omega
              have lc2 : (l : Int) + 1 < (c : Int) := by omega
              have l5 : ((l : Int) + 1).toNat = l + 1 := by omega
              have cA := hI.out.cells (l + 1) lc
              have cB := hJ.out.cells l lc1
              have cC := hJ.out.cells (l + 1) lc
              have fz := hJ.out.free (l + 1)
              have eA := hG.out (l + 1) (by omega)
              have eB := hG2.out l (Nat.le_refl _)
              have eD := hG.out l hl
              rw [eA] at cA
              rw [eB] at cB
              have tA := TB.out i (l + 1)
              have tB := TB.out (i + 1) l
              have tD := TB.out i l
              have STEP := Lib.hid (F.tab_step (w := List.length) x y i l d e hd he)
              have hst : Hid (s.size = d.length) := by show _ = _; rw [ES.out]; exact D.size_l d
              have hst2 : Hid (s2.size = e.length) := hsz2
              have hsl : s.size ≤ 1048576 := by have := hst.out; omega
              have hsl2 : s2.size ≤ 1048576 := by omega
              clear eA eB hsz2 sb2 SYo
              generalize F.tab List.length x y i (l + 1) = t1 at *
              generalize F.tab List.length x y (i + 1) l = t2 at *
              generalize F.tab List.length x y i l = t3 at *
              generalize G2 (l + 1) = xx at cC
              obtain ⟨v1, hv1⟩ : ∃ v1 : Nat, (t1 : Int) + (s.size : Int) = (v1 : Int) := ⟨t1 + s.size, by omega⟩
              obtain ⟨v2, hv2⟩ : ∃ v2 : Nat, (t2 : Int) + (s2.size : Int) = (v2 : Int) := ⟨t2 + s2.size, by omega⟩
              have HV1 : Hid (v1 = d.length + t1) := by show _ = _; have := hst.out; omega
              have HV2 : Hid (v2 = e.length + t2) := by show _ = _; have := hst2.out; omega
              have wr1 : IntKind.i64.wrap ((t1 : Int) + (s.size : Int)) = (v1 : Int) := by rw [hv1]; exact IntWalk.i64_in _ (by omega)
              have wr2 : IntKind.i64.wrap ((t2 : Int) + (s2.size : Int)) = (v2 : Int) := by rw [hv2]; exact IntWalk.i64_in _ (by omega)
              have wr3 : IntKind.i64.wrap ((l : Int) + 1) = (l : Int) + 1 := IntWalk.i64_in _ (by omega)
              have nb3 : ¬ b2 = g2 := by omega
              have nb4 : ¬ b2 = g := by omega
              have R : Hid (∀ z : Int, z = ((min v1 v2 : Nat) : Int) → ∃ G', Hid (F.Ints c G g (W2.setCell ⟨g2, l + 1, none⟩ (.int .i64 z)).drew) ∧ Hid (F.Ints c G' g2 (W2.setCell ⟨g2, l + 1, none⟩ (.int .i64 z)).drew) ∧ Hid (G' (l + 1) = ((min v1 v2 : Nat) : Int)) ∧ Hid (∀ j, j ≤ l → G' j = (F.tab List.length x y (i + 1) j : Nat)) ∧ Hid (Below w2.heap.size w2 (W2.setCell ⟨g2, l + 1, none⟩ (.int .i64 z)).drew)) := fun z hz => by
                refine ⟨_, (hI.out.other ng).drew, (hJ.out.set (l + 1) z).drew, ?_, fun j hj => ?_, (hB.out.setCell (p := ⟨g2, _, none⟩) gw2 _).drew⟩
                · show (if l + 1 = l + 1 then z else G2 (l + 1)) = _
                  rw [if_pos rfl, hz]
                · show (if j = l + 1 then z else G2 j) = _
                  rw [if_neg (by omega)]; exact hG2.out j hj
              clear hv1 hv2 hd he lb2
              have hGk := Lib.hid eD
              clear eD
              go_upto_region 15 with (fail)
              go_cut [92] (fun _ wx => ∃ G', Hid (F.Ints c G g wx) ∧ Hid (F.Ints c G' g2 wx) ∧ Hid (G' (l + 1) = ((min v1 v2 : Nat) : Int)) ∧ Hid (∀ j, j ≤ l → G' j = (F.tab List.length x y (i + 1) j : Nat)) ∧ Hid (Below w2.heap.size w2 wx))
              case first =>
                clear hI hJ hG2 hB
                go_region
                all_goals
                  go_wp2
                  go_meet
                  case rel => exact R.out _ (by (repeat' split) <;> omega)
              case rest =>
              obtain ⟨G3, hI, hJ, hGl, hG3, hB⟩ := hcut
              obtain ⟨W3, rfl⟩ : ∃ W3 : World, W3 = wc := ⟨_, rfl⟩
              clear R
              have f1 := SS.out _ hB.out
              have f2 := SS2.out _ hB.out
              obtain ⟨eqb, heq⟩ : ∃ eqb : Bool, Hid (eqb = decide (d = e)) := ⟨_, rfl⟩
              go_upto_region 16 with (fail)
              go_cut [101] (fun v wx => v = .bool eqb ∧ Hid (Below W3.heap.size W3 wx))
              case first =>
                have K : Hid (s.toList = s2.toList ↔ d = e) := by
                  rw [ES.out, ES2.out, ByteArray.toList_eq, ByteArray.toList_eq]
                  exact ⟨fun h => by simpa using h, fun h => by rw [h]⟩
                clear hI hJ hGl hG3 hB
                go_quiet (fail)
                go_wp2
                go_meet
                case rel => exact ⟨by rw [heq.out]; congr 1; rw [Bool.eq_iff_iff, beq_iff_eq, decide_eq_true_eq]; exact K.out, below_drewN (Below.refl _ _) _⟩
              case rest =>
              obtain ⟨rfl, hw⟩ := hcut
              obtain ⟨W4, rfl⟩ : ∃ W4 : World, W4 = wc := ⟨_, rfl⟩
              have I4 := Lib.hid (hI.out.below hw.out)
              have J4 := Lib.hid (hJ.out.below hw.out)
              have B4 := Lib.hid (hB.out.trans (hw.out.mono hB.out.size))
              clear hI hJ hB hw f1 f2
              cases eqb with
              | true =>
                have hde : d = e := by have := heq.out.symm; rwa [decide_eq_true_eq] at this
                have T5 : Hid (F.tab List.length x y (i + 1) (l + 1) = min (min v1 v2) t3) := by
                  show _ = _
                  rw [STEP.out, if_pos hde, HV1.out, HV2.out]
                have cD := I4.out.cells l lc1
                rw [hGk.out] at cD
                have cC := J4.out.cells (l + 1) lc
                rw [hGl.out] at cC
                have fz := J4.out.free (l + 1)
                have R : Hid (∀ z : Int, z = ((min (min v1 v2) t3 : Nat) : Int) → ∃ G', Hid (F.Ints c G g (W4.setCell ⟨g2, l + 1, none⟩ (.int .i64 z)).drew) ∧ Hid (F.Ints c G' g2 (W4.setCell ⟨g2, l + 1, none⟩ (.int .i64 z)).drew) ∧ Hid (∀ j, j ≤ l + 1 → G' j = (F.tab List.length x y (i + 1) j : Nat)) ∧ Hid (Below w2.heap.size w2 (W4.setCell ⟨g2, l + 1, none⟩ (.int .i64 z)).drew)) := fun z hz => by
                  refine ⟨_, (I4.out.other ng).drew, (J4.out.set (l + 1) z).drew, fun j hj => ?_, (B4.out.setCell (p := ⟨g2, _, none⟩) gw2 _).drew⟩
                  show (if j = l + 1 then z else G3 j) = _
                  by_cases c : j = l + 1
                  · rw [if_pos c, c, hz, T5.out]
                  · rw [if_neg c]; exact hG3.out j (by omega)
                obtain ⟨v3, hv3⟩ : ∃ v3, Hid (min v1 v2 = v3) := ⟨_, rfl⟩
                rw [hv3.out] at cC R
                clear hde I4 J4 B4 hGl hG3 wr1 wr2
                go_wp2
                go_region
                all_goals
                  go_wp2
                  obtain ⟨G', r1, r2, r3, r4⟩ := R.out (min (v3 : Int) (t3 : Int)) (by omega)
                  go_roundw
                  case rel => exact ⟨l + 1, G', by omega, by go_num, r1, r2, r3, r4⟩
                  case measure => simp [intOf]; omega
              | false =>
                have hde : ¬ d = e := by have := heq.out.symm; rwa [decide_eq_false_iff_not] at this
                have T5 : Hid (F.tab List.length x y (i + 1) (l + 1) = min v1 v2) := by
                  show _ = _
                  rw [STEP.out, if_neg hde, HV1.out, HV2.out]
                have G5 : Hid (∀ j, j ≤ l + 1 → G3 j = (F.tab List.length x y (i + 1) j : Nat)) := fun j hj => by
                  by_cases c : j = l + 1
                  · rw [c, hGl.out, T5.out]
                  · exact hG3.out j (by omega)
                clear hde hGl hG3 wr1 wr2
                go_wp2
                go_roundw
                case rel => exact ⟨l + 1, G3, by omega, by go_num, I4, J4, G5, B4⟩
                case measure => simp [intOf]; omega
            · obtain rfl : l = k := by omega
              have Q := Lib.hid (And.intro hJ.out (And.intro hG2.out hB.out))
              clear hI hJ hG2 hB
              go_wp2
              go_roundw
              case rel => exact ⟨i + 1, g2, G2, by omega, by go_num, rfl, gw2, Q.out.1, Q.out.2.1, Q.out.2.2⟩
              case measure => simp [intOf]; omega
        · obtain rfl : i = n := by omega
          have kc : k < c := by have := hc.out; omega
          have c0 := hI.out.cells k kc
          have e0 := hG.out k (Nat.le_refl _)
          obtain ⟨t, ht⟩ : ∃ t, Hid (F.lc List.length x y = t) := ⟨_, rfl⟩
          rw [e0, FIN.out, ht.out] at c0
          have R := Lib.hid (B2.out.trans (hB.out.mono Z2.out))
          clear e0 hI hG hB
          go_wp2
          go_ret
          exact ⟨by rw [ht.out]; rfl, R.out⟩
end Go.Proofs.Ytdilkoogjkabfaa
