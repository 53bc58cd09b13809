/- The contracts of the reference of layer 4: Invert, Replace. -/
import Derived.Test.YtdpjnhmnmpmkmaaApplyRef1
import Derived.Deep.DeepCutAuto
import Derived.Deep.CutBlock
namespace Go.Proofs.Ytdpjnhmnmpmkmaa
open Go.RowKit

def A.InvEnd (S : List UInt8) (l : List D.P) (w : World) (e : Ending) (w' : World) : Prop := ∃ v, e = .returned (.tuple #[v, .int .i64 (D.fitE S l)]) ∧ D.Made (D.invP S l) w v w'
set_option maxRecDepth 100000 in
set_option maxHeartbeats 2000000 in
theorem refInvert_any (s : ByteArray) (ao : Option Addr) (cap : Nat) (l : List D.P) (w : World) (hs : s.size ≤ 140737488351232) (hn : l.length ≤ maxLen) (hr : D.Row w ao l) (ht : ∀ p ∈ l, p.t.size ≤ 140737488351232) :
    Calls Try.prog 21 #[.string s, .slice ao l.length cap] w (A.InvEnd s.data.toList l w) := by
  have H := refFits_any s ao cap l w hs hn hr ht
  by_cases h : D.fitE s.data.toList l = 0
  · obtain ⟨h0, h1⟩ := D.fitE_zero h
    have hci := D.chk_inv h
    have hni := D.normP_inv h
    obtain ⟨hraw, pa, hl, hle, hi, ho⟩ := D.valid_qs h0
    have hF : Hid (∀ V ao c, Below w.heap.size w V → D.Row V ao ((D.inv s.data.toList (D.qs l)).map D.raw) → Calls Try.prog 43 #[.slice ao ((D.inv s.data.toList (D.qs l)).map D.raw).length c] V (fun e w' => ∃ v, e = .returned v ∧ D.Made (D.invP s.data.toList l) V v w')) := fun V ao c _ h => by
      rw [← hni]; exact refForm_valid ao c _ V hci h
    have R : Hid (∀ v w' W, Below w.heap.size w W → D.Made (D.invP s.data.toList l) W v w' → A.InvEnd s.data.toList l w (.returned (.tuple #[v, .int .i64 0])) w') := fun v w' W hb hm => ⟨v, by rw [h], D.own_mono hm.own hb.size, hb.trans (hm.below.mono hb.size)⟩
    rw [h] at H
    rw [← hraw] at hr
    have hsl : s.data.toList.length = s.size := by simp
    generalize D.invP s.data.toList l = V0 at hF R
    generalize D.qs l = a at hr hl hi ho h1 hF
    rw [← hl] at H ⊢
    rw [← hl] at hle
    have H := Lib.hid H
    have Hr := Lib.hid hr
    clear hr hraw ht h h0 hn hl pa hci hni
    go_enter Try.func21, Try.ntmps21
    go_wp2_with fail
    refine H.out.mono ?_
    rintro e w1 ⟨rfl, hbw⟩
    have hbw := Lib.hid hbw
    go_wp2
    go_loopw [7, 8, 9] (fun v at_ i wr => ∃ k : Nat, k ≤ a.length ∧ i = .int .i64 k ∧ at_ = .int .i64 (D.inL (a.take k) : Int) ∧ Hid (D.Made ((D.inv s.data.toList (a.take k)).map D.raw) w v wr)) (fun _ _ i _ => a.length - (intOf i).toNat)
    case atStart => exact ⟨0, Nat.zero_le _, rfl, rfl, ⟨World.ownsRow_nil _ _ _ _, hbw.out⟩⟩
    case round =>
      obtain ⟨k, hk, rfl, rfl, hx⟩ := hrel
      by_cases hlt : k < a.length
      · obtain ⟨q, hq⟩ : ∃ q, a[k]? = some q := ⟨a[k], List.getElem?_eq_getElem hlt⟩
        have e1 := Lib.hid (D.inv_snoc s.data.toList a k q hq)
        obtain ⟨i1', i2⟩ := D.inL_take_le a k q hq
        have i1 := Lib.hid i1'
        clear i1'
        have hO := D.out1_le a k q hq
        have hxl : ((D.inv s.data.toList (a.take k)).map D.raw).length ≤ 4096 := by rw [List.length_map, D.inv_length, List.length_take]; omega
        obtain ⟨b, o, e, hbl, hcell⟩ := Hr.out k (D.raw q) (by rw [List.getElem?_map, hq]; rfl)
        subst e
        obtain ⟨I0, hII⟩ : ∃ I0, Hid (D.inL (a.take k) = I0) := ⟨_, rfl⟩
        have hpart : Hid (∀ n, D.in1 q = n → D.part s.data.toList a k q = (s.data.toList.drop I0).take n) := fun n e => by unfold D.part; rw [e, hII.out]
        obtain ⟨X, hXX⟩ : ∃ X, Hid ((D.inv s.data.toList (a.take k)).map D.raw = X) := ⟨_, rfl⟩
        have e2 : Hid ((D.inv s.data.toList (a.take (k + 1))).map D.raw = X ++ [D.raw (D.inv1 s.data.toList a k q)]) := by show _ = _; rw [e1.out, List.map_append, hXX.out]; rfl
        rw [hXX.out] at hx hxl
        rw [hII.out] at i1 i2 ⊢
        obtain ⟨W0, rfl⟩ : ∃ W0 : World, W0 = wr := ⟨_, rfl⟩
        have hbz := hx.out.below.size
        obtain ⟨va, vc, rfl⟩ := D.slice_of_own hx.out.own
        obtain ⟨c0, c1, c2⟩ := D.cell3 hx.out.below hbl hcell
        clear e1
        cases q with
        | R n =>
          simp only [D.in1] at i1 i2
          try simp only [D.out1] at hO
          skip
          unfold D.raw at c0 c1 c2
          go_wp2_with (at_builtin; refine A.append_piece rfl _ _ rfl w.heap.size _ X rfl hx.out.own ⟨1, n, ⟨#[]⟩⟩ 1 rfl ?a1 ?a2 ?_)
          case a1 => omega
          intro Z v' w3 hZZ hO1 hg1 ha1
          have hx1 : Hid (D.Made ((D.inv s.data.toList (a.take (k + 1))).map D.raw) w v' w3) := by
            show D.Made _ _ _ _
            rw [e2.out]
            have := hx.out.on hO1 hg1
            rw [hZZ.out] at this
            exact this
          clear hO1 hg1 ha1
          obtain ⟨d0, d1, d2⟩ := D.cell3 hx1.out.below hbl hcell
          unfold D.raw at d0 d1 d2
          clear c0 c1 c2
          go_wp2
          go_roundw
          case rel => exact ⟨k + 1, by omega, by go_num, by rw [i1.out]; go_num, hx1⟩
          case measure => simp [intOf]; omega
        | I t =>
          simp only [D.in1] at i1 i2
          try simp only [D.out1] at hO
          have hsz : (⟨t.toArray⟩ : ByteArray).size = t.length := D.size_l t
          unfold D.raw at c0 c1 c2
          go_wp2_with (at_builtin; refine A.append_piece rfl _ _ rfl w.heap.size _ X rfl hx.out.own ⟨3, t.length, ⟨#[]⟩⟩ 1 rfl ?b1 ?b2 ?_)
          case b1 => omega
          intro Z v' w3 hZZ hO1 hg1 ha1
          have hx1 : Hid (D.Made ((D.inv s.data.toList (a.take (k + 1))).map D.raw) w v' w3) := by
            show D.Made _ _ _ _
            rw [e2.out]
            have := hx.out.on hO1 hg1
            rw [hZZ.out] at this
            exact this
          clear hO1 hg1 ha1
          obtain ⟨d0, d1, d2⟩ := D.cell3 hx1.out.below hbl hcell
          unfold D.raw at d0 d1 d2
          clear c0 c1 c2
          go_wp2
          go_roundw
          case rel => exact ⟨k + 1, by omega, by go_num, by rw [i1.out]; go_num, hx1⟩
          case measure => simp [intOf]; omega
        | D n =>
          simp only [D.in1] at i1 i2
          try simp only [D.out1] at hO
          skip
          unfold D.raw at c0 c1 c2
          go_wp2_with (at_builtin; refine A.append_piece rfl _ _ rfl w.heap.size _ X rfl hx.out.own ⟨2, 0, s.extract I0 (I0 + n)⟩ 1 rfl ?d1 ?d2 ?_)
          case d1 => omega
          intro Z v' w3 hZZ hO1 hg1 ha1
          have hx1 : Hid (D.Made ((D.inv s.data.toList (a.take (k + 1))).map D.raw) w v' w3) := by
            show D.Made _ _ _ _
            rw [e2.out]
            have := hx.out.on hO1 hg1
            rw [hZZ.out] at this
            have hp : D.raw (D.inv1 s.data.toList a k (.D n)) = ⟨2, 0, s.extract I0 (I0 + n)⟩ := by rw [A.extract_part]; show D.raw (.I (D.part s.data.toList a k (.D n))) = _; rw [hpart.out n rfl]; rfl
            rw [hp]
            exact this
          clear hO1 hg1 ha1
          obtain ⟨d0, d1, d2⟩ := D.cell3 hx1.out.below hbl hcell
          unfold D.raw at d0 d1 d2
          clear c0 c1 c2
          go_wp2
          go_roundw
          case rel => exact ⟨k + 1, by omega, by go_num, by rw [i1.out]; go_num, hx1⟩
          case measure => simp [intOf]; omega
      · obtain rfl : k = a.length := by omega
        have hx' := hx.out
        rw [List.take_length] at hx'
        obtain ⟨va, vc, rfl, hrow⟩ := hx'.form
        have HF := Lib.hid (hF.out wr va vc hx'.below hrow)
        have hb := Lib.hid hx'.below
        clear hx hx' hrow
        generalize ((D.inv s.data.toList a).map D.raw).length = N at HF
        go_wp2_with fail
        refine HF.out.mono ?_
        rintro e w2 ⟨v, rfl, hm⟩
        have R2 := Lib.hid (R.out v w2 wr hb.out hm)
        clear hm
        go_wp2
        go_ret2
        exact R2.out
  · have h' : (D.fitE s.data.toList l != 0) = true := by simpa using h
    have R : Hid (∀ w', Below w.heap.size w w' → A.InvEnd s.data.toList l w (.returned (.tuple #[.slice none 0 0, .int .i64 (D.fitE s.data.toList l)])) w') := fun w' hb => ⟨_, rfl, by unfold D.invP; rw [if_neg h]; exact D.Made.nil w hb⟩
    generalize D.fitE s.data.toList l = c at H h' R
    have H := Lib.hid H
    clear h hr ht hn
    go_enter Try.func21, Try.ntmps21
    go_wp2_with fail
    refine H.out.mono ?_
    rintro e w1 ⟨rfl, hb⟩
    have R2 := Lib.hid (R.out w1 hb)
    go_wp2
    go_ret2
    exact R2.out
/-- What the makers of single edits answer. -/
def A.MkEnd (n a k : Int) (t : ByteArray) (w : World) (e : Ending) (w' : World) : Prop := ∃ v, e = .returned (.tuple #[v, .int .i64 (D.mkE n a k t.data.toList)]) ∧ D.Made (D.mkP n a k t.data.toList) w v w'
/-- The pieces of an edit, one after another. -/
def A.e1 (a : Nat) : List D.P := if 0 < a then [⟨1, a, ⟨#[]⟩⟩] else []
def A.e2 (t : ByteArray) : List D.P := if t.data.toList = [] then [] else [⟨2, 0, t⟩]
def A.e3 (k : Nat) : List D.P := if 0 < k then [⟨3, k, ⟨#[]⟩⟩] else []
theorem A.edit_parts (n a k : Nat) (t : ByteArray) : (D.edit n a k t.data.toList).map D.raw = A.e1 a ++ A.e2 t ++ A.e3 k ++ (if a + k < n then [⟨1, ((n - a - k : Nat) : Int), ⟨#[]⟩⟩] else []) := by
  unfold D.edit A.e1 A.e2 A.e3
  rw [List.map_append, List.map_append, List.map_append]
  congr 1
  · congr 1
    · congr 1
      · split <;> rfl
      · split
        · rfl
        · simp [D.raw]
    · split <;> rfl
  · split <;> rfl
theorem A.e_len (a k : Nat) (t : ByteArray) : (A.e1 a).length ≤ 1 ∧ (A.e2 t).length ≤ 1 ∧ (A.e3 k).length ≤ 1 := by
  unfold A.e1 A.e2 A.e3
  refine ⟨?_, ?_, ?_⟩ <;> split <;> simp
set_option maxRecDepth 100000 in
set_option maxHeartbeats 2000000 in
theorem refReplace_any (n a k : Int) (t : ByteArray) (w : World) (n0 : -9223372036854775808 ≤ n) (n1 : n < 9223372036854775808) (a0 : -9223372036854775808 ≤ a) (a1 : a < 9223372036854775808) (k0 : -9223372036854775808 ≤ k) (k1 : k < 9223372036854775808) (hs : t.size ≤ 140737488351232) :
    Calls Try.prog 24 #[.int .i64 n, .int .i64 a, .int .i64 k, .string t] w (A.MkEnd n a k t w) := by
  rcases D.mk_cases n a k t.data.toList with ⟨hE, hP, hr⟩ | ⟨n, a, k, rfl, rfl, rfl, M⟩
  · have R : Hid (A.MkEnd n a k t w (.returned (.tuple #[.slice none 0 0, .int .i64 3])) w) := ⟨_, by rw [hE], by rw [hP]; exact D.Made.nil w (Below.refl _ _)⟩
    clear hE hP
    by_cases g1 : a < 0
    · clear hr
      go_enter Try.func24, Try.ntmps24
      go_wp2
      go_ret2
      exact R.out
    · by_cases g2 : n < a
      · clear hr
        go_enter Try.func24, Try.ntmps24
        go_wp2
        go_ret2
        exact R.out
      · by_cases g3 : k < 0
        · clear hr
          go_enter Try.func24, Try.ntmps24
          go_wp2
          go_ret2
          exact R.out
        · have g4 : n - a < k := by omega
          clear hr
          go_enter Try.func24, Try.ntmps24
          go_wp2
          go_ret2
          exact R.out
  · have hr := M.range
    have htl : t.data.toList.length = t.size := by simp
    have g1 : ¬ (a : Int) < 0 := by omega
    have g2 : ¬ (n : Int) < a := by omega
    have g3 : ¬ (k : Int) < 0 := by omega
    have g4 : ¬ (n : Int) - a < k := by omega
    by_cases h0 : D.mkE n a k t.data.toList = 0
    · have hb := D.mkE_in h0
      have hF : Hid (∀ V ao c, D.Row V ao ((D.edit n a k t.data.toList).map D.raw) → Calls Try.prog 43 #[.slice ao ((D.edit n a k t.data.toList).map D.raw).length c] V (fun e w' => ∃ v, e = .returned v ∧ D.Made (D.mkP n a k t.data.toList) V v w')) := fun V ao c h => by
        rw [← M.made h0]; exact refForm_valid ao c _ V (by rw [M.err]; exact h0) h
      have R : Hid (∀ v w' W, Below w.heap.size w W → D.Made (D.mkP n a k t.data.toList) W v w' → A.MkEnd n a k t w (.returned (.tuple #[v, .int .i64 0])) w') := fun v w' W hb hm => ⟨v, by rw [h0], D.own_mono hm.own hb.size, hb.trans (hm.below.mono hb.size)⟩
      have c1 : ¬ (1048576 : Int) < n := by omega
      have c2 : ¬ (1048576 : Int) - ((n : Int) - k) < (t.size : Int) := by omega
      rw [A.edit_parts] at hF
      generalize D.mkP n a k t.data.toList = V0 at hF R
      obtain ⟨l1, l2, l3⟩ := A.e_len a k t
      have hn' : n ≤ 1048576 := by omega
      have ha' : a ≤ 1048576 := by omega
      have hk' : k ≤ 1048576 := by omega
      clear M h0 hb htl n0 n1 a0 a1 k0 k1
      go_enter Try.func24, Try.ntmps24
      have h0 : Hid (D.Made ([] : List D.P) w (.slice none 0 0) w) := D.Made.nil w (Below.refl _ _)
      go_upto_if 41 with (fail)
      go_cut [10] (fun v wx => Hid (D.Made (A.e1 a) w v wx))
      case first =>
        skip
        by_cases q : 0 < a
        · have hE : Hid ((A.e1 a) = ([] : List D.P) ++ [⟨1, a, ⟨#[]⟩⟩]) := by show _ = _; unfold A.e1; rw [if_pos q]; rfl
          have q1 : (0 : Int) < a := by omega
          go_wp2_with (at_builtin; refine A.append_piece rfl _ _ rfl w.heap.size _ ([] : List D.P) rfl h0.out.own ⟨1, a, ⟨#[]⟩⟩ 1 rfl ?a1 ?a2 ?_)
          try any_goals (first | omega | exact h0.out.below.size)
          intro Z v' w3 hZZ hO1 hg1 ha1
          have R2 : Hid (D.Made (A.e1 a) w v' w3) := by
            show D.Made _ _ _ _
            have := h0.out.on hO1 hg1
            rw [hZZ.out] at this
            rw [hE.out]
            exact this
          clear hO1 hg1 ha1
          go_wp2
          go_meet
          case rel => exact R2
        · have hE : Hid ((A.e1 a) = ([] : List D.P)) := by show _ = _; unfold A.e1; rw [if_neg q]
          have q1 : ¬ (0 : Int) < a := by omega
          have R2 : ∀ v W, D.Made ([] : List D.P) w v W → Hid (D.Made (A.e1 a) w v W) := fun v W h => by show D.Made _ _ _ _; rw [hE.out]; exact h
          have R3 := R2 _ _ h0.out
          clear R2
          go_wp2
          go_meet
          case rel => exact R3
      case rest =>
      obtain ⟨X1, hXX1⟩ : ∃ x, Hid ((A.e1 a) = x) := ⟨_, rfl⟩
      have hlX1 : X1.length ≤ 10 := by rw [← hXX1.out]; omega
      rw [hXX1.out] at hcut
      have hcutX1 := hcut
      obtain ⟨vaX1, vcX1, rfl⟩ := D.slice_of_own hcutX1.out.own
      go_upto_if 48 with (fail)
      go_cut [10] (fun v wx => Hid (D.Made (A.e1 a ++ A.e2 t) w v wx))
      case first =>
        have hz : t.data.toList = [] ↔ t.size = 0 := by
          constructor
          · intro e; have : t.data.toList.length = t.size := by simp
            rw [e] at this; exact this.symm
          · intro e; rw [D.empty_of_size e]
        by_cases q : t.size = 0
        · have R3 : Hid (D.Made (A.e1 a ++ A.e2 t) w (.slice vaX1 X1.length vcX1) wc) := by show D.Made _ _ _ _; unfold A.e2; rw [if_pos (hz.2 q), List.append_nil, hXX1.out]; exact hcutX1.out
          have q1 : t.toList.isEmpty = true := by rw [D.isEmpty_eq]; simpa using q
          clear hz q
          rw [q1]
          go_wp2
          go_meet
          case rel => exact R3
        · have hE : Hid ((A.e1 a ++ A.e2 t) = X1 ++ [⟨2, 0, t⟩]) := by show _ = _; unfold A.e2; rw [if_neg (fun e => q (hz.1 e)), hXX1.out]
          have q1 : t.toList.isEmpty = false := by rw [D.isEmpty_eq]; simpa using q
          clear hz q
          rw [q1]
          go_wp2_with (at_builtin; refine A.append_piece rfl _ _ rfl w.heap.size _ X1 rfl hcutX1.out.own ⟨2, 0, t⟩ 1 rfl ?b1 ?b2 ?_)
          try any_goals (first | omega | exact hcutX1.out.below.size)
          intro Z v' w3 hZZ hO1 hg1 ha1
          have R2 : Hid (D.Made (A.e1 a ++ A.e2 t) w v' w3) := by
            show D.Made _ _ _ _
            have := hcutX1.out.on hO1 hg1
            rw [hZZ.out] at this
            rw [hE.out]
            exact this
          clear hO1 hg1 ha1
          go_wp2
          go_meet
          case rel => exact R2
      case rest =>
      obtain ⟨X2, hXX2⟩ : ∃ x, Hid ((A.e1 a ++ A.e2 t) = x) := ⟨_, rfl⟩
      have hlX2 : X2.length ≤ 10 := by rw [← hXX2.out]; rw [List.length_append]; omega
      rw [hXX2.out] at hcut
      have hcutX2 := hcut
      obtain ⟨vaX2, vcX2, rfl⟩ := D.slice_of_own hcutX2.out.own
      go_upto_if 55 with (fail)
      go_cut [10] (fun v wx => Hid (D.Made (A.e1 a ++ A.e2 t ++ A.e3 k) w v wx))
      case first =>
        by_cases q : 0 < k
        · have hE : Hid ((A.e1 a ++ A.e2 t ++ A.e3 k) = X2 ++ [⟨3, k, ⟨#[]⟩⟩]) := by show _ = _; rw [hXX2.out]; unfold A.e3; rw [if_pos q]
          have q1 : (0 : Int) < k := by omega
          go_wp2_with (at_builtin; refine A.append_piece rfl _ _ rfl w.heap.size _ X2 rfl hcutX2.out.own ⟨3, k, ⟨#[]⟩⟩ 1 rfl ?c1 ?c2 ?_)
          try any_goals (first | omega | exact hcutX2.out.below.size)
          intro Z v' w3 hZZ hO1 hg1 ha1
          have R2 : Hid (D.Made (A.e1 a ++ A.e2 t ++ A.e3 k) w v' w3) := by
            show D.Made _ _ _ _
            have := hcutX2.out.on hO1 hg1
            rw [hZZ.out] at this
            rw [hE.out]
            exact this
          clear hO1 hg1 ha1
          go_wp2
          go_meet
          case rel => exact R2
        · have R3 : Hid (D.Made (A.e1 a ++ A.e2 t ++ A.e3 k) w (.slice vaX2 X2.length vcX2) wc) := by show D.Made _ _ _ _; rw [hXX2.out]; unfold A.e3; rw [if_neg q, List.append_nil]; exact hcutX2.out
          have q1 : ¬ (0 : Int) < k := by omega
          go_wp2
          go_meet
          case rel => exact R3
      case rest =>
      obtain ⟨X3, hXX3⟩ : ∃ x, Hid ((A.e1 a ++ A.e2 t ++ A.e3 k) = x) := ⟨_, rfl⟩
      have hlX3 : X3.length ≤ 10 := by rw [← hXX3.out]; rw [List.length_append, List.length_append]; omega
      rw [hXX3.out] at hcut
      have hcutX3 := hcut
      obtain ⟨vaX3, vcX3, rfl⟩ := D.slice_of_own hcutX3.out.own
      go_upto_if 65 with (fail)
      go_cut [10] (fun v wx => Hid (D.Made (A.e1 a ++ A.e2 t ++ A.e3 k ++ (if a + k < n then [⟨1, ((n - a - k : Nat) : Int), ⟨#[]⟩⟩] else [])) w v wx))
      case first =>
        by_cases q : a + k < n
        · have hE : Hid ((A.e1 a ++ A.e2 t ++ A.e3 k ++ (if a + k < n then [⟨1, ((n - a - k : Nat) : Int), ⟨#[]⟩⟩] else [])) = X3 ++ [⟨1, (n : Int) - a - k, ⟨#[]⟩⟩]) := by show _ = _; rw [hXX3.out, if_pos q, show ((n - a - k : Nat) : Int) = (n : Int) - a - k by omega]
          have q1 : (a : Int) + k < n := by omega
          go_wp2_with (at_builtin; refine A.append_piece rfl _ _ rfl w.heap.size _ X3 rfl hcutX3.out.own ⟨1, (n : Int) - a - k, ⟨#[]⟩⟩ 1 rfl ?d1 ?d2 ?_)
          try any_goals (first | omega | exact hcutX3.out.below.size)
          intro Z v' w3 hZZ hO1 hg1 ha1
          have R2 : Hid (D.Made (A.e1 a ++ A.e2 t ++ A.e3 k ++ (if a + k < n then [⟨1, ((n - a - k : Nat) : Int), ⟨#[]⟩⟩] else [])) w v' w3) := by
            show D.Made _ _ _ _
            have := hcutX3.out.on hO1 hg1
            rw [hZZ.out] at this
            rw [hE.out]
            exact this
          clear hO1 hg1 ha1
          go_wp2
          go_meet
          case rel => exact R2
        · have R3 : Hid (D.Made (A.e1 a ++ A.e2 t ++ A.e3 k ++ (if a + k < n then [⟨1, ((n - a - k : Nat) : Int), ⟨#[]⟩⟩] else [])) w (.slice vaX3 X3.length vcX3) wc) := by show D.Made _ _ _ _; rw [hXX3.out, if_neg q, List.append_nil]; exact hcutX3.out
          have q1 : ¬ (a : Int) + k < n := by omega
          go_wp2
          go_meet
          case rel => exact R3
      case rest =>
      generalize (A.e1 a ++ A.e2 t ++ A.e3 k ++ (if a + k < n then [⟨1, ((n - a - k : Nat) : Int), ⟨#[]⟩⟩] else [] : List D.P)) = L at hF hcut
      obtain ⟨va, vc, rfl, hrow⟩ := hcut.out.form
      have HF := Lib.hid (hF.out wc va vc hrow)
      have hb := Lib.hid hcut.out.below
      clear hrow hcut
      generalize L.length = N at HF
      go_wp2_with fail
      refine HF.out.mono ?_
      rintro e w2 ⟨v, rfl, hm⟩
      have R2 := Lib.hid (R.out v w2 wc hb.out hm)
      clear hm
      go_wp2
      go_ret2
      exact R2.out
    · have R : Hid (A.MkEnd n a k t w (.returned (.tuple #[.slice none 0 0, .int .i64 5])) w) := by
        have h5 : D.mkE n a k t.data.toList = 5 := M.one.resolve_left h0
        exact ⟨_, by rw [h5], by unfold D.mkP; rw [if_neg h0]; exact D.Made.nil w (Below.refl _ _)⟩
      have hor : (1048576 : Int) < n ∨ (1048576 : Int) - ((n : Int) - k) < t.size := by
        unfold D.mkE at h0
        rw [if_neg (by omega)] at h0
        by_cases c : (1048576 : Int) < n ∨ (1048576 : Int) - ((n : Int) - k) < t.data.toList.length
        · rw [htl] at c; exact c
        · rw [if_neg c] at h0; exact absurd rfl h0
      clear M h0 htl
      by_cases c1 : (1048576 : Int) < n
      · clear hor
        go_enter Try.func24, Try.ntmps24
        go_wp2
        go_ret2
        exact R.out
      · have c2 := hor.resolve_left c1
        clear hor
        go_enter Try.func24, Try.ntmps24
        go_wp2
        go_ret2
        exact R.out
end Go.Proofs.Ytdpjnhmnmpmkmaa
