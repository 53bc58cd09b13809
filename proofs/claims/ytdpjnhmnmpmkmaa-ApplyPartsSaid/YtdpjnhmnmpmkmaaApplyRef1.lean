/- The contracts of the reference of layer 4: fits, Parts, Apply, Removed, Inserted. -/
import Derived.Test.YtdpjnhmnmpmkmaaApplyRow
import Derived.Test.YtdpjnhmnmpmkmaaDeltaRef4
namespace Go.Proofs.Ytdpjnhmnmpmkmaa
open Go.RowKit

set_option maxHeartbeats 1000000 in
theorem refFits_any (s : ByteArray) (ao : Option Addr) (cap : Nat) (l : List D.P) (w : World) (_hs : s.size ≤ 140737488351232) (hn : l.length ≤ maxLen) (hr : D.Row w ao l) (ht : ∀ p ∈ l, p.t.size ≤ 140737488351232) :
    Calls Try.prog 38 #[.string s, .slice ao l.length cap] w (fun e w' => e = .returned (.int .i64 (D.fitE s.data.toList l)) ∧ Below w.heap.size w w') := by
  have H := refLengths_any ao cap l w hn hr ht
  have hsl : s.data.toList.length = s.size := by simp
  clear hr ht hn
  by_cases h : D.chk l = 0
  · rw [if_pos h, if_pos h, h] at H
    by_cases hi : D.inP l = s.size
    · have R : Hid (D.fitE s.data.toList l = 0) := by show _ = _; unfold D.fitE; rw [if_pos h, if_pos (by omega)]
      have hq : (((s.size : Nat) : Int) != (s.size : Int)) = false := by simp
      rw [hi] at H
      have H := Lib.hid H
      clear h hi hsl
      go_enter Try.func38, Try.ntmps38
      go_wp2_with fail
      refine H.out.mono ?_
      rintro e w1 ⟨rfl, hb⟩
      go_wp2
      go_ret
      exact ⟨by rw [R.out]; rfl, hb⟩
    · have R : Hid (D.fitE s.data.toList l = 21) := by show _ = _; unfold D.fitE; rw [if_pos h, if_neg (by omega)]
      have hq : (D.inP l != (s.size : Int)) = true := by simpa using hi
      generalize D.inP l = i at H hq
      have H := Lib.hid H
      clear h hi hsl
      go_enter Try.func38, Try.ntmps38
      go_wp2_with fail
      refine H.out.mono ?_
      rintro e w1 ⟨rfl, hb⟩
      go_wp2
      go_ret
      exact ⟨by rw [R.out]; rfl, hb⟩
  · have R : Hid (D.fitE s.data.toList l = D.chk l) := by show _ = _; unfold D.fitE; rw [if_neg h]
    have h' : (D.chk l == 0) = false := by simpa using h
    rw [if_neg h, if_neg h] at H
    generalize D.chk l = c at H h' R
    have H := Lib.hid H
    clear h hsl
    go_enter Try.func38, Try.ntmps38
    go_wp2_with fail
    refine H.out.mono ?_
    rintro e w1 ⟨rfl, hb⟩
    go_wp2
    go_ret
    exact ⟨by rw [R.out]; rfl, hb⟩
def A.PartsEnd (S : List UInt8) (a : List D.Q) (w : World) (e : Ending) (w' : World) : Prop := e = .returned (.tuple #[.string ⟨(D.apl S a).toArray⟩, .string ⟨(D.gone S a).toArray⟩]) ∧ Below w.heap.size w w'
set_option maxRecDepth 100000 in
set_option maxHeartbeats 2000000 in
theorem refParts_any (s : ByteArray) (ao : Option Addr) (cap : Nat) (a : List D.Q) (w : World) (hl : a.length ≤ 4096) (hi : D.inL a = s.size) (hs : s.size ≤ 1048576) (ho : D.outL a ≤ 1048576) (hr : D.Row w ao (a.map D.raw)) :
    Calls Try.prog 39 #[.string s, .slice ao a.length cap] w (A.PartsEnd s.data.toList a w) := by
  have Hr := Lib.hid hr
  have hsl : Hid (s.data.toList.length = s.size) := by show _ = _; simp
  obtain ⟨S, hS⟩ : ∃ S, Hid (s.data.toList = S) := ⟨_, rfl⟩
  rw [hS.out] at hsl ⊢
  have Hx := Lib.hid (fun k => D.apl_take_len S a k)
  have Hg := Lib.hid (fun k => D.gone_take_len S a k)
  clear hr
  go_enter Try.func39, Try.ntmps39
  go_wp2
  go_loopw [6, 7, 8, 9] (fun v u at_ i wr => ∃ k : Nat, k ≤ a.length ∧ i = .int .i64 k ∧ at_ = .int .i64 (D.inL (a.take k) : Int) ∧ Hid (A.Two (D.apl S (a.take k)) (D.gone S (a.take k)) w v u wr)) (fun _ _ _ i _ => a.length - (intOf i).toNat)
  case atStart => exact ⟨0, Nat.zero_le _, rfl, rfl, ⟨World.ownsRow_nil _ _ _ _, World.ownsRow_nil _ _ _ _, .inl rfl, Below.refl _ _⟩⟩
  case round =>
    obtain ⟨k, hk, rfl, rfl, hx⟩ := hrel
    by_cases hlt : k < a.length
    · obtain ⟨q, hq⟩ : ∃ q, a[k]? = some q := ⟨a[k], List.getElem?_eq_getElem hlt⟩
      have e1 := Lib.hid (D.apl_snoc S a k q hq)
      have e2 := Lib.hid (D.gone_snoc S a k q hq)
      obtain ⟨i1', i2⟩ := D.inL_take_le a k q hq
      have i1 := Lib.hid i1'
      clear i1'
      have hX := Hx.out k
      have hX1 := Hx.out (k + 1)
      have hG := Hg.out k
      have hT := D.txt1_out q
      have hO := D.out1_le a k q hq
      have hSl := hsl.out
      obtain ⟨b, o, e, hbl, hcell⟩ := Hr.out k (D.raw q) (by rw [List.getElem?_map, hq]; rfl)
      subst e
      rw [D.raw_t, D.raw_n1] at hcell
      have hkind := D.raw_cases q
      have hpart : Hid (D.part S a k q = List.take (D.in1 q) (List.drop (D.inL (a.take k)) s.data.toList)) := by show _ = _; rw [hS.out]; rfl
      have hpz : (s.extract (D.inL (a.take k)) (D.inL (a.take k) + D.in1 q)).size = D.in1 q := by simp; omega
      obtain ⟨X, hXX⟩ : ∃ X, Hid (D.apl S (a.take k) = X) := ⟨_, rfl⟩
      obtain ⟨Y, hYY⟩ : ∃ Y, Hid (D.gone S (a.take k) = Y) := ⟨_, rfl⟩
      obtain ⟨t, hTT⟩ : ∃ t, Hid (D.txt1 q = t) := ⟨_, rfl⟩
      obtain ⟨N, hNN⟩ : ∃ N, Hid (D.in1 q = N) := ⟨_, rfl⟩
      obtain ⟨I0, hAA⟩ : ∃ I0, Hid (D.inL (a.take k) = I0) := ⟨_, rfl⟩
      rw [hXX.out] at hx e1 hX
      rw [hYY.out] at hx e2 hG
      rw [hTT.out] at hcell e1 hT
      rw [hNN.out] at hcell i1 i2 hpart hpz
      rw [hAA.out] at i1 i2 hpart hpz ⊢
      have hsz : (⟨t.toArray⟩ : ByteArray).size = t.length := D.size_l t
      obtain ⟨W0, rfl⟩ : ∃ W0 : World, W0 = wr := ⟨_, rfl⟩
      obtain ⟨c0, c1, c2⟩ := D.cell3 (p := ⟨(D.raw q).k, (N : Int), ⟨t.toArray⟩⟩) hx.out.below hbl hcell
      obtain ⟨va, vc, rfl⟩ := D.slice_of_own hx.out.own1
      obtain ⟨ua, uc, rfl⟩ := D.slice_of_own hx.out.own2
      go_wp2_with (at_builtin; refine A.append_str rfl _ _ rfl w.heap.size _ X rfl hx.out.own1 ⟨t.toArray⟩ rfl ?a1 ?a2 ?_)
      case a1 => omega
      case a2 => exact hx.out.below.size
      intro Z v' w3 hZZ hO1 hg1 ha1
      have hx1 := Lib.hid (hx.out.fst hO1 hg1 ha1)
      clear hO1 hg1 ha1
      have hZZ : Hid (Z = X ++ t) := hZZ.out
      have hZl : Z.length ≤ 10000000 := by rw [hZZ.out, List.length_append]; omega
      obtain ⟨c0, c1, c2⟩ := D.cell3 (p := ⟨(D.raw q).k, (N : Int), ⟨t.toArray⟩⟩) hx1.out.below hbl hcell
      obtain ⟨va', vc', rfl⟩ := D.slice_of_own hx1.out.own1
      rcases hkind with ⟨hk2, hk1⟩ | ⟨hk2, hk1⟩
      · rw [hk1] at c0
        go_wp2_with (at_builtin; refine A.append_str rfl _ _ rfl w.heap.size _ Z rfl hx1.out.own1 (s.extract I0 (I0 + N)) rfl ?b1 ?b2 ?_)
        case b1 => omega
        case b2 => exact hx1.out.below.size
        intro Z2 v2 w4 hZ2 hO2 hg2 ha2
        have hx2 : Hid (A.Two (D.apl S (a.take (k + 1))) (D.gone S (a.take (k + 1))) w v2 (.slice ua Y.length uc) w4) := by
          show A.Two _ _ _ _ _ _
          have := hx1.out.fst hO2 hg2 ha2
          rw [hZ2.out, hZZ.out] at this
          rw [e1.out, e2.out, if_pos hk2, if_pos hk2, List.append_nil, hpart.out]
          exact this
        clear hO2 hg2 ha2
        obtain ⟨c0, c1, c2⟩ := D.cell3 (p := ⟨(D.raw q).k, (N : Int), ⟨t.toArray⟩⟩) hx2.out.below hbl hcell
        go_wp2
        go_roundw
        case rel => exact ⟨k + 1, by omega, by go_num, by rw [i1.out]; go_num, hx2⟩
        case measure => simp [intOf]; omega
      · have hk9 : ((D.raw q).k == 1) = false := by rcases hk1 with h | h <;> rw [h] <;> rfl
        go_wp2_with (at_builtin; refine A.append_str rfl _ _ rfl w.heap.size _ Y rfl hx1.out.own2 (s.extract I0 (I0 + N)) rfl ?d1 ?d2 ?_)
        case d1 => omega
        case d2 => exact hx1.out.below.size
        intro Z2 v2 w4 hZ2 hO2 hg2 ha2
        have hx2 : Hid (A.Two (D.apl S (a.take (k + 1))) (D.gone S (a.take (k + 1))) w (.slice va' Z.length vc') v2 w4) := by
          show A.Two _ _ _ _ _ _
          have := hx1.out.snd hO2 hg2 ha2
          rw [hZ2.out] at this
          rw [e1.out, e2.out, hk2, hpart.out, if_neg (by decide), if_neg (by decide), List.append_nil, ← hZZ.out]
          exact this
        clear hO2 hg2 ha2
        obtain ⟨c0, c1, c2⟩ := D.cell3 (p := ⟨(D.raw q).k, (N : Int), ⟨t.toArray⟩⟩) hx2.out.below hbl hcell
        go_wp2
        go_roundw
        case rel => exact ⟨k + 1, by omega, by go_num, by rw [i1.out]; go_num, hx2⟩
        case measure => simp [intOf]; omega
    · obtain rfl : k = a.length := by omega
      have hx' := hx.out
      rw [List.take_length] at hx'
      have h1 : ∀ W', (∀ a, W'.cell? a = wr.cell? a) → (convert 56 9 u6).run Try.prog W' = .ok (.string ⟨(D.apl S a).toArray⟩) W' := fun W' h => A.to_string hx'.own1 W' h
      have h2 : ∀ W', (∀ a, W'.cell? a = wr.cell? a) → (convert 56 9 u7).run Try.prog W' = .ok (.string ⟨(D.gone S a).toArray⟩) W' := fun W' h => A.to_string hx'.own2 W' h
      have hb := Lib.hid hx'.below
      have R : Hid (∀ W, (∃ n, W = wr.drewN n) → A.PartsEnd S a w (.returned (.tuple #[.string ⟨(D.apl S a).toArray⟩, .string ⟨(D.gone S a).toArray⟩])) W) := fun W h => by
        obtain ⟨n, rfl⟩ := h
        exact ⟨rfl, below_drewN hb.out n⟩
      have h1' := h1 wr (fun _ => rfl)
      have h1'' := h1 wr.drew (fun _ => rfl)
      have h2' := h2 wr (fun _ => rfl)
      have h2'' := h2 wr.drew (fun _ => rfl)
      clear hx hx' hb h1 h2
      go_wp2_with fail
      go_region
      all_goals
        go_wp2
        go_ret2
        first | exact R.out _ ⟨0, rfl⟩ | exact R.out _ ⟨1, rfl⟩ | exact R.out _ ⟨2, rfl⟩
/-- What is put before a call of Parts. -/
theorem refParts_fit (s : ByteArray) (ao : Option Addr) (cap : Nat) (l : List D.P) (w : World) (h : D.fitE s.data.toList l = 0) (hr : D.Row w ao l) :
    Calls Try.prog 39 #[.string s, .slice ao l.length cap] w (fun e w' => e = .returned (.tuple #[.string ⟨(D.resP s.data.toList l).toArray⟩, .string ⟨(D.remP s.data.toList l).toArray⟩]) ∧ Below w.heap.size w w') := by
  obtain ⟨h0, h1⟩ := D.fitE_zero h
  obtain ⟨e, pa, h3, h4, h5, h6⟩ := D.valid_qs h0
  have hsl : s.data.toList.length = s.size := by simp
  have := refParts_any s ao cap (D.qs l) w (by omega) (by omega) (by omega) h6 (by rw [e]; exact hr)
  rw [h3] at this
  rw [D.resP_eq h, D.remP_eq h]
  exact this
theorem refApply_any (s : ByteArray) (ao : Option Addr) (cap : Nat) (l : List D.P) (w : World) (hs : s.size ≤ 140737488351232) (hn : l.length ≤ maxLen) (hr : D.Row w ao l) (ht : ∀ p ∈ l, p.t.size ≤ 140737488351232) :
    Calls Try.prog 14 #[.string s, .slice ao l.length cap] w (fun e w' => e = .returned (.tuple #[.string ⟨(D.resP s.data.toList l).toArray⟩, .int .i64 (D.fitE s.data.toList l)]) ∧ Below w.heap.size w w') := by
  have H := refFits_any s ao cap l w hs hn hr ht
  by_cases h : D.fitE s.data.toList l = 0
  · have hP : Hid (∀ V, Below w.heap.size w V → Calls Try.prog 39 #[.string s, .slice ao l.length cap] V (fun e w' => e = .returned (.tuple #[.string ⟨(D.resP s.data.toList l).toArray⟩, .string ⟨(D.remP s.data.toList l).toArray⟩]) ∧ Below V.heap.size V w')) := fun V hb => refParts_fit s ao cap l V h (hr.below hb)
    rw [h] at H ⊢
    have H := Lib.hid H
    generalize D.resP s.data.toList l = X at hP ⊢
    generalize D.remP s.data.toList l = Y at hP
    clear h hr ht hn
    go_enter Try.func14, Try.ntmps14
    go_wp2_with fail
    refine H.out.mono ?_
    rintro e w1 ⟨rfl, hb⟩
    have hb := Lib.hid hb
    go_wp2_with fail
    refine (hP.out _ hb.out).mono ?_
    rintro e w2 ⟨rfl, hb2⟩
    have R := Lib.hid (hb.out.trans (hb2.mono hb.out.size))
    clear hb2
    go_wp2
    go_ret2
    exact ⟨rfl, R.out⟩
  · have h' : (D.fitE s.data.toList l != 0) = true := by simpa using h
    have hX : D.resP s.data.toList l = [] := if_neg h
    rw [hX]
    generalize D.fitE s.data.toList l = c at H h'
    have H := Lib.hid H
    clear h hr ht hn hX
    go_enter Try.func14, Try.ntmps14
    go_wp2_with fail
    refine H.out.mono ?_
    rintro e w1 ⟨rfl, hb⟩
    go_wp2
    go_ret2
    exact ⟨rfl, hb⟩
theorem refRemoved_any (s : ByteArray) (ao : Option Addr) (cap : Nat) (l : List D.P) (w : World) (hs : s.size ≤ 140737488351232) (hn : l.length ≤ maxLen) (hr : D.Row w ao l) (ht : ∀ p ∈ l, p.t.size ≤ 140737488351232) :
    Calls Try.prog 16 #[.string s, .slice ao l.length cap] w (fun e w' => e = .returned (.tuple #[.string ⟨(D.remP s.data.toList l).toArray⟩, .int .i64 (D.fitE s.data.toList l)]) ∧ Below w.heap.size w w') := by
  have H := refFits_any s ao cap l w hs hn hr ht
  by_cases h : D.fitE s.data.toList l = 0
  · have hP : Hid (∀ V, Below w.heap.size w V → Calls Try.prog 39 #[.string s, .slice ao l.length cap] V (fun e w' => e = .returned (.tuple #[.string ⟨(D.resP s.data.toList l).toArray⟩, .string ⟨(D.remP s.data.toList l).toArray⟩]) ∧ Below V.heap.size V w')) := fun V hb => refParts_fit s ao cap l V h (hr.below hb)
    rw [h] at H ⊢
    have H := Lib.hid H
    generalize D.resP s.data.toList l = X at hP
    generalize D.remP s.data.toList l = Y at hP ⊢
    clear h hr ht hn
    go_enter Try.func16, Try.ntmps16
    go_wp2_with fail
    refine H.out.mono ?_
    rintro e w1 ⟨rfl, hb⟩
    have hb := Lib.hid hb
    go_wp2_with fail
    refine (hP.out _ hb.out).mono ?_
    rintro e w2 ⟨rfl, hb2⟩
    have R := Lib.hid (hb.out.trans (hb2.mono hb.out.size))
    clear hb2
    go_wp2
    go_ret2
    exact ⟨rfl, R.out⟩
  · have h' : (D.fitE s.data.toList l != 0) = true := by simpa using h
    have hX : D.remP s.data.toList l = [] := if_neg h
    rw [hX]
    generalize D.fitE s.data.toList l = c at H h'
    have H := Lib.hid H
    clear h hr ht hn hX
    go_enter Try.func16, Try.ntmps16
    go_wp2_with fail
    refine H.out.mono ?_
    rintro e w1 ⟨rfl, hb⟩
    go_wp2
    go_ret2
    exact ⟨rfl, hb⟩
/-- A row of bytes that a call owns. -/
structure A.One (X : List UInt8) (w : World) (v : Value) (wr : World) : Prop where
  own : wr.ownsRow w.heap.size 5 1 v X.length (D.bytesL X)
  below : Below w.heap.size w wr
theorem A.One.on {X Z : List UInt8} {w : World} {v v' : Value} {wr w' : World} (h : A.One X w v wr) (h1 : w'.ownsRow w.heap.size 5 1 v' Z.length (D.bytesL Z)) (h2 : wr.grownBy w' v.ownBlock) : A.One Z w v' w' := ⟨h1, h.below.grown h2 h.below.size (fun k e => (h.own.lt k e).1)⟩
set_option maxRecDepth 100000 in
set_option maxHeartbeats 2000000 in
theorem refInserted_any (ao : Option Addr) (cap : Nat) (l : List D.P) (w : World) (hn : l.length ≤ maxLen) (hr : D.Row w ao l) (ht : ∀ p ∈ l, p.t.size ≤ 140737488351232) :
    Calls Try.prog 20 #[.slice ao l.length cap] w (fun e w' => e = .returned (.tuple #[.string ⟨(D.insP l).toArray⟩, .int .i64 (D.chk l)]) ∧ Below w.heap.size w w') := by
  have H := refCheck_any ao cap l w hn hr ht
  by_cases h : D.chk l = 0
  · obtain ⟨hraw, pa, hl, hle, hi, ho⟩ := D.valid_qs h
    rw [D.insP_eq h]
    rw [h] at H ⊢
    rw [← hraw] at hr
    generalize D.qs l = a at hr hl ho ⊢
    rw [← hl] at H ⊢
    rw [← hl] at hle
    have H := Lib.hid H
    have Hr := Lib.hid hr
    have Hx := Lib.hid (fun k => D.insd_take_len a k)
    clear hr hraw ht h hn hl pa hi
    go_enter Try.func20, Try.ntmps20
    go_wp2_with fail
    refine H.out.mono ?_
    rintro e w1 ⟨rfl, hbw⟩
    have hbw := Lib.hid hbw
    go_wp2
    go_loopw [5, 6] (fun v i wr => ∃ k : Nat, k ≤ a.length ∧ i = .int .i64 k ∧ Hid (A.One (D.insd (a.take k)) w v wr)) (fun _ i _ => a.length - (intOf i).toNat)
    case atStart => exact ⟨0, Nat.zero_le _, rfl, ⟨World.ownsRow_nil _ _ _ _, hbw.out⟩⟩
    case round =>
      obtain ⟨k, hk, rfl, hx⟩ := hrel
      by_cases hlt : k < a.length
      · obtain ⟨q, hq⟩ : ∃ q, a[k]? = some q := ⟨a[k], List.getElem?_eq_getElem hlt⟩
        have e1 := Lib.hid (D.insd_snoc a k q hq)
        have hX := Hx.out k
        have hT := D.txt1_out q
        have hO := D.out1_le a k q hq
        obtain ⟨b, o, e, hbl, hcell⟩ := Hr.out k (D.raw q) (by rw [List.getElem?_map, hq]; rfl)
        subst e
        rw [D.raw_t, D.raw_n1] at hcell
        obtain ⟨X, hXX⟩ : ∃ X, Hid (D.insd (a.take k) = X) := ⟨_, rfl⟩
        obtain ⟨t, hTT⟩ : ∃ t, Hid (D.txt1 q = t) := ⟨_, rfl⟩
        rw [hXX.out] at hx e1 hX
        rw [hTT.out] at hcell e1 hT
        have hsz : (⟨t.toArray⟩ : ByteArray).size = t.length := D.size_l t
        obtain ⟨W0, rfl⟩ : ∃ W0 : World, W0 = wr := ⟨_, rfl⟩
        obtain ⟨c0, c1, c2⟩ := D.cell3 (p := ⟨(D.raw q).k, (D.in1 q : Int), ⟨t.toArray⟩⟩) hx.out.below hbl hcell
        obtain ⟨va, vc, rfl⟩ := D.slice_of_own hx.out.own
        go_wp2_with (at_builtin; refine A.append_str rfl _ _ rfl w.heap.size _ X rfl hx.out.own ⟨t.toArray⟩ rfl ?a1 ?a2 ?_)
        case a1 => omega
        case a2 => exact hx.out.below.size
        intro Z v' w3 hZZ hO1 hg1 ha1
        have hx1 : Hid (A.One (D.insd (a.take (k + 1))) w v' w3) := by
          show A.One _ _ _ _
          rw [e1.out]
          have := hx.out.on hO1 hg1
          rw [hZZ.out] at this
          exact this
        clear hO1 hg1 ha1
        go_wp2
        go_roundw
        case rel => exact ⟨k + 1, by omega, by go_num, hx1⟩
        case measure => simp [intOf]; omega
      · obtain rfl : k = a.length := by omega
        have hx' := hx.out
        rw [List.take_length] at hx'
        have h1 := A.to_string hx'.own wr (fun _ => rfl)
        have hb := Lib.hid hx'.below
        clear hx hx'
        go_wp2
        go_ret2
        exact ⟨rfl, hb.out⟩
  · have h' : (D.chk l != 0) = true := by simpa using h
    have hX : D.insP l = [] := if_neg h
    rw [hX]
    generalize D.chk l = c at H h'
    have H := Lib.hid H
    clear h hr ht hn hX
    go_enter Try.func20, Try.ntmps20
    go_wp2_with fail
    refine H.out.mono ?_
    rintro e w1 ⟨rfl, hb⟩
    go_wp2
    go_ret2
    exact ⟨rfl, hb⟩
end Go.Proofs.Ytdpjnhmnmpmkmaa
