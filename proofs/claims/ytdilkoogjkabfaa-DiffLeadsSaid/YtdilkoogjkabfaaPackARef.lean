/- Texts joined: ApplyRef1 ApplyRef2 -/
import Derived.Test.YtdilkoogjkabfaaApplyRow
import Derived.Test.YtdilkoogjkabfaaPackRef
import Derived.Deep.DeepCutAuto
import Derived.Deep.CutBlock
/- ApplyRef1 -/
namespace Go.Proofs.Ytdilkoogjkabfaa
open Go.RowKit

set_option maxHeartbeats 1000000 in
theorem refFits_any (s : ByteArray) (ao : Option Addr) (cap : Nat) (l : List D.P) (w : World) (_hs : s.size ≤ 140737488351232) (hn : l.length ≤ maxLen) (hr : D.Row w ao l) (ht : ∀ p ∈ l, p.t.size ≤ 140737488351232) :
    Calls Try.prog 63 #[.string s, .slice ao l.length cap] w (fun e w' => e = .returned (.int .i64 (D.fitE s.data.toList l)) ∧ Below w.heap.size w w') := by
  have H := refLengths_any ao cap l w hn hr ht
  have hsl : s.data.toList.length = s.size := by simp
  clear hr ht hn
  by_cases h : D.chk l = 0
  · rw [if_pos h, if_pos h, h] at H
    by_cases hi : D.inP l = s.size
    · have R : Hid (D.fitE s.data.toList l = 0) := by show _ = _; unfold D.fitE; rw [if_pos h, if_pos (by omega)]
      have hq : (((s.size : Nat) : Int) != (s.size : Int)) = false := by simp
      rw [hi] at H
      have H := Lib.hid H
      clear h hi hsl
      go_enter Try.func63, Try.ntmps63
      go_wp2_with fail
      refine H.out.mono ?_
      rintro e w1 ⟨rfl, hb⟩
      go_wp2
      go_ret
      exact ⟨by rw [R.out]; rfl, hb⟩
    · have R : Hid (D.fitE s.data.toList l = 21) := by show _ = _; unfold D.fitE; rw [if_pos h, if_neg (by omega)]
      have hq : (D.inP l != (s.size : Int)) = true := by simpa using hi
      generalize D.inP l = i at H hq
      have H := Lib.hid H
      clear h hi hsl
      go_enter Try.func63, Try.ntmps63
      go_wp2_with fail
      refine H.out.mono ?_
      rintro e w1 ⟨rfl, hb⟩
      go_wp2
      go_ret
      exact ⟨by rw [R.out]; rfl, hb⟩
  · have R : Hid (D.fitE s.data.toList l = D.chk l) := by show _ = _; unfold D.fitE; rw [if_neg h]
    have h' : (D.chk l == 0) = false := by simpa using h
    rw [if_neg h, if_neg h] at H
    generalize D.chk l = c at H h' R
    have H := Lib.hid H
    clear h hsl
    go_enter Try.func63, Try.ntmps63
    go_wp2_with fail
    refine H.out.mono ?_
    rintro e w1 ⟨rfl, hb⟩
    go_wp2
    go_ret
    exact ⟨by rw [R.out]; rfl, hb⟩
def A.PartsEnd (S : List UInt8) (a : List D.Q) (w : World) (e : Ending) (w' : World) : Prop := e = .returned (.tuple #[.string ⟨(D.apl S a).toArray⟩, .string ⟨(D.gone S a).toArray⟩]) ∧ Below w.heap.size w w'
set_option maxRecDepth 100000 in
set_option maxHeartbeats 2000000 in
theorem refParts_any (s : ByteArray) (ao : Option Addr) (cap : Nat) (a : List D.Q) (w : World) (hl : a.length ≤ 4096) (hi : D.inL a = s.size) (hs : s.size ≤ 1048576) (ho : D.outL a ≤ 1048576) (hr : D.Row w ao (a.map D.raw)) :
    Calls Try.prog 64 #[.string s, .slice ao a.length cap] w (A.PartsEnd s.data.toList a w) := by
  have Hr := Lib.hid hr
  have hsl : Hid (s.data.toList.length = s.size) := by show _ = _; simp
  obtain ⟨S, hS⟩ : ∃ S, Hid (s.data.toList = S) := ⟨_, rfl⟩
  rw [hS.out] at hsl ⊢
  have Hx := Lib.hid (fun k => D.apl_take_len S a k)
  have Hg := Lib.hid (fun k => D.gone_take_len S a k)
  clear hr
  go_enter Try.func64, Try.ntmps64
  go_wp2
  go_loopw [6, 7, 8, 9] (fun v u at_ i wr => ∃ k : Nat, k ≤ a.length ∧ i = .int .i64 k ∧ at_ = .int .i64 (D.inL (a.take k) : Int) ∧ Hid (A.Two (D.apl S (a.take k)) (D.gone S (a.take k)) w v u wr)) (fun _ _ _ i _ => a.length - (intOf i).toNat)
  case atStart => exact ⟨0, Nat.zero_le _, rfl, rfl, ⟨World.ownsRow_nil _ _ _ _, World.ownsRow_nil _ _ _ _, .inl rfl, Below.refl _ _⟩⟩
  case round =>
    obtain ⟨k, hk, rfl, rfl, hx⟩ := hrel
    by_cases hlt : k < a.length
    · obtain ⟨q, hq⟩ : ∃ q, a[k]? = some q := ⟨a[k], List.getElem?_eq_getElem hlt⟩
      have e1 := Lib.hid (D.apl_snoc S a k q hq)
      have e2 := Lib.hid (D.gone_snoc S a k q hq)
      obtain ⟨i1', i2⟩ := D.inL_take_le a k q hq
      have i1 := Lib.hid i1'
      clear i1'
      have hX := Hx.out k
      have hX1 := Hx.out (k + 1)
      have hG := Hg.out k
      have hT := D.txt1_out q
      have hO := D.out1_le a k q hq
      have hSl := hsl.out
      obtain ⟨b, o, e, hbl, hcell⟩ := Hr.out k (D.raw q) (by rw [List.getElem?_map, hq]; rfl)
      subst e
      rw [D.raw_t, D.raw_n1] at hcell
      have hkind := D.raw_cases q
      have hpart : Hid (D.part S a k q = List.take (D.in1 q) (List.drop (D.inL (a.take k)) s.data.toList)) := by show _ = _; rw [hS.out]; rfl
      have hpz : (s.extract (D.inL (a.take k)) (D.inL (a.take k) + D.in1 q)).size = D.in1 q := by simp; omega
      obtain ⟨X, hXX⟩ : ∃ X, Hid (D.apl S (a.take k) = X) := ⟨_, rfl⟩
      obtain ⟨Y, hYY⟩ : ∃ Y, Hid (D.gone S (a.take k) = Y) := ⟨_, rfl⟩
      obtain ⟨t, hTT⟩ : ∃ t, Hid (D.txt1 q = t) := ⟨_, rfl⟩
      obtain ⟨N, hNN⟩ : ∃ N, Hid (D.in1 q = N) := ⟨_, rfl⟩
      obtain ⟨I0, hAA⟩ : ∃ I0, Hid (D.inL (a.take k) = I0) := ⟨_, rfl⟩
      rw [hXX.out] at hx e1 hX
      rw [hYY.out] at hx e2 hG
      rw [hTT.out] at hcell e1 hT
      rw [hNN.out] at hcell i1 i2 hpart hpz
      rw [hAA.out] at i1 i2 hpart hpz ⊢
      have hsz : (⟨t.toArray⟩ : ByteArray).size = t.length := D.size_l t
      obtain ⟨W0, rfl⟩ : ∃ W0 : World, W0 = wr := ⟨_, rfl⟩
      obtain ⟨c0, c1, c2⟩ := D.cell3 (p := ⟨(D.raw q).k, (N : Int), ⟨t.toArray⟩⟩) hx.out.below hbl hcell
      obtain ⟨va, vc, rfl⟩ := D.slice_of_own hx.out.own1
      obtain ⟨ua, uc, rfl⟩ := D.slice_of_own hx.out.own2
      go_wp2_with (at_builtin; refine A.append_str rfl _ _ rfl w.heap.size _ X rfl hx.out.own1 ⟨t.toArray⟩ rfl ?a1 ?a2 ?_)
      case a1 => omega
      case a2 => exact hx.out.below.size
      intro Z v' w3 hZZ hO1 hg1 ha1
      have hx1 := Lib.hid (hx.out.fst hO1 hg1 ha1)
      clear hO1 hg1 ha1
      have hZZ : Hid (Z = X ++ t) := hZZ.out
      have hZl : Z.length ≤ 10000000 := by rw [hZZ.out, List.length_append]; omega
      obtain ⟨c0, c1, c2⟩ := D.cell3 (p := ⟨(D.raw q).k, (N : Int), ⟨t.toArray⟩⟩) hx1.out.below hbl hcell
      obtain ⟨va', vc', rfl⟩ := D.slice_of_own hx1.out.own1
      rcases hkind with ⟨hk2, hk1⟩ | ⟨hk2, hk1⟩
      · rw [hk1] at c0
        go_wp2_with (at_builtin; refine A.append_str rfl _ _ rfl w.heap.size _ Z rfl hx1.out.own1 (s.extract I0 (I0 + N)) rfl ?b1 ?b2 ?_)
        case b1 => omega
        case b2 => exact hx1.out.below.size
        intro Z2 v2 w4 hZ2 hO2 hg2 ha2
        have hx2 : Hid (A.Two (D.apl S (a.take (k + 1))) (D.gone S (a.take (k + 1))) w v2 (.slice ua Y.length uc) w4) := by
          show A.Two _ _ _ _ _ _
          have := hx1.out.fst hO2 hg2 ha2
          rw [hZ2.out, hZZ.out] at this
          rw [e1.out, e2.out, if_pos hk2, if_pos hk2, List.append_nil, hpart.out]
          exact this
        clear hO2 hg2 ha2
        obtain ⟨c0, c1, c2⟩ := D.cell3 (p := ⟨(D.raw q).k, (N : Int), ⟨t.toArray⟩⟩) hx2.out.below hbl hcell
        go_wp2
        go_roundw
        case rel => exact ⟨k + 1, by omega, by go_num, by rw [i1.out]; go_num, hx2⟩
        case measure => simp [intOf]; omega
      · have hk9 : ((D.raw q).k == 1) = false := by rcases hk1 with h | h <;> rw [h] <;> rfl
        go_wp2_with (at_builtin; refine A.append_str rfl _ _ rfl w.heap.size _ Y rfl hx1.out.own2 (s.extract I0 (I0 + N)) rfl ?d1 ?d2 ?_)
        case d1 => omega
        case d2 => exact hx1.out.below.size
        intro Z2 v2 w4 hZ2 hO2 hg2 ha2
        have hx2 : Hid (A.Two (D.apl S (a.take (k + 1))) (D.gone S (a.take (k + 1))) w (.slice va' Z.length vc') v2 w4) := by
          show A.Two _ _ _ _ _ _
          have := hx1.out.snd hO2 hg2 ha2
          rw [hZ2.out] at this
          rw [e1.out, e2.out, hk2, hpart.out, if_neg (by decide), if_neg (by decide), List.append_nil, ← hZZ.out]
          exact this
        clear hO2 hg2 ha2
        obtain ⟨c0, c1, c2⟩ := D.cell3 (p := ⟨(D.raw q).k, (N : Int), ⟨t.toArray⟩⟩) hx2.out.below hbl hcell
        go_wp2
        go_roundw
        case rel => exact ⟨k + 1, by omega, by go_num, by rw [i1.out]; go_num, hx2⟩
        case measure => simp [intOf]; omega
    · obtain rfl : k = a.length := by omega
      have hx' := hx.out
      rw [List.take_length] at hx'
      have h1 : ∀ W', (∀ a, W'.cell? a = wr.cell? a) → (convert 56 9 u6).run Try.prog W' = .ok (.string ⟨(D.apl S a).toArray⟩) W' := fun W' h => A.to_string hx'.own1 W' h
      have h2 : ∀ W', (∀ a, W'.cell? a = wr.cell? a) → (convert 56 9 u7).run Try.prog W' = .ok (.string ⟨(D.gone S a).toArray⟩) W' := fun W' h => A.to_string hx'.own2 W' h
      have hb := Lib.hid hx'.below
      have R : Hid (∀ W, (∃ n, W = wr.drewN n) → A.PartsEnd S a w (.returned (.tuple #[.string ⟨(D.apl S a).toArray⟩, .string ⟨(D.gone S a).toArray⟩])) W) := fun W h => by
        obtain ⟨n, rfl⟩ := h
        exact ⟨rfl, below_drewN hb.out n⟩
      have h1' := h1 wr (fun _ => rfl)
      have h1'' := h1 wr.drew (fun _ => rfl)
      have h2' := h2 wr (fun _ => rfl)
      have h2'' := h2 wr.drew (fun _ => rfl)
      clear hx hx' hb h1 h2
      go_wp2_with fail
      go_region
      all_goals
        go_wp2
        go_ret2
        first | exact R.out _ ⟨0, rfl⟩ | exact R.out _ ⟨1, rfl⟩ | exact R.out _ ⟨2, rfl⟩
/-- What is put before a call of Parts. -/
theorem refParts_fit (s : ByteArray) (ao : Option Addr) (cap : Nat) (l : List D.P) (w : World) (h : D.fitE s.data.toList l = 0) (hr : D.Row w ao l) :
    Calls Try.prog 64 #[.string s, .slice ao l.length cap] w (fun e w' => e = .returned (.tuple #[.string ⟨(D.resP s.data.toList l).toArray⟩, .string ⟨(D.remP s.data.toList l).toArray⟩]) ∧ Below w.heap.size w w') := by
  obtain ⟨h0, h1⟩ := D.fitE_zero h
  obtain ⟨e, pa, h3, h4, h5, h6⟩ := D.valid_qs h0
  have hsl : s.data.toList.length = s.size := by simp
  have := refParts_any s ao cap (D.qs l) w (by omega) (by omega) (by omega) h6 (by rw [e]; exact hr)
  rw [h3] at this
  rw [D.resP_eq h, D.remP_eq h]
  exact this
theorem refApply_any (s : ByteArray) (ao : Option Addr) (cap : Nat) (l : List D.P) (w : World) (hs : s.size ≤ 140737488351232) (hn : l.length ≤ maxLen) (hr : D.Row w ao l) (ht : ∀ p ∈ l, p.t.size ≤ 140737488351232) :
    Calls Try.prog 45 #[.string s, .slice ao l.length cap] w (fun e w' => e = .returned (.tuple #[.string ⟨(D.resP s.data.toList l).toArray⟩, .int .i64 (D.fitE s.data.toList l)]) ∧ Below w.heap.size w w') := by
  have H := refFits_any s ao cap l w hs hn hr ht
  by_cases h : D.fitE s.data.toList l = 0
  · have hP : Hid (∀ V, Below w.heap.size w V → Calls Try.prog 64 #[.string s, .slice ao l.length cap] V (fun e w' => e = .returned (.tuple #[.string ⟨(D.resP s.data.toList l).toArray⟩, .string ⟨(D.remP s.data.toList l).toArray⟩]) ∧ Below V.heap.size V w')) := fun V hb => refParts_fit s ao cap l V h (hr.below hb)
    rw [h] at H ⊢
    have H := Lib.hid H
    generalize D.resP s.data.toList l = X at hP ⊢
    generalize D.remP s.data.toList l = Y at hP
    clear h hr ht hn
    go_enter Try.func45, Try.ntmps45
    go_wp2_with fail
    refine H.out.mono ?_
    rintro e w1 ⟨rfl, hb⟩
    have hb := Lib.hid hb
    go_wp2_with fail
    refine (hP.out _ hb.out).mono ?_
    rintro e w2 ⟨rfl, hb2⟩
    have R := Lib.hid (hb.out.trans (hb2.mono hb.out.size))
    clear hb2
    go_wp2
    go_ret2
    exact ⟨rfl, R.out⟩
  · have h' : (D.fitE s.data.toList l != 0) = true := by simpa using h
    have hX : D.resP s.data.toList l = [] := if_neg h
    rw [hX]
    generalize D.fitE s.data.toList l = c at H h'
    have H := Lib.hid H
    clear h hr ht hn hX
    go_enter Try.func45, Try.ntmps45
    go_wp2_with fail
    refine H.out.mono ?_
    rintro e w1 ⟨rfl, hb⟩
    go_wp2
    go_ret2
    exact ⟨rfl, hb⟩
/-- A row of bytes that a call owns. -/
structure A.One (X : List UInt8) (w : World) (v : Value) (wr : World) : Prop where
  own : wr.ownsRow w.heap.size 5 1 v X.length (D.bytesL X)
  below : Below w.heap.size w wr
theorem A.One.on {X Z : List UInt8} {w : World} {v v' : Value} {wr w' : World} (h : A.One X w v wr) (h1 : w'.ownsRow w.heap.size 5 1 v' Z.length (D.bytesL Z)) (h2 : wr.grownBy w' v.ownBlock) : A.One Z w v' w' := ⟨h1, h.below.grown h2 h.below.size (fun k e => (h.own.lt k e).1)⟩
end Go.Proofs.Ytdilkoogjkabfaa
/- ApplyRef2 -/
namespace Go.Proofs.Ytdilkoogjkabfaa
open Go.RowKit

def A.InvEnd (S : List UInt8) (l : List D.P) (w : World) (e : Ending) (w' : World) : Prop := ∃ v, e = .returned (.tuple #[v, .int .i64 (D.fitE S l)]) ∧ D.Made (D.invP S l) w v w'
/-- What the makers of single edits answer. -/
def A.MkEnd (n a k : Int) (t : ByteArray) (w : World) (e : Ending) (w' : World) : Prop := ∃ v, e = .returned (.tuple #[v, .int .i64 (D.mkE n a k t.data.toList)]) ∧ D.Made (D.mkP n a k t.data.toList) w v w'
/-- The pieces of an edit, one after another. -/
def A.e1 (a : Nat) : List D.P := if 0 < a then [⟨1, a, ⟨#[]⟩⟩] else []
def A.e2 (t : ByteArray) : List D.P := if t.data.toList = [] then [] else [⟨2, 0, t⟩]
def A.e3 (k : Nat) : List D.P := if 0 < k then [⟨3, k, ⟨#[]⟩⟩] else []
theorem A.edit_parts (n a k : Nat) (t : ByteArray) : (D.edit n a k t.data.toList).map D.raw = A.e1 a ++ A.e2 t ++ A.e3 k ++ (if a + k < n then [⟨1, ((n - a - k : Nat) : Int), ⟨#[]⟩⟩] else []) := by
  unfold D.edit A.e1 A.e2 A.e3
  rw [List.map_append, List.map_append, List.map_append]
  congr 1
  · congr 1
    · congr 1
      · split <;> rfl
      · split
        · rfl
        · simp [D.raw]
    · split <;> rfl
  · split <;> rfl
theorem A.e_len (a k : Nat) (t : ByteArray) : (A.e1 a).length ≤ 1 ∧ (A.e2 t).length ≤ 1 ∧ (A.e3 k).length ≤ 1 := by
  unfold A.e1 A.e2 A.e3
  refine ⟨?_, ?_, ?_⟩ <;> split <;> simp
set_option maxRecDepth 100000 in
set_option maxHeartbeats 2000000 in
theorem refReplace_any (n a k : Int) (t : ByteArray) (w : World) (n0 : -9223372036854775808 ≤ n) (n1 : n < 9223372036854775808) (a0 : -9223372036854775808 ≤ a) (a1 : a < 9223372036854775808) (k0 : -9223372036854775808 ≤ k) (k1 : k < 9223372036854775808) (hs : t.size ≤ 140737488351232) :
    Calls Try.prog 37 #[.int .i64 n, .int .i64 a, .int .i64 k, .string t] w (A.MkEnd n a k t w) := by
  rcases D.mk_cases n a k t.data.toList with ⟨hE, hP, hr⟩ | ⟨n, a, k, rfl, rfl, rfl, M⟩
  · have R : Hid (A.MkEnd n a k t w (.returned (.tuple #[.slice none 0 0, .int .i64 3])) w) := ⟨_, by rw [hE], by rw [hP]; exact D.Made.nil w (Below.refl _ _)⟩
    clear hE hP
    by_cases g1 : a < 0
    · clear hr
      go_enter Try.func37, Try.ntmps37
      go_wp2
      go_ret2
      exact R.out
    · by_cases g2 : n < a
      · clear hr
        go_enter Try.func37, Try.ntmps37
        go_wp2
        go_ret2
        exact R.out
      · by_cases g3 : k < 0
        · clear hr
          go_enter Try.func37, Try.ntmps37
          go_wp2
          go_ret2
          exact R.out
        · have g4 : n - a < k := by omega
          clear hr
          go_enter Try.func37, Try.ntmps37
          go_wp2
          go_ret2
          exact R.out
  · have hr := M.range
    have htl : t.data.toList.length = t.size := by simp
    have g1 : ¬ (a : Int) < 0 := by omega
    have g2 : ¬ (n : Int) < a := by omega
    have g3 : ¬ (k : Int) < 0 := by omega
    have g4 : ¬ (n : Int) - a < k := by omega
    by_cases h0 : D.mkE n a k t.data.toList = 0
    · have hb := D.mkE_in h0
      have hF : Hid (∀ V ao c, D.Row V ao ((D.edit n a k t.data.toList).map D.raw) → Calls Try.prog 44 #[.slice ao ((D.edit n a k t.data.toList).map D.raw).length c] V (fun e w' => ∃ v, e = .returned v ∧ D.Made (D.mkP n a k t.data.toList) V v w')) := fun V ao c h => by
        rw [← M.made h0]; exact refForm_valid ao c _ V (by rw [M.err]; exact h0) h
      have R : Hid (∀ v w' W, Below w.heap.size w W → D.Made (D.mkP n a k t.data.toList) W v w' → A.MkEnd n a k t w (.returned (.tuple #[v, .int .i64 0])) w') := fun v w' W hb hm => ⟨v, by rw [h0], D.own_mono hm.own hb.size, hb.trans (hm.below.mono hb.size)⟩
      have c1 : ¬ (1048576 : Int) < n := by omega
      have c2 : ¬ (1048576 : Int) - ((n : Int) - k) < (t.size : Int) := by omega
      rw [A.edit_parts] at hF
      generalize D.mkP n a k t.data.toList = V0 at hF R
      obtain ⟨l1, l2, l3⟩ := A.e_len a k t
      have hn' : n ≤ 1048576 := by omega
      have ha' : a ≤ 1048576 := by omega
      have hk' : k ≤ 1048576 := by omega
      clear M h0 hb htl n0 n1 a0 a1 k0 k1
      go_enter Try.func37, Try.ntmps37
      have h0 : Hid (D.Made ([] : List D.P) w (.slice none 0 0) w) := D.Made.nil w (Below.refl _ _)
      go_upto_if 41 with (fail)
      go_cut [10] (fun v wx => Hid (D.Made (A.e1 a) w v wx))
      case first =>
        skip
        by_cases q : 0 < a
        · have hE : Hid ((A.e1 a) = ([] : List D.P) ++ [⟨1, a, ⟨#[]⟩⟩]) := by show _ = _; unfold A.e1; rw [if_pos q]; rfl
          have q1 : (0 : Int) < a := by omega
          go_wp2_with (at_builtin; refine A.append_piece rfl _ _ rfl w.heap.size _ ([] : List D.P) rfl h0.out.own ⟨1, a, ⟨#[]⟩⟩ 1 rfl ?a1 ?a2 ?_)
          try any_goals (first | omega | exact h0.out.below.size)
          intro Z v' w3 hZZ hO1 hg1 ha1
          have R2 : Hid (D.Made (A.e1 a) w v' w3) := by
            show D.Made _ _ _ _
            have := h0.out.on hO1 hg1
            rw [hZZ.out] at this
            rw [hE.out]
            exact this
          clear hO1 hg1 ha1
          go_wp2
          go_meet
          case rel => exact R2
        · have hE : Hid ((A.e1 a) = ([] : List D.P)) := by show _ = _; unfold A.e1; rw [if_neg q]
          have q1 : ¬ (0 : Int) < a := by omega
          have R2 : ∀ v W, D.Made ([] : List D.P) w v W → Hid (D.Made (A.e1 a) w v W) := fun v W h => by show D.Made _ _ _ _; rw [hE.out]; exact h
          have R3 := R2 _ _ h0.out
          clear R2
          go_wp2
          go_meet
          case rel => exact R3
      case rest =>
      obtain ⟨X1, hXX1⟩ : ∃ x, Hid ((A.e1 a) = x) := ⟨_, rfl⟩
      have hlX1 : X1.length ≤ 10 := by rw [← hXX1.out]; omega
      rw [hXX1.out] at hcut
      have hcutX1 := hcut
      obtain ⟨vaX1, vcX1, rfl⟩ := D.slice_of_own hcutX1.out.own
      go_upto_if 48 with (fail)
      go_cut [10] (fun v wx => Hid (D.Made (A.e1 a ++ A.e2 t) w v wx))
      case first =>
        have hz : t.data.toList = [] ↔ t.size = 0 := by
          constructor
          · intro e; have : t.data.toList.length = t.size := by simp
            rw [e] at this; exact this.symm
          · intro e; rw [D.empty_of_size e]
        by_cases q : t.size = 0
        · have R3 : Hid (D.Made (A.e1 a ++ A.e2 t) w (.slice vaX1 X1.length vcX1) wc) := by show D.Made _ _ _ _; unfold A.e2; rw [if_pos (hz.2 q), List.append_nil, hXX1.out]; exact hcutX1.out
          have q1 : t.toList.isEmpty = true := by rw [D.isEmpty_eq]; simpa using q
          clear hz q
          rw [q1]
          go_wp2
          go_meet
          case rel => exact R3
        · have hE : Hid ((A.e1 a ++ A.e2 t) = X1 ++ [⟨2, 0, t⟩]) := by show _ = _; unfold A.e2; rw [if_neg (fun e => q (hz.1 e)), hXX1.out]
          have q1 : t.toList.isEmpty = false := by rw [D.isEmpty_eq]; simpa using q
          clear hz q
          rw [q1]
          go_wp2_with (at_builtin; refine A.append_piece rfl _ _ rfl w.heap.size _ X1 rfl hcutX1.out.own ⟨2, 0, t⟩ 1 rfl ?b1 ?b2 ?_)
          try any_goals (first | omega | exact hcutX1.out.below.size)
          intro Z v' w3 hZZ hO1 hg1 ha1
          have R2 : Hid (D.Made (A.e1 a ++ A.e2 t) w v' w3) := by
            show D.Made _ _ _ _
            have := hcutX1.out.on hO1 hg1
            rw [hZZ.out] at this
            rw [hE.out]
            exact this
          clear hO1 hg1 ha1
          go_wp2
          go_meet
          case rel => exact R2
      case rest =>
      obtain ⟨X2, hXX2⟩ : ∃ x, Hid ((A.e1 a ++ A.e2 t) = x) := ⟨_, rfl⟩
      have hlX2 : X2.length ≤ 10 := by rw [← hXX2.out]; rw [List.length_append]; omega
      rw [hXX2.out] at hcut
      have hcutX2 := hcut
      obtain ⟨vaX2, vcX2, rfl⟩ := D.slice_of_own hcutX2.out.own
      go_upto_if 55 with (fail)
      go_cut [10] (fun v wx => Hid (D.Made (A.e1 a ++ A.e2 t ++ A.e3 k) w v wx))
      case first =>
        by_cases q : 0 < k
        · have hE : Hid ((A.e1 a ++ A.e2 t ++ A.e3 k) = X2 ++ [⟨3, k, ⟨#[]⟩⟩]) := by show _ = _; rw [hXX2.out]; unfold A.e3; rw [if_pos q]
          have q1 : (0 : Int) < k := by omega
          go_wp2_with (at_builtin; refine A.append_piece rfl _ _ rfl w.heap.size _ X2 rfl hcutX2.out.own ⟨3, k, ⟨#[]⟩⟩ 1 rfl ?c1 ?c2 ?_)
          try any_goals (first | omega | exact hcutX2.out.below.size)
          intro Z v' w3 hZZ hO1 hg1 ha1
          have R2 : Hid (D.Made (A.e1 a ++ A.e2 t ++ A.e3 k) w v' w3) := by
            show D.Made _ _ _ _
            have := hcutX2.out.on hO1 hg1
            rw [hZZ.out] at this
            rw [hE.out]
            exact this
          clear hO1 hg1 ha1
          go_wp2
          go_meet
          case rel => exact R2
        · have R3 : Hid (D.Made (A.e1 a ++ A.e2 t ++ A.e3 k) w (.slice vaX2 X2.length vcX2) wc) := by show D.Made _ _ _ _; rw [hXX2.out]; unfold A.e3; rw [if_neg q, List.append_nil]; exact hcutX2.out
          have q1 : ¬ (0 : Int) < k := by omega
          go_wp2
          go_meet
          case rel => exact R3
      case rest =>
      obtain ⟨X3, hXX3⟩ : ∃ x, Hid ((A.e1 a ++ A.e2 t ++ A.e3 k) = x) := ⟨_, rfl⟩
      have hlX3 : X3.length ≤ 10 := by rw [← hXX3.out]; rw [List.length_append, List.length_append]; omega
      rw [hXX3.out] at hcut
      have hcutX3 := hcut
      obtain ⟨vaX3, vcX3, rfl⟩ := D.slice_of_own hcutX3.out.own
      go_upto_if 65 with (fail)
      go_cut [10] (fun v wx => Hid (D.Made (A.e1 a ++ A.e2 t ++ A.e3 k ++ (if a + k < n then [⟨1, ((n - a - k : Nat) : Int), ⟨#[]⟩⟩] else [])) w v wx))
      case first =>
        by_cases q : a + k < n
        · have hE : Hid ((A.e1 a ++ A.e2 t ++ A.e3 k ++ (if a + k < n then [⟨1, ((n - a - k : Nat) : Int), ⟨#[]⟩⟩] else [])) = X3 ++ [⟨1, (n : Int) - a - k, ⟨#[]⟩⟩]) := by show _ = _; rw [hXX3.out, if_pos q, show ((n - a - k : Nat) : Int) = (n : Int) - a - k by omega]
          have q1 : (a : Int) + k < n := by omega
          go_wp2_with (at_builtin; refine A.append_piece rfl _ _ rfl w.heap.size _ X3 rfl hcutX3.out.own ⟨1, (n : Int) - a - k, ⟨#[]⟩⟩ 1 rfl ?d1 ?d2 ?_)
          try any_goals (first | omega | exact hcutX3.out.below.size)
          intro Z v' w3 hZZ hO1 hg1 ha1
          have R2 : Hid (D.Made (A.e1 a ++ A.e2 t ++ A.e3 k ++ (if a + k < n then [⟨1, ((n - a - k : Nat) : Int), ⟨#[]⟩⟩] else [])) w v' w3) := by
            show D.Made _ _ _ _
            have := hcutX3.out.on hO1 hg1
            rw [hZZ.out] at this
            rw [hE.out]
            exact this
          clear hO1 hg1 ha1
          go_wp2
          go_meet
          case rel => exact R2
        · have R3 : Hid (D.Made (A.e1 a ++ A.e2 t ++ A.e3 k ++ (if a + k < n then [⟨1, ((n - a - k : Nat) : Int), ⟨#[]⟩⟩] else [])) w (.slice vaX3 X3.length vcX3) wc) := by show D.Made _ _ _ _; rw [hXX3.out, if_neg q, List.append_nil]; exact hcutX3.out
          have q1 : ¬ (a : Int) + k < n := by omega
          go_wp2
          go_meet
          case rel => exact R3
      case rest =>
      generalize (A.e1 a ++ A.e2 t ++ A.e3 k ++ (if a + k < n then [⟨1, ((n - a - k : Nat) : Int), ⟨#[]⟩⟩] else [] : List D.P)) = L at hF hcut
      obtain ⟨va, vc, rfl, hrow⟩ := hcut.out.form
      have HF := Lib.hid (hF.out wc va vc hrow)
      have hb := Lib.hid hcut.out.below
      clear hrow hcut
      generalize L.length = N at HF
      go_wp2_with fail
      refine HF.out.mono ?_
      rintro e w2 ⟨v, rfl, hm⟩
      have R2 := Lib.hid (R.out v w2 wc hb.out hm)
      clear hm
      go_wp2
      go_ret2
      exact R2.out
    · have R : Hid (A.MkEnd n a k t w (.returned (.tuple #[.slice none 0 0, .int .i64 5])) w) := by
        have h5 : D.mkE n a k t.data.toList = 5 := M.one.resolve_left h0
        exact ⟨_, by rw [h5], by unfold D.mkP; rw [if_neg h0]; exact D.Made.nil w (Below.refl _ _)⟩
      have hor : (1048576 : Int) < n ∨ (1048576 : Int) - ((n : Int) - k) < t.size := by
        unfold D.mkE at h0
        rw [if_neg (by omega)] at h0
        by_cases c : (1048576 : Int) < n ∨ (1048576 : Int) - ((n : Int) - k) < t.data.toList.length
        · rw [htl] at c; exact c
        · rw [if_neg c] at h0; exact absurd rfl h0
      clear M h0 htl
      by_cases c1 : (1048576 : Int) < n
      · clear hor
        go_enter Try.func37, Try.ntmps37
        go_wp2
        go_ret2
        exact R.out
      · have c2 := hor.resolve_left c1
        clear hor
        go_enter Try.func37, Try.ntmps37
        go_wp2
        go_ret2
        exact R.out
end Go.Proofs.Ytdilkoogjkabfaa
