/- Texts joined: MarkShift MarkRefShift -/
import Derived.Test.YtmbgcbgbdjiacaaPackMSet
import Derived.Test.YtmbgcbgbdjiacaaMarkMove
import Derived.Test.YtmbgcbgbdjiacaaPackShift
import Derived.Test.YtmbgcbgbdjiacaaPackSRef
import Derived.Test.YtmbgcbgbdjiacaaPackEqv
import Derived.Test.YtmbgcbgbdjiacaaDeltaRef2
/- MarkShift -/
namespace Go.Proofs.Ytmbgcbgbdjiacaa
open Go.RowKit

theorem K.cells_mid : ∀ (l : List K.M) (i : Nat) (m : K.M) (z : Int), l[i]? = some m → K.cellsM (l.set i { m with at_ := z }) = (K.cellsM l).set (i * 3 + 1) (.int .i64 z)
  | [], i, _, _, h => by simp at h
  | x :: l, 0, m, z, h => by simp at h; subst h; simp [K.cellsM]
  | x :: l, i + 1, m, z, h => by
    have e : ∀ (y : K.M) (r : List K.M), K.cellsM (y :: r) = .int .u32 y.id :: .int .i64 y.at_ :: .int .u8 y.g :: K.cellsM r := fun y r => by simp [K.cellsM]
    rw [List.set_cons_succ, e, e, K.cells_mid l i m z (by simpa using h), show (i + 1) * 3 + 1 = i * 3 + 1 + 1 + 1 + 1 by omega]
    simp only [List.set_cons_succ]
theorem K.Made.mid {l : List K.M} {w W : World} {g n c : Nat} (h : K.Made l w (.slice (some ⟨g, 0, none⟩) n c) W) {i : Nat} {m : K.M} (hi : l[i]? = some m) (z : Int) : K.Made (l.set i { m with at_ := z }) w (.slice (some ⟨g, 0, none⟩) n c) (W.setCell ⟨g, i * 3 + 1, none⟩ (.int .i64 z)) := by
  obtain ⟨rfl, hb, hlt, cur, hg, hnc, hcm, hcs, ht⟩ := h.block
  have hll : (l.set i { m with at_ := z }).length = l.length := List.length_set
  refine ⟨⟨by rw [K.cellsM_len], Or.inr ⟨g, c, cur.setIfInBounds (i * 3 + 1) (.int .i64 z), by rw [hll], hb, heap_setCell_same W g (i * 3 + 1) cur 32 (.int .i64 z) hg, by rw [hll]; exact hnc, hcm, by simpa using hcs, ?_⟩⟩, h.below.setCell (p := ⟨g, i * 3 + 1, none⟩) hb _⟩
  rw [hll, K.cells_mid l i m z hi, ← ht]
  simp only [Array.toList_setIfInBounds, List.take_set]
theorem K.map_step (f : K.M → K.M) (l : List K.M) (k : Nat) (m : K.M) (h : l[k]? = some m) : ((l.take k).map f ++ l.drop k)[k]? = some m ∧ ((l.take k).map f ++ l.drop k).set k (f m) = (l.take (k + 1)).map f ++ l.drop (k + 1) := by
  have hk := (List.getElem?_eq_some_iff.1 h).1
  have hl : ((l.take k).map f).length = k := by rw [List.length_map, List.length_take]; omega
  have hd : l.drop k = m :: l.drop (k + 1) := by
    obtain ⟨_, rfl⟩ := List.getElem?_eq_some_iff.1 h
    exact List.drop_eq_getElem_cons hk
  constructor
  · rw [List.getElem?_append_right (by omega), hl, Nat.sub_self, hd]; rfl
  · rw [List.set_append_right _ _ (by omega), hl, Nat.sub_self, hd, List.set_cons_zero, List.take_add_one, h]
    simp
theorem K.posV_mv {x : List D.P} {p g : Int} (h : D.posE x p g = 0) : D.posV x p g = K.mv (D.qs x) g p := by
  unfold D.posV; rw [if_pos h]; rfl
def K.ShEnd (l : List K.M) (x : List D.P) (w : World) (e : Ending) (w' : World) : Prop := ∃ v, e = .returned (.tuple #[v, .int .i64 (K.shE l x)]) ∧ K.Made (K.shL l x) w v w'
set_option maxRecDepth 100000 in
set_option maxHeartbeats 4000000 in
theorem shift9_any (ao : Option Addr) (ca : Nat) (l : List K.M) (bo : Option Addr) (cb : Nat) (x : List D.P) (w : World) (hr : K.Row w ao l) (hc : ao = none → ca = 0) (la : l.length ≤ maxLen) (hf : ∀ m ∈ l, K.Fit m) (hx : D.Row w bo x) (bx : D.Bd x) :
    Calls Try.prog 23 #[.slice ao l.length ca, .slice bo x.length cb] w (K.ShEnd l x w) := by
  have HL := Lib.hid (lengths_any bo cb x w bx.1 hx bx.2)
  unfold D.LenEnd at HL
  by_cases h0 : D.chk x = 0
  · obtain ⟨l1, l2⟩ := D.len_qs h0
    obtain ⟨q1, q2⟩ := (D.valid_qs h0).2.2.2.2
    rw [h0, l1, l2] at HL
    have HC := Lib.hid (fun V (hb : Below w.heap.size w V) => check9_any (D.inL (D.qs x)) ao ca l V (hr.below hb) la hf)
    have hE : Hid (K.shE l x = K.chk (D.inL (D.qs x)) l) := by show _ = _; unfold K.shE; rw [if_pos h0]
    by_cases h1 : K.chk (D.inL (D.qs x)) l = 0
    · have hset : K.Set (D.inL (D.qs x)) l := (K.chk_iff (by omega) l).1 h1
      have hll := hset.len
      rw [h1] at HC hE
      have hd : Hid (K.shL l x = l.map (K.mvM (D.qs x))) := K.shL_ok hE.out
      have HK := Lib.hid (fun V (hb : Below w.heap.size w V) => clone9_any ao ca l V (hr.below hb) hc (by omega))
      have HP : Hid (∀ V (m : K.M), Below w.heap.size w V → m ∈ l → Calls Try.prog 40 #[.slice bo x.length cb, .int .i64 m.at_, .int .u8 m.g] V fun e w' => e = .returned (.tuple #[.int .i64 (K.mv (D.qs x) m.g m.at_), .int .i64 0]) ∧ Below V.heap.size V w') := fun V m hb hm => by
        have g0 := (hf m hm).g0
        have ok := hset.ok m hm
        have hp : D.posE x m.at_ m.g = 0 := (D.posE_iff g0).2 ⟨h0, ok.2.1, ok.2.2.1, ok.2.2.2⟩
        have := position_any bo cb x m.at_ m.g g0 V (hx.below hb) bx
        unfold S.PosEnd at this
        rw [hp, K.posV_mv hp] at this
        exact this
      obtain ⟨I, hI⟩ : ∃ I, Hid (D.inL (D.qs x) = I) := ⟨_, rfl⟩
      rw [hI.out] at HL HC
      clear hr hc hf hx bx h0 h1 hset l1 l2 q1 q2
      go_enter Try.func23, Try.ntmps23
      go_wp2_with (first
        | (go_at_call 28; refine HL.out.mono ?_; rintro e w1 ⟨rfl, hb⟩; have hB := Lib.hid hb; clear hb)
        | (go_at_call 12; refine (HC.out _ hB.out).mono ?_; rintro e w2 ⟨rfl, hb⟩; have hB2 := Lib.hid (hB.out.trans (hb.mono hB.out.size)); clear hb)
        | (go_at_call 35; refine (HK.out _ hB2.out).mono ?_; rintro e w3 ⟨v, rfl, hm⟩; have hM := hm.weak hB2.out; obtain ⟨vo, vc, rfl, _⟩ := hM.form2; have hM := Lib.hid hM; clear hm))
      go_loopw [31] (fun j wr => ∃ k : Nat, k ≤ l.length ∧ j = .int .i64 k ∧ Hid (K.Made ((l.take k).map (K.mvM (D.qs x)) ++ l.drop k) w (.slice vo l.length vc) wr)) (fun j _ => l.length - (intOf j).toNat)
      case atStart => exact ⟨0, Nat.zero_le _, rfl, by rw [List.take_zero, List.drop_zero]; exact hM.out⟩
      case round =>
        obtain ⟨k, hk, rfl, hL⟩ := hrel
        clear hM
        by_cases hlt : k < l.length
        · obtain ⟨m, hm⟩ : ∃ m, l[k]? = some m := ⟨l[k]'hlt, List.getElem?_eq_getElem _⟩
          obtain ⟨s1, s2⟩ := K.map_step (K.mvM (D.qs x)) l k m hm
          obtain ⟨g, c, hv⟩ := hL.out.isRow (by rw [List.length_append, List.length_map, List.length_take, List.length_drop]; omega)
          obtain ⟨rfl, rfl⟩ : vo = some ⟨g, 0, none⟩ ∧ vc = c := by injection hv with h1 h2 h3; exact ⟨h1, h3⟩
          obtain ⟨_, y0, y1, y2, yf0, yf1, yf2⟩ := hL.out.at s1
          have hb := Lib.hid hL.out.below
          have hX := K.Box.new wr m 32
          have hb1 := (Below.refl wr.heap.size wr).alloc (Nat.le_refl _) (.cells #[.int .u32 m.id, .int .i64 m.at_, .int .u8 m.g] 32)
          have hbw := hb.out.alloc hb.out.size (.cells #[.int .u32 m.id, .int .i64 m.at_, .int .u8 m.g] 32)
          have HC2 := Lib.hid (HP.out _ m hbw (List.mem_of_getElem? hm))
          have hL2 := Lib.hid (hL.out.kept hb1)
          have S2 := Lib.hid s2
          have S1 := Lib.hid s1
          clear hm s1 s2 hv hL
          go_wp2_with (go_at_call 40; refine HC2.out.mono ?_; rintro e w4 ⟨rfl, hb⟩; have hL4 := hL2.out.kept hb; obtain ⟨_, z0, z1, z2, zf0, zf1, zf2⟩ := hL4.at S1.out; have R : Hid (K.Made ((l.take (k + 1)).map (K.mvM (D.qs x)) ++ l.drop (k + 1)) w (.slice (some ⟨g, 0, none⟩) l.length vc) (w4.setCell ⟨g, k * 3 + 1, none⟩ (.int .i64 (K.mv (D.qs x) m.g m.at_)))) := (by have h := hL4.mid S1.out (K.mv (D.qs x) m.g m.at_); show K.Made _ _ _ _; rw [← S2.out]; exact h); clear hb hL4)
          go_roundw
          case rel => exact ⟨k + 1, by omega, by go_num, R⟩
          case measure => simp [intOf]; omega
        · obtain rfl : k = l.length := by omega
          have R : Hid (K.Made (K.shL l x) w (.slice vo l.length vc) wr) := by
            show K.Made _ _ _ _
            have := hL.out
            rw [List.take_length, List.drop_length, List.append_nil, ← hd.out] at this
            exact this
          clear hL
          go_wp2
          go_ret2
          exact ⟨_, by rw [hE.out]; rfl, R.out⟩
    · have hd : Hid (K.shL l x = []) := K.shL_bad (by rw [hE.out]; exact h1)
      obtain ⟨I, hI⟩ : ∃ I, Hid (D.inL (D.qs x) = I) := ⟨_, rfl⟩
      rw [hI.out] at HL HC hE h1
      have q3 : (K.chk (I : Int) l != 0) = true := by simpa using h1
      generalize K.chk (I : Int) l = ce at *
      clear hr hc hf hx bx h0 h1 l1 l2 q1 q2
      go_enter Try.func23, Try.ntmps23
      go_wp2_with (first
        | (go_at_call 28; refine HL.out.mono ?_; rintro e w1 ⟨rfl, hb⟩; have hB := Lib.hid hb; clear hb)
        | (go_at_call 12; refine (HC.out _ hB.out).mono ?_; rintro e w2 ⟨rfl, hb⟩; have hB2 := Lib.hid (hB.out.trans (hb.mono hB.out.size)); clear hb))
      go_ret2
      exact ⟨_, by rw [hE.out]; rfl, by rw [hd.out]; exact K.Made.nil _ hB2.out⟩
  · have hE : Hid (K.shE l x = D.chk x) := by show _ = _; unfold K.shE; rw [if_neg h0]
    have hd : Hid (K.shL l x = []) := K.shL_bad (by rw [hE.out]; exact h0)
    have q3 : (D.chk x != 0) = true := by simpa using h0
    generalize D.lenI x = li at *
    generalize D.lenO x = lo at *
    generalize D.chk x = ce at *
    clear hr hc hf hx bx h0
    go_enter Try.func23, Try.ntmps23
    go_wp2_with (go_at_call 28; refine HL.out.mono ?_; rintro e w1 ⟨rfl, hb⟩; have hB := Lib.hid hb; clear hb)
    go_ret2
    exact ⟨_, by rw [hE.out]; rfl, by rw [hd.out]; exact K.Made.nil _ hB.out⟩
end Go.Proofs.Ytmbgcbgbdjiacaa
/- MarkRefShift -/
namespace Go.Proofs.Ytmbgcbgbdjiacaa
open Go.RowKit

theorem K.map_snoc (f : K.M → K.M) (l : List K.M) (k : Nat) (m : K.M) (h : l[k]? = some m) : (l.take (k + 1)).map f = (l.take k).map f ++ [f m] := by
  rw [List.take_add_one, h]; simp
set_option maxRecDepth 100000 in
set_option maxHeartbeats 4000000 in
theorem refShift9_any (ao : Option Addr) (ca : Nat) (l : List K.M) (bo : Option Addr) (cb : Nat) (x : List D.P) (w : World) (hr : K.Row w ao l) (la : l.length ≤ maxLen) (hf : ∀ m ∈ l, K.Fit m) (hx : D.Row w bo x) (bx : D.Bd x) :
    Calls Try.prog 24 #[.slice ao l.length ca, .slice bo x.length cb] w (K.ShEnd l x w) := by
  have HL := Lib.hid (refLengths_any bo cb x w bx.1 hx bx.2)
  by_cases h0 : D.chk x = 0
  · obtain ⟨hx2, pa, _, bl, bi, bo'⟩ := D.valid_qs h0
    obtain ⟨l1, l2⟩ := D.len_qs h0
    unfold D.lenI at l1
    unfold D.lenO at l2
    rw [l1, l2, h0] at HL
    have HC := Lib.hid (fun V (hb : Below w.heap.size w V) => refCheck9_any (D.inL (D.qs x)) ao ca l V (hr.below hb) la hf)
    have hE : Hid (K.shE l x = K.chk (D.inL (D.qs x)) l) := by show _ = _; unfold K.shE; rw [if_pos h0]
    by_cases h1 : K.chk (D.inL (D.qs x)) l = 0
    · have hset : K.Set (D.inL (D.qs x)) l := (K.chk_iff (by omega) l).1 h1
      have hll := hset.len
      rw [h1] at HC hE
      have hd : Hid (K.shL l x = l.map (K.mvM (D.qs x))) := K.shL_ok hE.out
      have hlen : x.length = (D.qs x).length := by
        have := congrArg List.length hx2
        rw [List.length_map] at this; exact this.symm
      have HP : Hid (∀ V (m : K.M), Below w.heap.size w V → m ∈ l → Calls Try.prog 42 #[.slice bo x.length cb, .int .i64 m.at_, .int .u8 m.g] V fun e w' => e = .returned (.int .i64 (K.mvM (D.qs x) m).at_) ∧ Below V.heap.size V w') := fun V m hb hm => by
        have g0 := (hf m hm).g0
        have ok := hset.ok m hm
        have hrow : D.Row V bo ((D.qs x).map D.raw) := by rw [hx2]; exact hx.below hb
        have := refMove_any bo cb (D.qs x) m.at_.toNat m.g V hrow (by rw [hx2]; exact h0) pa bi bo' (by omega) (by omega) (by omega)
        unfold S.RMovEnd at this
        rw [show ((m.at_.toNat : Nat) : Int) = m.at_ by omega, ← hlen] at this
        exact this
      have Hr := Lib.hid hr
      obtain ⟨I, hI⟩ : ∃ I, Hid (D.inL (D.qs x) = I) := ⟨_, rfl⟩
      rw [hI.out] at HL HC
      generalize D.outL (D.qs x) = OO at HL
      obtain ⟨F, hF⟩ : ∃ F, Hid (K.mvM (D.qs x) = F) := ⟨_, rfl⟩
      have hFi : Hid (∀ m, (F m).id = m.id ∧ (F m).g = m.g) := fun m => by rw [← hF.out]; exact ⟨rfl, rfl⟩
      rw [hF.out] at HP hd
      clear hr hf hx bx h0 h1 hset l1 l2 hx2 pa bl bi bo' hlen
      go_enter Try.func24, Try.ntmps24
      go_wp2_with (first
        | (go_at_call 41; refine HL.out.mono ?_; rintro e w1 ⟨rfl, hb⟩; have hB := Lib.hid hb; clear hb)
        | (go_at_call 13; refine (HC.out _ hB.out).mono ?_; rintro e w2 ⟨rfl, hb⟩; have hB2 := Lib.hid (hB.out.trans (hb.mono hB.out.size)); clear hb))
      go_loopw [9, 10] (fun v j wr => ∃ k : Nat, k ≤ l.length ∧ j = .int .i64 k ∧ Hid (K.Made ((l.take k).map F) w v wr)) (fun _ j _ => l.length - (intOf j).toNat)
      case atStart => exact ⟨0, Nat.zero_le _, rfl, K.Made.nil _ hB2.out⟩
      case round =>
        obtain ⟨k, hk, rfl, hL⟩ := hrel
        clear hB2 hB
        by_cases hlt : k < l.length
        · obtain ⟨m, hm, _⟩ := K.drop_cons hlt
          obtain ⟨b1, o1, e1, l1, hc⟩ := Hr.out k m hm
          have hb := Lib.hid hL.out.below
          obtain ⟨c0, c1, c2⟩ := K.cell3 hb.out l1 hc
          subst e1
          have hst := Lib.hid (K.map_snoc F l k m hm)
          obtain ⟨X, hX⟩ : ∃ X, Hid ((l.take k).map F = X) := ⟨_, rfl⟩
          have hle : X.length ≤ 1000000 := by rw [← hX.out, List.length_map, List.length_take]; omega
          rw [hX.out] at hst hL
          obtain ⟨vo, vc, hv, _⟩ := hL.out.form
          subst hv
          have HC2 := Lib.hid (HP.out _ m (hb.out.alloc hb.out.size (.cells #[.int .u32 m.id, .int .i64 m.at_, .int .u8 m.g] 32)) (List.mem_of_getElem? hm))
          have hbx := Lib.hid (K.Box.new wr m 32)
          have hL2 := Lib.hid (hL.out.kept ((Below.refl wr.heap.size wr).alloc (Nat.le_refl _) (.cells #[.int .u32 m.id, .int .i64 m.at_, .int .u8 m.g] 32)))
          obtain ⟨z, hz⟩ : ∃ z, Hid ((F m).at_ = z) := ⟨_, rfl⟩
          rw [hz.out] at HC2
          have hFm : Hid (F m = ⟨m.id, z, m.g⟩) := by
            show _ = _
            rw [← hz.out]
            have := hFi.out m
            cases e : F m
            rw [e] at this
            dsimp only at this ⊢
            rw [this.1, this.2]
          rw [hFm.out] at hst
          have hlv : Hid (∀ j, (Value.slice vo X.length vc).ownBlock = some j → j < wr.heap.size) := fun j e => (hL.out.own.lt j e).2
          have hwz : Hid (w.heap.size ≤ wr.heap.size) := hb.out.size
          clear hc hm hL
          have hOO : Hid (∀ w4 : World, K.Made X w (.slice vo X.length vc) w4 → K.Made X w (.slice vo X.length vc) (w4.setCell ⟨wr.heap.size, 1, none⟩ (.int .i64 z))) := fun w4 h =>
            ⟨ownsRow_setCell_other h.own (fun e => by have := hlv.out wr.heap.size e; omega) _, h.below.setCell (p := ⟨wr.heap.size, 1, none⟩) hwz.out _⟩
          go_wp2_with (first
            | (go_at_call 42; refine HC2.out.mono ?_; rintro e w4 ⟨rfl, hb4⟩; have hO := Lib.hid (hOO.out _ (hL2.out.kept hb4)); have hs4 := Lib.hid hb4.size; obtain ⟨lt, x0, x1, x2, f0, f1, f2⟩ := hbx.out.below hb4; clear hb4)
            | (at_builtin; refine K.append_mark (W := w4.setCell ⟨wr.heap.size, 1, none⟩ (.int .i64 z)) rfl _ _ rfl w.heap.size (.slice vo X.length vc) X ?hs hO.out.own ⟨m.id, z, m.g⟩ 1 ?a0 hle hO.out.below.size ?_))
          case hs => rfl
          case a0 => (rw [show (w4.setCell ⟨wr.heap.size, 1, none⟩ (.int .i64 z)).heap.size = w4.heap.size by simp]; rfl)
          intro Z v' w5 hZ hO5 hg
          have R : Hid (K.Made ((l.take (k + 1)).map F) w v' w5) := by
            show K.Made _ _ _ _
            rw [hst.out, ← hZ.out]
            exact hO.out.on hO5 hg
          clear hO5 hg hO
          go_wp2
          go_roundw
          case rel => exact ⟨k + 1, by omega, by go_num, R⟩
          case measure => simp [intOf]; omega
        · obtain rfl : k = l.length := by omega
          obtain ⟨v, hv, hL⟩ : ∃ v, v = _ ∧ Hid (K.Made ((l.take l.length).map F) w v wr) := ⟨_, rfl, hL⟩
          have R : Hid (K.Made (K.shL l x) w v wr) := by
            show K.Made _ _ _ _
            have := hL.out
            rw [List.take_length, ← hd.out] at this
            exact this
          rw [hv] at R
          clear hL hv
          go_wp2
          go_ret2
          exact ⟨_, by rw [hE.out]; rfl, R.out⟩
    · have hd : Hid (K.shL l x = []) := K.shL_bad (by rw [hE.out]; exact h1)
      obtain ⟨I, hI⟩ : ∃ I, Hid (D.inL (D.qs x) = I) := ⟨_, rfl⟩
      rw [hI.out] at HL HC hE h1
      have q3 : (K.chk (I : Int) l != 0) = true := by simpa using h1
      generalize K.chk (I : Int) l = ce at *
      generalize D.outL (D.qs x) = OO at HL
      clear hr hf hx bx h0 h1 l1 l2 hx2 pa bl bi bo'
      go_enter Try.func24, Try.ntmps24
      go_wp2_with (first
        | (go_at_call 41; refine HL.out.mono ?_; rintro e w1 ⟨rfl, hb⟩; have hB := Lib.hid hb; clear hb)
        | (go_at_call 13; refine (HC.out _ hB.out).mono ?_; rintro e w2 ⟨rfl, hb⟩; have hB2 := Lib.hid (hB.out.trans (hb.mono hB.out.size)); clear hb))
      go_ret2
      exact ⟨_, by rw [hE.out]; rfl, by rw [hd.out]; exact K.Made.nil _ hB2.out⟩
  · have hE : Hid (K.shE l x = D.chk x) := by show _ = _; unfold K.shE; rw [if_neg h0]
    have hd : Hid (K.shL l x = []) := K.shL_bad (by rw [hE.out]; exact h0)
    have q3 : (D.chk x != 0) = true := by simpa using h0
    have q4 : (D.chk x == 0) = false := by simpa using h0
    rw [if_neg h0, if_neg h0] at HL
    generalize D.chk x = ce at *
    clear hr hf hx bx h0
    go_enter Try.func24, Try.ntmps24
    go_wp2_with (go_at_call 41; refine HL.out.mono ?_; rintro e w1 ⟨rfl, hb⟩; have hB := Lib.hid hb; clear hb)
    go_ret2
    exact ⟨_, by rw [hE.out]; rfl, by rw [hd.out]; exact K.Made.nil _ hB.out⟩
end Go.Proofs.Ytmbgcbgbdjiacaa
