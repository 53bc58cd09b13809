/- Texts joined: NodeRef4 NodeRef5 -/
import Derived.Test.YtniccjbcchdkoaaPackNRefA
import Derived.Test.YtniccjbcchdkoaaPackNPkg
import Derived.Test.YtniccjbcchdkoaaPackMeasR
/- NodeRef4 -/
namespace Go.Proofs.Ytniccjbcchdkoaa
open Go.RowKit

theorem N.formed_leaf (t : ByteArray) (l : List N.K) : decide (N.formed (N.nd 0 t l)) = decide (1 ≤ t.size ∧ t.size ≤ 16 ∧ l.length = 0) := by
  apply decide_eq_decide.2
  rw [N.formed_iff]
  exact ⟨fun x => x.elim (fun y => y.2) (fun y => absurd y.1 (by decide)), fun x => .inl ⟨rfl, x⟩⟩
theorem N.formed_in {h : Int} {t : ByteArray} {l : List N.K} (h0 : h ≠ 0) : decide (N.formed (N.nd h t l)) = N.inB h t l := by
  unfold N.inB
  apply decide_eq_decide.2
  rw [N.formed_iff]
  exact ⟨fun x => x.elim (fun y => absurd y.1 h0) id, .inr⟩
set_option maxRecDepth 100000 in
set_option maxHeartbeats 2000000 in
theorem refFormed12_any (h : Int) (t : ByteArray) (ao : Option Addr) (ca : Nat) (l : List N.K) (w : World) (ht : t.size ≤ maxLen) (hn : l.length ≤ maxLen) (hr : N.Row w ao l) (hf : ∀ p ∈ l, N.Fit p) :
    Calls Try.prog 100 #[N.nv h t (.slice ao l.length ca)] w fun e w' => e = .returned (.bool (decide (N.formed (N.nd h t l)))) ∧ Below w.heap.size w w' := by
  by_cases h0 : h = 0
  · subst h0
    rw [N.formed_leaf]
    exact refFormed12_leaf t ao ca l w ht
  · rw [N.formed_in h0]
    have B1 : Hid (Below w.heap.size w (w.alloc (.cells #[.int .i64 h, .string t, .slice ao l.length ca] 30))) := (Below.refl _ _).alloc (Nat.le_refl _) _
    have X1 := Lib.hid (N.Nb.new w h t (.slice ao l.length ca) 30)
    have h0' : (h == 0) = false := by simpa using h0
    unfold maxLen at hn
    unfold N.nv
    by_cases c1 : h < 0
    · have hd := Lib.hid (N.inB_f (h := h) (t := t) (l := l) fun x => by have := x.1; omega)
      clear hr hf h0
      go_enter Try.func100, Try.ntmps100
      go_wp2
      go_ret
      exact ⟨by rw [hd.out]; rfl, B1.out⟩
    · by_cases c2 : 16 < h
      · have hd := Lib.hid (N.inB_f (h := h) (t := t) (l := l) fun x => by have := x.2.1; omega)
        clear hr hf h0
        go_enter Try.func100, Try.ntmps100
        go_wp2
        go_ret
        exact ⟨by rw [hd.out]; rfl, B1.out⟩
      · by_cases c3 : t.size = 0
        · obtain rfl := N.size0 c3
          by_cases c4 : l.length < 2
          · have hd := Lib.hid (N.inB_f (h := h) (t := ⟨#[]⟩) (l := l) fun x => by have := x.2.2.2.1; omega)
            clear hr hf h0 c3
            go_enter Try.func100, Try.ntmps100
            go_wp2
            go_ret
            exact ⟨by rw [hd.out]; rfl, B1.out⟩
          · by_cases c5 : 4 < l.length
            · have hd := Lib.hid (N.inB_f (h := h) (t := ⟨#[]⟩) (l := l) fun x => by have := x.2.2.2.2.1; omega)
              clear hr hf h0 c3
              go_enter Try.func100, Try.ntmps100
              go_wp2
              go_ret
              exact ⟨by rw [hd.out]; rfl, B1.out⟩
            · obtain ⟨n, rfl⟩ : ∃ n : Nat, h = n := ⟨h.toNat, by omega⟩
              have hd : Hid (N.inB (n : Int) ⟨#[]⟩ l = true ↔ ∀ p ∈ l, N.KOk n p) := by
                show _ ↔ _
                rw [N.inB, decide_eq_true_iff]
                unfold N.inP
                exact ⟨fun x => x.2.2.2.2.2, fun x => ⟨by omega, by omega, rfl, by omega, by omega, x⟩⟩
              have hd0 : Hid (∀ p ∈ l, ¬ N.KOk n p → N.inB (n : Int) ⟨#[]⟩ l = false) := fun p hp hk => by
                rw [Bool.eq_false_iff]; exact fun x => hk (hd.out.1 x p hp)
              have hn16 : 1 ≤ n ∧ n ≤ 16 := by omega
              have HK : Hid (∀ p ∈ l, ∀ W, Calls Try.prog 123 #[.int .i64 (n : Int), .agg #[.int .u64 (p.at_ : Int), .int .i64 p.b, .int .i64 p.r, .int .i64 p.l]] W fun e w' => e = .returned (.bool (decide (N.KOk n p))) ∧ Below W.heap.size W w') := fun p hp W => refKid12_any n hn16.1 hn16.2 p (hf p hp) W
              have Hr := Lib.hid hr
              generalize N.inB (n : Int) ⟨#[]⟩ l = u at *
              have q1 : decide ((n : Int) < 0) = false := decide_eq_false c1
              have q2 : decide ((16 : Int) < (n : Int)) = false := decide_eq_false c2
              have q3 : decide (l.length < 2) = false := decide_eq_false c4
              have q4 : decide (4 < l.length) = false := decide_eq_false c5
              clear hr hf h0 c3 hn16
              go_enter Try.func100, Try.ntmps100
              go_wp2
              go_loopw [3] (fun j wr => ∃ i : Nat, i ≤ l.length ∧ j = .int .i64 i ∧ Hid (∀ p ∈ l.take i, N.KOk n p) ∧ Hid (N.Nb wr w.heap.size (n : Int) ⟨#[]⟩ (.slice ao l.length ca)) ∧ Hid (Below w.heap.size w wr)) (fun j _ => l.length - (intOf j).toNat)
              case atStart => exact ⟨0, Nat.zero_le _, rfl, (fun p hp => by simp at hp), X1, B1⟩
              case round =>
                obtain ⟨i, hi, rfl, hall, hX, hw⟩ := hrel
                have x0 := hX.out.c0
                have x2 := hX.out.c2
                by_cases hlt : i < l.length
                · obtain ⟨p, hp, _⟩ := N.drop_cons hlt
                  obtain ⟨b1, o, e, hbl, hcs⟩ := Hr.out i p hp
                  subst e
                  obtain ⟨e0, e1, e2, e3⟩ := N.cell4 hw.out hbl hcs
                  have hpm := List.mem_of_getElem? hp
                  have HE := HK.out p hpm
                  have hst : Hid (N.KOk n p → ∀ q ∈ l.take (i + 1), N.KOk n q) := fun hk q hq => by
                    rw [List.take_add_one, hp] at hq
                    rcases List.mem_append.1 hq with hq | hq
                    · exact hall.out q hq
                    · simp at hq; subst hq; exact hk
                  by_cases hk : N.KOk n p
                  · rw [decide_eq_true hk] at HE
                    have HE := Lib.hid HE
                    have R := Lib.hid (hst.out hk)
                    clear hp hcs hpm hk hst hall
                    go_wp2_with fail
                    go_region_with (first | (go_at_call 123; refine (HE.out _).mono ?_; rintro e w5 ⟨rfl, hb⟩; have B5 := Lib.hid (hw.out.drew.trans (hb.mono (by have := hw.out.size; simpa using this))); have X5 := Lib.hid (N.Nb.below (hX.out.below ((Below.refl _ _).drew)) hb); clear hb))
                    all_goals
                      go_wp2
                      go_roundw
                      case rel => exact ⟨i + 1, by omega, by go_num, R, X5, B5⟩
                      case measure => simp [intOf]; omega
                  · rw [decide_eq_false hk] at HE
                    have HE := Lib.hid HE
                    have R := Lib.hid (hd0.out p hpm hk)
                    clear hp hcs hpm hk hst hall
                    go_wp2_with fail
                    go_region_with (first | (go_at_call 123; refine (HE.out _).mono ?_; rintro e w5 ⟨rfl, hb⟩; have B5 := Lib.hid (hw.out.drew.trans (hb.mono (by have := hw.out.size; simpa using this))); clear hb))
                    all_goals
                      go_wp2
                      go_ret
                      exact ⟨by rw [R.out]; rfl, B5.out⟩
                · obtain rfl : i = l.length := by omega
                  have R : Hid (u = true) := by show _ = _; rw [hd.out]; have := hall.out; rwa [List.take_length] at this
                  go_wp2
                  go_ret
                  exact ⟨by rw [R.out]; rfl, hw.out⟩
        · obtain ⟨e1, e2⟩ := N.size1 c3
          have hd := Lib.hid (N.inB_f (h := h) (t := t) (l := l) fun x => c3 x.2.2.1)
          clear hr hf h0 c3
          go_enter Try.func100, Try.ntmps100
          go_wp2
          go_ret
          exact ⟨by rw [hd.out]; rfl, B1.out⟩
end Go.Proofs.Ytniccjbcchdkoaa
/- NodeRef5 -/
namespace Go.Proofs.Ytniccjbcchdkoaa
open Go.RowKit

@[go_sem] theorem N.field0 (a b c : Int) (w : World) : (Instr.field 48 (.agg #[.int .i64 a, .int .i64 b, .int .i64 c]) 0).run Try.prog w = .ok (.int .i64 a) w := by kernel_rfl
theorem N.take_all (l : List N.K) : l.take l.length = l := List.take_length
set_option maxRecDepth 100000 in
set_option maxHeartbeats 1000000 in
theorem refCheck12_any (h : Int) (t : ByteArray) (ao : Option Addr) (ca : Nat) (l : List N.K) (w : World) (ht : t.size ≤ maxLen) (hn : l.length ≤ maxLen) (hr : N.Row w ao l) (hf : ∀ p ∈ l, N.Fit p) :
    Calls Try.prog 80 #[N.nv h t (.slice ao l.length ca)] w fun e w' => e = .returned (.int .i64 (N.chk (N.nd h t l))) ∧ Below w.heap.size w w' := by
  have B1 : Hid (Below w.heap.size w (w.alloc (.cells #[.int .i64 h, .string t, .slice ao l.length ca] 30))) := (Below.refl _ _).alloc (Nat.le_refl _) _
  have X1 := Lib.hid (N.Nb.new w h t (.slice ao l.length ca) 30)
  have HF : Hid (∀ W, Below w.heap.size w W → Calls Try.prog 100 #[.agg #[.int .i64 h, .string t, .slice ao l.length ca]] W fun e w' => e = .returned (.bool (decide (N.formed (N.nd h t l)))) ∧ Below W.heap.size W w') := fun W hW => refFormed12_any h t ao ca l W ht hn (hr.below hW) hf
  unfold N.nv
  by_cases hfo : N.formed (N.nd h t l)
  · rw [decide_eq_true hfo] at HF
    have hs : N.Sml l := by
      rcases (N.formed_iff h t l).1 hfo with x | x
      · have : l = [] := List.eq_nil_of_length_eq_zero x.2.2.2
        subst this
        exact ⟨Nat.zero_le _, (fun k hk => by cases hk), (fun k hk => by cases hk), (fun k hk => by cases hk)⟩
      · exact N.sml_of x
    have HS : Hid (∀ W, Below w.heap.size w W → Calls Try.prog 99 #[.agg #[.int .i64 h, .string t, .slice ao l.length ca], .int .i64 (l.length : Int)] W fun e w' => e = .returned (.agg #[.int .i64 (N.sum N.K.b l), .int .i64 (N.sum N.K.r l), .int .i64 (N.sum N.K.l l)]) ∧ Below W.heap.size W w') := fun W hW => by
      have := refSum12_any h t ao ca l hs l.length (Nat.le_refl _) W (hr.below hW)
      rwa [N.take_all] at this
    have hc : Hid (N.chk (N.nd h t l) = if 65536 < N.sum N.K.b l then 5 else 0) := by show _ = _; rw [N.chk, if_pos hfo]; rfl
    have hl4 := hs.len
    generalize N.chk (N.nd h t l) = c at *
    generalize N.sum N.K.b l = sb at *
    generalize N.sum N.K.r l = sr at *
    generalize N.sum N.K.l l = sl at *
    clear ht hn hr hf hfo hs
    go_enter Try.func80, Try.ntmps80
    go_wp2_with fail
    refine (HF.out _ B1.out).mono ?_
    rintro e w1 ⟨rfl, hb⟩
    have B2 := Lib.hid (B1.out.trans (hb.mono B1.out.size))
    have X2 := Lib.hid (X1.out.below hb)
    have x0 := X2.out.c0
    have x1 := X2.out.c1
    have x2 := X2.out.c2
    clear hb
    by_cases h5 : 65536 < sb
    · have R : Hid (c = 5) := by have := hc.out; rw [if_pos h5] at this; exact this
      go_wp2_with fail
      refine (HS.out _ B2.out).mono ?_
      rintro e w2 ⟨rfl, hb⟩
      have B3 := Lib.hid (B2.out.trans (hb.mono B2.out.size))
      clear hb
      go_wp2
      go_ret
      exact ⟨by rw [R.out]; rfl, B3.out⟩
    · have R : Hid (c = 0) := by have := hc.out; rw [if_neg h5] at this; exact this
      go_wp2_with fail
      refine (HS.out _ B2.out).mono ?_
      rintro e w2 ⟨rfl, hb⟩
      have B3 := Lib.hid (B2.out.trans (hb.mono B2.out.size))
      clear hb
      go_wp2
      go_ret
      exact ⟨by rw [R.out]; rfl, B3.out⟩
  · rw [decide_eq_false hfo] at HF
    have R : Hid (N.chk (N.nd h t l) = 23) := by show _ = _; rw [N.chk, if_neg hfo]
    clear ht hn hr hf hfo
    go_enter Try.func80, Try.ntmps80
    go_wp2_with fail
    refine (HF.out _ B1.out).mono ?_
    rintro e w1 ⟨rfl, hb⟩
    have B2 := Lib.hid (B1.out.trans (hb.mono B1.out.size))
    clear hb
    go_wp2
    go_ret
    exact ⟨by rw [R.out]; rfl, B2.out⟩
set_option maxRecDepth 100000 in
set_option maxHeartbeats 2000000 in
theorem refMeasure12_any (h : Int) (t : ByteArray) (ao : Option Addr) (ca : Nat) (l : List N.K) (w : World) (ht : t.size ≤ maxLen) (hn : l.length ≤ maxLen) (hr : N.Row w ao l) (hf : ∀ p ∈ l, N.Fit p) :
    Calls Try.prog 78 #[N.nv h t (.slice ao l.length ca)] w (N.MsEnd (N.nd h t l) w) := by
  have B1 : Hid (Below w.heap.size w ((w.alloc (.cells #[.int .i64 h, .string t, .slice ao l.length ca] 30)).alloc (.cells #[.int .i64 0, .int .i64 0, .int .i64 0] 48))) := ((Below.refl _ _).alloc (Nat.le_refl _) _).alloc (by simp) _
  have X1 := Lib.hid ((N.Nb.new w h t (.slice ao l.length ca) 30).alloc (.cells #[.int .i64 0, .int .i64 0, .int .i64 0] 48))
  have O1 := M.Own.new (w.alloc (.cells #[.int .i64 h, .string t, .slice ao l.length ca] 30)) 0 0 0 48
  rw [World.size_alloc] at O1
  have O1 := Lib.hid O1
  have HC : Hid (∀ W, Below w.heap.size w W → Calls Try.prog 80 #[.agg #[.int .i64 h, .string t, .slice ao l.length ca]] W fun e w' => e = .returned (.int .i64 (N.chk (N.nd h t l))) ∧ Below W.heap.size W w') := fun W hW => refCheck12_any h t ao ca l W ht hn (hr.below hW) hf
  unfold N.nv
  by_cases hc : N.chk (N.nd h t l) = 0
  · rw [hc] at HC
    by_cases h0 : h = 0
    · subst h0
      have hlf : N.leafP 0 t l := ((N.formed_iff 0 t l).1 ((N.chk_iff _).1 hc).1).elim id (fun x => absurd x.1 (by decide))
      have HO : Hid (∀ W, Calls Try.prog 98 #[.string t] W fun e w' => e = .returned (.agg #[.int .i64 (t.size : Int), .int .i64 (U.cnt t.data.toList : Int), .int .i64 (M.lf t.data.toList : Int)]) ∧ Below W.heap.size W w') := fun W => refOf_any t W (by have := hlf.2.2.1; omega)
      have R : Hid (N.chk (N.nd 0 t l) = 0 ∧ N.mB (N.nd 0 t l) = (t.size : Int) ∧ N.mR (N.nd 0 t l) = (U.cnt t.data.toList : Int) ∧ N.mL (N.nd 0 t l) = (M.lf t.data.toList : Int)) := by
        have e0 : (N.nd 0 t l).h = 0 := rfl
        refine ⟨hc, ?_, ?_, ?_⟩
        · rw [N.mB, if_pos hc, if_pos e0]; show ((t.data.toList.length : Nat) : Int) = _; rw [N.len_data]
        · rw [N.mR, if_pos hc, if_pos e0]; rfl
        · rw [N.mL, if_pos hc, if_pos e0]; rfl
      generalize (U.cnt t.data.toList : Int) = tr at *
      generalize (M.lf t.data.toList : Int) = tl at *
      generalize (t.size : Int) = tb at HO R
      clear hr hf ht hn hlf hc
      go_enter Try.func78, Try.ntmps78
      go_wp2_with fail
      refine (HC.out _ B1.out).mono ?_
      rintro e w1 ⟨rfl, hb⟩
      have B2 := Lib.hid (B1.out.trans (hb.mono B1.out.size))
      have O2 := Lib.hid (O1.out.below hb)
      have X2 := Lib.hid (X1.out.below hb)
      have x0 := X2.out.c0
      have x1 := X2.out.c1
      clear hb O1 X1 B1
      go_wp2_with fail
      refine (HO.out _).mono ?_
      rintro e w2 ⟨rfl, hb⟩
      have B3 := Lib.hid (B2.out.trans (hb.mono B2.out.size))
      have O3 := Lib.hid (O2.out.below hb)
      clear hb O2 x0 x1
      have r0 := O3.out.c0
      have r1 := O3.out.c1
      have r2 := O3.out.c2
      have s0 := O3.out.f0
      have s1 := O3.out.f1
      have s2 := O3.out.f2
      have hP := O3.out.put tb tr tl
      have hBw := Lib.hid (M.put3_below B3.out (b := w.heap.size + 1) (by omega) tb tr tl)
      go_wp2
      have p0 := hP.c0
      have p1 := hP.c1
      have p2 := hP.c2
      refine bodyPost_ret (v := .tuple #[.agg #[.int .i64 tb, .int .i64 tr, .int .i64 tl], .int .i64 0]) ?_ rfl ⟨by rw [R.out.1, R.out.2.1, R.out.2.2.1, R.out.2.2.2]; rfl, hBw.out⟩
      unfold M.put3 at p0 p1 p2
      simp [results, Try.results78, go_sem, p0, p1, p2]
    · obtain ⟨hi, _⟩ := N.inP_of hc h0
      have hs := N.sml_of hi
      have HS : Hid (∀ W, Below w.heap.size w W → Calls Try.prog 99 #[.agg #[.int .i64 h, .string t, .slice ao l.length ca], .int .i64 (l.length : Int)] W fun e w' => e = .returned (.agg #[.int .i64 (N.sum N.K.b l), .int .i64 (N.sum N.K.r l), .int .i64 (N.sum N.K.l l)]) ∧ Below W.heap.size W w') := fun W hW => by
        have := refSum12_any h t ao ca l hs l.length (Nat.le_refl _) W (hr.below hW)
        rwa [N.take_all] at this
      have R : Hid (N.chk (N.nd h t l) = 0 ∧ N.mB (N.nd h t l) = N.sum N.K.b l ∧ N.mR (N.nd h t l) = N.sum N.K.r l ∧ N.mL (N.nd h t l) = N.sum N.K.l l) := by
        have e0 : ¬ (N.nd h t l).h = 0 := h0
        refine ⟨hc, ?_, ?_, ?_⟩
        · rw [N.mB, if_pos hc, if_neg e0]; rfl
        · rw [N.mR, if_pos hc, if_neg e0]; rfl
        · rw [N.mL, if_pos hc, if_neg e0]; rfl
      have h0' : (h == 0) = false := by simpa using h0
      generalize N.sum N.K.b l = tb at *
      generalize N.sum N.K.r l = tr at *
      generalize N.sum N.K.l l = tl at *
      clear hr hf ht hn hc hi hs h0
      go_enter Try.func78, Try.ntmps78
      go_wp2_with fail
      refine (HC.out _ B1.out).mono ?_
      rintro e w1 ⟨rfl, hb⟩
      have B2 := Lib.hid (B1.out.trans (hb.mono B1.out.size))
      have O2 := Lib.hid (O1.out.below hb)
      have X2 := Lib.hid (X1.out.below hb)
      have x0 := X2.out.c0
      have x1 := X2.out.c1
      have x2 := X2.out.c2
      clear hb O1 X1 B1
      go_wp2_with fail
      refine (HS.out _ B2.out).mono ?_
      rintro e w2 ⟨rfl, hb⟩
      have B3 := Lib.hid (B2.out.trans (hb.mono B2.out.size))
      have O3 := Lib.hid (O2.out.below hb)
      clear hb O2 x0 x1 x2
      have r0 := O3.out.c0
      have r1 := O3.out.c1
      have r2 := O3.out.c2
      have s0 := O3.out.f0
      have s1 := O3.out.f1
      have s2 := O3.out.f2
      have hP := O3.out.put tb tr tl
      have hBw := Lib.hid (M.put3_below B3.out (b := w.heap.size + 1) (by omega) tb tr tl)
      go_wp2
      have p0 := hP.c0
      have p1 := hP.c1
      have p2 := hP.c2
      refine bodyPost_ret (v := .tuple #[.agg #[.int .i64 tb, .int .i64 tr, .int .i64 tl], .int .i64 0]) ?_ rfl ⟨by rw [R.out.1, R.out.2.1, R.out.2.2.1, R.out.2.2.2]; rfl, hBw.out⟩
      unfold M.put3 at p0 p1 p2
      simp [results, Try.results78, go_sem, p0, p1, p2]
  · have R : Hid (N.mB (N.nd h t l) = 0 ∧ N.mR (N.nd h t l) = 0 ∧ N.mL (N.nd h t l) = 0) := ⟨by rw [N.mB, if_neg hc], by rw [N.mR, if_neg hc], by rw [N.mL, if_neg hc]⟩
    have hc' : (N.chk (N.nd h t l) != 0) = true := by simpa using hc
    unfold N.MsEnd
    generalize N.chk (N.nd h t l) = c at *
    clear hr hf ht hn hc
    go_enter Try.func78, Try.ntmps78
    go_wp2_with fail
    refine (HC.out _ B1.out).mono ?_
    rintro e w1 ⟨rfl, hb⟩
    have B2 := Lib.hid (B1.out.trans (hb.mono B1.out.size))
    have O2 := Lib.hid (O1.out.below hb)
    clear hb O1 X1 B1
    have r0 := O2.out.c0
    have r1 := O2.out.c1
    have r2 := O2.out.c2
    have s0 := O2.out.f0
    have s1 := O2.out.f1
    have s2 := O2.out.f2
    have hP := O2.out.put 0 0 0
    have hBw := Lib.hid (M.put3_below B2.out (b := w.heap.size + 1) (by omega) 0 0 0)
    go_wp2
    have p0 := hP.c0
    have p1 := hP.c1
    have p2 := hP.c2
    refine bodyPost_ret (v := .tuple #[.agg #[.int .i64 0, .int .i64 0, .int .i64 0], .int .i64 c]) ?_ rfl ⟨by rw [R.out.1, R.out.2.1, R.out.2.2]; rfl, hBw.out⟩
    unfold M.put3 at p0 p1 p2
    simp [results, Try.results78, go_sem, p0, p1, p2]
/-- The errors that Child, Rune and Line have in common. -/
def N.inE (x : N.Nd) : Int := if N.chk x = 0 then (if x.h = 0 then 8 else 0) else N.chk x
def N.iz (x : N.Nd) (m : Int) : Int := if N.inE x = 0 then m else 0
def N.ImEnd (x : N.Nd) (w : World) (e : Ending) (w' : World) : Prop := e = .returned (.tuple #[N.mv (N.iz x (N.mB x)) (N.iz x (N.mR x)) (N.iz x (N.mL x)), .int .i64 (N.inE x)]) ∧ Below w.heap.size w w'
end Go.Proofs.Ytniccjbcchdkoaa
