/- Texts joined: TransRef1 TransRef2 TransRef3 -/
import Derived.Test.YtmljagkndnobdaaPackTMath
import Derived.Test.YtmljagkndnobdaaComposeRef
import Derived.Deep.OwnRows
import Derived.Test.YtmljagkndnobdaaComposeAll
import Derived.Test.YtmljagkndnobdaaPackTRest
import Derived.Test.YtmljagkndnobdaaComposeRef2
/- TransRef1 -/
namespace Go.Proofs.Ytmljagkndnobdaa
open Go.RowKit

theorem Try.infoStr : (Try.prog.info? 9).map (fun i => (i.zero, i.size, i.bytes)) = some (some (.string ⟨#[]⟩), 1, 16) := by kernel_rfl
theorem Try.infoBool : (Try.prog.info? 4).map (fun i => (i.zero, i.size, i.bytes)) = some (some (.bool false), 1, 1) := by kernel_rfl
def T.strV (t : List UInt8) : Value := .string ⟨t.toArray⟩
/-- A row of values of one cell. -/
def T.VRow (W : World) (ao : Option Addr) (l : List Value) : Prop := ∀ (i : Nat) (x : Value), l[i]? = some x → ∃ b o, ao = some ⟨b, o, none⟩ ∧ b < W.heap.size ∧ W.cell? ⟨b, o + i, none⟩ = some x
theorem T.VRow.below {W W' : World} {ao : Option Addr} {l : List Value} (h : T.VRow W ao l) (hb : Below W.heap.size W W') : T.VRow W' ao l := fun i x hx => by
  obtain ⟨b, o, e, hl, hc⟩ := h i x hx
  exact ⟨b, o, e, Nat.lt_of_lt_of_le hl hb.size, ((D.bcell hb).1 _ _ hl).trans hc⟩
theorem T.vrow_of {W : World} {base : Nat} {e : TypeId} {v : Value} {l : List Value} (h : W.ownsRow base e 1 v l.length l) : ∃ ao c, v = .slice ao l.length c ∧ T.VRow W ao l := by
  obtain ⟨hl, ⟨rfl, h0⟩ | ⟨g, cap, cur, rfl, hb, hg, hnc, hcm, hcs, ht⟩⟩ := h
  · exact ⟨none, 0, by rw [h0], fun i x hx => by have := (List.getElem?_eq_some_iff.1 hx).1; omega⟩
  · have hlt := (Array.getElem?_eq_some_iff.1 hg).1
    refine ⟨some ⟨g, 0, none⟩, cap, rfl, fun i x hx => ⟨g, 0, rfl, hlt, ?_⟩⟩
    have hi := (List.getElem?_eq_some_iff.1 hx).1
    have hu := hx
    rw [← ht, List.getElem?_take, if_pos (by omega)] at hu
    rw [cell_of_row W g _ cur _ _ hg, Nat.zero_add]
    simpa using hu
theorem T.own_made (w : World) (base n : Nat) (z : Value) (e : TypeId) (hb : base ≤ w.heap.size) (hm : n ≤ maxLen) : (w.alloc (.cells (madeCells #[z] n) e)).ownsRow base e 1 (.slice (some ⟨w.heap.size, 0, none⟩) n n) n (List.replicate n z) :=
  ⟨by simp, .inr ⟨w.heap.size, n, _, rfl, hb, heap_alloc_new w _, Nat.le_refl _, hm, by rw [size_madeCells]; omega, by rw [toList_madeCells_one, List.take_of_length_le (by simp)]⟩⟩
theorem T.str_add (s t : List UInt8) : (⟨s.toArray⟩ : ByteArray) ++ ⟨t.toArray⟩ = ⟨(s ++ t).toArray⟩ := by
  rw [← D.bytes_eq ((⟨s.toArray⟩ : ByteArray) ++ ⟨t.toArray⟩)]; simp
theorem T.strV_nil (n : Nat) : (List.replicate n ([] : List UInt8)).map T.strV = List.replicate n (.string ⟨#[]⟩) := by rw [List.map_replicate]; rfl
/-- Between two rounds. -/
structure T.TxAt (a : List D.Q) (g m i : Nat) (w : World) (wr : World) : Prop where
  own : wr.ownsRow w.heap.size 9 1 (.slice (some ⟨g, 0, none⟩) m m) m ((D.txT a i).map T.strV)
  below : Below w.heap.size w wr
def T.TxEnd (a : List D.Q) (w : World) (e : Ending) (w' : World) : Prop := ∃ v, e = .returned v ∧ w'.ownsRow w.heap.size 9 1 v ((D.txs a).map T.strV).length ((D.txs a).map T.strV) ∧ Below w.heap.size w w'
set_option maxRecDepth 100000 in
set_option maxHeartbeats 4000000 in
theorem texts7_any (ao : Option Addr) (cap : Nat) (l : List D.P) (w : World) (h : D.chk l = 0) (hr : D.Row w ao l) :
    Calls Try.prog 48 #[.slice ao l.length cap] w (T.TxEnd (D.nf (D.qs l)) w) := by
  have HF := Lib.hid (refForm_valid ao cap l w h hr)
  obtain ⟨_, pl, _, _, il, ol⟩ := D.valid_qs h
  have HS : Hid (∀ bo bc V, D.Row V bo (D.normP l) → Calls Try.prog 73 #[.slice bo (D.normP l).length bc] V fun e w' => e = .returned (.tuple #[.int .i64 (D.inP (D.normP l)), .int .i64 (D.outP (D.normP l))]) ∧ V = w') := fun bo bc V hV => refSizes_any bo bc _ V hV (D.chk_normP h)
  have e1 : D.inP (D.normP l) = (D.inL (D.nf (D.qs l)) : Int) := D.inP_raw _
  have e2 : D.normP l = (D.nf (D.qs l)).map D.raw := rfl
  have pa := D.allPos_nf _ pl
  have hin : D.inL (D.nf (D.qs l)) ≤ 1048576 := by rw [D.inL_nf]; exact il
  have hout : D.outL (D.nf (D.qs l)) ≤ 1048576 := by rw [D.outL_nf]; exact ol
  have hlen : (D.nf (D.qs l)).length ≤ 4096 := by have := D.nf_length (D.qs l); have := (D.valid_qs h).2.2; omega
  rw [e1] at HS
  rw [e2, List.length_map] at HS
  rw [e2] at HF
  clear h hr pl il ol e1 e2
  generalize D.nf (D.qs l) = a at HF HS pa hin hout hlen ⊢
  generalize D.outP (a.map D.raw) = p2 at HS
  have hmk := run_make_row' (P := Try.prog) 73 9 (.string ⟨#[]⟩) 16 Try.underlying73 Try.infoStr rfl .i64 .i64 (D.inL a + 1) (by omega) (by omega)
  have Hpa := Lib.hid pa
  have hmL := Lib.hid (D.txT_len pa)
  obtain ⟨m, hm⟩ : ∃ m, Hid (D.inL a + 1 = m) := ⟨_, rfl⟩
  have hmI : ((D.inL a : Nat) : Int) + 1 = (m : Int) := by have := hm.out; omega
  rw [hm.out] at hmk
  have hmle : m ≤ 1048577 := by have := hm.out; omega
  clear pa
  go_enter Try.func48, Try.ntmps48
  go_wp2_with fail
  refine HF.out.mono ?_
  rintro e w1 ⟨v, rfl, hm1⟩
  obtain ⟨fo, fc, hv, hrow, _⟩ := C.made_src hm1
  rw [List.length_map] at hv
  subst hv
  have HS := Lib.hid (HS.out fo fc w1 hrow)
  have HR := Lib.hid (And.intro hrow hm1.below)
  clear hm1 hrow HF
  go_wp2_with fail
  refine HS.out.mono ?_
  rintro e w2 ⟨rfl, rfl⟩
  have H0 : Hid (T.TxAt a w1.heap.size m 0 w1 (w1.alloc (.cells (madeCells #[.string ⟨#[]⟩] m) 9))) := by
    refine ⟨?_, (Below.refl _ _).alloc (Nat.le_refl _) _⟩
    rw [D.txT_zero, hm.out, T.strV_nil]
    exact T.own_made w1 _ m _ _ (Nat.le_refl _) (by unfold maxLen; omega)
  obtain ⟨g, hg⟩ : ∃ g, Hid (w1.heap.size = g) := ⟨_, rfl⟩
  clear HS
  go_upto_region 3 with (fail)
  go_wp2
  generalize w1.alloc (.cells (madeCells #[.string ⟨#[]⟩] m) 9) = W2 at H0 ⊢
  rw [hg.out] at H0 ⊢
  clear hmk hmI
  go_loopw [7, 8] (fun p i wr => ∃ k : Nat, k ≤ a.length ∧ i = .int .i64 k ∧ p = .int .i64 (D.inL (a.take k) : Int) ∧ Hid (T.TxAt a g m k w1 wr)) (fun _ i _ => a.length - (intOf i).toNat)
  case atStart => exact ⟨0, Nat.zero_le _, rfl, rfl, H0⟩
  case round =>
    clear H0
    obtain ⟨k, hk, rfl, rfl, hx⟩ := hrel
    by_cases hlt : k < a.length
    · obtain ⟨q, hq⟩ : ∃ q, a[k]? = some q := ⟨a[k], List.getElem?_eq_getElem hlt⟩
      obtain ⟨t1, t2⟩ := D.txT_next Hpa.out k q hq
      have t3 := D.txT_at Hpa.out k
      have hlk := hmL.out k
      have hle := D.inL_take_le' a (k + 1)
      have hou := D.out_take_le a (k + 1)
      have hla : (D.col [] (a.take k)).2.length ≤ 1048576 := by have := D.col_last (a.take k); have := D.out_take_le a k; omega
      obtain ⟨c0, f0, hbg⟩ := C.own_cell hx.out.own (i := D.inL (a.take k)) (u := T.strV (D.col [] (a.take k)).2) (by rw [List.getElem?_map, t3]; rfl)
      have hnx : Hid (∀ wx, wx = wr.drew.setCell ⟨g, D.inL (a.take k), none⟩ (T.strV ((D.col [] (a.take k)).2 ++ D.txt1 q)) → T.TxAt a g m (k + 1) w1 wx) := fun wx hwx => by
        subst hwx
        refine ⟨?_, hx.out.below.drew.setCell (p := ⟨g, _, none⟩) hbg _⟩
        have := C.own_set hx.out.own.drew (D.inL (a.take k)) (T.strV ((D.col [] (a.take k)).2 ++ D.txt1 q))
        rw [t1, List.map_set]; exact this
      obtain ⟨b, o, e, hbl, hcell⟩ := HR.out.1 k (D.raw q) (by rw [List.getElem?_map, hq]; rfl)
      subst e
      rw [D.raw_txt, D.raw_n] at hcell
      obtain ⟨d0, d1, d2⟩ := D.cell3 (p := ⟨(D.raw q).k, (D.in1 q : Int), ⟨(D.txt1 q).toArray⟩⟩) hx.out.below hbl hcell
      have hbne : b ≠ g := by have := hg.out; omega
      have hbne2 : g ≠ b := by omega
      have hqt : (D.txt1 q).length ≤ 1048576 := by
        have h1 := D.txt_le_outL a (D.raw q) (List.mem_map_of_mem (List.mem_of_getElem? hq))
        rw [D.raw_txt, D.size_l] at h1; omega
      have ht2 := Lib.hid t2
      have hin2 : D.inL (a.take k) + D.in1 q ≤ 1048576 := by omega
      have hpm : D.inL (a.take k) < m := by have := hm.out; omega
      clear t1 t2 t3 hlk hle hou hq hcell hla
      obtain ⟨s, hs⟩ : ∃ s, Hid ((D.col [] (a.take k)).2 = s) := ⟨_, rfl⟩
      have hsl : s.length ≤ 1048576 := by rw [← hs.out]; have := D.col_last (a.take k); have := D.out_take_le a k; omega
      rw [hs.out] at c0 hnx
      generalize D.txt1 q = t at d2 hnx hqt
      obtain ⟨p, hp⟩ : ∃ p, Hid (D.inL (a.take k) = p) := ⟨_, rfl⟩
      rw [hp.out] at c0 f0 hnx hin2 hpm ht2 ⊢
      generalize D.in1 q = n1 at d1 hin2 ht2
      have sz1 : (⟨s.toArray⟩ : ByteArray).size = s.length := D.size_l s
      have sz2 : (⟨t.toArray⟩ : ByteArray).size = t.length := D.size_l t
      have hno : ¬ 9223372036854775807 < (⟨s.toArray⟩ : ByteArray).size + (⟨t.toArray⟩ : ByteArray).size := by omega
      have hadd := T.str_add s t
      unfold T.strV at c0 hnx
      have R := Lib.hid (hnx.out _ rfl)
      clear hnx hx sz1 sz2 hs hp
      go_upto_region 8 with (fail)
      go_region
      all_goals
        go_wp2
        go_roundw
        case rel => exact ⟨k + 1, by omega, by go_num, by rw [ht2.out]; go_num, R⟩
        case measure => simp [intOf]; omega
    · obtain rfl : k = a.length := by omega
      have R : Hid (T.TxEnd a w (.returned (.slice (some ⟨g, 0, none⟩) m m)) wr) := by
        have hown := hx.out.own
        rw [D.txT_end] at hown
        have hl : ((D.txs a).map T.strV).length = m := by rw [List.length_map, D.txs_len Hpa.out, hm.out]
        exact ⟨_, rfl, by rw [hl]; exact D.own_mono hown HR.out.2.size, HR.out.2.trans (hx.out.below.mono HR.out.2.size)⟩
      clear hx
      go_wp2
      go_ret
      exact R.out
/-- A row of yes and no that the call owns. -/
structure T.BlAt (x : List Bool) (w : World) (v : Value) (wr : World) : Prop where
  own : wr.ownsRow w.heap.size 4 1 v x.length (x.map Value.bool)
  below : Below w.heap.size w wr
def T.KpEnd (a : List D.Q) (w : World) (e : Ending) (w' : World) : Prop := ∃ v, e = .returned v ∧ w'.ownsRow w.heap.size 4 1 v ((D.kp a).map Value.bool).length ((D.kp a).map Value.bool) ∧ Below w.heap.size w w'
theorem T.kp_len_le (a : List D.Q) (k : Nat) : (D.kp (a.take k)).length ≤ D.inL a := by rw [D.kp_len]; exact D.inL_take_le' a k
set_option maxRecDepth 100000 in
set_option maxHeartbeats 4000000 in
theorem keeps7_any (ao : Option Addr) (cap : Nat) (l : List D.P) (w : World) (h : D.chk l = 0) (hr : D.Row w ao l) :
    Calls Try.prog 49 #[.slice ao l.length cap] w (T.KpEnd (D.qs l) w) := by
  obtain ⟨e0, pl, hll, hlen, il, ol⟩ := D.valid_qs h
  rw [← e0] at hr
  rw [← hll] at hlen ⊢
  clear e0 hll h ol
  generalize D.qs l = a at hr pl hlen il ⊢
  have Hr := Lib.hid hr
  obtain ⟨ib, i0, i1, i2, i3⟩ := info_parts Try.infoBool
  have Hi := Lib.hid (And.intro i0 (And.intro i1 (And.intro i2 i3)))
  have Hpl := Lib.hid pl
  clear i0 i1 i2 i3 hr pl
  go_enter Try.func49, Try.ntmps49
  go_wp2
  go_loopw [3, 4] (fun v i wr => ∃ k : Nat, k ≤ a.length ∧ i = .int .i64 k ∧ Hid (T.BlAt (D.kp (a.take k)) w v wr)) (fun _ i _ => a.length - (intOf i).toNat)
  case atStart => exact ⟨0, Nat.zero_le _, rfl, ⟨World.ownsRow_nil _ _ _ _, Below.refl _ _⟩⟩
  case round =>
    obtain ⟨k, hk, rfl, hx⟩ := hrel
    by_cases hlt : k < a.length
    · obtain ⟨q, hq⟩ : ∃ q, a[k]? = some q := ⟨a[k], List.getElem?_eq_getElem hlt⟩
      have hkt := Lib.hid (D.kp_take a k q hq)
      obtain ⟨b, o, e, hbl, hcell⟩ := Hr.out k (D.raw q) (by rw [List.getElem?_map, hq]; rfl)
      subst e
      rw [D.raw_n] at hcell
      have hkl := T.kp_len_le a (k + 1)
      rw [hkt.out, List.length_append] at hkl
      have hk1 : Hid (0 < D.in1 q → ((D.raw q).k == 1) = D.kb1 q) := fun _ => by cases q <;> first | rfl | exact absurd (by assumption) (by show ¬ 0 < 0; omega)
      obtain ⟨X, hX⟩ : ∃ X, Hid (D.kp (a.take k) = X) := ⟨_, rfl⟩
      rw [hX.out] at hx hkt hkl
      have hkq : (D.kpq q).length = D.in1 q := by unfold D.kpq; rw [List.length_replicate]
      rw [hkq] at hkl
      have hkpq : Hid (D.kpq q = List.replicate (D.in1 q) (D.kb1 q)) := rfl
      generalize D.kpq q = KQ at hkt hkpq hkq
      generalize D.in1 q = n at hcell hkl hkpq hkq hk1
      generalize D.kb1 q = kb at hkpq hk1
      generalize (D.raw q).k = qk at hcell hk1
      generalize (D.raw q).t = qt at hcell
      obtain ⟨W0, rfl⟩ : ∃ W0 : World, W0 = wr := ⟨_, rfl⟩
      go_wp2
      go_loopw [3, 5] (fun v i wx => ∃ m : Nat, m ≤ n ∧ i = .int .i64 m ∧ Hid (T.BlAt (X ++ List.replicate m kb) w v wx)) (fun _ i _ => n - (intOf i).toNat)
      case atStart => exact ⟨0, Nat.zero_le _, rfl, by show T.BlAt _ _ _ _; rw [List.replicate_zero, List.append_nil]; exact hx.out⟩
      case round =>
        obtain ⟨m, hm, rfl, hy⟩ := hrel
        obtain ⟨c0, c1, c2⟩ := D.cell3 (p := ⟨qk, (n : Int), qt⟩) hy.out.below hbl hcell
        by_cases hmn : m < n
        · have hkk := hk1.out (by omega)
          obtain ⟨Z, hZ⟩ : ∃ Z, Hid (X ++ List.replicate m kb = Z) := ⟨_, rfl⟩
          have hZl : Z.length ≤ 2000000 := by rw [← hZ.out, List.length_append, List.length_replicate]; omega
          rw [hZ.out] at hy
          have hsz := hy.out.below.size
          obtain ⟨tb, tc, rfl⟩ := D.slice_of_own hy.out.own
          go_wp2_with (at_builtin; refine wpList_append_own _ rfl _ _ 44 rfl w.heap.size 4 ib (.bool false) 1 1 Try.underlying44 Hi.out.1 Hi.out.2.1 Hi.out.2.2.1 Hi.out.2.2.2 rfl (by decide) _ _ _ rfl (hy.out.own.alloc _) ⟨wr.heap.size, 0, none⟩ 1 1 [.bool kb] rfl rfl ?a1 ?a2 ?a3 ?a4 ?a5 ?_)
          case a2 => rfl
          case a3 => unfold maxLen; omega
          case a4 => omega
          case a5 => (try simp only [World.size_alloc]); omega
          intro v' w3 hown' hgrow _
          have R : Hid (T.BlAt (X ++ List.replicate (m + 1) kb) w v' w3) := by
            refine ⟨?_, (hy.out.below.alloc hsz _).grown hgrow (by simp only [World.size_alloc]; omega) (fun k e => (hy.out.own.lt k e).1)⟩
            have e : X ++ List.replicate (m + 1) kb = Z ++ [kb] := by
              rw [← hZ.out, List.replicate_succ', List.append_assoc]
            rw [e, List.map_append, List.length_append]
            exact hown'
          clear hown' hgrow
          go_wp2
          go_roundw
          case rel => exact ⟨m + 1, by omega, by go_num, R⟩
          case measure => simp [intOf]; omega
        · obtain rfl : m = n := by omega
          have R : Hid (T.BlAt (D.kp (a.take (k + 1))) w u3 wr) := by
            show T.BlAt _ _ _ _
            rw [hkt.out, hkpq.out]; exact hy.out
          go_wp2
          go_roundw
          case rel => exact ⟨k + 1, by omega, by go_num, R⟩
          case measure => simp [intOf]; omega
    · obtain rfl : k = a.length := by omega
      have R : Hid (T.KpEnd a w (.returned u3) wr) := by
        have h := hx.out
        rw [List.take_length] at h
        exact ⟨_, rfl, by rw [List.length_map]; exact h.own, h.below⟩
      go_wp2
      go_ret
      exact R.out
set_option maxRecDepth 100000 in
set_option maxHeartbeats 2000000 in
theorem typed7_any (base : Nat) (v : Value) (X : List Int) (t : List UInt8) (w : World) (h : w.ownsRow base 3 1 v X.length (D.intsL X)) (hb : base ≤ w.heap.size) (hl : X.length + t.length ≤ 1000000) :
    Calls Try.prog 63 #[v, .string ⟨t.toArray⟩] w fun e w' => ∃ v', e = .returned v' ∧ w'.ownsRow base 3 1 v' (X ++ t.map D.neg).length (D.intsL (X ++ t.map D.neg)) ∧ Below base w w' := by
  obtain ⟨ii, i0, i1, i2, i3⟩ := info_parts Try.infoInt
  have Hi := Lib.hid (And.intro i0 (And.intro i1 (And.intro i2 i3)))
  have hsz : (⟨t.toArray⟩ : ByteArray).size = t.length := D.size_l t
  clear i0 i1 i2 i3
  obtain ⟨va, vc, rfl⟩ := D.slice_of_own h
  have H0 := Lib.hid h
  clear h
  go_enter Try.func63, Try.ntmps63
  go_wp2
  go_loopw [0, 5] (fun v i wr => ∃ m : Nat, m ≤ t.length ∧ i = .int .i64 m ∧ Hid (wr.ownsRow base 3 1 v (X ++ (t.take m).map D.neg).length (D.intsL (X ++ (t.take m).map D.neg)) ∧ Below base w wr)) (fun _ i _ => t.length - (intOf i).toNat)
  case atStart => exact ⟨0, Nat.zero_le _, rfl, by show _ ∧ _; rw [List.take_zero, List.map_nil, List.append_nil]; exact ⟨H0.out, Below.refl _ _⟩⟩
  case round =>
    clear H0
    obtain ⟨m, hm, rfl, hy⟩ := hrel
    by_cases hmt : m < t.length
    · obtain ⟨Z, hZ⟩ : ∃ Z, Hid (X ++ (t.take m).map D.neg = Z) := ⟨_, rfl⟩
      have hZl : Z.length ≤ 1000000 := by
        rw [← hZ.out, List.length_append, List.length_map, List.length_take]
        have := Nat.min_le_left m t.length; omega
      rw [hZ.out] at hy
      have hbs := Nat.le_trans hb hy.out.2.size
      obtain ⟨tb, tc, rfl⟩ := D.slice_of_own hy.out.1
      have hmz : m < (⟨t.toArray⟩ : ByteArray).size := by omega
      have hb8 : ((⟨t.toArray⟩ : ByteArray)[m]).toNat < 256 := UInt8.toNat_lt _
      go_wp2_with (at_builtin; refine wpList_append_own _ rfl _ _ 90 rfl base 3 ii (.int .i64 0) 1 8 Try.underlying90 Hi.out.1 Hi.out.2.1 Hi.out.2.2.1 Hi.out.2.2.2 rfl (by decide) _ _ _ rfl (hy.out.1.alloc _) ⟨wr.heap.size, 0, none⟩ 1 1 [.int .i64 (-1 - ((⟨t.toArray⟩ : ByteArray)[m]).toNat)] rfl rfl ?b1 ?b2 ?b3 ?b4 ?b5 ?_)
      case b1 => exact D.news _ _ _
      case b2 => intro u hu; rw [List.mem_singleton.1 hu]; rfl
      case b3 => unfold maxLen; omega
      case b4 => omega
      case b5 => (try simp only [World.size_alloc]); omega
      intro v' w3 hown' hgrow _
      have R : Hid (w3.ownsRow base 3 1 v' (X ++ (t.take (m + 1)).map D.neg).length (D.intsL (X ++ (t.take (m + 1)).map D.neg)) ∧ Below base w w3) := by
        refine ⟨?_, (hy.out.2.alloc hbs _).grown hgrow (by simp only [World.size_alloc]; omega) (fun k e => (hy.out.1.lt k e).1)⟩
        have e : X ++ (t.take (m + 1)).map D.neg = Z ++ [D.neg t[m]] := by
          rw [← hZ.out, List.take_add_one, List.getElem?_eq_getElem hmt, List.map_append, List.append_assoc]; rfl
        rw [e, D.intsL_append, List.length_append]
        exact hown'
      clear hown' hgrow
      go_wp2
      go_roundw
      case rel => exact ⟨m + 1, by omega, by go_num, R⟩
      case measure => simp [intOf]; omega
    · obtain rfl : m = t.length := by omega
      have R := hy
      rw [List.take_length] at R
      go_wp2
      go_ret
      exact ⟨_, rfl, R.out⟩
end Go.Proofs.Ytmljagkndnobdaa
/- TransRef2 -/
namespace Go.Proofs.Ytmljagkndnobdaa
open Go.RowKit

set_option maxRecDepth 100000 in
set_option maxHeartbeats 1000000 in
theorem checks7_any (ao bo : Option Addr) (ca cb : Nat) (x y : List D.P) (w : World) (ha : D.Row w ao x) (hb : D.Row w bo y) (bx : D.Bd x) (by_ : D.Bd y) :
    Calls Try.prog 34 #[.slice ao x.length ca, .slice bo y.length cb] w fun e w' => e = .returned (.int .i64 (D.bas2 x y)) ∧ Below w.heap.size w w' := by
  have H1 := Lib.hid (refLengths_any ao ca x w bx.1 ha bx.2)
  have H2 : Hid (∀ V, Below w.heap.size w V → Calls Try.prog 62 #[.slice bo y.length cb] V fun e w' => e = .returned (.tuple #[.int .i64 (if D.chk y = 0 then D.inP y else 0), .int .i64 (if D.chk y = 0 then D.outP y else 0), .int .i64 (D.chk y)]) ∧ Below V.heap.size V w') := fun V h => refLengths_any bo cb y V by_.1 (hb.below h) by_.2
  clear ha hb bx by_
  by_cases h0 : D.chk x = 0
  · rw [if_pos h0, if_pos h0, h0] at H1
    by_cases h1 : D.chk y = 0
    · rw [if_pos h1, if_pos h1, h1] at H2
      have hf : D.bas2 x y = if D.inP x = D.inP y then 0 else 21 := by unfold D.bas2; rw [if_pos h0, if_pos h1]
      rw [hf]
      clear h0 h1 hf
      generalize D.outP x = p3 at H1
      generalize D.outP y = p4 at H2
      generalize D.inP x = p1 at H1 ⊢
      generalize D.inP y = p2 at H2 ⊢
      by_cases h2 : p1 = p2
      · subst h2
        have q : (p1 != p1) = false := by simp
        rw [if_pos rfl]
        go_enter Try.func34, Try.ntmps34
        go_wp2_with fail
        refine H1.out.mono ?_
        rintro e w1 ⟨rfl, hb1⟩
        have H2 := Lib.hid (H2.out w1 hb1)
        have hb1 := Lib.hid hb1
        go_wp2_with fail
        refine H2.out.mono ?_
        rintro e w2 ⟨rfl, hb2⟩
        have R := Lib.hid (hb1.out.trans (hb2.mono hb1.out.size))
        clear hb2
        go_wp2
        go_ret
        exact ⟨rfl, R.out⟩
      · have q : (p1 != p2) = true := by simp [h2]
        rw [if_neg h2]
        go_enter Try.func34, Try.ntmps34
        go_wp2_with fail
        refine H1.out.mono ?_
        rintro e w1 ⟨rfl, hb1⟩
        have H2 := Lib.hid (H2.out w1 hb1)
        have hb1 := Lib.hid hb1
        go_wp2_with fail
        refine H2.out.mono ?_
        rintro e w2 ⟨rfl, hb2⟩
        have R := Lib.hid (hb1.out.trans (hb2.mono hb1.out.size))
        clear hb2
        go_wp2
        go_ret
        exact ⟨rfl, R.out⟩
    · have hf : D.bas2 x y = D.chk y := by unfold D.bas2; rw [if_pos h0, if_neg h1]
      have q : (D.chk y == 0) = false := by simpa using h1
      rw [hf]
      rw [if_neg h1, if_neg h1] at H2
      clear h0 h1 hf
      generalize D.outP x = p3 at H1
      generalize D.inP x = p1 at H1
      generalize D.chk y = c at H2 q ⊢
      go_enter Try.func34, Try.ntmps34
      go_wp2_with fail
      refine H1.out.mono ?_
      rintro e w1 ⟨rfl, hb1⟩
      have H2 := Lib.hid (H2.out w1 hb1)
      have hb1 := Lib.hid hb1
      go_wp2_with fail
      refine H2.out.mono ?_
      rintro e w2 ⟨rfl, hb2⟩
      have R := Lib.hid (hb1.out.trans (hb2.mono hb1.out.size))
      clear hb2
      go_wp2
      go_ret
      exact ⟨rfl, R.out⟩
  · have hf : D.bas2 x y = D.chk x := by unfold D.bas2; rw [if_neg h0]
    have q : (D.chk x != 0) = true := by simpa using h0
    rw [hf]
    rw [if_neg h0, if_neg h0] at H1
    clear h0 hf H2
    generalize D.chk x = c at H1 q ⊢
    go_enter Try.func34, Try.ntmps34
    go_wp2_with fail
    refine H1.out.mono ?_
    rintro e w1 ⟨rfl, hb1⟩
    have R := Lib.hid hb1
    clear hb1
    go_wp2
    go_ret
    exact ⟨rfl, R.out⟩
/-- A row of numbers, owned since W5. -/
structure T.IntAt (W5 : World) (x : List Int) (v : Value) (wr : World) : Prop where
  own : wr.ownsRow W5.heap.size 3 1 v x.length (D.intsL x)
  below : Below W5.heap.size W5 wr
/-- Between two rounds. -/
def T.AgAt (first : Bool) (ca : List D.Col) (sl : List UInt8) (cb : List D.Col) (tl : List UInt8) (p i : Nat) (W5 : World) (v : Value) (wr : World) : Prop := ∃ out, T.IntAt W5 out v wr ∧ D.Ag first ca sl cb tl p i out
/-- A row in old memory, by its places. -/
theorem T.VRow.at_ {W : World} {ao : Option Addr} {l : List Value} (h : T.VRow W ao l) : ∀ (i : Nat) (x : Value), l[i]? = some x → ∃ b o, ao = some ⟨b, o, none⟩ ∧ b < W.heap.size ∧ W.cell? ⟨b, o + i, none⟩ = some x := h
theorem T.vrow_at {W : World} {ao : Option Addr} {l : List Value} (h : T.VRow W ao l) : ∀ (i : Nat) (x : Value), l[i]? = some x → ∃ b o, ao = some ⟨b, o, none⟩ ∧ b < W.heap.size ∧ W.cell? ⟨b, o + i, none⟩ = some x := h
theorem T.of_tf {first : Bool} {x y : List D.P} (b : D.Bas x y) : D.good (D.outL (D.qs x)) 0 (D.tfE first 0 (D.cA (D.qs x)) (D.cZ (D.qs x)) (D.cA (D.qs y)) (D.cZ (D.qs y))) ∧ (D.nf (D.ofQ (D.outL (D.qs x)) 0 (D.tfE first 0 (D.cA (D.qs x)) (D.cZ (D.qs x)) (D.cA (D.qs y)) (D.cZ (D.qs y))))).map D.raw = D.tfP first x y := by
  have t := b.tf first
  have px := (D.valid_qs b.a).2.1
  have py := (D.valid_qs b.b).2.1
  have hg := D.good_of (D.tf first (D.qs x) (D.qs y))
  rw [t.inn, t.ats] at hg
  refine ⟨hg, ?_⟩
  obtain ⟨s1, s2, s3⟩ := D.ofQ_spec _ _ 0 (Nat.zero_le _) hg
  have := D.tf_unique (first := first) px py b.m s3 (by rw [s2]; rfl) (by rw [s1, t.ats])
  unfold D.tfP
  rw [this]
/-- What a round meets at offset p. -/
theorem T.cols_at {first : Bool} {x y : List D.P} (b : D.Bas x y) {p i n : Nat} {out : List Int} (hn : D.inL (D.qs x) = n) (h : D.Ag first (D.cA (D.qs x)) (D.cZ (D.qs x)) (D.cA (D.qs y)) (D.cZ (D.qs y)) p i out) (hp : p ≤ n) :
    ∃ s t, ((D.txs (D.nf (D.qs x))).map T.strV)[p]? = some (T.strV s) ∧ ((D.txs (D.nf (D.qs y))).map T.strV)[p]? = some (T.strV t) ∧ s.length ≤ D.outL (D.qs x) ∧ t.length ≤ D.outL (D.qs y) ∧
      (p < n → ∃ k l, ((D.kp (D.qs x)).map Value.bool)[p]? = some (.bool k) ∧ ((D.kp (D.qs y)).map Value.bool)[p]? = some (.bool l) ∧ D.Ag first (D.cA (D.qs x)) (D.cZ (D.qs x)) (D.cA (D.qs y)) (D.cZ (D.qs y)) (p + 1) (i + s.length + (if k then 1 else 0)) (out ++ D.blkE first i s t ++ (if k && l then [((i + s.length : Nat) : Int)] else []))) ∧
      (p = n → D.Ag first (D.cA (D.qs x)) (D.cZ (D.qs x)) (D.cA (D.qs y)) (D.cZ (D.qs y)) (p + 1) (i + s.length) (out ++ D.blkE first i s t)) := by
  have px := (D.valid_qs b.a).2.1
  have py := (D.valid_qs b.b).2.1
  have lx := (D.cols_of px).1
  have ly := (D.cols_of py).1
  have hm := b.m
  by_cases hlt : p < n
  · obtain ⟨⟨s, k⟩, hs⟩ : ∃ c, (D.cA (D.qs x))[p]? = some c := ⟨(D.cA (D.qs x))[p]'(by omega), List.getElem?_eq_getElem (by omega)⟩
    obtain ⟨⟨t, l⟩, ht⟩ : ∃ c, (D.cA (D.qs y))[p]? = some c := ⟨(D.cA (D.qs y))[p]'(by omega), List.getElem?_eq_getElem (by omega)⟩
    have e1 := D.txs_at hs
    have e2 := D.txs_at ht
    refine ⟨s, t, by rw [List.getElem?_map, e1]; rfl, by rw [List.getElem?_map, e2]; rfl, ?_, ?_, fun _ => ⟨k, l, by rw [List.getElem?_map, D.kp_at px hs]; rfl, by rw [List.getElem?_map, D.kp_at py ht]; rfl, h.next hs ht⟩, fun e => by omega⟩
    · have := D.txs_bd _ s (List.mem_of_getElem? e1); rwa [D.outL_nf] at this
    · have := D.txs_bd _ t (List.mem_of_getElem? e2); rwa [D.outL_nf] at this
  · obtain rfl : p = n := by omega
    have e1 := D.txs_last (a := D.qs x)
    have e2 := D.txs_last (a := D.qs y)
    rw [show (D.cA (D.qs x)).length = p by omega] at e1
    rw [show (D.cA (D.qs y)).length = p by omega] at e2
    refine ⟨D.cZ (D.qs x), D.cZ (D.qs y), by rw [List.getElem?_map, e1]; rfl, by rw [List.getElem?_map, e2]; rfl, ?_, ?_, fun e => by omega, fun _ => ?_⟩
    · have := D.txs_bd _ _ (List.mem_of_getElem? e1); rwa [D.outL_nf] at this
    · have := D.txs_bd _ _ (List.mem_of_getElem? e2); rwa [D.outL_nf] at this
    · have hp2 : p = (D.cA (D.qs x)).length := by omega
      subst hp2
      exact h.last (by omega)
def T.TfEnd (first : Bool) (x y : List D.P) (w : World) (e : Ending) (w' : World) : Prop := ∃ v, e = .returned v ∧ D.Made (D.tfP first x y) w v w'
set_option maxRecDepth 100000 in
set_option maxHeartbeats 8000000 in
theorem against_true (ao bo : Option Addr) (ca0 cb0 : Nat) (x y : List D.P) (w : World) (ha : D.Row w ao x) (hb : D.Row w bo y) (b : D.Bas x y) (hbd : D.outL (D.qs x) + D.outL (D.qs y) ≤ 100000) :
    Calls Try.prog 35 #[.slice ao x.length ca0, .slice bo y.length cb0, .bool true] w (T.TfEnd true x y w) := by
  have H1 := Lib.hid (texts7_any ao ca0 x w b.a ha)
  have H2 : Hid (∀ V, Below w.heap.size w V → Calls Try.prog 48 #[.slice bo y.length cb0] V (T.TxEnd (D.nf (D.qs y)) V)) := fun V h => texts7_any bo cb0 y V b.b (hb.below h)
  have H3 : Hid (∀ V, Below w.heap.size w V → Calls Try.prog 49 #[.slice ao x.length ca0] V (T.KpEnd (D.qs x) V)) := fun V h => keeps7_any ao ca0 x V b.a (ha.below h)
  have H4 : Hid (∀ V, Below w.heap.size w V → Calls Try.prog 49 #[.slice bo y.length cb0] V (T.KpEnd (D.qs y) V)) := fun V h => keeps7_any bo cb0 y V b.b (hb.below h)
  obtain ⟨ii, i0, i1, i2, i3⟩ := info_parts Try.infoInt
  have Hi := Lib.hid (And.intro i0 (And.intro i1 (And.intro i2 i3)))
  clear i0 i1 i2 i3
  obtain ⟨_, px, _, _, ix, ox⟩ := D.valid_qs b.a
  obtain ⟨_, py, _, _, iy, oy⟩ := D.valid_qs b.b
  obtain ⟨n, hn⟩ : ∃ n, Hid (D.inL (D.qs x) = n) := ⟨_, rfl⟩
  have hnle : n ≤ 1048576 := by have := hn.out; omega
  have l1 : ((D.txs (D.nf (D.qs x))).map T.strV).length = n + 1 := by rw [List.length_map, D.txs_len (D.allPos_nf _ px), D.inL_nf, hn.out]
  have l2 : ((D.txs (D.nf (D.qs y))).map T.strV).length = n + 1 := by rw [List.length_map, D.txs_len (D.allPos_nf _ py), D.inL_nf, ← b.m, hn.out]
  have l3 : ((D.kp (D.qs x)).map Value.bool).length = n := by rw [List.length_map, D.kp_len, hn.out]
  have l4 : ((D.kp (D.qs y)).map Value.bool).length = n := by rw [List.length_map, D.kp_len, ← b.m, hn.out]
  have hcols := Lib.hid (fun p i out h hp => T.cols_at (first := true) b (p := p) (i := i) (n := n) (out := out) hn.out h hp)
  have hof := Lib.hid (T.of_tf (first := true) b)
  have lca : (D.cA (D.qs x)).length = n := by rw [(D.cols_of px).1, hn.out]
  have lcb : (D.cA (D.qs y)).length = n := by rw [(D.cols_of py).1, ← b.m, hn.out]
  have hent : (D.ent 0 (D.cA (D.qs x)) (D.cZ (D.qs x))).length = D.outL (D.qs x) := by rw [(D.cols_of px).2, D.atoms_length]
  have htl := D.tfE_len true (D.cA (D.qs x)) (D.cZ (D.qs x)) (D.cZ (D.qs y)) (D.cA (D.qs y)) 0 0 (by omega)
  rw [(D.cols_of py).2, D.atoms_length, hent] at htl
  have Hlen := Lib.hid (And.intro lca (And.intro lcb (And.intro hent htl)))
  have h0 := Lib.hid (D.Ag.zero true (D.cA (D.qs x)) (D.cZ (D.qs x)) (D.cA (D.qs y)) (D.cZ (D.qs y)))
  unfold T.TxEnd at H1 H2
  unfold T.KpEnd at H3 H4
  rw [l1] at H1
  rw [l2] at H2
  rw [l3] at H3
  rw [l4] at H4
  generalize (D.txs (D.nf (D.qs x))).map T.strV = XS at H1 hcols l1
  generalize (D.txs (D.nf (D.qs y))).map T.strV = YS at H2 hcols l2
  generalize (D.kp (D.qs x)).map Value.bool = KA at H3 hcols l3
  generalize (D.kp (D.qs y)).map Value.bool = KB at H4 hcols l4
  generalize D.cA (D.qs x) = ca at hcols hof Hlen h0
  generalize D.cZ (D.qs x) = sl at hcols hof Hlen h0
  generalize D.cA (D.qs y) = cb at hcols hof Hlen h0
  generalize D.cZ (D.qs y) = tl at hcols hof Hlen h0
  clear ha hb b px py ix ox iy oy lca lcb hent htl hn
  generalize D.outL (D.qs x) = ox at hcols hof Hlen hbd
  generalize D.outL (D.qs y) = oy at hcols Hlen hbd
  obtain ⟨m, hm⟩ : ∃ m, Hid (n + 1 = m) := ⟨_, rfl⟩
  rw [hm.out] at H1 H2 l1 l2
  go_enter Try.func35, Try.ntmps35
  go_wp2_with fail
  refine H1.out.mono ?_
  rintro e w1 ⟨v1, rfl, ho1, hb1⟩
  rw [← l1] at ho1
  obtain ⟨xo, xc, hv1, hxr⟩ := T.vrow_of ho1
  rw [l1] at hv1
  subst hv1
  have H2 := Lib.hid (H2.out w1 hb1)
  have B1 := Lib.hid (And.intro hb1 hxr)
  clear ho1 hb1 hxr H1
  go_wp2_with fail
  refine H2.out.mono ?_
  rintro e w2 ⟨v2, rfl, ho2, hb2⟩
  rw [← l2] at ho2
  obtain ⟨yo, yc, hv2, hyr⟩ := T.vrow_of ho2
  rw [l2] at hv2
  subst hv2
  have B2 := Lib.hid (And.intro (B1.out.1.trans (hb2.mono B1.out.1.size)) (And.intro (B1.out.2.below hb2) hyr))
  have H3 := Lib.hid (H3.out w2 B2.out.1)
  clear ho2 hb2 hyr H2 B1
  go_wp2_with fail
  refine H3.out.mono ?_
  rintro e w3 ⟨v3, rfl, ho3, hb3⟩
  rw [← l3] at ho3
  obtain ⟨ko, kc, hv3, hkr⟩ := T.vrow_of ho3
  rw [l3] at hv3
  subst hv3
  have B3 := Lib.hid (And.intro (B2.out.1.trans (hb3.mono B2.out.1.size)) (And.intro (B2.out.2.1.below hb3) (And.intro (B2.out.2.2.below hb3) hkr)))
  have H4 := Lib.hid (H4.out w3 B3.out.1)
  clear ho3 hb3 hkr H3 B2
  go_wp2_with fail
  refine H4.out.mono ?_
  rintro e W5 ⟨v4, rfl, ho4, hb4⟩
  rw [← l4] at ho4
  obtain ⟨jo, jc, hv4, hjr⟩ := T.vrow_of ho4
  rw [l4] at hv4
  subst hv4
  have BW := Lib.hid (B3.out.1.trans (hb4.mono B3.out.1.size))
  have HXS := Lib.hid (T.vrow_at (B3.out.2.1.below hb4))
  have HYS := Lib.hid (T.vrow_at (B3.out.2.2.1.below hb4))
  have HKA := Lib.hid (T.vrow_at (B3.out.2.2.2.below hb4))
  have HKB := Lib.hid (T.vrow_at hjr)
  have H0 : Hid (T.AgAt true ca sl cb tl 0 0 W5 (.slice none 0 0) W5) := ⟨[], ⟨World.ownsRow_nil _ _ _ _, Below.refl _ _⟩, h0.out⟩
  clear ho4 hb4 hjr H4 B3 h0 l1 l2 l3 l4
  go_wp2
  go_loopw [11, 12, 13] (fun v a j wr => ∃ p i : Nat, p ≤ m ∧ j = .int .i64 p ∧ a = .int .i64 i ∧ Hid (T.AgAt true ca sl cb tl p i W5 v wr)) (fun _ _ j _ => m - (intOf j).toNat)
  case atStart => exact ⟨0, 0, Nat.zero_le _, rfl, rfl, H0⟩
  case round =>
    clear H0
    obtain ⟨p, i, hp, rfl, rfl, hrel2⟩ := hrel
    obtain ⟨out, hia, hag⟩ := hrel2.out
    have hle := hag.le
    have hol : out.length ≤ 100000 := by have := Hlen.out.2.2.2; omega
    have hil : i ≤ 100000 := by have := Hlen.out.2.2.1; omega
    have hx := Lib.hid hia
    have hg := Lib.hid hag
    have hmn := hm.out
    clear hrel2 hia hag hle
    by_cases hlt : p < m
    · obtain ⟨s, t, hs, ht, hsl, htl, hc1, hc2⟩ := hcols.out p i out hg.out (by omega)
      have hcol := Lib.hid (And.intro hc1 hc2)
      obtain ⟨bx, ox', ex, bx1, bx2⟩ := HXS.out p _ hs
      obtain ⟨by_, oy', ey, by1, by2⟩ := HYS.out p _ ht
      subst ex ey
      unfold T.strV at bx2 by2
      have c0 := ((D.bcell hx.out.below).1 _ _ bx1).trans bx2
      have c1 := ((D.bcell hx.out.below).1 _ _ by1).trans by2
      have sz1 : (⟨s.toArray⟩ : ByteArray).size = s.length := D.size_l s
      have sz2 : (⟨t.toArray⟩ : ByteArray).size = t.length := D.size_l t
      clear hs ht hc1 hc2 hg
      obtain ⟨va, vc, rfl⟩ := D.slice_of_own hx.out.own
      obtain ⟨Y, hY⟩ : ∃ Y, Hid (out = Y) := ⟨_, rfl⟩
      have hYl : Y.length ≤ 200000 := by rw [← hY.out]; omega
      rw [hY.out] at hx
      have H6 : Hid (T.IntAt W5 Y (.slice va Y.length vc) wr) := ⟨hx.out.own, hx.out.below⟩
      obtain ⟨w6, rfl⟩ : ∃ w6 : World, w6 = wr := ⟨_, rfl⟩
      rw [show out.length = Y.length by rw [hY.out]]
      clear hx
      go_wp2
      go_loopw [11, 12, 14] (fun v a j wx => ∃ c : Nat, c ≤ s.length ∧ j = .int .i64 c ∧ a = .int .i64 ((i + c : Nat) : Int) ∧ Hid (T.IntAt W5 (Y ++ D.run i c) v wx)) (fun _ _ j _ => s.length - (intOf j).toNat)
      case atStart => exact ⟨0, Nat.zero_le _, rfl, rfl, by show T.IntAt _ _ _ _; rw [D.run_zero, List.append_nil]; exact H6.out⟩
      case round =>
        clear H6 c0 c1
        obtain ⟨c, hc, rfl, rfl, hy⟩ := hrel
        have c0 := ((D.bcell hy.out.below).1 _ _ bx1).trans bx2
        have c1 := ((D.bcell hy.out.below).1 _ _ by1).trans by2
        by_cases hcs : c < s.length
        · obtain ⟨Z, hZ⟩ : ∃ Z, Hid (Y ++ D.run i c = Z) := ⟨_, rfl⟩
          have hZl : Z.length ≤ 400000 := by rw [← hZ.out, List.length_append]; unfold D.run; rw [List.length_map, List.length_range]; omega
          rw [hZ.out] at hy
          have hsz7 := hy.out.below.size
          obtain ⟨tb, tc, rfl⟩ := D.slice_of_own hy.out.own
          go_wp2_with (at_builtin; refine wpList_append_own _ rfl _ _ 90 rfl W5.heap.size 3 ii (.int .i64 0) 1 8 Try.underlying90 Hi.out.1 Hi.out.2.1 Hi.out.2.2.1 Hi.out.2.2.2 rfl (by decide) _ _ _ rfl (hy.out.own.alloc _) ⟨wr.heap.size, 0, none⟩ 1 1 [.int .i64 ((i + c : Nat) : Int)] rfl rfl ?f1 ?f2 ?f3 ?f4 ?f5 ?_)
          try (case f1 => exact D.news _ _ _)
          try (case f2 => first | rfl | (intro u hu; rw [List.mem_singleton.1 hu]; rfl))
          case f3 => unfold maxLen; omega
          case f4 => omega
          case f5 => (try simp only [World.size_alloc]); omega
          intro v' w7 hown' hgrow _
          have R : Hid (T.IntAt W5 (Y ++ D.run i (c + 1)) v' w7) := by
            refine ⟨?_, (hy.out.below.alloc hsz7 _).grown hgrow (by simp only [World.size_alloc]; omega) (fun k e => (hy.out.own.lt k e).1)⟩
            have e : Y ++ D.run i (c + 1) = Z ++ [((i + c : Nat) : Int)] := by
              rw [← hZ.out]; unfold D.run; rw [List.range_succ, List.map_append, List.append_assoc]; rfl
            rw [e, D.intsL_append, List.length_append]
            exact hown'
          clear hown' hgrow hy
          go_wp2
          go_roundw
          case rel => exact ⟨c + 1, by omega, by go_num, by go_num, R⟩
          case measure => simp [intOf]; omega
        · obtain rfl : c = s.length := by omega
          obtain ⟨Z, hZ⟩ : ∃ Z, Hid (Y ++ D.run i s.length = Z) := ⟨_, rfl⟩
          have hZl : Z.length ≤ 400000 := by rw [← hZ.out, List.length_append]; unfold D.run; rw [List.length_map, List.length_range]; omega
          rw [hZ.out] at hy
          obtain ⟨tb, tc, rfl⟩ := D.slice_of_own hy.out.own
          have HT : Hid (Calls Try.prog 63 #[.slice tb Z.length tc, .string ⟨t.toArray⟩] wr fun e w' => ∃ v', e = .returned v' ∧ w'.ownsRow W5.heap.size 3 1 v' (Z ++ t.map D.neg).length (D.intsL (Z ++ t.map D.neg)) ∧ Below W5.heap.size wr w') := typed7_any W5.heap.size _ Z t wr hy.out.own hy.out.below.size (by omega)
          obtain ⟨Z2, hZ2⟩ : ∃ Z2, Hid (Z ++ t.map D.neg = Z2) := ⟨_, rfl⟩
          have hZl2 : Z2.length ≤ 600000 := by rw [← hZ2.out, List.length_append, List.length_map]; omega
          have hblk : Hid (out ++ D.blkE true i s t = Z2) := by
            show _ = _
            rw [← hZ2.out, ← hZ.out, ← hY.out, List.append_assoc]; rfl
          rw [hZ2.out] at HT
          go_wp2_with fail
          refine HT.out.mono ?_
          rintro e w8 ⟨v8, rfl, ho8, hb8⟩
          obtain ⟨va8, vc8, rfl⟩ := D.slice_of_own ho8
          have H8 : Hid (T.IntAt W5 Z2 (.slice va8 Z2.length vc8) w8) := ⟨ho8, hy.out.below.trans hb8⟩
          clear ho8 hb8 HT hy c0 c1
          have hsz8 := H8.out.below.size
          by_cases hpn : p < n
          · obtain ⟨k, l, hka, hkb, hnx⟩ := hcol.out.1 hpn
            obtain ⟨q1, q2, q3, q4, q5⟩ := HKA.out p _ hka
            obtain ⟨r1, r2, r3, r4, r5⟩ := HKB.out p _ hkb
            subst q3 r3
            have d0 := ((D.bcell H8.out.below).1 _ _ q4).trans q5
            have d1 := ((D.bcell H8.out.below).1 _ _ r4).trans r5
            have hnx := Lib.hid hnx
            clear q5 r5 hka hkb
            cases k with
            | false =>
              have R : Hid (T.AgAt true ca sl cb tl (p + 1) (i + s.length) W5 (.slice va8 Z2.length vc8) w8) := by
                have h : D.Ag true ca sl cb tl (p + 1) (i + s.length + 0) (out ++ D.blkE true i s t ++ []) := hnx.out
                rw [List.append_nil, Nat.add_zero, hblk.out] at h
                exact ⟨Z2, H8.out, h⟩
              clear H8 hnx
              go_wp2
              go_roundw
              case rel => exact ⟨p + 1, i + s.length, by omega, by go_num, by go_num, R⟩
              case measure => simp [intOf]; omega
            | true =>
              cases l with
              | false =>
                have R : Hid (T.AgAt true ca sl cb tl (p + 1) (i + s.length + 1) W5 (.slice va8 Z2.length vc8) w8) := by
                  have h : D.Ag true ca sl cb tl (p + 1) (i + s.length + 1) (out ++ D.blkE true i s t ++ []) := hnx.out
                  rw [List.append_nil, hblk.out] at h
                  exact ⟨Z2, H8.out, h⟩
                clear H8 hnx
                go_wp2
                go_roundw
                case rel => exact ⟨p + 1, i + s.length + 1, by omega, by go_num, by go_num, R⟩
                case measure => simp [intOf]; omega
              | true =>
                go_wp2_with (at_builtin; refine wpList_append_own _ rfl _ _ 90 rfl W5.heap.size 3 ii (.int .i64 0) 1 8 Try.underlying90 Hi.out.1 Hi.out.2.1 Hi.out.2.2.1 Hi.out.2.2.2 rfl (by decide) _ _ _ rfl (H8.out.own.alloc _) ⟨w8.heap.size, 0, none⟩ 1 1 [.int .i64 ((i + s.length : Nat) : Int)] rfl rfl ?h1 ?h2 ?h3 ?h4 ?h5 ?_)
                try (case h1 => exact D.news _ _ _)
                try (case h2 => first | rfl | (intro u hu; rw [List.mem_singleton.1 hu]; rfl))
                case h3 => unfold maxLen; omega
                case h4 => omega
                case h5 => (try simp only [World.size_alloc]); omega
                intro v' w9 hown' hgrow _
                have R : Hid (T.AgAt true ca sl cb tl (p + 1) (i + s.length + 1) W5 v' w9) := by
                  have h : D.Ag true ca sl cb tl (p + 1) (i + s.length + 1) (out ++ D.blkE true i s t ++ [((i + s.length : Nat) : Int)]) := hnx.out
                  rw [hblk.out] at h
                  refine ⟨_, ⟨?_, (H8.out.below.alloc hsz8 _).grown hgrow (by simp only [World.size_alloc]; omega) (fun k e => (H8.out.own.lt k e).1)⟩, h⟩
                  rw [D.intsL_append, List.length_append]
                  exact hown'
                clear hown' hgrow H8 hnx
                go_wp2
                go_roundw
                case rel => exact ⟨p + 1, i + s.length + 1, by omega, by go_num, by go_num, R⟩
                case measure => simp [intOf]; omega
          · obtain rfl : p = n := by omega
            have R : Hid (T.AgAt true ca sl cb tl (p + 1) (i + s.length) W5 (.slice va8 Z2.length vc8) w8) := by
              have h := hcol.out.2 rfl
              rw [hblk.out] at h
              exact ⟨Z2, H8.out, h⟩
            clear H8
            go_wp2
            go_roundw
            case rel => exact ⟨p + 1, i + s.length, by omega, by go_num, by go_num, R⟩
            case measure => simp [intOf]; omega
    · obtain rfl : p = m := by omega
      have hpn : p = ca.length + 1 := by have := Hlen.out.1; omega
      have hgf := hg.out
      rw [hpn] at hgf
      obtain ⟨hout, hi⟩ := hgf.fin
      rw [Hlen.out.2.2.1] at hi
      subst hi
      rw [← hout] at hof
      obtain ⟨oo, oc, hv, hor⟩ := C.irow_of hx.out.own
      subst hv
      have HO := Lib.hid (refOf_any i oo oc out wr (by omega) (by omega) hor hof.out.1)
      unfold C.OfEnd at HO
      rw [hof.out.2] at HO
      have BB := Lib.hid (BW.out.trans (hx.out.below.mono BW.out.size))
      clear hgf hout hor hx hg hof
      go_wp2_with fail
      refine HO.out.mono ?_
      rintro e w9 ⟨v, rfl, hmd⟩
      have R : Hid (T.TfEnd true x y w (.returned v) w9) := ⟨v, rfl, C.made_trans BB.out hmd⟩
      clear hmd HO
      go_wp2
      go_ret
      exact R.out
set_option maxRecDepth 100000 in
set_option maxHeartbeats 8000000 in
theorem against_false (ao bo : Option Addr) (ca0 cb0 : Nat) (x y : List D.P) (w : World) (ha : D.Row w ao x) (hb : D.Row w bo y) (b : D.Bas x y) (hbd : D.outL (D.qs x) + D.outL (D.qs y) ≤ 100000) :
    Calls Try.prog 35 #[.slice ao x.length ca0, .slice bo y.length cb0, .bool false] w (T.TfEnd false x y w) := by
  have H1 := Lib.hid (texts7_any ao ca0 x w b.a ha)
  have H2 : Hid (∀ V, Below w.heap.size w V → Calls Try.prog 48 #[.slice bo y.length cb0] V (T.TxEnd (D.nf (D.qs y)) V)) := fun V h => texts7_any bo cb0 y V b.b (hb.below h)
  have H3 : Hid (∀ V, Below w.heap.size w V → Calls Try.prog 49 #[.slice ao x.length ca0] V (T.KpEnd (D.qs x) V)) := fun V h => keeps7_any ao ca0 x V b.a (ha.below h)
  have H4 : Hid (∀ V, Below w.heap.size w V → Calls Try.prog 49 #[.slice bo y.length cb0] V (T.KpEnd (D.qs y) V)) := fun V h => keeps7_any bo cb0 y V b.b (hb.below h)
  obtain ⟨ii, i0, i1, i2, i3⟩ := info_parts Try.infoInt
  have Hi := Lib.hid (And.intro i0 (And.intro i1 (And.intro i2 i3)))
  clear i0 i1 i2 i3
  obtain ⟨_, px, _, _, ix, ox⟩ := D.valid_qs b.a
  obtain ⟨_, py, _, _, iy, oy⟩ := D.valid_qs b.b
  obtain ⟨n, hn⟩ : ∃ n, Hid (D.inL (D.qs x) = n) := ⟨_, rfl⟩
  have hnle : n ≤ 1048576 := by have := hn.out; omega
  have l1 : ((D.txs (D.nf (D.qs x))).map T.strV).length = n + 1 := by rw [List.length_map, D.txs_len (D.allPos_nf _ px), D.inL_nf, hn.out]
  have l2 : ((D.txs (D.nf (D.qs y))).map T.strV).length = n + 1 := by rw [List.length_map, D.txs_len (D.allPos_nf _ py), D.inL_nf, ← b.m, hn.out]
  have l3 : ((D.kp (D.qs x)).map Value.bool).length = n := by rw [List.length_map, D.kp_len, hn.out]
  have l4 : ((D.kp (D.qs y)).map Value.bool).length = n := by rw [List.length_map, D.kp_len, ← b.m, hn.out]
  have hcols := Lib.hid (fun p i out h hp => T.cols_at (first := false) b (p := p) (i := i) (n := n) (out := out) hn.out h hp)
  have hof := Lib.hid (T.of_tf (first := false) b)
  have lca : (D.cA (D.qs x)).length = n := by rw [(D.cols_of px).1, hn.out]
  have lcb : (D.cA (D.qs y)).length = n := by rw [(D.cols_of py).1, ← b.m, hn.out]
  have hent : (D.ent 0 (D.cA (D.qs x)) (D.cZ (D.qs x))).length = D.outL (D.qs x) := by rw [(D.cols_of px).2, D.atoms_length]
  have htl := D.tfE_len false (D.cA (D.qs x)) (D.cZ (D.qs x)) (D.cZ (D.qs y)) (D.cA (D.qs y)) 0 0 (by omega)
  rw [(D.cols_of py).2, D.atoms_length, hent] at htl
  have Hlen := Lib.hid (And.intro lca (And.intro lcb (And.intro hent htl)))
  have h0 := Lib.hid (D.Ag.zero false (D.cA (D.qs x)) (D.cZ (D.qs x)) (D.cA (D.qs y)) (D.cZ (D.qs y)))
  unfold T.TxEnd at H1 H2
  unfold T.KpEnd at H3 H4
  rw [l1] at H1
  rw [l2] at H2
  rw [l3] at H3
  rw [l4] at H4
  generalize (D.txs (D.nf (D.qs x))).map T.strV = XS at H1 hcols l1
  generalize (D.txs (D.nf (D.qs y))).map T.strV = YS at H2 hcols l2
  generalize (D.kp (D.qs x)).map Value.bool = KA at H3 hcols l3
  generalize (D.kp (D.qs y)).map Value.bool = KB at H4 hcols l4
  generalize D.cA (D.qs x) = ca at hcols hof Hlen h0
  generalize D.cZ (D.qs x) = sl at hcols hof Hlen h0
  generalize D.cA (D.qs y) = cb at hcols hof Hlen h0
  generalize D.cZ (D.qs y) = tl at hcols hof Hlen h0
  clear ha hb b px py ix ox iy oy lca lcb hent htl hn
  generalize D.outL (D.qs x) = ox at hcols hof Hlen hbd
  generalize D.outL (D.qs y) = oy at hcols Hlen hbd
  obtain ⟨m, hm⟩ : ∃ m, Hid (n + 1 = m) := ⟨_, rfl⟩
  rw [hm.out] at H1 H2 l1 l2
  go_enter Try.func35, Try.ntmps35
  go_wp2_with fail
  refine H1.out.mono ?_
  rintro e w1 ⟨v1, rfl, ho1, hb1⟩
  rw [← l1] at ho1
  obtain ⟨xo, xc, hv1, hxr⟩ := T.vrow_of ho1
  rw [l1] at hv1
  subst hv1
  have H2 := Lib.hid (H2.out w1 hb1)
  have B1 := Lib.hid (And.intro hb1 hxr)
  clear ho1 hb1 hxr H1
  go_wp2_with fail
  refine H2.out.mono ?_
  rintro e w2 ⟨v2, rfl, ho2, hb2⟩
  rw [← l2] at ho2
  obtain ⟨yo, yc, hv2, hyr⟩ := T.vrow_of ho2
  rw [l2] at hv2
  subst hv2
  have B2 := Lib.hid (And.intro (B1.out.1.trans (hb2.mono B1.out.1.size)) (And.intro (B1.out.2.below hb2) hyr))
  have H3 := Lib.hid (H3.out w2 B2.out.1)
  clear ho2 hb2 hyr H2 B1
  go_wp2_with fail
  refine H3.out.mono ?_
  rintro e w3 ⟨v3, rfl, ho3, hb3⟩
  rw [← l3] at ho3
  obtain ⟨ko, kc, hv3, hkr⟩ := T.vrow_of ho3
  rw [l3] at hv3
  subst hv3
  have B3 := Lib.hid (And.intro (B2.out.1.trans (hb3.mono B2.out.1.size)) (And.intro (B2.out.2.1.below hb3) (And.intro (B2.out.2.2.below hb3) hkr)))
  have H4 := Lib.hid (H4.out w3 B3.out.1)
  clear ho3 hb3 hkr H3 B2
  go_wp2_with fail
  refine H4.out.mono ?_
  rintro e W5 ⟨v4, rfl, ho4, hb4⟩
  rw [← l4] at ho4
  obtain ⟨jo, jc, hv4, hjr⟩ := T.vrow_of ho4
  rw [l4] at hv4
  subst hv4
  have BW := Lib.hid (B3.out.1.trans (hb4.mono B3.out.1.size))
  have HXS := Lib.hid (T.vrow_at (B3.out.2.1.below hb4))
  have HYS := Lib.hid (T.vrow_at (B3.out.2.2.1.below hb4))
  have HKA := Lib.hid (T.vrow_at (B3.out.2.2.2.below hb4))
  have HKB := Lib.hid (T.vrow_at hjr)
  have H0 : Hid (T.AgAt false ca sl cb tl 0 0 W5 (.slice none 0 0) W5) := ⟨[], ⟨World.ownsRow_nil _ _ _ _, Below.refl _ _⟩, h0.out⟩
  clear ho4 hb4 hjr H4 B3 h0 l1 l2 l3 l4
  go_wp2
  go_loopw [11, 12, 13] (fun v a j wr => ∃ p i : Nat, p ≤ m ∧ j = .int .i64 p ∧ a = .int .i64 i ∧ Hid (T.AgAt false ca sl cb tl p i W5 v wr)) (fun _ _ j _ => m - (intOf j).toNat)
  case atStart => exact ⟨0, 0, Nat.zero_le _, rfl, rfl, H0⟩
  case round =>
    clear H0
    obtain ⟨p, i, hp, rfl, rfl, hrel2⟩ := hrel
    obtain ⟨out, hia, hag⟩ := hrel2.out
    have hle := hag.le
    have hol : out.length ≤ 100000 := by have := Hlen.out.2.2.2; omega
    have hil : i ≤ 100000 := by have := Hlen.out.2.2.1; omega
    have hx := Lib.hid hia
    have hg := Lib.hid hag
    have hmn := hm.out
    clear hrel2 hia hag hle
    by_cases hlt : p < m
    · obtain ⟨s, t, hs, ht, hsl, htl, hc1, hc2⟩ := hcols.out p i out hg.out (by omega)
      have hcol := Lib.hid (And.intro hc1 hc2)
      obtain ⟨bx, ox', ex, bx1, bx2⟩ := HXS.out p _ hs
      obtain ⟨by_, oy', ey, by1, by2⟩ := HYS.out p _ ht
      subst ex ey
      unfold T.strV at bx2 by2
      have c0 := ((D.bcell hx.out.below).1 _ _ bx1).trans bx2
      have c1 := ((D.bcell hx.out.below).1 _ _ by1).trans by2
      have sz1 : (⟨s.toArray⟩ : ByteArray).size = s.length := D.size_l s
      have sz2 : (⟨t.toArray⟩ : ByteArray).size = t.length := D.size_l t
      clear hs ht hc1 hc2 hg
      obtain ⟨va, vc, rfl⟩ := D.slice_of_own hx.out.own
      have HT : Hid (Calls Try.prog 63 #[.slice va out.length vc, .string ⟨t.toArray⟩] wr fun e w' => ∃ v', e = .returned v' ∧ w'.ownsRow W5.heap.size 3 1 v' (out ++ t.map D.neg).length (D.intsL (out ++ t.map D.neg)) ∧ Below W5.heap.size wr w') := typed7_any W5.heap.size _ out t wr hx.out.own hx.out.below.size (by omega)
      obtain ⟨Y, hY⟩ : ∃ Y, Hid (out ++ t.map D.neg = Y) := ⟨_, rfl⟩
      have hYl : Y.length ≤ 200000 := by rw [← hY.out, List.length_append, List.length_map]; omega
      rw [hY.out] at HT
      go_wp2_with fail
      refine HT.out.mono ?_
      rintro e w6 ⟨v6, rfl, ho6, hb6⟩
      obtain ⟨va6, vc6, rfl⟩ := D.slice_of_own ho6
      have H6 : Hid (T.IntAt W5 Y (.slice va6 Y.length vc6) w6) := ⟨ho6, hx.out.below.trans hb6⟩
      clear ho6 hb6 HT hx
      have c0 := ((D.bcell H6.out.below).1 _ _ bx1).trans bx2
      have c1 := ((D.bcell H6.out.below).1 _ _ by1).trans by2
      go_wp2
      go_loopw [11, 12, 14] (fun v a j wx => ∃ c : Nat, c ≤ s.length ∧ j = .int .i64 c ∧ a = .int .i64 ((i + c : Nat) : Int) ∧ Hid (T.IntAt W5 (Y ++ D.run i c) v wx)) (fun _ _ j _ => s.length - (intOf j).toNat)
      case atStart => exact ⟨0, Nat.zero_le _, rfl, rfl, by show T.IntAt _ _ _ _; rw [D.run_zero, List.append_nil]; exact H6.out⟩
      case round =>
        clear H6 c0 c1
        obtain ⟨c, hc, rfl, rfl, hy⟩ := hrel
        have c0 := ((D.bcell hy.out.below).1 _ _ bx1).trans bx2
        have c1 := ((D.bcell hy.out.below).1 _ _ by1).trans by2
        by_cases hcs : c < s.length
        · obtain ⟨Z, hZ⟩ : ∃ Z, Hid (Y ++ D.run i c = Z) := ⟨_, rfl⟩
          have hZl : Z.length ≤ 400000 := by rw [← hZ.out, List.length_append]; unfold D.run; rw [List.length_map, List.length_range]; omega
          rw [hZ.out] at hy
          have hsz7 := hy.out.below.size
          obtain ⟨tb, tc, rfl⟩ := D.slice_of_own hy.out.own
          go_wp2_with (at_builtin; refine wpList_append_own _ rfl _ _ 90 rfl W5.heap.size 3 ii (.int .i64 0) 1 8 Try.underlying90 Hi.out.1 Hi.out.2.1 Hi.out.2.2.1 Hi.out.2.2.2 rfl (by decide) _ _ _ rfl (hy.out.own.alloc _) ⟨wr.heap.size, 0, none⟩ 1 1 [.int .i64 ((i + c : Nat) : Int)] rfl rfl ?g1 ?g2 ?g3 ?g4 ?g5 ?_)
          try (case g1 => exact D.news _ _ _)
          try (case g2 => first | rfl | (intro u hu; rw [List.mem_singleton.1 hu]; rfl))
          case g3 => unfold maxLen; omega
          case g4 => omega
          case g5 => (try simp only [World.size_alloc]); omega
          intro v' w7 hown' hgrow _
          have R : Hid (T.IntAt W5 (Y ++ D.run i (c + 1)) v' w7) := by
            refine ⟨?_, (hy.out.below.alloc hsz7 _).grown hgrow (by simp only [World.size_alloc]; omega) (fun k e => (hy.out.own.lt k e).1)⟩
            have e : Y ++ D.run i (c + 1) = Z ++ [((i + c : Nat) : Int)] := by
              rw [← hZ.out]; unfold D.run; rw [List.range_succ, List.map_append, List.append_assoc]; rfl
            rw [e, D.intsL_append, List.length_append]
            exact hown'
          clear hown' hgrow hy
          go_wp2
          go_roundw
          case rel => exact ⟨c + 1, by omega, by go_num, by go_num, R⟩
          case measure => simp [intOf]; omega
        · obtain rfl : c = s.length := by omega
          obtain ⟨Z, hZ⟩ : ∃ Z, Hid (Y ++ D.run i s.length = Z) := ⟨_, rfl⟩
          have hZl : Z.length ≤ 400000 := by rw [← hZ.out, List.length_append]; unfold D.run; rw [List.length_map, List.length_range]; omega
          rw [hZ.out] at hy
          obtain ⟨tb, tc, rfl⟩ := D.slice_of_own hy.out.own
          have hblk : Hid (out ++ D.blkE false i s t = Z) := by
            show _ = _
            rw [← hZ.out, ← hY.out, List.append_assoc]; rfl
          have H8 : Hid (T.IntAt W5 Z (.slice tb Z.length tc) wr) := hy
          obtain ⟨Z2, hZ2⟩ : ∃ Z2, Hid (Z = Z2) := ⟨_, rfl⟩
          obtain ⟨w8, rfl⟩ : ∃ w8 : World, w8 = wr := ⟨_, rfl⟩
          have hZl2 : Z2.length ≤ 600000 := by rw [← hZ2.out]; omega
          rw [hZ2.out] at H8 hblk ⊢
          clear hy
          have hsz8 := H8.out.below.size
          by_cases hpn : p < n
          · obtain ⟨k, l, hka, hkb, hnx⟩ := hcol.out.1 hpn
            obtain ⟨q1, q2, q3, q4, q5⟩ := HKA.out p _ hka
            obtain ⟨r1, r2, r3, r4, r5⟩ := HKB.out p _ hkb
            subst q3 r3
            have d0 := ((D.bcell H8.out.below).1 _ _ q4).trans q5
            have d1 := ((D.bcell H8.out.below).1 _ _ r4).trans r5
            have hnx := Lib.hid hnx
            clear q5 r5 hka hkb
            cases k with
            | false =>
              have R : Hid (T.AgAt false ca sl cb tl (p + 1) (i + s.length) W5 (.slice tb Z2.length tc) w8) := by
                have h : D.Ag false ca sl cb tl (p + 1) (i + s.length + 0) (out ++ D.blkE false i s t ++ []) := hnx.out
                rw [List.append_nil, Nat.add_zero, hblk.out] at h
                exact ⟨Z2, H8.out, h⟩
              clear H8 hnx
              go_wp2
              go_roundw
              case rel => exact ⟨p + 1, i + s.length, by omega, by go_num, by go_num, R⟩
              case measure => simp [intOf]; omega
            | true =>
              cases l with
              | false =>
                have R : Hid (T.AgAt false ca sl cb tl (p + 1) (i + s.length + 1) W5 (.slice tb Z2.length tc) w8) := by
                  have h : D.Ag false ca sl cb tl (p + 1) (i + s.length + 1) (out ++ D.blkE false i s t ++ []) := hnx.out
                  rw [List.append_nil, hblk.out] at h
                  exact ⟨Z2, H8.out, h⟩
                clear H8 hnx
                go_wp2
                go_roundw
                case rel => exact ⟨p + 1, i + s.length + 1, by omega, by go_num, by go_num, R⟩
                case measure => simp [intOf]; omega
              | true =>
                go_wp2_with (at_builtin; refine wpList_append_own _ rfl _ _ 90 rfl W5.heap.size 3 ii (.int .i64 0) 1 8 Try.underlying90 Hi.out.1 Hi.out.2.1 Hi.out.2.2.1 Hi.out.2.2.2 rfl (by decide) _ _ _ rfl (H8.out.own.alloc _) ⟨w8.heap.size, 0, none⟩ 1 1 [.int .i64 ((i + s.length : Nat) : Int)] rfl rfl ?kk1 ?kk2 ?kk3 ?kk4 ?kk5 ?_)
                try (case kk1 => exact D.news _ _ _)
                try (case kk2 => first | rfl | (intro u hu; rw [List.mem_singleton.1 hu]; rfl))
                case kk3 => unfold maxLen; omega
                case kk4 => omega
                case kk5 => (try simp only [World.size_alloc]); omega
                intro v' w9 hown' hgrow _
                have R : Hid (T.AgAt false ca sl cb tl (p + 1) (i + s.length + 1) W5 v' w9) := by
                  have h : D.Ag false ca sl cb tl (p + 1) (i + s.length + 1) (out ++ D.blkE false i s t ++ [((i + s.length : Nat) : Int)]) := hnx.out
                  rw [hblk.out] at h
                  refine ⟨_, ⟨?_, (H8.out.below.alloc hsz8 _).grown hgrow (by simp only [World.size_alloc]; omega) (fun k e => (H8.out.own.lt k e).1)⟩, h⟩
                  rw [D.intsL_append, List.length_append]
                  exact hown'
                clear hown' hgrow H8 hnx
                go_wp2
                go_roundw
                case rel => exact ⟨p + 1, i + s.length + 1, by omega, by go_num, by go_num, R⟩
                case measure => simp [intOf]; omega
          · obtain rfl : p = n := by omega
            have R : Hid (T.AgAt false ca sl cb tl (p + 1) (i + s.length) W5 (.slice tb Z2.length tc) w8) := by
              have h := hcol.out.2 rfl
              rw [hblk.out] at h
              exact ⟨Z2, H8.out, h⟩
            clear H8
            go_wp2
            go_roundw
            case rel => exact ⟨p + 1, i + s.length, by omega, by go_num, by go_num, R⟩
            case measure => simp [intOf]; omega
    · obtain rfl : p = m := by omega
      have hpn : p = ca.length + 1 := by have := Hlen.out.1; omega
      have hgf := hg.out
      rw [hpn] at hgf
      obtain ⟨hout, hi⟩ := hgf.fin
      rw [Hlen.out.2.2.1] at hi
      subst hi
      rw [← hout] at hof
      obtain ⟨oo, oc, hv, hor⟩ := C.irow_of hx.out.own
      subst hv
      have HO := Lib.hid (refOf_any i oo oc out wr (by omega) (by omega) hor hof.out.1)
      unfold C.OfEnd at HO
      rw [hof.out.2] at HO
      have BB := Lib.hid (BW.out.trans (hx.out.below.mono BW.out.size))
      clear hgf hout hor hx hg hof
      go_wp2_with fail
      refine HO.out.mono ?_
      rintro e w9 ⟨v, rfl, hmd⟩
      have R : Hid (T.TfEnd false x y w (.returned v) w9) := ⟨v, rfl, C.made_trans BB.out hmd⟩
      clear hmd HO
      go_wp2
      go_ret
      exact R.out
theorem against_any (first : Bool) (ao bo : Option Addr) (ca0 cb0 : Nat) (x y : List D.P) (w : World) (ha : D.Row w ao x) (hb : D.Row w bo y) (b : D.Bas x y) (hbd : D.outL (D.qs x) + D.outL (D.qs y) ≤ 100000) :
    Calls Try.prog 35 #[.slice ao x.length ca0, .slice bo y.length cb0, .bool first] w (T.TfEnd first x y w) := by
  cases first
  · exact against_false ao bo ca0 cb0 x y w ha hb b hbd
  · exact against_true ao bo ca0 cb0 x y w ha hb b hbd
end Go.Proofs.Ytmljagkndnobdaa
/- TransRef3 -/
namespace Go.Proofs.Ytmljagkndnobdaa
open Go.RowKit

theorem T.own_len {W : World} {base : Nat} {e : TypeId} {size : Nat} {v : Value} {n : Nat} {xs : List Value} (h : W.ownsRow base e size v n xs) : n ≤ maxLen := by
  obtain ⟨_, ⟨_, h0⟩ | ⟨g, cap, cur, _, _, _, hnc, hcm, _⟩⟩ := h
  · omega
  · omega
def T.Sm (x y : List D.P) : Prop := D.Bas x y → D.outL (D.qs x) + D.outL (D.qs y) ≤ 100000
set_option maxRecDepth 100000 in
set_option maxHeartbeats 1000000 in
theorem refTransform_any (first : Bool) (ao bo : Option Addr) (ca cb : Nat) (x y : List D.P) (w : World) (ha : D.Row w ao x) (hb : D.Row w bo y) (bx : D.Bd x) (by_ : D.Bd y) (hsm : T.Sm x y) :
    Calls Try.prog 15 #[.slice ao x.length ca, .slice bo y.length cb, .bool first] w (T.TrEnd first x y w) := by
  have H1 := Lib.hid (checks7_any ao bo ca cb x y w ha hb bx by_)
  by_cases hbad : D.bas2 x y = 0
  · have b := D.bas_of hbad
    have H2 : Hid (∀ V, Below w.heap.size w V → Calls Try.prog 35 #[.slice ao x.length ca, .slice bo y.length cb, .bool first] V (T.TfEnd first x y V)) := fun V h => against_any first ao bo ca cb x y V (ha.below h) (hb.below h) b (hsm b)
    have htx : Hid (∀ p ∈ D.tfP first x y, p.t.size ≤ 140737488351232) := fun p hp => by
      have h1 := D.txt_le_outL _ p hp
      have h2 := D.outL_tf (first := first) (D.valid_qs b.a).2.1 (D.valid_qs b.b).2.1 b.m
      have := hsm b; omega
    have he := b.err first
    have hp : D.trP first x y = if D.chk (D.tfP first x y) = 0 then D.tfP first x y else [] := by
      unfold D.trP; rw [he]
      split <;> simp
    have R : Hid (∀ v w', (D.chk (D.tfP first x y) = 0 → D.Made (D.tfP first x y) w v w') → (D.chk (D.tfP first x y) ≠ 0 → D.Made [] w v w') → T.TrEnd first x y w (.returned (.tuple #[v, .int .i64 (if D.chk (D.tfP first x y) = 0 then 0 else 5)])) w') := fun v w' q1 q2 => by
      refine ⟨v, by rw [he], ?_⟩
      rw [hp]
      by_cases h : D.chk (D.tfP first x y) = 0
      · rw [if_pos h]; exact q1 h
      · rw [if_neg h]; exact q2 h
    unfold T.TfEnd at H2
    rw [hbad] at H1
    clear ha hb bx by_ hsm hbad b he hp
    generalize D.tfP first x y = P at H2 htx R
    go_enter Try.func15, Try.ntmps15
    go_wp2_with fail
    refine H1.out.mono ?_
    rintro e w1 ⟨rfl, hb1⟩
    have H2 := Lib.hid (H2.out w1 hb1)
    have hb1 := Lib.hid hb1
    clear H1
    go_wp2_with fail
    refine H2.out.mono ?_
    rintro e w2 ⟨v, rfl, hm⟩
    obtain ⟨vo, vc, hv, hrow, _⟩ := C.made_src hm
    have H3 := Lib.hid (refCheck_any vo vc P w2 (T.own_len hm.own) hrow htx.out)
    have HM := Lib.hid (C.made_trans hb1.out hm)
    subst hv
    clear hm hrow H2 hb1 htx
    by_cases hc : D.chk P = 0
    · rw [hc] at H3
      have R2 : Hid (∀ w3, Below w2.heap.size w2 w3 → T.TrEnd first x y w (.returned (.tuple #[.slice vo P.length vc, .int .i64 0])) w3) := fun w3 h => by
        have := R.out (.slice vo P.length vc) w3 (fun _ => ⟨D.own_below HM.out.own h, HM.out.below.trans (h.mono HM.out.below.size)⟩) (fun e => absurd hc e)
        rwa [if_pos hc] at this
      clear R HM hc
      go_wp2_with fail
      refine H3.out.mono ?_
      rintro e w3 ⟨rfl, hb3⟩
      have R2 := Lib.hid (R2.out w3 hb3)
      clear hb3
      go_wp2
      go_ret2
      exact R2.out
    · have R2 : Hid (∀ w3, Below w2.heap.size w2 w3 → T.TrEnd first x y w (.returned (.tuple #[.slice none 0 0, .int .i64 5])) w3) := fun w3 h => by
        have := R.out (.slice none 0 0) w3 (fun e => absurd e hc) (fun _ => D.Made.nil w (HM.out.below.trans (h.mono HM.out.below.size)))
        rwa [if_neg hc] at this
      have q : (D.chk P != 0) = true := by simpa using hc
      clear R HM hc
      generalize D.chk P = c at H3 q
      go_wp2_with fail
      refine H3.out.mono ?_
      rintro e w3 ⟨rfl, hb3⟩
      have R2 := Lib.hid (R2.out w3 hb3)
      clear hb3
      go_wp2
      go_ret2
      exact R2.out
  · have R : Hid (∀ w', Below w.heap.size w w' → T.TrEnd first x y w (.returned (.tuple #[.slice none 0 0, .int .i64 (D.bas2 x y)])) w') := fun w' h => by
      obtain ⟨e1, e2⟩ := D.tr_bad (first := first) hbad
      exact ⟨_, by rw [e1], by rw [e2]; exact D.Made.nil w h⟩
    have q : (D.bas2 x y != 0) = true := by simpa using hbad
    clear ha hb bx by_ hbad hsm
    generalize D.bas2 x y = c at H1 R q
    go_enter Try.func15, Try.ntmps15
    go_wp2_with fail
    refine H1.out.mono ?_
    rintro e w1 ⟨rfl, hb1⟩
    have R := Lib.hid (R.out w1 hb1)
    clear hb1
    go_wp2
    go_ret2
    exact R.out
theorem T.Sm.swap {x y : List D.P} (h : T.Sm x y) : T.Sm y x := fun b => by have := h b.swap; omega
set_option maxRecDepth 100000 in
set_option maxHeartbeats 1000000 in
theorem refPair_any (ao bo : Option Addr) (ca cb : Nat) (x y : List D.P) (w : World) (ha : D.Row w ao x) (hb : D.Row w bo y) (bx : D.Bd x) (by_ : D.Bd y) (hsm : T.Sm x y) :
    Calls Try.prog 19 #[.slice ao x.length ca, .slice bo y.length cb] w (T.PrEnd x y w) := by
  have H1 := Lib.hid (refTransform_any true ao bo ca cb x y w ha hb bx by_ hsm)
  have H2 : Hid (∀ V, Below w.heap.size w V → Calls Try.prog 15 #[.slice bo y.length cb, .slice ao x.length ca, .bool false] V (T.TrEnd false y x V)) := fun V h => refTransform_any false bo ao cb ca y x V (hb.below h) (ha.below h) by_ bx hsm.swap
  unfold T.TrEnd at H1 H2
  clear ha hb bx by_ hsm
  by_cases h0 : D.trE true x y = 0
  · rw [h0] at H1
    by_cases h1 : D.trE false y x = 0
    · rw [h1] at H2
      have R : Hid (∀ v u w', D.Made (D.trP false y x) w v w' → D.Made (D.trP true x y) w u w' → T.PrEnd x y w (.returned (.tuple #[v, u, .int .i64 0])) w') := fun v u w' q1 q2 => by
        obtain ⟨e1, e2, e3⟩ := T.pr_good h0 h1
        exact ⟨v, u, by rw [e1], by rw [e2]; exact q1, by rw [e3]; exact q2⟩
      clear h0 h1
      go_enter Try.func19, Try.ntmps19
      go_wp2_with fail
      refine H1.out.mono ?_
      rintro e w1 ⟨u, rfl, hm1⟩
      obtain ⟨uo, uc, hv⟩ := D.slice_of_own hm1.own
      have H2 := Lib.hid (H2.out w1 hm1.below)
      have hm1 := Lib.hid hm1
      subst hv
      clear H1
      go_wp2_with fail
      refine H2.out.mono ?_
      rintro e w2 ⟨v, rfl, hm2⟩
      have R := Lib.hid (R.out v _ w2 (C.made_trans hm1.out.below hm2) ⟨D.own_below hm1.out.own hm2.below, hm1.out.below.trans (hm2.below.mono hm1.out.below.size)⟩)
      obtain ⟨vo, vc, hv⟩ := D.slice_of_own hm2.own
      subst hv
      clear hm1 hm2 H2
      generalize (D.trP false y x).length = n1 at R ⊢
      generalize (D.trP true x y).length = n2 at R ⊢
      go_wp2
      refine bodyPost_ret (v := .tuple #[.slice vo n1 vc, .slice uo n2 uc, .int .i64 0]) ?_ rfl R.out
      simp [results, Try.results19, go_sem]
    · have R : Hid (∀ w', Below w.heap.size w w' → T.PrEnd x y w (.returned (.tuple #[.slice none 0 0, .slice none 0 0, .int .i64 (D.trE false y x)])) w') := fun w' q1 => by
        obtain ⟨e1, e2, e3⟩ := T.pr_bad2 h0 h1
        exact ⟨_, _, by rw [e1], by rw [e2]; exact D.Made.nil w q1, by rw [e3]; exact D.Made.nil w q1⟩
      have q : (D.trE false y x != 0) = true := by simpa using h1
      clear h0 h1
      generalize D.trE false y x = c at H2 q R
      go_enter Try.func19, Try.ntmps19
      go_wp2_with fail
      refine H1.out.mono ?_
      rintro e w1 ⟨u, rfl, hm1⟩
      obtain ⟨uo, uc, hv⟩ := D.slice_of_own hm1.own
      have H2 := Lib.hid (H2.out w1 hm1.below)
      have hB1 := Lib.hid hm1.below
      subst hv
      clear H1
      go_wp2_with fail
      refine H2.out.mono ?_
      rintro e w2 ⟨v, rfl, hm2⟩
      have R := Lib.hid (R.out w2 (hB1.out.trans (hm2.below.mono hB1.out.size)))
      obtain ⟨vo, vc, hv⟩ := D.slice_of_own hm2.own
      subst hv
      clear hm1 hm2 H2
      generalize (D.trP false y x).length = n1
      generalize (D.trP true x y).length = n2
      go_wp2
      refine bodyPost_ret (v := .tuple #[.slice none 0 0, .slice none 0 0, .int .i64 c]) ?_ rfl R.out
      simp [results, Try.results19, go_sem]
  · have R : Hid (∀ w', Below w.heap.size w w' → T.PrEnd x y w (.returned (.tuple #[.slice none 0 0, .slice none 0 0, .int .i64 (D.trE true x y)])) w') := fun w' q1 => by
      obtain ⟨e1, e2, e3⟩ := T.pr_bad1 h0
      exact ⟨_, _, by rw [e1], by rw [e2]; exact D.Made.nil w q1, by rw [e3]; exact D.Made.nil w q1⟩
    have q : (D.trE true x y != 0) = true := by simpa using h0
    clear h0 H2
    generalize D.trE true x y = c at H1 q R
    go_enter Try.func19, Try.ntmps19
    go_wp2_with fail
    refine H1.out.mono ?_
    rintro e w1 ⟨u, rfl, hm1⟩
    obtain ⟨uo, uc, hv⟩ := D.slice_of_own hm1.own
    have R := Lib.hid (R.out w1 hm1.below)
    subst hv
    clear hm1 H1
    generalize (D.trP true x y).length = n2
    go_wp2
    refine bodyPost_ret (v := .tuple #[.slice none 0 0, .slice none 0 0, .int .i64 c]) ?_ rfl R.out
    simp [results, Try.results19, go_sem]
set_option maxRecDepth 100000 in
set_option maxHeartbeats 1000000 in
theorem refMerge_any (ao bo : Option Addr) (ca cb : Nat) (x y : List D.P) (w : World) (ha : D.Row w ao x) (hb : D.Row w bo y) (bx : D.Bd x) (by_ : D.Bd y) (hsm : T.Sm x y) (hin : D.Bas x y → D.inL (D.qs x) ≤ 100000) :
    Calls Try.prog 21 #[.slice ao x.length ca, .slice bo y.length cb] w (T.MrEnd x y w) := by
  have H1 := Lib.hid (refTransform_any true ao bo ca cb x y w ha hb bx by_ hsm)
  unfold T.TrEnd at H1
  by_cases h0 : D.trE true x y = 0
  · rw [h0] at H1
    have H2 : Hid (∀ V uo uc, Below w.heap.size w V → D.Row V uo (D.trP true x y) → (D.trP true x y).length ≤ uc → Calls Try.prog 44 #[.slice ao x.length ca, .slice uo (D.trP true x y).length uc] V (C.CmpEnd x (D.trP true x y) V)) := fun V uo uc h h2 _ => refCompose_any ao uo ca uc x _ V (ha.below h) h2 bx (T.tr_bd _ _ _) (fun f => ⟨hin (D.tr_of h0).bas, by have t := D.tr_of h0; rw [t.q]; exact Nat.le_trans (D.outL_tf (D.valid_qs t.bas.a).2.1 (D.valid_qs t.bas.b).2.1 t.bas.m) (hsm t.bas)⟩)
    obtain ⟨m1, m2⟩ := D.mr_of h0
    have R : Hid (∀ v w', D.Made (D.cmpP x (D.trP true x y)) w v w' → T.MrEnd x y w (.returned (.tuple #[v, .int .i64 (D.cmpE x (D.trP true x y))])) w') := fun v w' q => ⟨v, by rw [m1], by rw [m2]; exact q⟩
    unfold C.CmpEnd at H2
    clear ha hb bx by_ hsm hin h0 m1 m2
    generalize D.cmpE x (D.trP true x y) = c at H2 R
    generalize D.cmpP x (D.trP true x y) = Q at H2 R
    generalize D.trP true x y = P at H1 H2
    go_enter Try.func21, Try.ntmps21
    go_wp2_with fail
    refine H1.out.mono ?_
    rintro e w1 ⟨u, rfl, hm1⟩
    obtain ⟨uo, uc, hv, hrow, hcap, _⟩ := C.made_src hm1
    have H2 := Lib.hid (H2.out w1 uo uc hm1.below hrow hcap)
    have hB1 := Lib.hid hm1.below
    subst hv
    clear H1 hrow hcap
    go_wp2_with fail
    refine H2.out.mono ?_
    rintro e w2 ⟨v, rfl, hm2⟩
    have R := Lib.hid (R.out v w2 (C.made_trans hB1.out hm2))
    obtain ⟨vo, vc, hv⟩ := D.slice_of_own hm2.own
    subst hv
    clear hm1 hm2 H2
    go_wp2
    go_ret2
    exact R.out
  · have R : Hid (∀ w', Below w.heap.size w w' → T.MrEnd x y w (.returned (.tuple #[.slice none 0 0, .int .i64 (D.trE true x y)])) w') := fun w' q => by
      have e1 : D.mrE x y = D.trE true x y := if_neg h0
      have e2 : D.mrP x y = [] := if_neg h0
      exact ⟨_, by rw [e1], by rw [e2]; exact D.Made.nil w q⟩
    have q : (D.trE true x y != 0) = true := by simpa using h0
    clear ha hb bx by_ hsm hin h0
    generalize D.trE true x y = c at H1 q R
    go_enter Try.func21, Try.ntmps21
    go_wp2_with fail
    refine H1.out.mono ?_
    rintro e w1 ⟨u, rfl, hm1⟩
    obtain ⟨uo, uc, hv⟩ := D.slice_of_own hm1.own
    have R := Lib.hid (R.out w1 hm1.below)
    subst hv
    clear hm1 H1
    generalize (D.trP true x y).length = n2
    go_wp2
    go_ret2
    exact R.out

/-! ### Rebase -/
theorem T.reb_out {d : List D.P} {L : List (List D.P)} (hd : D.chk d = 0 → D.outL (D.qs d) ≤ 6000) (hL : ∀ x ∈ L, D.chk x = 0 → D.outL (D.qs x) ≤ 6000) : ∀ k, k ≤ L.length → (D.rebS d (L.take k)).1 = 0 → D.outL (D.qs (D.rebS d (L.take k)).2) ≤ 6000 * (k + 1) := by
  intro k
  induction k with
  | zero =>
    intro _ h
    have h0 : D.chk d = 0 := h
    have e : (D.rebS d (L.take 0)).2 = D.normP d := if_pos h0
    rw [e]
    unfold D.normP
    rw [D.qs_raw, D.outL_nf]
    have := hd h0; omega
  | succ k ih =>
    intro hk h
    obtain ⟨x, hx⟩ : ∃ x, L[k]? = some x := ⟨L[k], List.getElem?_eq_getElem (by omega)⟩
    have e := D.rebS_snoc d L k x hx
    by_cases h1 : (D.rebS d (L.take k)).1 = 0
    · have e2 : D.stepT (D.rebS d (L.take k)) x = (D.trE true x (D.rebS d (L.take k)).2, D.trP true x (D.rebS d (L.take k)).2) := if_pos h1
      rw [e, e2] at h ⊢
      have t := D.tr_of h
      have b := t.bas
      have hm := D.outL_tf (first := true) (D.valid_qs b.a).2.1 (D.valid_qs b.b).2.1 b.m
      show D.outL (D.qs (D.trP true x (D.rebS d (L.take k)).2)) ≤ _
      rw [t.q]
      have := ih (by omega) h1
      have := hL x (List.mem_of_getElem? hx) b.a
      omega
    · have e2 : D.stepT (D.rebS d (L.take k)) x = D.rebS d (L.take k) := if_neg h1
      rw [e, e2] at h
      exact absurd h h1
set_option maxRecDepth 100000 in
set_option maxHeartbeats 2000000 in
theorem refRebase_any (ao : Option Addr) (ca : Nat) (d : List D.P) (lo : Option Addr) (cap : Nat) (L : List D.Src) (w : World) (ha : D.Row w ao d) (bd : D.Bd d) (hl : L.length ≤ 8) (hr : D.Rows w lo L) (hd : D.chk d = 0 → D.outL (D.qs d) ≤ 6000) (hL : ∀ s ∈ L, D.chk s.x = 0 → D.outL (D.qs s.x) ≤ 6000) :
    Calls Try.prog 23 #[.slice ao d.length ca, .slice lo L.length cap] w (T.RbEnd d (L.map D.Src.x) w) := by
  have HI := Lib.hid (refNormalize_any ao ca d w bd.1 ha bd.2)
  unfold D.NormEnd at HI
  have Hr := Lib.hid hr
  have HO := Lib.hid (T.reb_out (d := d) (L := L.map D.Src.x) hd (fun x hx => by obtain ⟨s, hs, rfl⟩ := List.mem_map.1 hx; exact hL s hs))
  have HL := Lib.hid hL
  clear hr ha bd hd hL
  have h00 : D.rebS d ((L.map D.Src.x).take 0) = (D.chk d, if D.chk d = 0 then D.normP d else []) := rfl
  go_enter Try.func23, Try.ntmps23
  go_wp2_with fail
  refine HI.out.mono ?_
  rintro e w1 ⟨v, rfl, hm⟩
  have HM : Hid (D.Made (D.rebS d ((L.map D.Src.x).take 0)).2 w v w1) := by show D.Made _ _ _ _; rw [h00]; exact hm
  have he0 : D.chk d = (D.rebS d ((L.map D.Src.x).take 0)).1 := by rw [h00]
  obtain ⟨va, vc, hv⟩ := D.slice_of_own hm.own
  subst hv
  clear hm HI h00
  generalize (if D.chk d = 0 then D.normP d else []).length = n0 at HM ⊢
  rw [he0]
  clear he0
  go_wp2
  go_loopw [6, 7, 8] (fun a e i wr => ∃ k : Nat, k ≤ L.length ∧ i = .int .i64 k ∧ e = .int .i64 (D.rebS d ((L.map D.Src.x).take k)).1 ∧ Hid (D.Made (D.rebS d ((L.map D.Src.x).take k)).2 w a wr)) (fun _ _ i _ => L.length - (intOf i).toNat)
  case atStart => exact ⟨0, Nat.zero_le _, rfl, rfl, HM⟩
  case round =>
    clear HM
    obtain ⟨k, hk, rfl, rfl, hm⟩ := hrel
    have hbd := Lib.hid (T.reb_bd d ((L.map D.Src.x).take k))
    have hnil := Lib.hid (D.rebS_bad d ((L.map D.Src.x).take k))
    have happ := Lib.hid (T.reb_split d (L.map D.Src.x) k)
    have hou := Lib.hid (HO.out k (by rw [List.length_map]; exact hk))
    by_cases hE : (D.rebS d ((L.map D.Src.x).take k)).1 = 0
    · by_cases hlt : k < L.length
      · obtain ⟨s, hs⟩ : ∃ s, L[k]? = some s := ⟨L[k], List.getElem?_eq_getElem hlt⟩
        obtain ⟨b, o, e, hbl, hcell, hok⟩ := Hr.out k s hs
        subst e
        have hsl := HL.out s (List.mem_of_getElem? hs)
        have hsn := Lib.hid (D.rebS_snoc d (L.map D.Src.x) k s.x (by rw [List.getElem?_map, hs]; rfl))
        have hou2 := hou.out hE
        generalize D.rebS d ((L.map D.Src.x).take k) = st at hm hbd hnil happ hsn hE hou2 hou
        obtain ⟨E, P⟩ := st
        dsimp only at *
        have c0 := ((D.bcell hm.out.below).1 b (o + k) hbl).trans hcell
        subst hE
        obtain ⟨vo, vc, hv, hrow, hcap, _⟩ := C.made_src hm.out
        subst hv
        have HC := Lib.hid (refTransform_any true s.a vo s.c vc s.x P wr (hok.row.below hm.out.below) hrow ⟨hok.len, hok.txt⟩ hbd.out (fun b => by have := hsl b.a; omega))
        unfold T.TrEnd at HC
        have hst : Hid (D.rebS d ((L.map D.Src.x).take (k + 1)) = (D.trE true s.x P, D.trP true s.x P)) := by show _ = _; rw [hsn.out]; rfl
        have hmb := Lib.hid hm.out.below
        clear hs hcell hok hrow hcap hnil hm hbd hsn happ hsl hou2 hou
        go_wp2_with fail
        refine HC.out.mono ?_
        rintro e w2 ⟨v, rfl, hm2⟩
        have HM2 : Hid (D.Made (D.rebS d ((L.map D.Src.x).take (k + 1))).2 w v w2) := by show D.Made _ _ _ _; rw [hst.out]; exact C.made_trans hmb.out hm2
        obtain ⟨xo, xc, hv⟩ := D.slice_of_own hm2.own
        subst hv
        have he : Hid ((D.rebS d ((L.map D.Src.x).take (k + 1))).1 = D.trE true s.x P) := by show _ = _; rw [hst.out]
        clear hm2 HC hst
        go_wp2
        go_roundw
        case rel => exact ⟨k + 1, by omega, by go_num, by rw [he.out], HM2⟩
        case measure => simp [intOf]; omega
      · obtain rfl : k = L.length := by omega
        have e : (L.map D.Src.x).take L.length = L.map D.Src.x := by rw [List.take_of_length_le (by simp)]
        rw [e] at hm hE ⊢
        obtain ⟨vo, vc, hv⟩ := D.slice_of_own hm.out.own
        subst hv
        have R : Hid (T.RbEnd d (L.map D.Src.x) w (.returned (.tuple #[.slice vo (D.rebS d (L.map D.Src.x)).2.length vc, .int .i64 0])) wr) := ⟨_, by rw [hE], hm.out⟩
        rw [hE]
        generalize (D.rebS d (L.map D.Src.x)).2.length = m at R
        clear e hm hnil hbd happ hE hou
        go_wp2
        go_ret2
        exact R.out
    · have R : Hid (∀ w', Below w.heap.size w w' → T.RbEnd d (L.map D.Src.x) w (.returned (.tuple #[.slice none 0 0, .int .i64 (D.rebS d ((L.map D.Src.x).take k)).1])) w') := fun w' hb => by
        have e : D.rebS d (L.map D.Src.x) = D.rebS d ((L.map D.Src.x).take k) := by rw [happ.out]; exact D.stepT_stop hE _
        exact ⟨_, by rw [e], by rw [e, hnil.out hE]; exact D.Made.nil w hb⟩
      have R := Lib.hid (R.out wr hm.out.below)
      have q : ((D.rebS d ((L.map D.Src.x).take k)).1 != 0) = true := by simpa using hE
      have q0 : ((D.rebS d ((L.map D.Src.x).take k)).1 == 0) = false := by simpa using hE
      obtain ⟨vo, vc, hv⟩ := D.slice_of_own hm.out.own
      subst hv
      clear hnil hm hbd happ hou hE
      generalize (D.rebS d ((L.map D.Src.x).take k)).1 = E at R q q0 ⊢
      generalize (D.rebS d ((L.map D.Src.x).take k)).2.length = m
      by_cases hlt : k < L.length
      · go_wp2
        go_ret2
        exact R.out
      · go_wp2
        go_ret2
        exact R.out

/-! ### Disjoint -/
def T.okAt (ca : List D.Col) (sl : List UInt8) (cb : List D.Col) (tl : List UInt8) (n p : Nat) : Prop :=
  (∀ (s : List UInt8) (k : Bool) (t : List UInt8) (l : Bool), ca[p]? = some (s, k) → cb[p]? = some (t, l) → (s.isEmpty || t.isEmpty) = true ∧ (k || l) = true) ∧ (p = n → (sl.isEmpty || tl.isEmpty) = true)
theorem T.dcols {x y : List D.P} (b : D.Bas x y) {p n : Nat} (hn : D.inL (D.qs x) = n) (hp : p ≤ n) :
    ∃ s t, ((D.txs (D.nf (D.qs x))).map T.strV)[p]? = some (T.strV s) ∧ ((D.txs (D.nf (D.qs y))).map T.strV)[p]? = some (T.strV t) ∧
      (p < n → ∃ k l, ((D.kp (D.qs x)).map Value.bool)[p]? = some (.bool k) ∧ ((D.kp (D.qs y)).map Value.bool)[p]? = some (.bool l) ∧ (D.cA (D.qs x))[p]? = some (s, k) ∧ (D.cA (D.qs y))[p]? = some (t, l)) ∧
      (p = n → s = D.cZ (D.qs x) ∧ t = D.cZ (D.qs y)) := by
  have px := (D.valid_qs b.a).2.1
  have py := (D.valid_qs b.b).2.1
  have lx := (D.cols_of px).1
  have ly := (D.cols_of py).1
  have hm := b.m
  by_cases hlt : p < n
  · obtain ⟨⟨s, k⟩, hs⟩ : ∃ c, (D.cA (D.qs x))[p]? = some c := ⟨(D.cA (D.qs x))[p]'(by omega), List.getElem?_eq_getElem (by omega)⟩
    obtain ⟨⟨t, l⟩, ht⟩ : ∃ c, (D.cA (D.qs y))[p]? = some c := ⟨(D.cA (D.qs y))[p]'(by omega), List.getElem?_eq_getElem (by omega)⟩
    exact ⟨s, t, by rw [List.getElem?_map, D.txs_at hs]; rfl, by rw [List.getElem?_map, D.txs_at ht]; rfl, fun _ => ⟨k, l, by rw [List.getElem?_map, D.kp_at px hs]; rfl, by rw [List.getElem?_map, D.kp_at py ht]; rfl, hs, ht⟩, fun e => by omega⟩
  · obtain rfl : p = n := by omega
    have e1 := D.txs_last (a := D.qs x)
    have e2 := D.txs_last (a := D.qs y)
    rw [show (D.cA (D.qs x)).length = p by omega] at e1
    rw [show (D.cA (D.qs y)).length = p by omega] at e2
    exact ⟨_, _, by rw [List.getElem?_map, e1]; rfl, by rw [List.getElem?_map, e2]; rfl, fun e => by omega, fun _ => ⟨rfl, rfl⟩⟩
set_option maxRecDepth 100000 in
set_option maxHeartbeats 8000000 in
theorem refDisjoint_any (ao bo : Option Addr) (ca0 cb0 : Nat) (x y : List D.P) (w : World) (ha : D.Row w ao x) (hb : D.Row w bo y) (bx : D.Bd x) (by_ : D.Bd y) :
    Calls Try.prog 25 #[.slice ao x.length ca0, .slice bo y.length cb0] w (T.DsEnd x y w) := by
  have HK := Lib.hid (checks7_any ao bo ca0 cb0 x y w ha hb bx by_)
  by_cases hbad : D.bas2 x y = 0
  · have b := D.bas_of hbad
    have H1 : Hid (∀ V, Below w.heap.size w V → Calls Try.prog 48 #[.slice ao x.length ca0] V (T.TxEnd (D.nf (D.qs x)) V)) := fun V h => texts7_any ao ca0 x V b.a (ha.below h)
    have H2 : Hid (∀ V, Below w.heap.size w V → Calls Try.prog 48 #[.slice bo y.length cb0] V (T.TxEnd (D.nf (D.qs y)) V)) := fun V h => texts7_any bo cb0 y V b.b (hb.below h)
    have H3 : Hid (∀ V, Below w.heap.size w V → Calls Try.prog 49 #[.slice ao x.length ca0] V (T.KpEnd (D.qs x) V)) := fun V h => keeps7_any ao ca0 x V b.a (ha.below h)
    have H4 : Hid (∀ V, Below w.heap.size w V → Calls Try.prog 49 #[.slice bo y.length cb0] V (T.KpEnd (D.qs y) V)) := fun V h => keeps7_any bo cb0 y V b.b (hb.below h)
    obtain ⟨_, px, _, _, ix, ox⟩ := D.valid_qs b.a
    obtain ⟨_, py, _, _, iy, oy⟩ := D.valid_qs b.b
    obtain ⟨n, hn⟩ : ∃ n, Hid (D.inL (D.qs x) = n) := ⟨_, rfl⟩
    have hnle : n ≤ 1048576 := by have := hn.out; omega
    have l1 : ((D.txs (D.nf (D.qs x))).map T.strV).length = n + 1 := by rw [List.length_map, D.txs_len (D.allPos_nf _ px), D.inL_nf, hn.out]
    have l2 : ((D.txs (D.nf (D.qs y))).map T.strV).length = n + 1 := by rw [List.length_map, D.txs_len (D.allPos_nf _ py), D.inL_nf, ← b.m, hn.out]
    have l3 : ((D.kp (D.qs x)).map Value.bool).length = n := by rw [List.length_map, D.kp_len, hn.out]
    have l4 : ((D.kp (D.qs y)).map Value.bool).length = n := by rw [List.length_map, D.kp_len, ← b.m, hn.out]
    have hcols := Lib.hid (fun p hp => T.dcols b (p := p) (n := n) hn.out hp)
    have lca : (D.cA (D.qs x)).length = n := by rw [(D.cols_of px).1, hn.out]
    have lcb : (D.cA (D.qs y)).length = n := by rw [(D.cols_of py).1, ← b.m, hn.out]
    have hap := D.apart_at (D.cA (D.qs x)) (D.cZ (D.qs x)) (D.cZ (D.qs y)) (D.cA (D.qs y)) (by omega)
    have hds : D.dsB x y = D.apart (D.cA (D.qs x)) (D.cZ (D.qs x)) (D.cA (D.qs y)) (D.cZ (D.qs y)) := if_pos hbad
    have Hca := Lib.hid lca
    have Hcb := Lib.hid lcb
    rw [← hds] at hap
    have RF : Hid (((∀ (p : Nat) (s : List UInt8) (k : Bool) (t : List UInt8) (l : Bool), (D.cA (D.qs x))[p]? = some (s, k) → (D.cA (D.qs y))[p]? = some (t, l) → (s.isEmpty || t.isEmpty) = true ∧ (k || l) = true) ∧ ((D.cZ (D.qs x)).isEmpty || (D.cZ (D.qs y)).isEmpty) = true → False) → ∀ w', Below w.heap.size w w' → T.DsEnd x y w (.returned (.tuple #[.bool false, .int .i64 0])) w') := fun hno w' h => by
      have e : D.dsB x y = false := by
        cases hd : D.dsB x y
        · rfl
        · exact (hno (hap.1 hd)).elim
      exact ⟨by rw [e, hbad], h⟩
    have RT : Hid ((∀ q, q < n + 1 → T.okAt (D.cA (D.qs x)) (D.cZ (D.qs x)) (D.cA (D.qs y)) (D.cZ (D.qs y)) n q) → ∀ w', Below w.heap.size w w' → T.DsEnd x y w (.returned (.tuple #[.bool true, .int .i64 0])) w') := fun hq w' h => by
      have e : D.dsB x y = true := hap.2 ⟨fun p s k t l h1 h2 => (hq p (by have := (List.getElem?_eq_some_iff.1 h1).1; omega)).1 s k t l h1 h2, (hq n (by omega)).2 rfl⟩
      exact ⟨by rw [e, hbad], h⟩
    unfold T.TxEnd at H1 H2
    unfold T.KpEnd at H3 H4
    rw [l1] at H1
    rw [l2] at H2
    rw [l3] at H3
    rw [l4] at H4
    rw [hbad] at HK
    generalize (D.txs (D.nf (D.qs x))).map T.strV = XS at H1 hcols l1
    generalize (D.txs (D.nf (D.qs y))).map T.strV = YS at H2 hcols l2
    generalize (D.kp (D.qs x)).map Value.bool = KA at H3 hcols l3
    generalize (D.kp (D.qs y)).map Value.bool = KB at H4 hcols l4
    clear ha hb bx by_ hbad b px py ix ox iy oy lca lcb hn hap hds
    generalize D.cA (D.qs x) = ca at hcols Hca RF RT
    generalize D.cZ (D.qs x) = sl at hcols RF RT
    generalize D.cA (D.qs y) = cb at hcols Hcb RF RT
    generalize D.cZ (D.qs y) = tl at hcols RF RT
    obtain ⟨m, hm⟩ : ∃ m, Hid (n + 1 = m) := ⟨_, rfl⟩
    rw [hm.out] at H1 H2 l1 l2 RT
    go_enter Try.func25, Try.ntmps25
    go_wp2_with fail
    refine HK.out.mono ?_
    rintro e w0 ⟨rfl, hb0⟩
    have H1 := Lib.hid (H1.out w0 hb0)
    have B0 := Lib.hid hb0
    clear hb0 HK
    go_wp2_with fail
    refine H1.out.mono ?_
    rintro e w1 ⟨v1, rfl, ho1, hb1⟩
    rw [← l1] at ho1
    obtain ⟨xo, xc, hv1, hxr⟩ := T.vrow_of ho1
    rw [l1] at hv1
    subst hv1
    have B1 := Lib.hid (And.intro (B0.out.trans (hb1.mono B0.out.size)) hxr)
    have H2 := Lib.hid (H2.out w1 B1.out.1)
    clear ho1 hb1 hxr H1 B0
    go_wp2_with fail
    refine H2.out.mono ?_
    rintro e w2 ⟨v2, rfl, ho2, hb2⟩
    rw [← l2] at ho2
    obtain ⟨yo, yc, hv2, hyr⟩ := T.vrow_of ho2
    rw [l2] at hv2
    subst hv2
    have B2 := Lib.hid (And.intro (B1.out.1.trans (hb2.mono B1.out.1.size)) (And.intro (B1.out.2.below hb2) hyr))
    have H3 := Lib.hid (H3.out w2 B2.out.1)
    clear ho2 hb2 hyr H2 B1
    go_wp2_with fail
    refine H3.out.mono ?_
    rintro e w3 ⟨v3, rfl, ho3, hb3⟩
    rw [← l3] at ho3
    obtain ⟨ko, kc, hv3, hkr⟩ := T.vrow_of ho3
    rw [l3] at hv3
    subst hv3
    have B3 := Lib.hid (And.intro (B2.out.1.trans (hb3.mono B2.out.1.size)) (And.intro (B2.out.2.1.below hb3) (And.intro (B2.out.2.2.below hb3) hkr)))
    have H4 := Lib.hid (H4.out w3 B3.out.1)
    clear ho3 hb3 hkr H3 B2
    go_wp2_with fail
    refine H4.out.mono ?_
    rintro e W5 ⟨v4, rfl, ho4, hb4⟩
    rw [← l4] at ho4
    obtain ⟨jo, jc, hv4, hjr⟩ := T.vrow_of ho4
    rw [l4] at hv4
    subst hv4
    have BW := Lib.hid (B3.out.1.trans (hb4.mono B3.out.1.size))
    have HXS := Lib.hid (T.vrow_at (B3.out.2.1.below hb4))
    have HYS := Lib.hid (T.vrow_at (B3.out.2.2.1.below hb4))
    have HKA := Lib.hid (T.vrow_at (B3.out.2.2.2.below hb4))
    have HKB := Lib.hid (T.vrow_at hjr)
    have H0 : Hid (∀ q, q < 0 → T.okAt ca sl cb tl n q) := fun q hq => by omega
    clear ho4 hb4 hjr H4 B3 l1 l2 l3 l4
    go_wp2
    go_loopw [11] (fun j wr => ∃ p : Nat, p ≤ m ∧ j = .int .i64 p ∧ Hid (∀ q, q < p → T.okAt ca sl cb tl n q) ∧ wr = W5) (fun j _ => m - (intOf j).toNat)
    case atStart => exact ⟨0, Nat.zero_le _, rfl, H0, rfl⟩
    case round =>
      clear H0
      obtain ⟨p, hp, rfl, hQ, hwr⟩ := hrel
      subst hwr
      have hmn := hm.out
      by_cases hlt : p < m
      · obtain ⟨s, t, hs, ht, hc1, hc2⟩ := hcols.out p (by omega)
        obtain ⟨bx, ox', ex, bx1, c0⟩ := HXS.out p _ hs
        obtain ⟨by_, oy', ey, by1, c1⟩ := HYS.out p _ ht
        subst ex ey
        unfold T.strV at c0 c1
        clear hs ht bx1 by1
        cases hse : s.isEmpty with
        | true =>
          have hst : Hid ((s.isEmpty || t.isEmpty) = true) := by show _ = _; rw [hse]; rfl
          by_cases hpn : p < n
          · obtain ⟨k, l, hka, hkb, x1, x2⟩ := hc1 hpn
            obtain ⟨q1, q2, q3, q4, q5⟩ := HKA.out p _ hka
            obtain ⟨r1, r2, r3, r4, r5⟩ := HKB.out p _ hkb
            subst q3 r3
            have hcc := Lib.hid (And.intro x1 x2)
            clear hka hkb x1 x2 hc1 hc2
            cases k with
            | true =>
              have R : Hid (∀ q, q < p + 1 → T.okAt ca sl cb tl n q) := fun q hq => by
                by_cases e : q < p
                · exact hQ.out q e
                · obtain rfl : q = p := by omega
                  obtain ⟨x1, x2⟩ := hcc.out
                  refine ⟨fun s' k' t' l' h1 h2 => ?_, fun e => by omega⟩
                  rw [x1] at h1; rw [x2] at h2; cases h1; cases h2
                  exact ⟨hst.out, rfl⟩
              clear hQ hcc hst
              go_wp2
              go_roundw
              case rel => exact ⟨p + 1, by omega, by go_num, R, by first | trivial | rfl⟩
              case measure => simp [intOf]; omega
            | false =>
              cases l with
              | true =>
                have R : Hid (∀ q, q < p + 1 → T.okAt ca sl cb tl n q) := fun q hq => by
                  by_cases e : q < p
                  · exact hQ.out q e
                  · obtain rfl : q = p := by omega
                    obtain ⟨x1, x2⟩ := hcc.out
                    refine ⟨fun s' k' t' l' h1 h2 => ?_, fun e => by omega⟩
                    rw [x1] at h1; rw [x2] at h2; cases h1; cases h2
                    exact ⟨hst.out, rfl⟩
                clear hQ hcc hst
                go_wp2
                go_roundw
                case rel => exact ⟨p + 1, by omega, by go_num, R, by first | trivial | rfl⟩
                case measure => simp [intOf]; omega
              | false =>
                have R : Hid (T.DsEnd x y w (.returned (.tuple #[.bool false, .int .i64 0])) wr) := RF.out (fun h => absurd ((h.1 p _ _ _ _ hcc.out.1 hcc.out.2).2) (by decide)) wr BW.out
                clear hQ hcc hst
                go_wp2
                go_ret2
                exact R.out
          · have hcc := Lib.hid (hc2 (by omega))
            clear hc1 hc2
            have R : Hid (∀ q, q < p + 1 → T.okAt ca sl cb tl n q) := fun q hq => by
              by_cases e : q < p
              · exact hQ.out q e
              · obtain rfl : q = p := by omega
                refine ⟨fun s' k' t' l' h1 h2 => ?_, fun _ => ?_⟩
                · have := (List.getElem?_eq_some_iff.1 h1).1; have := Hca.out; omega
                · rw [← hcc.out.1, ← hcc.out.2]; exact hst.out
            clear hQ hcc hst
            go_wp2
            go_roundw
            case rel => exact ⟨p + 1, by omega, by go_num, R, by first | trivial | rfl⟩
            case measure => simp [intOf]; omega
        | false =>
          cases hte : t.isEmpty with
          | true =>
            have hst : Hid ((s.isEmpty || t.isEmpty) = true) := by show _ = _; rw [hse, hte]; rfl
            by_cases hpn : p < n
            · obtain ⟨k, l, hka, hkb, x1, x2⟩ := hc1 hpn
              obtain ⟨q1, q2, q3, q4, q5⟩ := HKA.out p _ hka
              obtain ⟨r1, r2, r3, r4, r5⟩ := HKB.out p _ hkb
              subst q3 r3
              have hcc := Lib.hid (And.intro x1 x2)
              clear hka hkb x1 x2 hc1 hc2
              cases k with
              | true =>
                have R : Hid (∀ q, q < p + 1 → T.okAt ca sl cb tl n q) := fun q hq => by
                  by_cases e : q < p
                  · exact hQ.out q e
                  · obtain rfl : q = p := by omega
                    obtain ⟨x1, x2⟩ := hcc.out
                    refine ⟨fun s' k' t' l' h1 h2 => ?_, fun e => by omega⟩
                    rw [x1] at h1; rw [x2] at h2; cases h1; cases h2
                    exact ⟨hst.out, rfl⟩
                clear hQ hcc hst
                go_wp2
                go_roundw
                case rel => exact ⟨p + 1, by omega, by go_num, R, by first | trivial | rfl⟩
                case measure => simp [intOf]; omega
              | false =>
                cases l with
                | true =>
                  have R : Hid (∀ q, q < p + 1 → T.okAt ca sl cb tl n q) := fun q hq => by
                    by_cases e : q < p
                    · exact hQ.out q e
                    · obtain rfl : q = p := by omega
                      obtain ⟨x1, x2⟩ := hcc.out
                      refine ⟨fun s' k' t' l' h1 h2 => ?_, fun e => by omega⟩
                      rw [x1] at h1; rw [x2] at h2; cases h1; cases h2
                      exact ⟨hst.out, rfl⟩
                  clear hQ hcc hst
                  go_wp2
                  go_roundw
                  case rel => exact ⟨p + 1, by omega, by go_num, R, by first | trivial | rfl⟩
                  case measure => simp [intOf]; omega
                | false =>
                  have R : Hid (T.DsEnd x y w (.returned (.tuple #[.bool false, .int .i64 0])) wr) := RF.out (fun h => absurd ((h.1 p _ _ _ _ hcc.out.1 hcc.out.2).2) (by decide)) wr BW.out
                  clear hQ hcc hst
                  go_wp2
                  go_ret2
                  exact R.out
            · have hcc := Lib.hid (hc2 (by omega))
              clear hc1 hc2
              have R : Hid (∀ q, q < p + 1 → T.okAt ca sl cb tl n q) := fun q hq => by
                by_cases e : q < p
                · exact hQ.out q e
                · obtain rfl : q = p := by omega
                  refine ⟨fun s' k' t' l' h1 h2 => ?_, fun _ => ?_⟩
                  · have := (List.getElem?_eq_some_iff.1 h1).1; have := Hca.out; omega
                  · rw [← hcc.out.1, ← hcc.out.2]; exact hst.out
              clear hQ hcc hst
              go_wp2
              go_roundw
              case rel => exact ⟨p + 1, by omega, by go_num, R, by first | trivial | rfl⟩
              case measure => simp [intOf]; omega
          | false =>
            have hcc : Hid ((s.isEmpty || t.isEmpty) = false) := by show _ = _; rw [hse, hte]; rfl
            have hno : Hid ((∀ (p : Nat) (s : List UInt8) (k : Bool) (t : List UInt8) (l : Bool), ca[p]? = some (s, k) → cb[p]? = some (t, l) → (s.isEmpty || t.isEmpty) = true ∧ (k || l) = true) ∧ (sl.isEmpty || tl.isEmpty) = true → False) := fun h => by
              by_cases hpn : p < n
              · obtain ⟨k, l, _, _, x1, x2⟩ := hc1 hpn
                have := (h.1 p _ _ _ _ x1 x2).1
                rw [hcc.out] at this; cases this
              · obtain ⟨e1, e2⟩ := hc2 (by omega)
                have := h.2
                rw [← e1, ← e2, hcc.out] at this; cases this
            have R : Hid (T.DsEnd x y w (.returned (.tuple #[.bool false, .int .i64 0])) wr) := RF.out hno.out wr BW.out
            clear hQ hcc hno hc1 hc2
            go_wp2
            go_ret2
            exact R.out
      · obtain rfl : p = m := by omega
        have R : Hid (T.DsEnd x y w (.returned (.tuple #[.bool true, .int .i64 0])) wr) := RT.out hQ.out wr BW.out
        clear hQ
        go_wp2
        go_ret2
        exact R.out
  · have R : Hid (∀ w', Below w.heap.size w w' → T.DsEnd x y w (.returned (.tuple #[.bool false, .int .i64 (D.bas2 x y)])) w') := fun w' h => by
      have e : D.dsB x y = false := if_neg hbad
      exact ⟨by rw [e], h⟩
    have q : (D.bas2 x y != 0) = true := by simpa using hbad
    clear ha hb bx by_ hbad
    generalize D.bas2 x y = c at HK R q
    go_enter Try.func25, Try.ntmps25
    go_wp2_with fail
    refine HK.out.mono ?_
    rintro e w1 ⟨rfl, hb1⟩
    have R := Lib.hid (R.out w1 hb1)
    clear hb1
    go_wp2
    go_ret2
    exact R.out
end Go.Proofs.Ytmljagkndnobdaa
