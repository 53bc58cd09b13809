/- The contract of package delta's normalForm. -/
import Derived.Test.YtdilkoogjkabfaaDoorDeltaAdd
import Derived.Test.YtdilkoogjkabfaaDoorPackSrc
namespace Go.Proofs.YtdilkoogjkabfaaDoor
open Go.RowKit

/-- A list of deltas, as it lies in memory. -/
def D.Lst (W : World) (lo : Option Addr) (L : List D.Src) : Prop :=
  ∀ (i : Nat) (s : D.Src), L[i]? = some s → ∃ b o, lo = some ⟨b, o, none⟩ ∧ b < W.heap.size ∧ W.cell? ⟨b, o + i, none⟩ = some (.slice s.a s.x.length s.c) ∧ D.Row W s.a s.x
theorem D.Rows.lst {W : World} {lo : Option Addr} {L : List D.Src} (h : D.Rows W lo L) : D.Lst W lo L := fun i s hs => by
  obtain ⟨b, o, e, hb, hc, hk⟩ := h i s hs
  exact ⟨b, o, e, hb, hc, hk.row⟩
def D.st (a : List D.Q) : D.S := D.runS ⟨[], 0, [], 0⟩ a
theorem D.st_snoc (a : List D.Q) (q : D.Q) : D.st (a ++ [q]) = (D.st a).add q := by simp [D.st, D.runS, List.foldl_append]
theorem D.st_ok (a : List D.Q) (pa : D.allPos a = true) : D.Sok (D.st a) a := by
  have := D.Sok_run a pa ⟨[], 0, [], 0⟩ [] D.Sok_init
  rwa [List.nil_append] at this
/-- Between two pieces: the normalizer holds the state of those that were added. -/
def D.NfAt (w : World) (a : List D.Q) (wr : World) : Prop := (∃ sv iv, D.Nz w.heap.size w.heap.size (D.st a).set (D.st a).kept (D.st a).ins (D.st a).rem sv iv wr) ∧ Below w.heap.size w wr
theorem D.pre (L : List D.Src) (k : Nat) (s : D.Src) (hs : L[k]? = some s) (j : Nat) : ∃ r, D.qs (D.flat L) = (D.qs (D.flat (L.take k)) ++ (D.qs s.x).take j) ++ r := by
  obtain ⟨hk, e⟩ := List.getElem?_eq_some_iff.1 hs
  have h1 : D.flat L = D.flat (L.take k) ++ (s.x ++ D.flat (L.drop (k + 1))) := by
    have h2 : L = L.take k ++ s :: L.drop (k + 1) := by rw [← e, ← List.drop_eq_getElem_cons hk, List.take_append_drop]
    calc D.flat L = D.flat (L.take k ++ s :: L.drop (k + 1)) := by rw [← h2]
      _ = _ := by simp [D.flat]
  refine ⟨(D.qs s.x).drop j ++ D.qs (D.flat (L.drop (k + 1))), ?_⟩
  rw [h1, D.qs_append, D.qs_append, List.append_assoc, ← List.append_assoc ((D.qs s.x).take j), List.take_append_drop]
theorem D.pre_bd {a p r : List D.Q} (e : a = p ++ r) (pa : D.allPos a = true) : D.allPos p = true ∧ p.length ≤ a.length ∧ D.inL p ≤ D.inL a ∧ D.outL p ≤ D.outL a := by
  subst e
  rw [D.inL_append, D.outL_append, List.length_append]
  unfold D.allPos at *
  rw [List.all_append, Bool.and_eq_true] at pa
  exact ⟨pa.1, by omega, by omega, by omega⟩
theorem D.in1_le {a : List D.Q} {q : D.Q} (h : q ∈ a) : D.in1 q ≤ D.inL a ∧ D.out1 q ≤ D.outL a := by
  induction a with
  | nil => cases h
  | cons p a ih =>
    have e1 : D.inL (p :: a) = D.in1 p + D.inL a := rfl
    have e2 : D.outL (p :: a) = D.out1 p + D.outL a := rfl
    rcases List.mem_cons.1 h with rfl | h
    · omega
    · have := ih h; omega
def D.NfEnd (x : List D.P) (w : World) (e : Ending) (w' : World) : Prop := ∃ v, e = .returned v ∧ D.Made x w v w'
set_option maxRecDepth 100000 in
set_option maxHeartbeats 2000000 in
theorem normalForm_any (lo : Option Addr) (cap : Nat) (L : List D.Src) (w : World) (hr : D.Lst w lo L) (hL : L.length ≤ 1000000) (hv : ∀ p ∈ D.flat L, D.vP p = true) (pa : D.allPos (D.qs (D.flat L)) = true)
    (hn : (D.flat L).length ≤ 900000) (hi : D.inL (D.qs (D.flat L)) ≤ 1000000000) (ho : D.outL (D.qs (D.flat L)) ≤ 1000000000) (hx : ∀ s ∈ L, s.x.length ≤ 1000000) :
    Calls Tryd.prog 22 #[.slice lo L.length cap] w (D.NfEnd (D.normP (D.flat L)) w) := by
  have Hr := Lib.hid hr
  have Pa := Lib.hid pa
  have Hv := Lib.hid hv
  have Hx := Lib.hid hx
  have hq : (D.qs (D.flat L)).length = (D.flat L).length := by unfold D.qs; rw [List.length_map]
  have Hn := Lib.hid (show (D.qs (D.flat L)).length ≤ 900000 by omega)
  have Hi := Lib.hid hi
  have Ho := Lib.hid ho
  have hz0 : D.Nz w.heap.size w.heap.size [] 0 [] 0 (.slice none 0 0) (.slice none 0 0) (w.alloc (.cells #[.slice none 0 0, .int .i64 0, .slice none 0 0, .int .i64 0] 63)) :=
    ⟨Nat.le_refl _, heap_alloc_new w _, World.ownsRow_nil _ _ _ _, World.ownsRow_nil _ _ _ _⟩
  have R0 : Hid (D.NfAt w [] (w.alloc (.cells #[.slice none 0 0, .int .i64 0, .slice none 0 0, .int .i64 0] 63))) := ⟨⟨_, _, hz0⟩, (Below.refl _ _).alloc (Nat.le_refl _) _⟩
  clear hr pa hv hx hq hi ho hz0 hn
  go_enter Tryd.func22, Tryd.ntmps22
  go_wp2
  go_loopw [10] (fun i wr => ∃ k : Nat, k ≤ L.length ∧ i = .int .i64 k ∧ Hid (D.NfAt w (D.qs (D.flat (L.take k))) wr)) (fun i _ => L.length - (intOf i).toNat)
  case atStart => exact ⟨0, Nat.zero_le _, rfl, R0.out⟩
  case round =>
    obtain ⟨k, hk, rfl, hm⟩ := hrel
    clear R0
    by_cases hlt : k < L.length
    · obtain ⟨⟨sa, sc, sx⟩, hs⟩ : ∃ s, L[k]? = some s := ⟨L[k], List.getElem?_eq_getElem hlt⟩
      obtain ⟨b, o, e, hbl, hc, hrow⟩ := Hr.out k _ hs
      dsimp only at hc hrow
      subst e
      have hc' := ((D.bcell hm.out.2).1 b (o + k) hbl).trans hc
      have hsx : sx.length ≤ 1000000 := Hx.out _ (List.mem_of_getElem? hs)
      have Hrow := Lib.hid hrow
      have Hs := Lib.hid hs
      have hfl : Hid (D.qs (D.flat (L.take (k + 1))) = D.qs (D.flat (L.take k)) ++ D.qs sx) := by show _ = _; rw [D.flat_snoc L k _ hs, D.qs_append]
      have hpre : Hid (∀ j, ∃ r, D.qs (D.flat L) = (D.qs (D.flat (L.take k)) ++ (D.qs sx).take j) ++ r) := D.pre L k _ hs
      have hmem : Hid (∀ p ∈ sx, D.vP p = true) := fun p hp => Hv.out p (by
        unfold D.flat
        exact List.mem_flatMap.2 ⟨_, List.mem_of_getElem? hs, hp⟩)
      obtain ⟨A, hA⟩ : ∃ A, Hid (D.qs (D.flat (L.take k)) = A) := ⟨_, rfl⟩
      rw [hA.out] at hm hfl hpre
      clear hrow hs hc
      obtain ⟨W0, rfl⟩ : ∃ W0 : World, W0 = wr := ⟨_, rfl⟩
      go_wp2
      go_loopw [16] (fun i wx => ∃ j : Nat, j ≤ sx.length ∧ i = .int .i64 j ∧ Hid (D.NfAt w (A ++ (D.qs sx).take j) wx)) (fun i _ => sx.length - (intOf i).toNat)
      case atStart => exact ⟨0, Nat.zero_le _, rfl, by show D.NfAt _ _ _; rw [List.take_zero, List.append_nil]; exact hm.out⟩
      case round =>
        obtain ⟨j, hj, rfl, hy⟩ := hrel
        by_cases hjl : j < sx.length
        · obtain ⟨p, hp, _⟩ := D.drop_cons hjl
          obtain ⟨pb, po, e, hpl, hcell⟩ := Hrow.out j p hp
          obtain ⟨c0, c1, c2⟩ := D.cell3 hy.out.2 hpl hcell
          have hvp := hmem.out p (List.mem_of_getElem? hp)
          have hraw := D.raw_toQ hvp
          have hqj : (D.qs sx)[j]? = some (D.toQ p) := by unfold D.qs; rw [List.getElem?_map, hp]; rfl
          have hstep : Hid (A ++ (D.qs sx).take (j + 1) = (A ++ (D.qs sx).take j) ++ [D.toQ p]) := by show _ = _; rw [List.take_add_one, hqj, List.append_assoc]; rfl
          have hin : D.toQ p ∈ D.qs (D.flat L) := by
            unfold D.qs
            refine List.mem_map.2 ⟨p, ?_, rfl⟩
            unfold D.flat
            exact List.mem_flatMap.2 ⟨_, List.mem_of_getElem? Hs.out, List.mem_of_getElem? hp⟩
          obtain ⟨z1, z2⟩ := D.in1_le hin
          obtain ⟨r, hr⟩ := hpre.out j
          obtain ⟨y0, y1, y2, y3⟩ := D.pre_bd hr Pa.out
          obtain ⟨t1, t2, t3, t4⟩ := D.S_bd (D.st_ok _ y0)
          have i1 := Hi.out
          have i2 := Ho.out
          have i3 := Hn.out
          obtain ⟨⟨sv, iv, hz⟩, hbw⟩ := hy.out
          have hbs := hbw.size
          have Hadd := add_any w.heap.size w.heap.size (D.toQ p) (D.st (A ++ (D.qs sx).take j)) sv iv (wr.alloc (.cells #[.int .u8 p.k, .int .i64 p.n, .string p.t] 29)) (hz.alloc _) (by simp; omega) (by omega) (by omega) (by omega) (by omega) (by omega) (by omega)
          rw [hraw] at Hadd
          have Hadd := Lib.hid Hadd
          have hba : Hid (Below w.heap.size w (wr.alloc (.cells #[.int .u8 p.k, .int .i64 p.n, .string p.t] 29))) := hbw.alloc hbs _
          subst e
          clear hp hcell hvp hraw hqj hin z1 z2 hr y0 y1 y2 y3 t1 t2 t3 t4 i1 i2 i3 hz hbw
          go_wp2_with fail
          refine Hadd.out.mono ?_
          rintro e w2 ⟨rfl, sv2, iv2, hz2, hb2⟩
          have R : Hid (D.NfAt w (A ++ (D.qs sx).take (j + 1)) w2) := by
            show D.NfAt _ _ _
            rw [hstep.out]
            refine ⟨⟨sv2, iv2, ?_⟩, hba.out.trans hb2⟩
            rw [D.st_snoc]; exact hz2
          clear hz2 hb2 Hadd hba
          go_wp2
          go_roundw
          case rel => exact ⟨j + 1, by omega, by go_num, R⟩
          case measure => simp [intOf]; omega
        · obtain rfl : j = sx.length := by omega
          have R : Hid (D.NfAt w (D.qs (D.flat (L.take (k + 1)))) wr) := by
            have := hy.out
            show D.NfAt _ _ _
            rw [hfl.out]
            rwa [List.take_of_length_le (by unfold D.qs; rw [List.length_map]; exact Nat.le_refl _)] at this
          go_wp2
          go_roundw
          case rel => exact ⟨k + 1, by omega, by go_num, R⟩
          case measure => simp [intOf]; omega
    · obtain rfl : k = L.length := by omega
      have hy := hm.out
      rw [List.take_length] at hy
      obtain ⟨a, ha⟩ : ∃ a, Hid (D.qs (D.flat L) = a) := ⟨_, rfl⟩
      rw [ha.out] at hy Pa Hn Hi Ho
      obtain ⟨⟨sv, iv, hz⟩, hbw⟩ := hy
      have hok := D.st_ok a Pa.out
      obtain ⟨t1, t2, t3, t4⟩ := D.S_bd hok
      have hfin := Lib.hid (D.Sok_fin hok)
      have i1 := Hi.out
      have i2 := Ho.out
      have i3 := Hn.out
      have hbs := hbw.size
      have H1 := Lib.hid (settleKept_any w.heap.size w.heap.size _ _ _ _ sv iv wr hz hbs (by omega) (by omega))
      have Hbw := Lib.hid hbw
      obtain ⟨S, hS⟩ : ∃ S, Hid (D.st a = S) := ⟨_, rfl⟩
      rw [hS.out] at H1 hfin t1 t2 t3 t4
      have hmade : Hid (∀ v w', w'.ownsRow w.heap.size 29 3 v S.fin.length (D.cellsL (S.fin.map D.raw)) → Below w.heap.size w w' → D.NfEnd (D.normP (D.flat L)) w (.returned v) w') := fun v w' ho hb => by
        refine ⟨v, rfl, ?_, hb⟩
        unfold D.normP
        rw [ha.out, ← hfin.out, List.length_map]
        exact ho
      clear hm hz hbw hok hfin i1 i2 i3 hS
      go_wp2_with fail
      refine H1.out.mono ?_
      rintro e w1 ⟨rfl, sv1, iv1, hz1, hb1, _⟩
      have hb1' := Hbw.out.trans hb1
      have hl1 : (S.set ++ D.oR S.kept).length ≤ 1000000 := by have h1 := D.oR_len S.kept; have h2 := Hn.out; rw [List.length_append]; omega
      have h8 := Ho.out
      have h9 := Hi.out
      have hbs1 := hb1'.size
      have H2 := Lib.hid (settleGap_any w.heap.size w.heap.size _ _ _ _ sv1 iv1 w1 hz1 hbs1 hl1 (by omega) (by omega))
      have Hb1 := Lib.hid hb1'
      clear hz1 hb1 hb1' h8 h9 H1
      go_wp2_with fail
      refine H2.out.mono ?_
      rintro e w2 ⟨rfl, sv2, iv2, hz2, hb2, _⟩
      obtain ⟨c0, _, _, _⟩ := hz2.cells
      have R := Lib.hid (hmade.out sv2 w2 hz2.os (Hb1.out.trans hb2))
      obtain ⟨kb, kc, hv⟩ := D.slice_of_own hz2.os
      subst hv
      obtain ⟨ln, hln⟩ : ∃ n, Hid ((((S.set ++ D.oR S.kept) ++ D.oI S.ins) ++ D.oD S.rem).length = n) := ⟨_, rfl⟩
      rw [hln.out] at c0 R
      clear hz2 hb2 H2
      go_wp2
      go_ret
      exact R.out
end Go.Proofs.YtdilkoogjkabfaaDoor
