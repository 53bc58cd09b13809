/- The contract of package delta's reader: text. -/
import Derived.Test.YtmjoijloflinnaaDoorDeltaNum
import Derived.Deep.AppendLies
namespace Go.Proofs.YtmjoijloflinnaaDoor
open Go.RowKit

theorem D.rdTxt_end {z s : List UInt8} (h : D.endB s = true) : D.rdTxt z s = if z = [] then none else some (z, s) := by
  match s, h with
  | [], _ => rw [D.rdTxt]
  | [c], h =>
    have : c = 32 := by simpa [D.endB] using h
    subst this
    rw [D.rdTxt, if_pos rfl]
  | c :: e :: r, h =>
    have : c = 32 := by simpa [D.endB] using h
    subst this
    rw [D.rdTxt, if_pos rfl]
theorem D.rdTxt_bad1 {z : List UInt8} {c : UInt8} {r : List UInt8} (h : (c == 32) = false) (hv : ¬ D.half c.toNat < 16) : D.rdTxt z (c :: r) = none := by
  have h32 : c ≠ 32 := by simpa using h
  cases r with
  | nil => rw [D.rdTxt, if_neg h32]
  | cons e r => rw [D.rdTxt, if_neg h32, if_pos (.inl (by omega))]
theorem D.rdTxt_odd {z : List UInt8} {c : UInt8} (h : (c == 32) = false) : D.rdTxt z [c] = none := by
  have h32 : c ≠ 32 := by simpa using h
  rw [D.rdTxt, if_neg h32]
theorem D.rdTxt_bad2 {z : List UInt8} {c e : UInt8} {r : List UInt8} (h : (c == 32) = false) (hv : ¬ D.half e.toNat < 16) : D.rdTxt z (c :: e :: r) = none := by
  have h32 : c ≠ 32 := by simpa using h
  rw [D.rdTxt, if_neg h32, if_pos (.inr (by omega))]
theorem D.rdTxt_next {z : List UInt8} {c e : UInt8} {r : List UInt8} (h : (c == 32) = false) (hv : D.half c.toNat < 16) (hw : D.half e.toNat < 16) : D.rdTxt z (c :: e :: r) = D.rdTxt (z ++ [UInt8.ofNat (16 * D.half c.toNat + D.half e.toNat)]) r := by
  have h32 : c ≠ 32 := by simpa using h
  rw [D.rdTxt, if_neg h32, if_neg (by omega)]
structure D.TxtAt (res : Option (List UInt8 × List UInt8)) (b : Nat) (t z : List UInt8) (j : Nat) (v : Value) (w wr : World) : Prop where
  rd : D.Rd b t j wr
  gb : w.grownBy wr (some b)
  eq : D.rdTxt z (t.drop j) = res
  own : wr.ownsRow w.heap.size 5 1 v z.length (D.bytesL z)
def D.strV (z : List UInt8) : Value := .string ⟨z.toArray⟩
theorem D.own_gb {w V W : World} {v : Value} {n : Nat} {xs : List Value} {e : TypeId} {s b : Nat} (h : V.ownsRow w.heap.size e s v n xs) (hb : b < w.heap.size) (hg : V.grownBy W (some b)) : W.ownsRow w.heap.size e s v n xs :=
  h.kept hg (.inr (fun e' => by have := (h.lt _ e').1; omega))
set_option maxRecDepth 100000 in
theorem D.or16 (d f : Nat) (hd : d < 16) (hf : f < 16) : bits BinOp.or IntKind.i64 ((d : Int) * 16) (f : Int) = ((16 * d + f : Nat) : Int) := by
  have key : ∀ x y : Fin 16, bits BinOp.or IntKind.i64 (((x.val : Nat) : Int) * 16) ((y.val : Nat) : Int) = ((16 * x.val + y.val : Nat) : Int) := by decide
  exact key ⟨d, hd⟩ ⟨f, hf⟩
set_option maxRecDepth 100000 in
set_option maxHeartbeats 2000000 in
theorem text_any (b : Nat) (t : List UInt8) (k : Nat) (w : World) (hk : k ≤ t.length) (h : D.Rd b t k w) (hl0 : t.length ≤ 140737488351232) :
    Calls Tryd.prog 62 #[.pointer (some ⟨b, 0, none⟩)] w (D.ReadEnd D.strV (D.rdTxt [] (t.drop k)) b t w) := by
  have hl : t.length ≤ 1000000000000000 := by omega
  obtain ⟨res, hres⟩ : ∃ res, D.rdTxt [] (t.drop k) = res := ⟨_, rfl⟩
  have R0 : Hid (D.TxtAt res b t [] k (.slice none 0 0) w w) := ⟨h, D.gb_refl _ _, hres, World.ownsRow_nil _ _ _ _⟩
  obtain ⟨ib, hb, hb0, hb1, hb2⟩ := info_parts Tryd.infoByte
  have Hb := Lib.hid (And.intro hb (And.intro hb0 (And.intro hb1 hb2)))
  clear hb hb0 hb1 hb2
  have hbw := h.lt
  rw [hres]
  clear hres h
  go_enter Tryd.func62, Tryd.ntmps62
  go_wp2
  go_loopw [3] (fun v wr => ∃ (z : List UInt8) (j : Nat), z.length ≤ j ∧ j ≤ t.length ∧ Hid (D.TxtAt res b t z j v w wr)) (fun _ wr => t.length - D.posOf b wr)
  case atStart => exact ⟨[], k, Nat.zero_le _, hk, R0.out⟩
  case round =>
    obtain ⟨z, j, hn, hj, hm⟩ := hrel
    clear R0
    obtain ⟨tb, tc, hv⟩ := D.slice_of_own hm.out.own
    subst hv
    have He := Lib.hid (ended_any b t j wr hj hm.out.rd)
    cases hend : D.endB (t.drop j) with
    | true =>
      rw [hend] at He
      have heq := hm.out.eq
      rw [D.rdTxt_end hend] at heq
      have Hm := Lib.hid hm.out
      clear hm
      go_wp2_with fail
      refine He.out.mono ?_
      rintro e w2 ⟨rfl, hr2, hg2⟩
      have hgg := Lib.hid (D.gb_trans Hm.out.gb hg2)
      have hown := D.own_gb Hm.out.own hbw hg2
      by_cases hz : z = []
      · subst hz
        rw [if_pos rfl] at heq
        have R : Hid (D.ReadEnd D.strV res b t w (.panicked [{ v := .iface 24 (.int .i64 4), recovered := false }]) w2) := by
          show D.ReadEnd _ _ _ _ _ _ _
          rw [← heq]; exact ⟨rfl, hgg.out⟩
        clear heq hr2 hg2 hend hown
        go_wp2_with (go_at_call 63; refine (fail_any _ _).mono ?_; rintro e w' ⟨rfl, rfl⟩)
        exact ⟨rfl, R.out⟩
      · rw [if_neg hz] at heq
        have R : Hid (D.ReadEnd D.strV res b t w (.returned (.string ⟨z.toArray⟩)) w2) := by
          show D.ReadEnd _ _ _ _ _ _ _
          rw [← heq]; exact ⟨rfl, ⟨j, hj, rfl, hr2⟩, hgg.out⟩
        obtain ⟨g, c, hv, hby⟩ := D.bytes_of_own hown hz
        cases hv
        have hpos : 0 < z.length := List.length_pos_iff.2 hz
        have hz' : ((z.length : Int) == 0) = false := by simp; exact hz
        have hz2 : z.length ≠ 0 := by omega
        have hconv := Lib.run_convert_whole (P := Tryd.prog) w2 62 5 9 Tryd.underlying62 Tryd.underlying5 Tryd.underlying9 g 0 ⟨z.toArray⟩ hby tc
        rw [D.size_l] at hconv
        have HZ := Lib.hid hz
        clear heq hr2 hg2 hend hown hby hz
        go_wp2
        go_ret
        exact R.out
    | false =>
      rw [hend] at He
      cases hd : t.drop j with
      | nil => rw [hd] at hend; cases hend
      | cons c r =>
        rw [hd] at hend
        have hc : (c == 32) = false := hend
        obtain ⟨hjl, _, hr⟩ := D.at_drop hd
        have heq := hm.out.eq
        rw [hd] at heq
        by_cases hv : D.half c.toNat < 16
        · have Hd : Hid (∀ V, D.Rd b t j V → Calls Tryd.prog 69 #[.pointer (some ⟨b, 0, none⟩), .int .i64 16] V (D.DigEnd2 (D.half c.toNat) b t j V)) := fun V hV => digit16_ok b t j c r V hd hV hl hv
          cases r with
          | nil =>
            rw [D.rdTxt_odd hc] at heq
            have ej : j + 1 = t.length := by have := List.drop_eq_nil_iff.1 hr; omega
            have Hf : Hid (∀ V, D.Rd b t (j + 1) V → Calls Tryd.prog 69 #[.pointer (some ⟨b, 0, none⟩), .int .i64 16] V (fun e w' => e = .panicked [{ v := .iface 24 (.int .i64 4), recovered := false }] ∧ V.grownBy w' (some b))) := fun V hV => digit16_end b t V (by rw [ej] at hV; exact hV)
            have R : Hid (∀ w3, w.grownBy w3 (some b) → D.ReadEnd D.strV res b t w (.panicked [{ v := .iface 24 (.int .i64 4), recovered := false }]) w3) := fun w3 hg => by
              rw [← heq]; exact ⟨rfl, hg⟩
            obtain ⟨d, hdv⟩ : ∃ d, D.half c.toNat = d := ⟨_, rfl⟩
            rw [hdv] at Hd hv
            clear heq hr hc hend hd ej hdv
            go_wp2_with fail
            refine He.out.mono ?_
            rintro e w2 ⟨rfl, hr2, hg2⟩
            have hgg := Lib.hid (D.gb_trans hm.out.gb hg2)
            have Hd := Lib.hid (Hd.out w2 hr2)
            clear hr2 hg2
            go_wp2_with fail
            refine Hd.out.mono ?_
            rintro e w3 ⟨rfl, hr3, hg3⟩
            have hgg := Lib.hid (D.gb_trans hgg.out hg3)
            have Hf := Lib.hid (Hf.out w3 hr3)
            clear hr3 hg3
            go_wp2_with fail
            refine Hf.out.mono ?_
            rintro e w4 ⟨rfl, hg4⟩
            exact ⟨rfl, R.out w4 (D.gb_trans hgg.out hg4)⟩
          | cons e r =>
            obtain ⟨hjl2, _, hr2'⟩ := D.at_drop hr
            by_cases hw : D.half e.toNat < 16
            · rw [D.rdTxt_next hc hv hw] at heq
              have Hf : Hid (∀ V, D.Rd b t (j + 1) V → Calls Tryd.prog 69 #[.pointer (some ⟨b, 0, none⟩), .int .i64 16] V (D.DigEnd2 (D.half e.toNat) b t (j + 1) V)) := fun V hV => digit16_ok b t (j + 1) e r V hr hV hl hw
              obtain ⟨d, hdv⟩ : ∃ d, D.half c.toNat = d := ⟨_, rfl⟩
              obtain ⟨f, hfv⟩ : ∃ f, D.half e.toNat = f := ⟨_, rfl⟩
              rw [hdv] at heq Hd hv
              rw [hfv] at heq Hf hw
              have heq := Lib.hid heq
              have hrd := Lib.hid hr2'
              clear hdv hfv hr hc hend hd hr2'
              go_wp2_with fail
              refine He.out.mono ?_
              rintro e w2 ⟨rfl, hr2, hg2⟩
              have hgg := Lib.hid (D.gb_trans hm.out.gb hg2)
              have hown := Lib.hid (D.own_gb hm.out.own hbw hg2)
              have Hd := Lib.hid (Hd.out w2 hr2)
              clear hr2 hg2
              go_wp2_with fail
              refine Hd.out.mono ?_
              rintro e w3 ⟨rfl, hr3, hg3⟩
              have hgg := Lib.hid (D.gb_trans hgg.out hg3)
              have hown := Lib.hid (D.own_gb hown.out hbw hg3)
              have Hf := Lib.hid (Hf.out w3 hr3)
              clear hr3 hg3
              go_wp2_with fail
              refine Hf.out.mono ?_
              rintro e w4 ⟨rfl, hr4, hg4⟩
              have hgg := Lib.hid (D.gb_trans hgg.out hg4)
              have hown := Lib.hid (D.own_gb hown.out hbw hg4)
              have hr4 := Lib.hid hr4
              clear hg4
              have a0 := D.or16 d f hv hw
              obtain ⟨V, hV⟩ : ∃ V, 16 * d + f = V := ⟨_, rfl⟩
              rw [hV] at a0 heq
              have a1 : V < 256 := by omega
              have a2 : (V : Int) % 256 = V := by omega
              clear hV
              have hB4 : w.heap.size ≤ w4.heap.size := hgg.out.size
              go_wp2_with (at_builtin; refine wpList_append_lies _ rfl _ _ 62 rfl w.heap.size 5 ib (.int .u8 0) 1 1 Tryd.underlying62 Hb.out.1 Hb.out.2.1 Hb.out.2.2.1 Hb.out.2.2.2 rfl (by decide) _ _ _ rfl (hown.out.alloc _) ⟨w4.heap.size, 0, none⟩ 1 1 [.int .u8 V] rfl rfl ?b1 ?b2 (by decide) ?b3 ?b4 ?b5 _ rfl ?_)
              case b1 => exact D.news _ _ _
              case b2 => intro u hu; simp at hu; rw [hu]; rfl
              case b3 => unfold maxLen; omega
              case b4 => omega
              case b5 => simp only [World.size_alloc]; omega
              intro g5 cp5 w5 hO5 hg5 hat5 hlt5
              have hne5 : ∀ k, Value.ownBlock (.slice tb z.length tc) = some k → w.heap.size ≤ k := fun k e => (hown.out.lt k e).1
              have R5 : Hid (D.TxtAt res b t (z ++ [UInt8.ofNat V]) (j + 1 + 1) (.slice (some ⟨g5, 0, none⟩) (z.length + 1) cp5) w w5) := by
                refine ⟨?_, ⟨hg5.os.trans hgg.out.os, hg5.tape.trans hgg.out.tape, hg5.output.trans hgg.out.output, Nat.le_trans hgg.out.size (Nat.le_trans (World.grownBy_alloc w4 _ none).size hg5.size), fun k hk hkb => ?_⟩, ?_, ?_⟩
                · exact (hg5.block b (by simp only [World.size_alloc]; omega) (fun e => by have := hne5 b e.symm; omega)).trans ((heap_alloc_old w4 _ hr4.out.lt).trans hr4.out)
                · exact (hg5.block k (by simp only [World.size_alloc]; omega) (fun e => by have := hne5 k e.symm; omega)).trans ((heap_alloc_old w4 _ (by omega)).trans (hgg.out.block k hk hkb))
                · rw [hrd.out]; exact heq.out
                · rw [D.bytesL_append, List.length_append]
                  have e : D.bytesL [UInt8.ofNat V] = [.int .u8 V] := by simp [D.bytesL]; omega
                  rw [e]
                  exact hO5
              have hpos := Lib.hid (And.intro R5.out.rd.pos hm.out.rd.pos)
              have hzl : (z ++ [UInt8.ofNat V]).length ≤ j + 1 + 1 := by rw [List.length_append]; simp; omega
              clear hO5 hg5 hat5 hlt5 hm hne5 a0
              go_wp2
              go_roundw
              case rel => exact ⟨z ++ [UInt8.ofNat V], j + 1 + 1, hzl, by omega, R5⟩
              case measure => rw [hpos.out.1, hpos.out.2]; omega
            · rw [D.rdTxt_bad2 hc hw] at heq
              have Hf : Hid (∀ V, D.Rd b t (j + 1) V → Calls Tryd.prog 69 #[.pointer (some ⟨b, 0, none⟩), .int .i64 16] V (fun e w' => e = .panicked [{ v := .iface 24 (.int .i64 4), recovered := false }] ∧ V.grownBy w' (some b))) := fun V hV => digit16_bad b t (j + 1) e r V hr hV hl hw
              have R : Hid (∀ w3, w.grownBy w3 (some b) → D.ReadEnd D.strV res b t w (.panicked [{ v := .iface 24 (.int .i64 4), recovered := false }]) w3) := fun w3 hg => by
                rw [← heq]; exact ⟨rfl, hg⟩
              obtain ⟨d, hdv⟩ : ∃ d, D.half c.toNat = d := ⟨_, rfl⟩
              rw [hdv] at Hd hv
              clear heq hr hc hend hd hdv hr2'
              go_wp2_with fail
              refine He.out.mono ?_
              rintro e w2 ⟨rfl, hr2, hg2⟩
              have hgg := Lib.hid (D.gb_trans hm.out.gb hg2)
              have Hd := Lib.hid (Hd.out w2 hr2)
              clear hr2 hg2
              go_wp2_with fail
              refine Hd.out.mono ?_
              rintro e w3 ⟨rfl, hr3, hg3⟩
              have hgg := Lib.hid (D.gb_trans hgg.out hg3)
              have Hf := Lib.hid (Hf.out w3 hr3)
              clear hr3 hg3
              go_wp2_with fail
              refine Hf.out.mono ?_
              rintro e w4 ⟨rfl, hg4⟩
              exact ⟨rfl, R.out w4 (D.gb_trans hgg.out hg4)⟩
        · rw [D.rdTxt_bad1 hc hv] at heq
          have Hd : Hid (∀ V, D.Rd b t j V → Calls Tryd.prog 69 #[.pointer (some ⟨b, 0, none⟩), .int .i64 16] V (fun e w' => e = .panicked [{ v := .iface 24 (.int .i64 4), recovered := false }] ∧ V.grownBy w' (some b))) := fun V hV => digit16_bad b t j c r V hd hV hl hv
          have R : Hid (∀ w3, w.grownBy w3 (some b) → D.ReadEnd D.strV res b t w (.panicked [{ v := .iface 24 (.int .i64 4), recovered := false }]) w3) := fun w3 hg => by
            rw [← heq]; exact ⟨rfl, hg⟩
          clear heq hr hc hend hd
          go_wp2_with fail
          refine He.out.mono ?_
          rintro e w2 ⟨rfl, hr2, hg2⟩
          have hgg := Lib.hid (D.gb_trans hm.out.gb hg2)
          have Hd := Lib.hid (Hd.out w2 hr2)
          clear hr2 hg2
          go_wp2_with fail
          refine Hd.out.mono ?_
          rintro e w3 ⟨rfl, hg3⟩
          exact ⟨rfl, R.out w3 (D.gb_trans hgg.out hg3)⟩
end Go.Proofs.YtmjoijloflinnaaDoor
