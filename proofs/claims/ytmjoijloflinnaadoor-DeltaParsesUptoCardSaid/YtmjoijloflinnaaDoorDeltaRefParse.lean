/- The contract of the reference's Parse. -/
import Derived.Test.YtmjoijloflinnaaDoorDeltaRefOne
import Derived.Test.YtmjoijloflinnaaDoorDeltaParse
import Derived.Test.YtmjoijloflinnaaDoorDeltaRef3
namespace Go.Proofs.YtmjoijloflinnaaDoor
open Go.RowKit

/-- What is still to come of a text, its piece at k having begun at a. -/
def D.todo (t : List UInt8) (a k : Nat) : Option (List D.Q) := if k ≤ t.length then D.ones (D.cut ((t.drop a).take (k - a)) (t.drop k)) else some []
theorem D.todo_on {t : List UInt8} {a k : Nat} (ha : a ≤ k) (hk : k < t.length) (hc : t[k]'hk ≠ 32) : D.todo t a k = D.todo t a (k + 1) := by
  unfold D.todo
  rw [if_pos (by omega), if_pos (by omega), List.drop_eq_getElem_cons hk, D.cut, if_neg hc]
  have e : (t.drop a).take (k + 1 - a) = (t.drop a).take (k - a) ++ [t[k]'hk] := by
    have h1 : k + 1 - a = (k - a) + 1 := by omega
    rw [h1, List.take_add_one, List.getElem?_drop, show a + (k - a) = k by omega, List.getElem?_eq_getElem hk]
    rfl
  rw [e]
theorem D.todo_cut {t : List UInt8} {a k : Nat} (hk : k ≤ t.length) (hc : ∀ h : k < t.length, t[k]'h = 32) : D.todo t a k = match D.one ((t.drop a).take (k - a)) with
    | none => none
    | some q => (D.todo t (k + 1) (k + 1)).map (q :: ·) := by
  unfold D.todo
  rw [if_pos hk]
  rcases Nat.lt_or_ge k t.length with h | h
  · rw [List.drop_eq_getElem_cons h, D.cut, if_pos (hc h), D.ones, if_pos (by omega), Nat.sub_self, List.take_zero]
    cases D.one ((t.drop a).take (k - a)) <;> rfl
  · rw [List.drop_eq_nil_iff.2 h, D.cut, D.ones, if_neg (by omega)]
    rfl
structure D.PrAt (t : List UInt8) (w : World) (x : List D.Q) (a k : Nat) (v : Value) (wr : World) : Prop where
  own : wr.ownsRow w.heap.size 38 3 v x.length (D.cellsL (x.map D.raw))
  below : Below w.heap.size w wr
  eq : D.ones (D.cut [] t) = (D.todo t a k).map (x ++ ·)
theorem D.par_none {t : List UInt8} (h : D.parse t = none) (w w' : World) (hb : Below w.heap.size w w') : D.ParEnd t w (.returned (.tuple #[.slice none 0 0, .int .i64 4])) w' := by
  refine ⟨.slice none 0 0, ?_, ?_⟩
  · unfold D.parseE; rw [h]
  · unfold D.parseP; rw [h]; exact D.Made.nil w hb
set_option maxRecDepth 100000 in
set_option maxHeartbeats 4000000 in
theorem refParse_any (t : List UInt8) (w : World) (hl : t.length ≤ 1000000000) : Calls Tryd.prog 34 #[.string ⟨t.toArray⟩] w (D.ParEnd t w) := by
  obtain ⟨ip, hp, hp0, hp1, hp2⟩ := info_parts Tryd.infoPiece
  have Hp := Lib.hid (And.intro hp (And.intro hp0 (And.intro hp1 hp2)))
  clear hp hp0 hp1 hp2
  by_cases ht : t = []
  · subst ht
    have R : Hid (D.ParEnd [] w (.returned (.tuple #[.slice none 0 0, .int .i64 0])) w) := ⟨.slice none 0 0, rfl, D.Made.nil w (Below.refl _ _)⟩
    go_enter Tryd.func34, Tryd.ntmps34
    go_wp2
    go_ret2
    exact R.out
  · have hsz : (⟨t.toArray⟩ : ByteArray).size = t.length := D.size_l t
    have hpos : 0 < t.length := List.length_pos_iff.2 ht
    have e0 : t.isEmpty = false := by cases t with
      | nil => exact absurd rfl ht
      | cons => rfl
    have hparse : Hid (D.parse t = D.ones (D.cut [] t)) := by show _ = _; rw [D.parse, if_neg ht]
    have R0 : Hid (D.PrAt t w [] 0 0 (.slice none 0 0) w) := by
      refine ⟨World.ownsRow_nil _ _ _ _, Below.refl _ _, ?_⟩
      unfold D.todo
      rw [if_pos (Nat.zero_le _)]
      simp
    clear ht
    go_enter Tryd.func34, Tryd.ntmps34
    go_wp2
    go_loopw [4, 5, 6] (fun v av iv wr => ∃ (x : List D.Q) (a k : Nat), a ≤ k ∧ k ≤ t.length + 1 ∧ x.length ≤ k ∧ av = .int .i64 a ∧ iv = .int .i64 k ∧ Hid (D.PrAt t w x a k v wr)) (fun _ _ i _ => t.length + 1 - (intOf i).toNat)
    case atStart => exact ⟨[], 0, 0, Nat.le_refl _, by omega, Nat.le_refl _, rfl, rfl, R0⟩
    case round =>
      obtain ⟨x, a, k, hak, hk, hxl, rfl, rfl, hm⟩ := hrel
      clear R0
      obtain ⟨tb, tc, rfl⟩ := D.slice_of_own hm.out.own
      by_cases hle : k ≤ t.length
      · have gle : (k : Int) ≤ t.length := by omega
        by_cases hlt : k < t.length
        · have glt : (k : Int) < t.length := by omega
          have hkz : k < (⟨t.toArray⟩ : ByteArray).size := by omega
          obtain ⟨V, hV⟩ : ∃ V : Nat, ((⟨t.toArray⟩ : ByteArray)[k]'hkz).toNat = V := ⟨_, rfl⟩
          have hV' : (t[k]'hlt).toNat = V := hV
          by_cases hc : t[k]'hlt = 32
          · have e32 : V = 32 := by rw [← hV', hc]; rfl
            subst e32
            have hcut := D.todo_cut (a := a) hle (fun _ => hc)
            clear hc hV'
            have heq := hm.out.eq
            rw [hcut] at heq
            obtain ⟨G, hG⟩ : ∃ G, (t.drop a).take (k - a) = G := ⟨_, rfl⟩
            have hGl : G.length ≤ 1000000000 := by rw [← hG, List.length_take, List.length_drop]; omega
            have hex : (⟨t.toArray⟩ : ByteArray).extract a k = ⟨G.toArray⟩ := by
              have h1 := Lib.extract_data ⟨t.toArray⟩ a k
              generalize (⟨t.toArray⟩ : ByteArray).extract a k = S at h1
              obtain ⟨⟨S⟩⟩ := S
              have h1 : S = (t.drop a).take (k - a) := h1
              rw [h1, hG]
            have HO := Lib.hid (refOne_any G wr hGl)
            rw [hG] at heq
            have hOwn := Lib.hid hm.out.own
            have hBel := Lib.hid hm.out.below
            clear hm hcut hG
            cases ho : D.one G with
            | none =>
              rw [ho] at heq HO
              have R : Hid (∀ w', Below w.heap.size w w' → D.ParEnd t w (.returned (.tuple #[.slice none 0 0, .int .i64 4])) w') := fun w' hb => D.par_none (by rw [hparse.out, heq]; rfl) w w' hb
              clear heq ho
              go_wp2_with fail
              refine HO.out.mono ?_
              rintro e w2 ⟨⟨pk, pn, pt, rfl⟩, hb⟩
              have hB2 := Lib.hid ((hBel.out.trans (hb.mono hBel.out.size)).alloc (Nat.le_trans hBel.out.size hb.size) (.cells #[.int .u8 pk, .int .i64 pn, .string pt] 38))
              clear hb
              go_wp2
              go_ret2
              exact R.out _ hB2.out
            | some q =>
              rw [ho] at heq HO
              have N : Hid (D.ones (D.cut [] t) = (D.todo t (k + 1) (k + 1)).map ((x ++ [q]) ++ ·)) := by
                show _ = _
                rw [heq]
                cases D.todo t (k + 1) (k + 1) <;> simp
              clear heq ho
              go_upto_region 12 with (go_at_call 49; refine HO.out.mono ?_; rintro e w2 ⟨rfl, hb⟩)
              have hO2 := Lib.hid ((D.own_below hOwn.out hb).alloc (.cells #[.int .u8 (D.raw q).k, .int .i64 (D.raw q).n, .string (D.raw q).t] 38))
              have hB2 := Lib.hid ((hBel.out.trans (hb.mono hBel.out.size)).alloc (Nat.le_trans hBel.out.size hb.size) (.cells #[.int .u8 (D.raw q).k, .int .i64 (D.raw q).n, .string (D.raw q).t] 38))
              have p0 : (w2.alloc (.cells #[.int .u8 (D.raw q).k, .int .i64 (D.raw q).n, .string (D.raw q).t] 38)).cell? ⟨w2.heap.size, 0, none⟩ = some (.int .u8 (D.raw q).k) := World.cell?_alloc_new _ _ _ _
              have p1 : (w2.alloc (.cells #[.int .u8 (D.raw q).k, .int .i64 (D.raw q).n, .string (D.raw q).t] 38)).cell? ⟨w2.heap.size, 1, none⟩ = some (.int .i64 (D.raw q).n) := World.cell?_alloc_new _ _ _ _
              have p2 : (w2.alloc (.cells #[.int .u8 (D.raw q).k, .int .i64 (D.raw q).n, .string (D.raw q).t] 38)).cell? ⟨w2.heap.size, 2, none⟩ = some (.string (D.raw q).t) := World.cell?_alloc_new _ _ _ _
              obtain ⟨H2, hH2⟩ : ∃ H2, Hid (w2.heap.size = H2) := ⟨_, rfl⟩
              clear hb hOwn hBel HO
              generalize w2.alloc (.cells #[.int .u8 (D.raw q).k, .int .i64 (D.raw q).n, .string (D.raw q).t] 38) = W3 at hO2 hB2 p0 p1 p2 ⊢
              rw [hH2.out] at p0 p1 p2 ⊢
              have hB3 := hB2.out.size
              go_wp2_with (at_builtin; refine wpList_append_lies _ rfl _ _ 22 rfl w.heap.size 38 ip (.agg #[.int .u8 0, .int .i64 0, .string ⟨#[]⟩]) 3 32 Tryd.underlying22 Hp.out.1 Hp.out.2.1 Hp.out.2.2.1 Hp.out.2.2.2 rfl (by decide) _ _ _ rfl (hO2.out.alloc _) ⟨W3.heap.size, 0, none⟩ 1 1 [.int .u8 (D.raw q).k, .int .i64 (D.raw q).n, .string (D.raw q).t] rfl rfl ?b1 ?b2 (by decide) ?b3 ?b4 ?b5 _ rfl ?_)
              case b1 => exact D.news _ _ _
              case b2 => intro u hu; simp at hu; rcases hu with rfl | rfl | rfl <;> rfl
              case b3 => unfold maxLen; omega
              case b4 => omega
              case b5 => simp only [World.size_alloc]; omega
              intro g5 cp5 w5 hO5 hg5 hat5 hlt5
              have R5 : Hid (D.PrAt t w (x ++ [q]) (k + 1) (k + 1) (.slice (some ⟨g5, 0, none⟩) (x.length + 1) cp5) w5) := by
                refine ⟨?_, (hB2.out.alloc hB3 _).grown hg5 (by simp only [World.size_alloc]; omega) (fun k e => (hO2.out.lt k e).1), N.out⟩
                rw [List.map_append, D.cellsL_append, List.length_append]
                exact hO5
              have hzl : (x ++ [q]).length ≤ k + 1 := by rw [List.length_append]; simp; omega
              clear hO5 hg5 hat5 hlt5 hO2 hB2 p0 p1 p2 N
              go_wp2
              go_roundw
              case rel => exact ⟨x ++ [q], k + 1, k + 1, Nat.le_refl _, by omega, hzl, by go_num, by go_num, R5⟩
              case measure => first | (simp [intOf]; done) | (simp [intOf]; omega)
          · have n32 : ((V : Int) == 32) = false := by
              simp only [beq_eq_false_iff_ne, ne_eq]
              exact fun e => hc (UInt8.toNat_inj.1 (by rw [hV']; show V = 32; omega))
            have n33 : ((V : Int) != 32) = true := by simp only [bne, n32]; rfl
            have R : Hid (D.PrAt t w x a (k + 1) (.slice tb x.length tc) wr) := ⟨hm.out.own, hm.out.below, by rw [← D.todo_on hak hlt hc]; exact hm.out.eq⟩
            clear hc hm hV'
            go_wp2
            go_roundw
            case rel => exact ⟨x, a, k + 1, by omega, by omega, by omega, rfl, by go_num, R⟩
            case measure => simp [intOf]; omega
        · have ek : k = t.length := by omega
          subst ek
          have glt : ¬ (t.length : Int) < t.length := by omega
          have hcut := D.todo_cut (t := t) (a := a) (k := t.length) hle (fun h => absurd h hlt)
          have heq := hm.out.eq
          rw [hcut] at heq
          obtain ⟨G, hG⟩ : ∃ G, (t.drop a).take (t.length - a) = G := ⟨_, rfl⟩
          have hGl : G.length ≤ 1000000000 := by rw [← hG, List.length_take, List.length_drop]; omega
          have hex : (⟨t.toArray⟩ : ByteArray).extract a t.length = ⟨G.toArray⟩ := by
            have h1 := Lib.extract_data ⟨t.toArray⟩ a t.length
            generalize (⟨t.toArray⟩ : ByteArray).extract a t.length = S at h1
            obtain ⟨⟨S⟩⟩ := S
            have h1 : S = (t.drop a).take (t.length - a) := h1
            rw [h1, hG]
          have HO := Lib.hid (refOne_any G wr hGl)
          rw [hG] at heq
          have hOwn := Lib.hid hm.out.own
          have hBel := Lib.hid hm.out.below
          clear hm hcut hG
          cases ho : D.one G with
          | none =>
            rw [ho] at heq HO
            have R : Hid (∀ w', Below w.heap.size w w' → D.ParEnd t w (.returned (.tuple #[.slice none 0 0, .int .i64 4])) w') := fun w' hb => D.par_none (by rw [hparse.out, heq]; rfl) w w' hb
            clear heq ho
            go_wp2_with fail
            refine HO.out.mono ?_
            rintro e w2 ⟨⟨pk, pn, pt, rfl⟩, hb⟩
            have hB2 := Lib.hid ((hBel.out.trans (hb.mono hBel.out.size)).alloc (Nat.le_trans hBel.out.size hb.size) (.cells #[.int .u8 pk, .int .i64 pn, .string pt] 38))
            clear hb
            go_wp2
            go_ret2
            exact R.out _ hB2.out
          | some q =>
            rw [ho] at heq HO
            have N : Hid (D.ones (D.cut [] t) = (D.todo t (t.length + 1) (t.length + 1)).map ((x ++ [q]) ++ ·)) := by
              show _ = _
              rw [heq]
              cases D.todo t (t.length + 1) (t.length + 1) <;> simp
            clear heq ho
            go_upto_region 12 with (go_at_call 49; refine HO.out.mono ?_; rintro e w2 ⟨rfl, hb⟩)
            have hO2 := Lib.hid ((D.own_below hOwn.out hb).alloc (.cells #[.int .u8 (D.raw q).k, .int .i64 (D.raw q).n, .string (D.raw q).t] 38))
            have hB2 := Lib.hid ((hBel.out.trans (hb.mono hBel.out.size)).alloc (Nat.le_trans hBel.out.size hb.size) (.cells #[.int .u8 (D.raw q).k, .int .i64 (D.raw q).n, .string (D.raw q).t] 38))
            have p0 : (w2.alloc (.cells #[.int .u8 (D.raw q).k, .int .i64 (D.raw q).n, .string (D.raw q).t] 38)).cell? ⟨w2.heap.size, 0, none⟩ = some (.int .u8 (D.raw q).k) := World.cell?_alloc_new _ _ _ _
            have p1 : (w2.alloc (.cells #[.int .u8 (D.raw q).k, .int .i64 (D.raw q).n, .string (D.raw q).t] 38)).cell? ⟨w2.heap.size, 1, none⟩ = some (.int .i64 (D.raw q).n) := World.cell?_alloc_new _ _ _ _
            have p2 : (w2.alloc (.cells #[.int .u8 (D.raw q).k, .int .i64 (D.raw q).n, .string (D.raw q).t] 38)).cell? ⟨w2.heap.size, 2, none⟩ = some (.string (D.raw q).t) := World.cell?_alloc_new _ _ _ _
            obtain ⟨H2, hH2⟩ : ∃ H2, Hid (w2.heap.size = H2) := ⟨_, rfl⟩
            clear hb hOwn hBel HO
            generalize w2.alloc (.cells #[.int .u8 (D.raw q).k, .int .i64 (D.raw q).n, .string (D.raw q).t] 38) = W3 at hO2 hB2 p0 p1 p2 ⊢
            rw [hH2.out] at p0 p1 p2 ⊢
            have hB3 := hB2.out.size
            go_wp2_with (at_builtin; refine wpList_append_lies _ rfl _ _ 22 rfl w.heap.size 38 ip (.agg #[.int .u8 0, .int .i64 0, .string ⟨#[]⟩]) 3 32 Tryd.underlying22 Hp.out.1 Hp.out.2.1 Hp.out.2.2.1 Hp.out.2.2.2 rfl (by decide) _ _ _ rfl (hO2.out.alloc _) ⟨W3.heap.size, 0, none⟩ 1 1 [.int .u8 (D.raw q).k, .int .i64 (D.raw q).n, .string (D.raw q).t] rfl rfl ?b1 ?b2 (by decide) ?b3 ?b4 ?b5 _ rfl ?_)
            case b1 => exact D.news _ _ _
            case b2 => intro u hu; simp at hu; rcases hu with rfl | rfl | rfl <;> rfl
            case b3 => unfold maxLen; omega
            case b4 => omega
            case b5 => simp only [World.size_alloc]; omega
            intro g5 cp5 w5 hO5 hg5 hat5 hlt5
            have R5 : Hid (D.PrAt t w (x ++ [q]) (t.length + 1) (t.length + 1) (.slice (some ⟨g5, 0, none⟩) (x.length + 1) cp5) w5) := by
              refine ⟨?_, (hB2.out.alloc hB3 _).grown hg5 (by simp only [World.size_alloc]; omega) (fun k e => (hO2.out.lt k e).1), N.out⟩
              rw [List.map_append, D.cellsL_append, List.length_append]
              exact hO5
            have hzl : (x ++ [q]).length ≤ t.length + 1 := by rw [List.length_append]; simp; omega
            clear hO5 hg5 hat5 hlt5 hO2 hB2 p0 p1 p2 N
            go_wp2
            go_roundw
            case rel => exact ⟨x ++ [q], t.length + 1, t.length + 1, Nat.le_refl _, by omega, hzl, by go_num, by go_num, R5⟩
            case measure => first | (simp [intOf]; done) | (simp [intOf]; omega)
      · have gle : ¬ (k : Int) ≤ t.length := by omega
        have hpx : Hid (D.parse t = some x) := by
          show _ = _
          rw [hparse.out, hm.out.eq]
          unfold D.todo
          rw [if_neg hle]
          simp
        obtain ⟨b1, b2⟩ := D.parse_bd hpx.out
        obtain ⟨ao, cap, hv, hrow⟩ := D.row_of_own (by rw [List.length_map]; exact hm.out.own)
        rw [List.length_map] at hv
        cases hv
        have Hc : Hid (Calls Tryd.prog 18 #[.slice tb x.length tc] wr fun e w' => e = .returned (.int .i64 (D.chk (x.map D.raw))) ∧ Below wr.heap.size wr w') := by
          have := refCheck_any tb tc (x.map D.raw) wr (by unfold maxLen; omega) hrow (fun p hp => by have := b2 p hp; omega)
          rw [List.length_map] at this
          exact this
        have R : Hid (∀ w', Below wr.heap.size wr w' → D.ParEnd t w (.returned (.tuple #[if D.chk (x.map D.raw) = 0 then .slice tb x.length tc else .slice none 0 0, .int .i64 (D.chk (x.map D.raw))])) w') := fun w' hb => by
          have hb1 : Below w.heap.size w w' := hm.out.below.trans (hb.mono hm.out.below.size)
          refine ⟨_, by unfold D.parseE; rw [hpx.out], ?_⟩
          unfold D.parseP; rw [hpx.out]
          show D.Made (if D.chk (x.map D.raw) = 0 then x.map D.raw else []) _ _ _
          by_cases h : D.chk (x.map D.raw) = 0
          · rw [if_pos h, if_pos h]
            refine ⟨?_, hb1⟩
            rw [List.length_map]
            exact D.own_below hm.out.own hb
          · rw [if_neg h, if_neg h]; exact D.Made.nil w hb1
        clear hpx b1 b2 hrow hm hle
        by_cases h : D.chk (x.map D.raw) = 0
        · rw [if_pos h, h] at R
          rw [h] at Hc
          clear h
          go_wp2_with fail
          refine Hc.out.mono ?_
          rintro e w2 ⟨rfl, hb⟩
          have R := Lib.hid (R.out w2 hb)
          clear hb
          go_wp2
          go_ret2
          exact R.out
        · rw [if_neg h] at R
          have h' : (D.chk (x.map D.raw) != 0) = true := by simpa using h
          generalize D.chk (x.map D.raw) = e0 at *
          clear h
          go_wp2_with fail
          refine Hc.out.mono ?_
          rintro e w2 ⟨rfl, hb⟩
          have R := Lib.hid (R.out w2 hb)
          clear hb
          go_wp2
          go_ret2
          exact R.out
end Go.Proofs.YtmjoijloflinnaaDoor
