/- The walk of ComposeAll. -/
import Derived.Test.YteondigaklonpaaComposeLong
import Derived.Deep.AppendLies
import Derived.Deep.RegionLaw
import Derived.Deep.RegionWith
namespace Go.Proofs.Yteondigaklonpaa
open Go.RowKit

theorem C.made_all {l : List D.P} {w w' : World} {v : Value} (hm : D.Made l w v w') : ∃ ao c, v = .slice ao l.length c ∧ D.Row w' ao l ∧ (ao = none → c = 0) ∧ l.length ≤ c := by
  obtain ⟨ao, c, hv, hr, hc⟩ := hm.src
  obtain ⟨ao', c', hv', _, hc', _⟩ := C.made_src hm
  rw [hv] at hv'
  simp only [Value.slice.injEq, true_and] at hv'
  exact ⟨ao, c, hv, hr, hc, by omega⟩
set_option maxRecDepth 100000 in
set_option maxHeartbeats 4000000 in
theorem composeAll_walk (n : Int) (lo : Option Addr) (c : Nat) (L : List D.Src) (w : World) (n0 : -9223372036854775808 ≤ n) (n1 : n < 9223372036854775808) (h' : C.ListOk w lo c L) :
    Calls Try.prog 4 #[.int .i64 n, .slice lo L.length c] w fun e w' => e = .returned (.bool true) ∧ Below w.heap.size w w' := by
  have h := h'.ok
  clear h'
  have HK := C.hKnown
  have HL := Lib.hid (long_any n lo c L w h)
  cases hlong : C.longL n L with
  | true =>
    rw [hlong] at HL
    clear h hlong
    go_enter Try.func4, Try.ntmps4
    go_wp2_with fail
    refine HL.out.mono ?_
    rintro e w1 ⟨rfl, hb⟩
    have KB := Lib.hid hb
    clear hb
    go_wp2_with fail
    refine (HK.out _).mono ?_
    rintro e wk ⟨rfl, hb⟩
    have KC := Lib.hid (KB.out.trans (hb.mono KB.out.size))
    clear hb
    go_wp2
    go_ret
    exact ⟨rfl, KC.out⟩
  | false =>
    rw [hlong] at HL
    obtain ⟨hn6, hl12, hlg⟩ := C.long_not hlong
    clear hlong
    obtain ⟨ip, hp, hp0, hp1, hp2⟩ := info_parts Try.infoRow
    have Hp := Lib.hid (And.intro hp (And.intro hp0 (And.intro hp1 hp2)))
    clear hp hp0 hp1 hp2
    have HO : Hid (∀ s ∈ L, ∀ W, D.Row W s.a s.x → Calls Try.prog 14 #[.slice s.a s.x.length s.c] W (fun e w' => ∃ v, e = .returned v ∧ D.Made s.x W v w')) := fun s hs W hr => (C.hOwn s.x (h.ok s hs).fit).out _ _ W hr (h.ok s hs).src.nil
    have Hr : Hid (D.Rows w lo L) := h.rows
    have HA : Hid (∀ s ∈ L, s.x.length ≤ maxLen ∧ ∀ p ∈ s.x, p.t.size ≤ 140737488351232) := fun s hs => ⟨(h.ok s hs).src.len, (h.ok s hs).src.txt⟩
    have hml : L.length ≤ maxLen := h.len
    have HJ : Hid (∀ W xo xc (X : List D.Src), X.length = L.length → X.map D.Src.x = L.map D.Src.x → D.Rows W xo X → C.Caps X → Calls Try.prog 21 #[.int .i64 n, .slice xo L.length xc] W (fun e w' => ∃ v, e = .returned (.tuple #[v, .int .i64 (D.allS n (L.map D.Src.x)).1]) ∧ D.Made (D.allS n (L.map D.Src.x)).2 W v w')) := fun W xo xc X hX hx hr hc => by
      have := all_any n n0 n1 xo xc X W (by omega) hr hc
      unfold C.AllEnd at this
      rw [hx, hX] at this
      exact this
    have HF : Hid (∀ W, D.Rows W lo L → Calls Try.prog 22 #[.int .i64 n, .slice lo L.length c] W (fun e w' => ∃ v, e = .returned (.tuple #[v, .int .i64 (D.allS n (L.map D.Src.x)).1]) ∧ D.Made (D.allS n (L.map D.Src.x)).2 W v w')) := fun W hr => by
      have := refAll_any n n0 hn6 lo c L W hml hr (fun s hs h0 => by have := (C.large_bd h0 (hlg s hs)).2; omega)
      unfold C.AllEnd at this
      exact this
    have S1 := C.hSame (D.allS n (L.map D.Src.x)).2 C.made_bd.1
    have S2 : Hid (∀ s ∈ L, ∀ (t : D.Src), t.x = s.x → ∀ W, D.Row W t.a t.x → D.Row W s.a s.x → Calls Try.prog 19 #[.slice t.a t.x.length t.c, .slice s.a s.x.length s.c] W (fun e w' => e = .returned (.bool true) ∧ Below W.heap.size W w')) := fun s hs t ht W h g => by
      have := refSame_any t.a s.a t.c s.c t.x s.x W h g (by rw [ht]; exact (HA.out s hs).1) (HA.out s hs).1
      rwa [(D.same_iff _ _).2 ht] at this
    have K0 : Hid (D.Kn w w []) := ⟨Below.refl _ _, fun x hx => by cases hx⟩
    generalize (D.allS n (L.map D.Src.x)).2 = J at *
    generalize (D.allS n (L.map D.Src.x)).1 = je at *
    clear h hlg hn6 n0 n1 hml
    go_enter Try.func4, Try.ntmps4
    go_wp2_with fail
    refine HL.out.mono ?_
    rintro e w1 ⟨rfl, hb⟩
    have KB := Lib.hid hb
    clear hb HL
    go_wp2
    go_loopw [5, 6] (fun v iv wr => ∃ (k : Nat) (X : List D.Src), k ≤ L.length ∧ X.length = k ∧ iv = .int .i64 k ∧ Hid (C.Caps X) ∧ Hid (D.XsAt w L k X v wr)) (fun _ i _ => L.length - (intOf i).toNat)
    case atStart => exact ⟨0, [], Nat.zero_le _, rfl, rfl, fun s hs => (by cases hs), ⟨World.ownsRow_nil _ _ _ _, KB.out, rfl, fun s hs => (by cases hs), fun s hs => (by cases hs)⟩⟩
    case round =>
      clear KB
      obtain ⟨k, X, hk, hXl, rfl, hcp, hx⟩ := hrel
      obtain ⟨tb, tc, rfl⟩ := D.slice_of_own hx.out.own
      by_cases hlt : k < L.length
      · obtain ⟨s, hs⟩ : ∃ s, L[k]? = some s := ⟨L[k], List.getElem?_eq_getElem hlt⟩
        have hm := List.mem_of_getElem? hs
        obtain ⟨b, o, e, hbl, hc, hsrc⟩ := (Hr.out.below hx.out.below) k s hs
        subst e
        have ho := Lib.hid (HO.out s hm wr hsrc.row)
        have hsl := HA.out s hm
        have hs := Lib.hid hs
        clear hm hsrc
        obtain ⟨sa, sc, sx⟩ := s
        dsimp only at *
        go_wp2_with fail
        refine ho.out.mono ?_
        rintro e w2 ⟨v, rfl, hm⟩
        obtain ⟨ao, co, hv, hrow, hnil, hcap⟩ := C.made_all hm
        subst hv
        have hx2 := Lib.hid (hx.out.on hm.below)
        have hn : Hid (∀ ad, ao = some ad → ad.block < w2.heap.size ∧ some ad.block ≠ Value.ownBlock (.slice tb k tc)) := fun ad e => by
          subst e
          obtain ⟨h1, h2⟩ := hm.own.lt ad.block rfl
          refine ⟨h2, fun e => ?_⟩
          have := (hx.out.own.lt ad.block e.symm).2
          omega
        have ht : Hid (D.SrcOk w2 ⟨ao, co, sx⟩) := ⟨hrow, hsl.1, hsl.2, hnil⟩
        have hcp2 : Hid (C.Caps (X ++ [(⟨ao, co, sx⟩ : D.Src)])) := fun s hs => by
          rcases List.mem_append.1 hs with h | h
          · exact hcp.out s h
          · simp at h; subst h; exact hcap
        have hB2 : w.heap.size ≤ w2.heap.size := hx2.out.below.size
        have Hown := Lib.hid hx2.out.own
        clear hm hrow hnil hx ho hsl hc hcap hcp
        go_wp2_with (at_builtin; refine wpList_append_lies _ rfl _ _ 32 rfl w.heap.size 22 ip (.slice none 0 0) 1 24 Try.underlying32 Hp.out.1 Hp.out.2.1 Hp.out.2.2.1 Hp.out.2.2.2 rfl (by decide) _ _ _ rfl (Hown.out.alloc _) ⟨w2.heap.size, 0, none⟩ 1 1 [.slice ao sx.length co] rfl rfl ?b1 ?b2 (by decide) ?b3 ?b4 ?b5 _ rfl ?_)
        case b1 => exact D.news _ _ _
        case b2 => intro u hu; simp at hu; rw [hu]; rfl
        case b3 => unfold maxLen; omega
        case b4 => omega
        case b5 => simp only [World.size_alloc]; omega
        intro g5 cp5 w5 hO5 hg5 hat5 hlt5
        have R5 : Hid (D.XsAt w L (k + 1) (X ++ [⟨ao, co, sx⟩]) (.slice (some ⟨g5, 0, none⟩) (k + 1) cp5) w5) := D.XsAt.next (t := ⟨ao, co, sx⟩) hx2.out hs.out rfl ht.out hn.out hO5 hg5 (by rw [World.size_alloc]; exact hat5)
        have hXl2 : (X ++ [(⟨ao, co, sx⟩ : D.Src)]).length = k + 1 := by rw [List.length_append, hXl]; rfl
        clear hO5 hg5 hat5 hlt5 hx2 hn ht Hown
        go_wp2
        go_roundw
        case rel => exact ⟨k + 1, X ++ [⟨ao, co, sx⟩], by omega, hXl2, by go_num, hcp2, R5⟩
        case measure => simp [intOf]; omega
      · obtain rfl : k = L.length := by omega
        obtain ⟨xo, xc, hv, hrX⟩ := hx.out.rows hXl
        rw [hXl] at hv
        cases hv
        have hxs : X.map D.Src.x = L.map D.Src.x := by have := hx.out.xs; rwa [List.take_length] at this
        have hj := Lib.hid (HJ.out wr tb tc X hXl hxs hrX hcp.out)
        have hbw := Lib.hid hx.out.below
        have HX := Lib.hid (And.intro hrX (And.intro hxs hXl))
        have K := Lib.hid (K0.out.on hbw.out)
        clear hrX hxs hx K0 hXl hcp
        go_wp2_with fail
        refine hj.out.mono ?_
        rintro e w2 ⟨v, rfl, hm⟩
        obtain ⟨da, dc, hv, K1⟩ := K.out.made hm
        subst hv
        have hb2 := Lib.hid hm.below
        clear hm K hj
        have hf := Lib.hid (HF.out w2 (Hr.out.below K1.out.below))
        go_wp2_with fail
        refine hf.out.mono ?_
        rintro e w3 ⟨v, rfl, hm⟩
        obtain ⟨ea, ec, hv, K⟩ := K1.out.made hm
        subst hv
        have hb3 := Lib.hid (hb2.out.trans (hm.below.mono hb2.out.size))
        clear hm K1 hf hb2
        go_wp2_with fail
        refine (S1.out _ _ _ _ _ K.out.tl.r0 K.out.r0).mono ?_
        rintro e w4 ⟨rfl, hb⟩
        have hb4 := Lib.hid (hb3.out.trans (hb.mono hb3.out.size))
        have hbw4 := Lib.hid (K.out.on hb).below
        clear hb hb3 K
        have HX4 := Lib.hid (HX.out.1.below hb4.out)
        have Hr4 := Lib.hid (Hr.out.below hbw4.out)
        clear hb4 hbw S1 HJ HF Hr
        go_wp2
        go_loopw [11] (fun iv wy => ∃ k : Nat, k ≤ L.length ∧ iv = .int .i64 k ∧ Hid (Below w4.heap.size w4 wy)) (fun i _ => L.length - (intOf i).toNat)
        case atStart => exact ⟨0, Nat.zero_le _, rfl, Below.refl _ _⟩
        case round =>
          obtain ⟨k, hk, rfl, hy⟩ := hrel
          by_cases hlt : k < L.length
          · obtain ⟨s, hs⟩ : ∃ s, L[k]? = some s := ⟨L[k], List.getElem?_eq_getElem hlt⟩
            obtain ⟨t, ht⟩ : ∃ t, X[k]? = some t := ⟨X[k]'(by have := HX.out.2.2; omega), List.getElem?_eq_getElem _⟩
            have hts : t.x = s.x := by
              have := congrArg (fun l => l[k]?) HX.out.2.1
              simpa [hs, ht] using this
            have hm := List.mem_of_getElem? hs
            obtain ⟨b, o, e, hbl, hc, hsrc⟩ := (Hr4.out.below hy.out) k s hs
            obtain ⟨b2, o2, e2, hbl2, hc2, hsrc2⟩ := (HX4.out.below hy.out) k t ht
            subst e
            subst e2
            have hS := Lib.hid (S2.out s hm t hts wr.drew hsrc2.row hsrc.row)
            clear hm hsrc hsrc2 hs ht hts
            obtain ⟨sa, sc, sx⟩ := s
            obtain ⟨ta, tc', tx⟩ := t
            dsimp only at *
            go_wp2_with fail
            go_region_with (go_at_call 19; refine hS.out.mono ?_; rintro e w6 ⟨rfl, hb⟩)
            all_goals
              have hy2 := Lib.hid (hy.out.drew.trans (hb.mono hy.out.drew.size))
              clear hb
              go_wp2
              go_roundw
              case rel => exact ⟨k + 1, by omega, by go_num, hy2⟩
              case measure => simp [intOf]; omega
          · obtain rfl : k = L.length := by omega
            have hb5 := Lib.hid (hbw4.out.trans (hy.out.mono hbw4.out.size))
            clear hy hbw4 HX4 Hr4 HX
            go_wp2_with fail
            refine (HK.out _).mono ?_
            rintro e w8 ⟨rfl, hb⟩
            have hb := Lib.hid (hb5.out.trans (hb.mono hb5.out.size))
            go_wp2
            go_ret
            exact ⟨rfl, hb.out⟩
end Go.Proofs.Yteondigaklonpaa
