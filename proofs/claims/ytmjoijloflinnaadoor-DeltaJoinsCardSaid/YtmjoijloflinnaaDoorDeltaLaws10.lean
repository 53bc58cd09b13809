/- The walk of DeltaJoins. -/
import Derived.Test.YtmjoijloflinnaaDoorDeltaJoinsKit
import Derived.Deep.AppendLies
import Derived.Deep.RegionLaw
import Derived.Deep.RegionWith
namespace Go.Proofs.YtmjoijloflinnaaDoor
open Go.RowKit

theorem Tryd.infoPieces : (Tryd.prog.info? 22).map (fun i => (i.zero, i.size, i.bytes)) = some (some (.slice none 0 0), 1, 24) := by kernel_rfl
theorem D.joinP_bd (L : List D.Src) : (D.joinP L).length ≤ maxLen := by
  rw [D.joinP_src]
  by_cases h : D.jE (L.map D.Src.x) = 0
  · obtain ⟨_, h2, h3⟩ := D.jE_zero h
    rw [h3]
    exact (D.bd_of h2).1
  · have h' := h
    unfold D.jE at h'
    unfold D.jP D.joinP
    rw [if_neg h']
    exact Nat.zero_le _
set_option maxRecDepth 100000 in
set_option maxHeartbeats 4000000 in
theorem deltaJoins_walk (lo : Option Addr) (c : Nat) (L : List D.Src) (w : World) (h : D.ListOk w lo L) (hp : D.Pow w.heap.size w) :
    Calls Tryd.prog 6 #[.slice lo L.length c] w fun e w' => e = .returned (.bool true) ∧ Below w.heap.size w w' := by
  have HK : Hid (∀ W, Below w.heap.size w W → Calls Tryd.prog 22 #[] W (fun e w' => e = .returned (.bool true) ∧ Below w.heap.size w w')) := fun W hb => (dknown_any W ((hp.on hb).mono hb.size)).mono fun _ _ h => ⟨h.1, hb.trans (h.2.mono hb.size)⟩
  clear hp
  by_cases hl : 40 < L.length
  · have hl' : (40 : Int) < L.length := by omega
    have hb0 : Hid (Below w.heap.size w w) := Below.refl _ _
    clear h
    go_enter Tryd.func6, Tryd.ntmps6
    go_wp2_with fail
    refine (HK.out _ hb0.out).mono ?_
    rintro e w4 ⟨rfl, hb⟩
    have hb := Lib.hid hb
    go_wp2
    go_ret
    exact ⟨rfl, hb.out⟩
  · have hl' : ¬ (40 : Int) < L.length := by omega
    have hl40 : L.length ≤ 40 := by omega
    obtain ⟨ip, hp, hp0, hp1, hp2⟩ := info_parts Tryd.infoPieces
    have Hp := Lib.hid (And.intro hp (And.intro hp0 (And.intro hp1 hp2)))
    clear hp hp0 hp1 hp2
    have HO : Hid (∀ s ∈ L, ∀ W, D.Row W s.a s.x → Calls Tryd.prog 14 #[.slice s.a s.x.length s.c] W (D.OwnEnd s.x W)) := fun s hs W hr => own_arg s w W (h.ok s hs) hr
    have Hr : Hid (D.Rows w lo L) := h.rows
    have HA : Hid (∀ s ∈ L, s.x.length ≤ maxLen ∧ ∀ p ∈ s.x, p.t.size ≤ 140737488351232) := fun s hs => ⟨(h.ok s hs).src.len, (h.ok s hs).src.txt⟩
    have HJ : Hid (∀ W xo xc (X : List D.Src), X.length = L.length → X.map D.Src.x = L.map D.Src.x → D.Rows W xo X → Calls Tryd.prog 27 #[.slice xo L.length xc] W (D.JoinEnd L W)) := fun W xo xc X hX hx hr => by
      have := join_any xo xc X W (by omega) hr
      unfold D.JoinEnd at this ⊢
      rw [D.joinE_src, D.joinP_src, hx, hX] at this
      rw [D.joinE_src, D.joinP_src]
      exact this
    have HF : Hid (∀ W, D.Rows W lo L → Calls Tryd.prog 28 #[.slice lo L.length c] W (D.JoinEnd L W)) := fun W hr => refJoin_any lo c L W (by omega) hr
    have hjl := D.joinP_bd L
    have S1 : Hid (∀ ao bo c d W, D.Row W ao (D.joinP L) → D.Row W bo (D.joinP L) → Calls Tryd.prog 21 #[.slice ao (D.joinP L).length c, .slice bo (D.joinP L).length d] W (fun e w' => e = .returned (.bool true) ∧ Below W.heap.size W w')) := fun ao bo c d W h g => by
      have := refSame_any ao bo c d _ _ W h g hjl hjl
      rwa [(D.same_iff _ _).2 rfl] at this
    have S2 : Hid (∀ s ∈ L, ∀ (t : D.Src), t.x = s.x → ∀ W, D.Row W t.a t.x → D.Row W s.a s.x → Calls Tryd.prog 21 #[.slice t.a t.x.length t.c, .slice s.a s.x.length s.c] W (fun e w' => e = .returned (.bool true) ∧ Below W.heap.size W w')) := fun s hs t ht W h g => by
      have := refSame_any t.a s.a t.c s.c t.x s.x W h g (by rw [ht]; exact (HA.out s hs).1) (HA.out s hs).1
      rwa [(D.same_iff _ _).2 ht] at this
    have K0 : Hid (D.Kn w w []) := ⟨Below.refl _ _, fun x hx => by cases hx⟩
    unfold D.JoinEnd at HJ HF
    generalize D.joinP L = J at *
    generalize D.joinE L = je at *
    clear h hl hjl
    go_enter Tryd.func6, Tryd.ntmps6
    go_wp2
    go_loopw [3, 4] (fun v iv wr => ∃ (k : Nat) (X : List D.Src), k ≤ L.length ∧ X.length = k ∧ iv = .int .i64 k ∧ Hid (D.XsAt w L k X v wr)) (fun _ i _ => L.length - (intOf i).toNat)
    case atStart => exact ⟨0, [], Nat.zero_le _, rfl, rfl, ⟨World.ownsRow_nil _ _ _ _, Below.refl _ _, rfl, fun s hs => (by cases hs), fun s hs => (by cases hs)⟩⟩
    case round =>
      obtain ⟨k, X, hk, hXl, rfl, hx⟩ := hrel
      obtain ⟨tb, tc, rfl⟩ := D.slice_of_own hx.out.own
      by_cases hlt : k < L.length
      · obtain ⟨s, hs⟩ : ∃ s, L[k]? = some s := ⟨L[k], List.getElem?_eq_getElem hlt⟩
        have hm := List.mem_of_getElem? hs
        obtain ⟨b, o, e, hbl, hc, hsrc⟩ := (Hr.out.below hx.out.below) k s hs
        subst e
        have ho := Lib.hid (HO.out s hm wr hsrc.row)
        have hsl := HA.out s hm
        have hs := Lib.hid hs
        clear hm hsrc
        obtain ⟨sa, sc, sx⟩ := s
        dsimp only at *
        go_wp2_with fail
        refine ho.out.mono ?_
        rintro e w2 ⟨v, rfl, hm⟩
        obtain ⟨ao, co, hv, hrow, hnil⟩ := hm.src
        subst hv
        have hx2 := Lib.hid (hx.out.on hm.below)
        have hn : Hid (∀ ad, ao = some ad → ad.block < w2.heap.size ∧ some ad.block ≠ Value.ownBlock (.slice tb k tc)) := fun ad e => by
          subst e
          obtain ⟨h1, h2⟩ := hm.own.lt ad.block rfl
          refine ⟨h2, fun e => ?_⟩
          have := (hx.out.own.lt ad.block e.symm).2
          omega
        have ht : Hid (D.SrcOk w2 ⟨ao, co, sx⟩) := ⟨hrow, hsl.1, hsl.2, hnil⟩
        have hB2 : w.heap.size ≤ w2.heap.size := hx2.out.below.size
        have Hown := Lib.hid hx2.out.own
        clear hm hrow hnil hx ho hsl hc
        go_wp2_with (at_builtin; refine wpList_append_lies _ rfl _ _ 41 rfl w.heap.size 22 ip (.slice none 0 0) 1 24 Tryd.underlying41 Hp.out.1 Hp.out.2.1 Hp.out.2.2.1 Hp.out.2.2.2 rfl (by decide) _ _ _ rfl (Hown.out.alloc _) ⟨w2.heap.size, 0, none⟩ 1 1 [.slice ao sx.length co] rfl rfl ?b1 ?b2 (by decide) ?b3 ?b4 ?b5 _ rfl ?_)
        case b1 => exact D.news _ _ _
        case b2 => intro u hu; simp at hu; rw [hu]; rfl
        case b3 => unfold maxLen; omega
        case b4 => omega
        case b5 => simp only [World.size_alloc]; omega
        intro g5 cp5 w5 hO5 hg5 hat5 hlt5
        have R5 : Hid (D.XsAt w L (k + 1) (X ++ [⟨ao, co, sx⟩]) (.slice (some ⟨g5, 0, none⟩) (k + 1) cp5) w5) := D.XsAt.next (t := ⟨ao, co, sx⟩) hx2.out hs.out rfl ht.out hn.out hO5 hg5 (by rw [World.size_alloc]; exact hat5)
        have hXl2 : (X ++ [(⟨ao, co, sx⟩ : D.Src)]).length = k + 1 := by rw [List.length_append, hXl]; rfl
        clear hO5 hg5 hat5 hlt5 hx2 hn ht Hown
        go_wp2
        go_roundw
        case rel => exact ⟨k + 1, X ++ [⟨ao, co, sx⟩], by omega, hXl2, by go_num, R5⟩
        case measure => simp [intOf]; omega
      · obtain rfl : k = L.length := by omega
        obtain ⟨xo, xc, hv, hrX⟩ := hx.out.rows hXl
        rw [hXl] at hv
        cases hv
        have hxs : X.map D.Src.x = L.map D.Src.x := by have := hx.out.xs; rwa [List.take_length] at this
        have hj := Lib.hid (HJ.out wr tb tc X hXl hxs hrX)
        have hok := Lib.hid hx.out.ok
        have hbw := Lib.hid hx.out.below
        have HX := Lib.hid (And.intro hrX (And.intro hxs hXl))
        have K := Lib.hid (K0.out.on hbw.out)
        clear hrX hxs hx K0 hXl
        go_wp2_with fail
        refine hj.out.mono ?_
        rintro e w2 ⟨v, rfl, hm⟩
        obtain ⟨da, dc, hv, K1⟩ := K.out.made hm
        subst hv
        have hb2 := Lib.hid hm.below
        clear hm K hj
        have hf := Lib.hid (HF.out w2 (Hr.out.below K1.out.below))
        go_wp2_with fail
        refine hf.out.mono ?_
        rintro e w3 ⟨v, rfl, hm⟩
        obtain ⟨ea, ec, hv, K⟩ := K1.out.made hm
        subst hv
        have hb3 := Lib.hid (hb2.out.trans (hm.below.mono hb2.out.size))
        clear hm K1 hf hb2
        go_wp2_with fail
        refine (S1.out _ _ _ _ _ K.out.tl.r0 K.out.r0).mono ?_
        rintro e w4 ⟨rfl, hb⟩
        have hb4 := Lib.hid (hb3.out.trans (hb.mono hb3.out.size))
        have hbw4 := Lib.hid (K.out.on hb).below
        clear hb hb3 K
        have HX4 := Lib.hid (HX.out.1.below hb4.out)
        have Hr4 := Lib.hid (Hr.out.below hbw4.out)
        clear hok hb4 hbw S1 HJ HF Hr
        go_wp2
        go_loopw [9] (fun iv wy => ∃ k : Nat, k ≤ L.length ∧ iv = .int .i64 k ∧ Hid (Below w4.heap.size w4 wy)) (fun i _ => L.length - (intOf i).toNat)
        case atStart => exact ⟨0, Nat.zero_le _, rfl, Below.refl _ _⟩
        case round =>
          obtain ⟨k, hk, rfl, hy⟩ := hrel
          by_cases hlt : k < L.length
          · obtain ⟨s, hs⟩ : ∃ s, L[k]? = some s := ⟨L[k], List.getElem?_eq_getElem hlt⟩
            obtain ⟨t, ht⟩ : ∃ t, X[k]? = some t := ⟨X[k]'(by have := HX.out.2.2; omega), List.getElem?_eq_getElem _⟩
            have hts : t.x = s.x := by
              have := congrArg (fun l => l[k]?) HX.out.2.1
              simpa [hs, ht] using this
            have hm := List.mem_of_getElem? hs
            obtain ⟨b, o, e, hbl, hc, hsrc⟩ := (Hr4.out.below hy.out) k s hs
            obtain ⟨b2, o2, e2, hbl2, hc2, hsrc2⟩ := (HX4.out.below hy.out) k t ht
            subst e
            subst e2
            have hS := Lib.hid (S2.out s hm t hts wr.drew hsrc2.row hsrc.row)
            clear hm hsrc hsrc2 hs ht hts
            obtain ⟨sa, sc, sx⟩ := s
            obtain ⟨ta, tc', tx⟩ := t
            dsimp only at *
            go_wp2_with fail
            go_region_with (go_at_call 21; refine hS.out.mono ?_; rintro e w6 ⟨rfl, hb⟩)
            all_goals
              have hy2 := Lib.hid (hy.out.drew.trans (hb.mono hy.out.drew.size))
              clear hb
              go_wp2
              go_roundw
              case rel => exact ⟨k + 1, by omega, by go_num, hy2⟩
              case measure => simp [intOf]; omega
          · obtain rfl : k = L.length := by omega
            have hb5 := Lib.hid (hbw4.out.trans (hy.out.mono hbw4.out.size))
            clear hy hbw4 HX4 Hr4 HX
            go_wp2_with fail
            refine (HK.out _ hb5.out).mono ?_
            rintro e w8 ⟨rfl, hb⟩
            have hb := Lib.hid hb
            go_wp2
            go_ret
            exact ⟨rfl, hb.out⟩
end Go.Proofs.YtmjoijloflinnaaDoor
