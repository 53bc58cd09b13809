/- The walk of TransformRebases. -/
import Derived.Test.YtmljagkndnobdaaTransLawKit
import Derived.Test.YtmljagkndnobdaaDeltaList
import Derived.Deep.AppendLies
import Derived.Deep.RegionLaw
import Derived.Deep.RegionWith
namespace Go.Proofs.Ytmljagkndnobdaa
open Go.RowKit

/-- A list of lists, as an argument that may be cut. -/
structure T.ListOk (w : World) (lo : Option Addr) (c : Nat) (L : List D.Src) : Prop where
  ok : D.ListOk w lo L
  cap : L.length ≤ c
  nil : lo = none → c = 0
theorem T.made_all {l : List D.P} {w w' : World} {v : Value} (hm : D.Made l w v w') : ∃ ao c, v = .slice ao l.length c ∧ D.Row w' ao l ∧ (ao = none → c = 0) ∧ l.length ≤ c := by
  obtain ⟨ao, c, hv, hr, hc⟩ := hm.src
  obtain ⟨ao', c', hv', _, hc', _⟩ := C.made_src hm
  rw [hv] at hv'
  simp only [Value.slice.injEq, true_and] at hv'
  exact ⟨ao, c, hv, hr, hc, by omega⟩
set_option maxRecDepth 100000 in
set_option maxHeartbeats 4000000 in
theorem transformRebases_walk (s0 : D.Src) (lo : Option Addr) (c : Nat) (Ls : List D.Src) (w : World) (hs0 : D.ArgOk w s0) (h' : T.ListOk w lo c Ls) :
    Calls Try.prog 5 #[.slice s0.a s0.x.length s0.c, .slice lo Ls.length c] w fun e w' => e = .returned (.bool true) ∧ Below w.heap.size w w' := by
  have h := h'.ok
  clear h'
  have HK := L.hKnown7
  have HD := L.hOwn s0.x hs0.fit
  have G0 := L.hLarge s0.x (L.bd_arg hs0) hs0.num
  have K : Hid (D.Kn w w [(s0.a, s0.x)]) := ⟨Below.refl _ _, fun x hx => by simp at hx; subst hx; exact hs0.src.row⟩
  have nD : Hid (s0.a = none → s0.c = 0) := hs0.src.nil
  have bD := L.bd_arg hs0
  have hml : Ls.length ≤ maxLen := h.len
  have hml2 : Ls.length ≤ 9223372036854775807 := by unfold maxLen at hml; omega
  by_cases h8 : 8 < Ls.length
  · clear h hs0 hml G0
    go_enter Try.func5, Try.ntmps5
    go_wp2_with fail
    refine (HK.out _).mono ?_
    rintro e wk ⟨rfl, hb⟩
    have KC := Lib.hid hb
    clear hb
    go_wp2
    go_ret
    exact ⟨rfl, KC.out⟩
  · cases hg0 : D.large s0.x with
    | true =>
      rw [hg0] at G0
      clear h hs0 hml hg0
      go_enter Try.func5, Try.ntmps5
      go_wp2_with fail
      refine (G0.out _ _ _ K.out.r0).mono ?_
      rintro e w1 ⟨rfl, hb⟩
      have KB := Lib.hid hb
      clear hb
      go_wp2_with fail
      refine (HK.out _).mono ?_
      rintro e wk ⟨rfl, hb⟩
      have KC := Lib.hid (KB.out.trans (hb.mono KB.out.size))
      clear hb
      go_wp2
      go_ret
      exact ⟨rfl, KC.out⟩
    | false =>
      rw [hg0] at G0
      obtain ⟨ip, hp, hp0, hp1, hp2⟩ := info_parts Try.infoRow
      have Hp := Lib.hid (And.intro hp (And.intro hp0 (And.intro hp1 hp2)))
      clear hp hp0 hp1 hp2
      have HO : Hid (∀ s ∈ Ls, ∀ W, D.Row W s.a s.x → Calls Try.prog 14 #[.slice s.a s.x.length s.c] W (fun e w' => ∃ v, e = .returned v ∧ D.Made s.x W v w')) := fun s hs W hr => (L.hOwn s.x (h.ok s hs).fit).out _ _ W hr (h.ok s hs).src.nil
      have HG : Hid (∀ s ∈ Ls, ∀ W, D.Row W s.a s.x → Calls Try.prog 12 #[.slice s.a s.x.length s.c] W (fun e w' => e = .returned (.bool (D.large s.x)) ∧ Below W.heap.size W w')) := fun s hs W hr => (L.hLarge s.x (L.bd_arg (h.ok s hs)) (h.ok s hs).num).out _ _ W hr
      have Hr : Hid (D.Rows w lo Ls) := h.rows
      have HA : Hid (∀ s ∈ Ls, s.x.length ≤ maxLen ∧ ∀ p ∈ s.x, p.t.size ≤ 140737488351232) := fun s hs => ⟨(h.ok s hs).src.len, (h.ok s hs).src.txt⟩
      have HJ : Hid (∀ W yo yc xo xc (X : List D.Src), D.Row W yo s0.x → X.length = Ls.length → X.map D.Src.x = Ls.map D.Src.x → D.Rows W xo X → Calls Try.prog 22 #[.slice yo s0.x.length yc, .slice xo Ls.length xc] W (fun e w' => ∃ v, e = .returned (.tuple #[v, .int .i64 (D.rebS s0.x (Ls.map D.Src.x)).1]) ∧ D.Made (D.rebS s0.x (Ls.map D.Src.x)).2 W v w')) := fun W yo yc xo xc X hy hX hx hr => by
        have := rebase_any yo yc s0.x xo xc X W hy bD (by omega) hr
        unfold T.RbEnd at this
        rw [hx, hX] at this
        exact this
      have HF : Hid ((∀ s ∈ Ls, D.large s.x = false) → ∀ W ao ac, D.Row W ao s0.x → D.Rows W lo Ls → Calls Try.prog 23 #[.slice ao s0.x.length ac, .slice lo Ls.length c] W (fun e w' => ∃ v, e = .returned (.tuple #[v, .int .i64 (D.rebS s0.x (Ls.map D.Src.x)).1]) ∧ D.Made (D.rebS s0.x (Ls.map D.Src.x)).2 W v w')) := fun hlg W ao ac hy hr => by
        have := refRebase_any ao ac s0.x lo c Ls W hy bD (by omega) hr (fun h0 => (L.large_bd h0 hg0).2) (fun s hs h0 => (L.large_bd h0 (hlg s hs)).2)
        unfold T.RbEnd at this
        exact this
      have S0 := L.hSame s0.x bD.1
      have S1 := L.hSame (D.rebS s0.x (Ls.map D.Src.x)).2 (T.reb_bd _ _).1
      have S2 : Hid (∀ s ∈ Ls, ∀ (t : D.Src), t.x = s.x → ∀ W, D.Row W t.a t.x → D.Row W s.a s.x → Calls Try.prog 17 #[.slice t.a t.x.length t.c, .slice s.a s.x.length s.c] W (fun e w' => e = .returned (.bool true) ∧ Below W.heap.size W w')) := fun s hs t ht W h g => by
        have := refSame_any t.a s.a t.c s.c t.x s.x W h g (by rw [ht]; exact (HA.out s hs).1) (HA.out s hs).1
        rwa [(D.same_iff _ _).2 ht] at this
      generalize (D.rebS s0.x (Ls.map D.Src.x)).2 = J at *
      generalize (D.rebS s0.x (Ls.map D.Src.x)).1 = je at *
      obtain ⟨oS, cS, S⟩ := s0
      dsimp only at *
      clear h hs0 hg0 bD
      go_enter Try.func5, Try.ntmps5
      go_wp2_with fail
      refine (G0.out _ _ _ K.out.r0).mono ?_
      rintro e w1 ⟨rfl, hb⟩
      have KB := Lib.hid hb
      clear hb G0
      go_wp2
      go_loopw [5, 6] (fun v iv wr => ∃ (k : Nat) (X : List D.Src), k ≤ Ls.length ∧ X.length = k ∧ iv = .int .i64 k ∧ Hid (∀ s ∈ Ls.take k, D.large s.x = false) ∧ Hid (D.XsAt w Ls k X v wr)) (fun _ i _ => Ls.length - (intOf i).toNat)
      case atStart => exact ⟨0, [], Nat.zero_le _, rfl, rfl, fun s hs => (by cases hs), ⟨World.ownsRow_nil _ _ _ _, KB.out, rfl, fun s hs => (by cases hs), fun s hs => (by cases hs)⟩⟩
      case round =>
        clear KB
        obtain ⟨k, X, hk, hXl, rfl, hlg, hx⟩ := hrel
        obtain ⟨tb, tc, rfl⟩ := D.slice_of_own hx.out.own
        by_cases hlt : k < Ls.length
        · obtain ⟨s, hs⟩ : ∃ s, Ls[k]? = some s := ⟨Ls[k], List.getElem?_eq_getElem hlt⟩
          have hm := List.mem_of_getElem? hs
          obtain ⟨b, o, e, hbl, hc, hsrc⟩ := (Hr.out.below hx.out.below) k s hs
          subst e
          have hg := Lib.hid (HG.out s hm wr hsrc.row)
          have ho := Lib.hid (fun V (hv : Below wr.heap.size wr V) => HO.out s hm V (hsrc.row.below hv))
          have hsl := HA.out s hm
          have hlg2 : Hid (D.large s.x = false → ∀ q ∈ Ls.take (k + 1), D.large q.x = false) := fun hl q hq => by
            rw [List.take_add_one, hs] at hq
            rcases List.mem_append.1 hq with hq | hq
            · exact hlg.out q hq
            · rw [List.mem_singleton.1 hq]; exact hl
          have hs := Lib.hid hs
          clear hm hsrc
          obtain ⟨sa, sc, sx⟩ := s
          dsimp only at *
          cases hgl : D.large sx with
          | true =>
            rw [hgl] at hg
            clear ho hlg hlg2 hs hsl hgl
            go_wp2_with fail
            refine hg.out.mono ?_
            rintro e w2 ⟨rfl, hb⟩
            have KB := Lib.hid (hx.out.below.trans (hb.mono hx.out.below.size))
            clear hb hx hg
            go_wp2_with fail
            refine (HK.out _).mono ?_
            rintro e wk ⟨rfl, hb⟩
            have KC := Lib.hid (KB.out.trans (hb.mono KB.out.size))
            clear hb
            go_wp2
            go_ret
            exact ⟨rfl, KC.out⟩
          | false =>
            rw [hgl] at hg
            have hlg3 := Lib.hid (hlg2.out hgl)
            clear hlg hlg2 hgl
            go_wp2_with fail
            refine hg.out.mono ?_
            rintro e w1' ⟨rfl, hb⟩
            have hx := Lib.hid (hx.out.on hb)
            have ho := Lib.hid (ho.out w1' hb)
            have hc := ((D.bcell hb).1 b (o + k) hbl).trans hc
            clear hb hg
            go_wp2_with fail
            refine ho.out.mono ?_
            rintro e w2 ⟨v, rfl, hm⟩
            obtain ⟨ao, co, hv, hrow, hnil, hcap⟩ := T.made_all hm
            subst hv
            have hx2 := Lib.hid (hx.out.on hm.below)
            have hn : Hid (∀ ad, ao = some ad → ad.block < w2.heap.size ∧ some ad.block ≠ Value.ownBlock (.slice tb k tc)) := fun ad e => by
              subst e
              obtain ⟨h1, h2⟩ := hm.own.lt ad.block rfl
              refine ⟨h2, fun e => ?_⟩
              have := (hx.out.own.lt ad.block e.symm).2
              omega
            have ht : Hid (D.SrcOk w2 ⟨ao, co, sx⟩) := ⟨hrow, hsl.1, hsl.2, hnil⟩
            have hB2 : w.heap.size ≤ w2.heap.size := hx2.out.below.size
            have Hown := Lib.hid hx2.out.own
            clear hm hrow hnil hx ho hsl hc hcap
            go_wp2_with (at_builtin; refine wpList_append_lies _ rfl _ _ 36 rfl w.heap.size 22 ip (.slice none 0 0) 1 24 Try.underlying36 Hp.out.1 Hp.out.2.1 Hp.out.2.2.1 Hp.out.2.2.2 rfl (by decide) _ _ _ rfl (Hown.out.alloc _) ⟨w2.heap.size, 0, none⟩ 1 1 [.slice ao sx.length co] rfl rfl ?b1 ?b2 (by decide) ?b3 ?b4 ?b5 _ rfl ?_)
            case b1 => exact D.news _ _ _
            case b2 => intro u hu; simp at hu; rw [hu]; rfl
            case b3 => unfold maxLen; omega
            case b4 => omega
            case b5 => simp only [World.size_alloc]; omega
            intro g5 cp5 w5 hO5 hg5 hat5 hlt5
            have R5 : Hid (D.XsAt w Ls (k + 1) (X ++ [⟨ao, co, sx⟩]) (.slice (some ⟨g5, 0, none⟩) (k + 1) cp5) w5) := D.XsAt.next (t := ⟨ao, co, sx⟩) hx2.out hs.out rfl ht.out hn.out hO5 hg5 (by rw [World.size_alloc]; exact hat5)
            have hXl2 : (X ++ [(⟨ao, co, sx⟩ : D.Src)]).length = k + 1 := by rw [List.length_append, hXl]; rfl
            clear hO5 hg5 hat5 hlt5 hx2 hn ht Hown
            go_wp2
            go_roundw
            case rel => exact ⟨k + 1, X ++ [⟨ao, co, sx⟩], by omega, hXl2, by go_num, hlg3, R5⟩
            case measure => simp [intOf]; omega
        · obtain rfl : k = Ls.length := by omega
          obtain ⟨xo, xc, hv, hrX⟩ := hx.out.rows hXl
          rw [hXl] at hv
          cases hv
          have hxs : X.map D.Src.x = Ls.map D.Src.x := by have := hx.out.xs; rwa [List.take_length] at this
          have hall : ∀ s ∈ Ls, D.large s.x = false := by have := hlg.out; rwa [List.take_length] at this
          have HF := Lib.hid (HF.out hall)
          have K1 := Lib.hid (K.out.on hx.out.below)
          have HX := Lib.hid (And.intro hrX (And.intro hxs hXl))
          clear hrX hxs hx K hXl hlg hall
          go_wp2_with fail
          refine (HD.out _ _ _ K1.out.r0 nD.out).mono ?_
          rintro e w2 ⟨v, rfl, hm⟩
          obtain ⟨ya, yc, hv, ny, K2⟩ := L.made5 K1.out hm
          subst hv
          have hb2 := Lib.hid hm.below
          clear hm K1
          have hj := Lib.hid (HJ.out w2 ya yc tb tc X K2.out.r0 HX.out.2.2 HX.out.2.1 (HX.out.1.below hb2.out))
          go_wp2_with fail
          refine hj.out.mono ?_
          rintro e w3 ⟨v, rfl, hm⟩
          obtain ⟨da, dc, hv, K3⟩ := K2.out.made hm
          subst hv
          have hb3 := Lib.hid (hb2.out.trans (hm.below.mono hb2.out.size))
          clear hm K2 hj hb2
          have hf := Lib.hid (HF.out w3 _ cS K3.out.tl.tl.r0 (Hr.out.below K3.out.below))
          go_wp2_with fail
          refine hf.out.mono ?_
          rintro e w4 ⟨v, rfl, hm⟩
          obtain ⟨ea, ec, hv, K⟩ := K3.out.made hm
          subst hv
          have hb4 := Lib.hid (hb3.out.trans (hm.below.mono hb3.out.size))
          clear hm K3 hf hb3
          go_wp2_with fail
          refine (S1.out _ _ _ _ _ K.out.tl.r0 K.out.r0).mono ?_
          rintro e w5 ⟨rfl, hb⟩
          have hb5 := Lib.hid (hb4.out.trans (hb.mono hb4.out.size))
          have K5 := Lib.hid (K.out.on hb)
          clear hb hb4 K
          go_wp2_with fail
          refine (S0.out _ _ _ _ _ K5.out.tl.tl.r0 K5.out.tl.tl.tl.r0).mono ?_
          rintro e w6 ⟨rfl, hb⟩
          have hb6 := Lib.hid (hb5.out.trans (hb.mono hb5.out.size))
          have hbw4 := Lib.hid (K5.out.on hb).below
          clear hb hb5 K5
          have HX4 := Lib.hid (HX.out.1.below hb6.out)
          have Hr4 := Lib.hid (Hr.out.below hbw4.out)
          clear hb6 S0 S1 HJ HF Hr HG HD
          go_wp2
          go_loopw [12] (fun iv wy => ∃ k : Nat, k ≤ Ls.length ∧ iv = .int .i64 k ∧ Hid (Below w6.heap.size w6 wy)) (fun i _ => Ls.length - (intOf i).toNat)
          case atStart => exact ⟨0, Nat.zero_le _, rfl, Below.refl _ _⟩
          case round =>
            obtain ⟨k, hk, rfl, hy⟩ := hrel
            by_cases hlt : k < Ls.length
            · obtain ⟨s, hs⟩ : ∃ s, Ls[k]? = some s := ⟨Ls[k], List.getElem?_eq_getElem hlt⟩
              obtain ⟨t, ht⟩ : ∃ t, X[k]? = some t := ⟨X[k]'(by have := HX.out.2.2; omega), List.getElem?_eq_getElem _⟩
              have hts : t.x = s.x := by
                have := congrArg (fun l => l[k]?) HX.out.2.1
                simpa [hs, ht] using this
              have hm := List.mem_of_getElem? hs
              obtain ⟨b, o, e, hbl, hc, hsrc⟩ := (Hr4.out.below hy.out) k s hs
              obtain ⟨b2, o2, e2, hbl2, hc2, hsrc2⟩ := (HX4.out.below hy.out) k t ht
              subst e
              subst e2
              have hS := Lib.hid (S2.out s hm t hts wr.drew hsrc2.row hsrc.row)
              clear hm hsrc hsrc2 hs ht hts
              obtain ⟨sa, sc, sx⟩ := s
              obtain ⟨ta, tc', tx⟩ := t
              dsimp only at *
              go_wp2_with fail
              go_region_with (go_at_call 17; refine hS.out.mono ?_; rintro e w6 ⟨rfl, hb⟩)
              all_goals
                have hy2 := Lib.hid (hy.out.drew.trans (hb.mono hy.out.drew.size))
                clear hb
                go_wp2
                go_roundw
                case rel => exact ⟨k + 1, by omega, by go_num, hy2⟩
                case measure => simp [intOf]; omega
            · obtain rfl : k = Ls.length := by omega
              have hb5 := Lib.hid (hbw4.out.trans (hy.out.mono hbw4.out.size))
              clear hy hbw4 HX4 Hr4 HX
              go_wp2_with fail
              refine (HK.out _).mono ?_
              rintro e w8 ⟨rfl, hb⟩
              have hb := Lib.hid (hb5.out.trans (hb.mono hb5.out.size))
              go_wp2
              go_ret
              exact ⟨rfl, hb.out⟩
end Go.Proofs.Ytmljagkndnobdaa
