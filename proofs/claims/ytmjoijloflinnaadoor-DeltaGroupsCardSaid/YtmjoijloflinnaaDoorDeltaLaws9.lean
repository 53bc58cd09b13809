/- The walk of DeltaGroups. -/
import Derived.Test.YtmjoijloflinnaaDoorDeltaJoinKit
namespace Go.Proofs.YtmjoijloflinnaaDoor
open Go.RowKit

def D.sumI (L : List D.Src) (k : Nat) : Int := ((L.take k).map fun s => D.lenI s.x).sum
def D.sumO (L : List D.Src) (k : Nat) : Int := ((L.take k).map fun s => D.lenO s.x).sum
theorem D.sumI_step {L : List D.Src} {k : Nat} {s : D.Src} (h : L[k]? = some s) : D.sumI L (k + 1) = D.sumI L k + D.lenI s.x := by
  unfold D.sumI; rw [List.take_add_one, h]; simp
theorem D.sumO_step {L : List D.Src} {k : Nat} {s : D.Src} (h : L[k]? = some s) : D.sumO L (k + 1) = D.sumO L k + D.lenO s.x := by
  unfold D.sumO; rw [List.take_add_one, h]; simp
theorem D.sum_bd {L : List D.Src} (h : ∀ s ∈ L, D.chk s.x = 0) : ∀ k, k ≤ L.length → 0 ≤ D.sumI L k ∧ D.sumI L k ≤ k * 1048576 ∧ 0 ≤ D.sumO L k ∧ D.sumO L k ≤ k * 1048576
  | 0, _ => by simp [D.sumI, D.sumO]
  | k + 1, hk => by
    have ih := D.sum_bd h k (by omega)
    have hs : L[k]? = some (L[k]'(by omega)) := List.getElem?_eq_getElem (by omega)
    have hb := D.len_bd (h _ (List.mem_of_getElem? hs))
    rw [D.sumI_step hs, D.sumO_step hs]
    push_cast
    omega
theorem D.three (L : List D.Src) (h : L.length = 3) {P : D.Src → Prop} (h0 : P (L[0]'(by omega))) (h1 : P (L[1]'(by omega))) (h2 : P (L[2]'(by omega))) : ∀ s ∈ L, P s := by
  match L, h with
  | [a, b, c], _ =>
    intro s hs
    simp at hs h0 h1 h2
    rcases hs with rfl | rfl | rfl <;> assumption
set_option maxRecDepth 100000 in
set_option maxHeartbeats 4000000 in
theorem deltaGroups_walk (sa sb sc : D.Src) (w : World) (ha : D.ArgOk w sa) (hb : D.ArgOk w sb) (hc : D.ArgOk w sc) (hp : D.Pow w.heap.size w) :
    Calls Tryd.prog 12 #[.slice sa.a sa.x.length sa.c, .slice sb.a sb.x.length sb.c, .slice sc.a sc.x.length sc.c] w fun e w' => e = .returned (.bool true) ∧ Below w.heap.size w w' := by
  have HA : Hid (∀ W, D.Row W sa.a sa.x → Calls Tryd.prog 14 #[.slice sa.a sa.x.length sa.c] W (D.OwnEnd sa.x W)) := fun W hr => own_arg sa w W ha hr
  have HB : Hid (∀ W, D.Row W sb.a sb.x → Calls Tryd.prog 14 #[.slice sb.a sb.x.length sb.c] W (D.OwnEnd sb.x W)) := fun W hr => own_arg sb w W hb hr
  have HC : Hid (∀ W, D.Row W sc.a sc.x → Calls Tryd.prog 14 #[.slice sc.a sc.x.length sc.c] W (D.OwnEnd sc.x W)) := fun W hr => own_arg sc w W hc hr
  have ba : D.Bd sa.x := ⟨ha.src.len, ha.src.txt⟩
  have bb : D.Bd sb.x := ⟨hb.src.len, hb.src.txt⟩
  have bc : D.Bd sc.x := ⟨hc.src.len, hc.src.txt⟩
  have K : Hid (D.Kn w w [(sa.a, sa.x), (sb.a, sb.x), (sc.a, sc.x)]) := ⟨Below.refl _ _, fun x hx => by
    simp at hx
    rcases hx with rfl | rfl | rfl
    · exact ha.src.row
    · exact hb.src.row
    · exact hc.src.row⟩
  have HK : Hid (∀ W, Below w.heap.size w W → Calls Tryd.prog 22 #[] W (fun e w' => e = .returned (.bool true) ∧ Below w.heap.size w w')) := fun W hb => (dknown_any W ((hp.on hb).mono hb.size)).mono fun _ _ h => ⟨h.1, hb.trans (h.2.mono hb.size)⟩
  have C1 : Hid (∀ W ao c bo d, D.Row W ao sa.x → D.Row W bo sb.x → (ao = none → c = 0) → (bo = none → d = 0) → Calls Tryd.prog 27 #[.slice (some ⟨W.heap.size, 0, none⟩) 2 2] (W.alloc (.cells #[.slice ao sa.x.length c, .slice bo sb.x.length d] 22)) (fun e w' => ∃ v, e = .returned (.tuple #[v, .int .i64 (D.jE [sa.x, sb.x])]) ∧ D.Made (D.jP [sa.x, sb.x]) W v w')) := fun W ao c bo d h g m n => D.join2 _ _ W ao bo c d h g m n ba bb
  have C2 : Hid (∀ W ao c bo d, D.Row W ao sb.x → D.Row W bo sc.x → (ao = none → c = 0) → (bo = none → d = 0) → Calls Tryd.prog 27 #[.slice (some ⟨W.heap.size, 0, none⟩) 2 2] (W.alloc (.cells #[.slice ao sb.x.length c, .slice bo sc.x.length d] 22)) (fun e w' => ∃ v, e = .returned (.tuple #[v, .int .i64 (D.jE [sb.x, sc.x])]) ∧ D.Made (D.jP [sb.x, sc.x]) W v w')) := fun W ao c bo d h g m n => D.join2 _ _ W ao bo c d h g m n bb bc
  have C3 : Hid (∀ W ao c bo d co f, D.Row W ao sa.x → D.Row W bo sb.x → D.Row W co sc.x → (ao = none → c = 0) → (bo = none → d = 0) → (co = none → f = 0) → Calls Tryd.prog 27 #[.slice (some ⟨W.heap.size, 0, none⟩) 3 3] (W.alloc (.cells #[.slice ao sa.x.length c, .slice bo sb.x.length d, .slice co sc.x.length f] 22)) (fun e w' => ∃ v, e = .returned (.tuple #[v, .int .i64 (D.jE [sa.x, sb.x, sc.x])]) ∧ D.Made (D.jP [sa.x, sb.x, sc.x]) W v w')) := fun W ao c bo d co f h g i m n o => D.join3 _ _ _ W ao bo co c d f h g i m n o ba bb bc
  by_cases k1 : D.jE [sa.x, sb.x] = 0
  · by_cases k2 : D.jE [sb.x, sc.x] = 0
    · by_cases k3 : D.jE [sa.x, sb.x, sc.x] = 0
      · have G := D.groups k1 k2 k3
        have C4 : Hid (∀ W ao c bo d, D.Row W ao (D.jP [sa.x, sb.x]) → D.Row W bo sc.x → (ao = none → c = 0) → (bo = none → d = 0) → Calls Tryd.prog 27 #[.slice (some ⟨W.heap.size, 0, none⟩) 2 2] (W.alloc (.cells #[.slice ao (D.jP [sa.x, sb.x]).length c, .slice bo sc.x.length d] 22)) (fun e w' => ∃ v, e = .returned (.tuple #[v, .int .i64 0]) ∧ D.Made (D.jP [sa.x, sb.x, sc.x]) W v w')) := fun W ao c bo d h g m n => by
          have := D.join2 _ _ W ao bo c d h g m n (D.bd_of G.ab) bc
          rw [G.x1, G.x2] at this
          exact this
        have C5 : Hid (∀ W ao c bo d, D.Row W ao sa.x → D.Row W bo (D.jP [sb.x, sc.x]) → (ao = none → c = 0) → (bo = none → d = 0) → Calls Tryd.prog 27 #[.slice (some ⟨W.heap.size, 0, none⟩) 2 2] (W.alloc (.cells #[.slice ao sa.x.length c, .slice bo (D.jP [sb.x, sc.x]).length d] 22)) (fun e w' => ∃ v, e = .returned (.tuple #[v, .int .i64 0]) ∧ D.Made (D.jP [sa.x, sb.x, sc.x]) W v w')) := fun W ao c bo d h g m n => by
          have := D.join2 _ _ W ao bo c d h g m n ba (D.bd_of G.bc)
          rw [G.y1, G.y2] at this
          exact this
        have C6 : Hid (∀ W ao c bo d co f, D.Row W ao sa.x → D.Row W bo (D.normP sb.x) → D.Row W co sc.x → (ao = none → c = 0) → (bo = none → d = 0) → (co = none → f = 0) → Calls Tryd.prog 27 #[.slice (some ⟨W.heap.size, 0, none⟩) 4 4] (W.alloc (.cells #[.slice ao sa.x.length c, .slice none 0 0, .slice bo (D.normP sb.x).length d, .slice co sc.x.length f] 22)) (fun e w' => ∃ v, e = .returned (.tuple #[v, .int .i64 0]) ∧ D.Made (D.jP [sa.x, sb.x, sc.x]) W v w')) := fun W ao c bo d co f h g i m n o => by
          have := D.join4 _ _ _ W ao bo co c d f h g i m n o ba (D.bd_of G.n) bc
          rw [G.z1, G.z2] at this
          exact this
        have N1 : Hid (∀ W ao c, D.Row W ao sb.x → (ao = none → c = 0) → Calls Tryd.prog 24 #[.slice ao sb.x.length c] W (fun e w' => ∃ v, e = .returned (.tuple #[v, .int .i64 0]) ∧ D.Made (D.normP sb.x) W v w')) := fun W ao c h _ => by
          have := normalize_any ao c sb.x W bb.1 h bb.2
          unfold D.NormEnd at this
          rw [G.b, if_pos rfl] at this
          exact this
        have L0 : Hid (∀ ao c W, D.Row W ao (D.jP [sa.x, sb.x, sc.x]) → Calls Tryd.prog 15 #[.slice ao (D.jP [sa.x, sb.x, sc.x]).length c] W (fun e w' => e = .returned (.tuple #[.int .i64 (D.lenI (D.jP [sa.x, sb.x, sc.x])), .int .i64 (D.lenO (D.jP [sa.x, sb.x, sc.x])), .int .i64 0]) ∧ Below W.heap.size W w')) := fun ao c W h => by
          have := lengths_any ao c _ W (D.bd_of G.all).1 h (D.bd_of G.all).2
          unfold D.LenEnd at this
          rw [G.all] at this
          exact this
        have S1 : Hid (∀ ao bo c d W, D.Row W ao (D.jP [sa.x, sb.x, sc.x]) → D.Row W bo (D.jP [sa.x, sb.x, sc.x]) → Calls Tryd.prog 21 #[.slice ao (D.jP [sa.x, sb.x, sc.x]).length c, .slice bo (D.jP [sa.x, sb.x, sc.x]).length d] W (fun e w' => e = .returned (.bool true) ∧ Below W.heap.size W w')) := fun ao bo c d W h g => by
          have := refSame_any ao bo c d _ _ W h g (D.bd_of G.all).1 (D.bd_of G.all).1
          rwa [(D.same_iff _ _).2 rfl] at this
        have NM : Hid (∀ ao c W, D.Row W ao (D.jP [sa.x, sb.x, sc.x]) → Calls Tryd.prog 19 #[.slice ao (D.jP [sa.x, sb.x, sc.x]).length c] W (fun e w' => e = .returned (.bool true) ∧ Below W.heap.size W w')) := fun ao c W h => by
          have := normal_any ao c _ W (D.bd_of G.all).1 h (D.bd_of G.all).2
          rwa [G.nm] at this
        obtain ⟨L, hL⟩ : ∃ L : List D.Src, L = [sa, sb, sc] := ⟨_, rfl⟩
        have hL3 : L.length = 3 := by rw [hL]; rfl
        have hchk : ∀ s ∈ L, D.chk s.x = 0 := by
          rw [hL]; intro s hs
          simp at hs
          rcases hs with rfl | rfl | rfl
          · exact G.a
          · exact G.b
          · exact G.c
        have HO : Hid (∀ s ∈ L, ∀ W, D.Row W s.a s.x → Calls Tryd.prog 14 #[.slice s.a s.x.length s.c] W (D.OwnEnd s.x W)) := by
          rw [hL]; intro s hs W hr
          simp at hs
          rcases hs with rfl | rfl | rfl
          · exact HA.out W hr
          · exact HB.out W hr
          · exact HC.out W hr
        have HL : Hid (∀ s ∈ L, ∀ ao c W, D.Row W ao s.x → Calls Tryd.prog 15 #[.slice ao s.x.length c] W (fun e w' => e = .returned (.tuple #[.int .i64 (D.lenI s.x), .int .i64 (D.lenO s.x), .int .i64 0]) ∧ Below W.heap.size W w')) := fun s hs ao c W h => by
          have hk := hchk s hs
          have := lengths_any ao c _ W (D.bd_of hk).1 h (D.bd_of hk).2
          unfold D.LenEnd at this
          rw [hk] at this
          exact this
        have hbd := Lib.hid (D.sum_bd hchk)
        have hlb : Hid (∀ s ∈ L, 0 ≤ D.lenI s.x ∧ D.lenI s.x ≤ 1048576 ∧ 0 ≤ D.lenO s.x ∧ D.lenO s.x ≤ 1048576) := fun s hs => D.len_bd (hchk s hs)
        have HR : Hid (∀ W K, D.Kn w W K → (sa.a, sa.x) ∈ K → (sb.a, sb.x) ∈ K → (sc.a, sc.x) ∈ K → ∀ s ∈ L, D.Row W s.a s.x) := by
          rw [hL]; intro W K hK h1 h2 h3 s hs
          simp at hs
          rcases hs with rfl | rfl | rfl
          · exact hK.rows _ h1
          · exact hK.rows _ h2
          · exact hK.rows _ h3
        have hcell : Hid (∀ (W : World) k s, L[k]? = some s → (W.alloc (.cells #[.slice sa.a sa.x.length sa.c, .slice sb.a sb.x.length sb.c, .slice sc.a sc.x.length sc.c] 22)).cell? ⟨W.heap.size, k, none⟩ = some (.slice s.a s.x.length s.c)) := by
          rw [hL]; intro W k s hs
          rw [World.cell?_alloc_new]
          have e : #[Value.slice sa.a sa.x.length sa.c, .slice sb.a sb.x.length sb.c, .slice sc.a sc.x.length sc.c] = ([sa, sb, sc].map D.srcV).toArray := rfl
          rw [e]
          simp only [List.getElem?_toArray, List.getElem?_map, hs]
          rfl
        have hsI : D.lenI (D.jP [sa.x, sb.x, sc.x]) = D.sumI L 3 := by rw [hL, G.li]; simp [D.sumI]; omega
        have hsO : D.lenO (D.jP [sa.x, sb.x, sc.x]) = D.sumO L 3 := by rw [hL, G.lo]; simp [D.sumO]; omega
        have hz : D.sumI L 0 = 0 ∧ D.sumO L 0 = 0 := ⟨rfl, rfl⟩
        rw [hsI, hsO] at L0
        rw [k1] at C1
        rw [k2] at C2
        rw [k3] at C3
        have hstI : Hid (∀ k s, L[k]? = some s → D.sumI L (k + 1) = D.sumI L k + D.lenI s.x) := fun k s h => D.sumI_step h
        have hstO : Hid (∀ k s, L[k]? = some s → D.sumO L (k + 1) = D.sumO L k + D.lenO s.x) := fun k s h => D.sumO_step h
        clear hsI hsO G hL hchk k1 k2 k3
        obtain ⟨aa, ca, A⟩ := sa
        obtain ⟨ab, cb, B⟩ := sb
        obtain ⟨ac, cc, C⟩ := sc
        dsimp only at *
        clear ba bb bc ha hb hc hp
        generalize D.normP B = N at *
        generalize D.jP [A, B, C] = ALL at *
        generalize D.jP [A, B] = AB at *
        generalize D.jP [B, C] = BC at *
        generalize D.sumI L = SI at *
        generalize D.sumO L = SO at *
        go_enter Tryd.func12, Tryd.ntmps12
        go_wp2_with fail
        refine (HA.out _ K.out.r0).mono ?_
        rintro e w1 ⟨v, rfl, hm⟩
        obtain ⟨oa1, ca1, hv, na1, K1⟩ := K.out.made' hm
        subst hv
        clear hm K
        go_wp2_with fail
        refine (HB.out _ K1.out.tl.tl.r0).mono ?_
        rintro e w2 ⟨v, rfl, hm⟩
        obtain ⟨ob1, cb1, hv, nb1, K⟩ := K1.out.made' hm
        subst hv
        clear hm K1
        go_wp2_with fail
        refine (C1.out _ _ _ _ _ K.out.tl.r0 K.out.r0 na1.out nb1.out ).mono ?_
        rintro e w3 ⟨v, rfl, hm⟩
        obtain ⟨oAB, cAB, hv, nAB, K1⟩ := K.out.tl.tl.made' hm
        subst hv
        clear hm K
        go_wp2_with fail
        refine (HB.out _ K1.out.tl.tl.r0).mono ?_
        rintro e w4 ⟨v, rfl, hm⟩
        obtain ⟨ob2, cb2, hv, nb2, K⟩ := K1.out.made' hm
        subst hv
        clear hm K1
        go_wp2_with fail
        refine (HC.out _ K.out.tl.tl.tl.tl.r0).mono ?_
        rintro e w5 ⟨v, rfl, hm⟩
        obtain ⟨oc2, cc2, hv, nc2, K1⟩ := K.out.made' hm
        subst hv
        clear hm K
        go_wp2_with fail
        refine (C2.out _ _ _ _ _ K1.out.tl.r0 K1.out.r0 nb2.out nc2.out ).mono ?_
        rintro e w6 ⟨v, rfl, hm⟩
        obtain ⟨oBC, cBC, hv, nBC, K⟩ := K1.out.tl.tl.made' hm
        subst hv
        clear hm K1
        go_wp2_with fail
        refine (HA.out _ K.out.tl.tl.r0).mono ?_
        rintro e w7 ⟨v, rfl, hm⟩
        obtain ⟨oa3, ca3, hv, na3, K1⟩ := K.out.made' hm
        subst hv
        clear hm K
        go_wp2_with fail
        refine (HB.out _ K1.out.tl.tl.tl.tl.r0).mono ?_
        rintro e w8 ⟨v, rfl, hm⟩
        obtain ⟨ob3, cb3, hv, nb3, K⟩ := K1.out.made' hm
        subst hv
        clear hm K1
        go_wp2_with fail
        refine (HC.out _ K.out.tl.tl.tl.tl.tl.tl.r0).mono ?_
        rintro e w9 ⟨v, rfl, hm⟩
        obtain ⟨oc3, cc3, hv, nc3, K1⟩ := K.out.made' hm
        subst hv
        clear hm K
        go_wp2_with fail
        refine (C3.out _ _ _ _ _ _ _ K1.out.tl.tl.r0 K1.out.tl.r0 K1.out.r0 na3.out nb3.out nc3.out ).mono ?_
        rintro e w10 ⟨v, rfl, hm⟩
        obtain ⟨oALL, cALL, hv, nALL, K⟩ := K1.out.tl.tl.tl.made' hm
        subst hv
        clear hm K1
        go_wp2_with fail
        refine (HC.out _ K.out.tl.tl.tl.tl.tl.r0).mono ?_
        rintro e w11 ⟨v, rfl, hm⟩
        obtain ⟨oc4, cc4, hv, nc4, K1⟩ := K.out.made' hm
        subst hv
        clear hm K
        go_wp2_with fail
        refine (C4.out _ _ _ _ _ K1.out.tl.tl.tl.r0 K1.out.r0 nAB.out nc4.out ).mono ?_
        rintro e w12 ⟨v, rfl, hm⟩
        obtain ⟨oX, cX, hv, nX, K⟩ := K1.out.tl.made' hm
        subst hv
        clear hm K1
        go_wp2_with fail
        refine (HA.out _ K.out.tl.tl.tl.tl.r0).mono ?_
        rintro e w13 ⟨v, rfl, hm⟩
        obtain ⟨oa5, ca5, hv, na5, K1⟩ := K.out.made' hm
        subst hv
        clear hm K
        go_wp2_with fail
        refine (C5.out _ _ _ _ _ K1.out.r0 K1.out.tl.tl.tl.r0 na5.out nBC.out ).mono ?_
        rintro e w14 ⟨v, rfl, hm⟩
        obtain ⟨oY, cY, hv, nY, K⟩ := K1.out.made' hm
        subst hv
        clear hm K1
        go_wp2_with fail
        refine (HB.out _ K.out.tl.tl.tl.tl.tl.tl.tl.r0).mono ?_
        rintro e w15 ⟨v, rfl, hm⟩
        obtain ⟨ob6, cb6, hv, nb6, K1⟩ := K.out.made' hm
        subst hv
        clear hm K
        go_wp2_with fail
        refine (N1.out _ _ _ K1.out.r0 nb6.out ).mono ?_
        rintro e w16 ⟨v, rfl, hm⟩
        obtain ⟨oNN, cNN, hv, nNN, K⟩ := K1.out.tl.made' hm
        subst hv
        clear hm K1
        go_wp2_with fail
        refine (HA.out _ K.out.tl.tl.tl.tl.tl.tl.tl.r0).mono ?_
        rintro e w17 ⟨v, rfl, hm⟩
        obtain ⟨oa7, ca7, hv, na7, K1⟩ := K.out.made' hm
        subst hv
        clear hm K
        go_wp2_with fail
        refine (HC.out _ K1.out.tl.tl.tl.tl.tl.tl.tl.tl.tl.tl.r0).mono ?_
        rintro e w18 ⟨v, rfl, hm⟩
        obtain ⟨oc7, cc7, hv, nc7, K⟩ := K1.out.made' hm
        subst hv
        clear hm K1
        go_wp2_with fail
        refine (C6.out _ _ _ _ _ _ _ K.out.tl.r0 K.out.tl.tl.r0 K.out.r0 na7.out nNN.out nc7.out ).mono ?_
        rintro e w19 ⟨v, rfl, hm⟩
        obtain ⟨oZ, cZ, hv, nZ, K1⟩ := K.out.tl.tl.made' hm
        subst hv
        clear hm K
        go_wp2_with fail
        refine (L0.out _ _ _ K1.out.tl.tl.tl.tl.tl.r0).mono ?_
        rintro e wl ⟨rfl, hb⟩
        have K := Lib.hid (K1.out.on hb)
        clear hb K1
        go_wp2
        have hcl := Lib.hid (hcell.out wl)
        have KL := Lib.hid (K.out.on ((Below.refl wl.heap.size wl).alloc (Nat.le_refl _) (.cells #[.slice aa A.length ca, .slice ab B.length cb, .slice ac C.length cc] 22)))
        have hsz : wl.heap.size < (wl.alloc (.cells #[.slice aa A.length ca, .slice ab B.length cb, .slice ac C.length cc] 22)).heap.size := by simp
        obtain ⟨BL, hBL⟩ : ∃ BL, wl.heap.size = BL := ⟨_, rfl⟩
        clear K hcell
        generalize wl.alloc (.cells #[.slice aa A.length ca, .slice ab B.length cb, .slice ac C.length cc] 22) = WL at *
        rw [hBL] at hcl hsz ⊢
        have hrow : Hid (∀ s ∈ L, D.Row WL s.a s.x) := HR.out _ _ KL.out (by simp) (by simp) (by simp)
        clear HR hBL
        go_loopw [24, 25, 114] (fun sv ov iv wr => ∃ k : Nat, k ≤ 3 ∧ iv = .int .i64 k ∧ sv = .int .i64 (SI k) ∧ ov = .int .i64 (SO k) ∧ Hid (Below WL.heap.size WL wr)) (fun _ _ i _ => 3 - (intOf i).toNat)
        case atStart => exact ⟨0, by omega, rfl, by rw [hz.1], by rw [hz.2], Below.refl _ _⟩
        case round =>
          obtain ⟨k, hk, rfl, rfl, rfl, hbw⟩ := hrel
          by_cases hlt : k < 3
          · obtain ⟨s, hs⟩ : ∃ s, L[k]? = some s := ⟨L[k]'(by omega), List.getElem?_eq_getElem (by omega)⟩
            have hm := List.mem_of_getElem? hs
            have hc := (hbw.out.cell (p := ⟨BL, k, none⟩) hsz).trans (hcl.out k s hs)
            have ho := Lib.hid (HO.out s hm wr ((hrow.out s hm).below hbw.out))
            have hl := Lib.hid (HL.out s hm)
            obtain ⟨b1, b2, b3, b4⟩ := hbd.out k (by omega)
            obtain ⟨d1, d2, d3, d4⟩ := hlb.out s hm
            have e1 := hstI.out k s hs
            have e2 := hstO.out k s hs
            have e1 := Lib.hid e1
            have e2 := Lib.hid e2
            have bk : (k : Int) * 1048576 ≤ 3145728 := by omega
            clear hs hm
            obtain ⟨sa', sc', sx⟩ := s
            dsimp only at *
            go_wp2_with fail
            refine ho.out.mono ?_
            rintro e w5 ⟨v, rfl, hm⟩
            obtain ⟨oo, cx, hv, hr⟩ := hm.form
            subst hv
            have hb5 := Lib.hid (hbw.out.trans (hm.below.mono hbw.out.size))
            have hl := Lib.hid (hl.out _ cx _ hr)
            clear hm hr
            go_wp2_with fail
            refine hl.out.mono ?_
            rintro e w6 ⟨rfl, hb⟩
            have hb6 := Lib.hid (hb5.out.trans (hb.mono hb5.out.size))
            clear hb
            generalize D.lenI sx = li at *
            generalize D.lenO sx = lo at *
            obtain ⟨si, hsi⟩ : ∃ si, SI k = si := ⟨_, rfl⟩
            obtain ⟨so, hso⟩ : ∃ so, SO k = so := ⟨_, rfl⟩
            rw [hsi] at b1 b2 e1 ⊢
            rw [hso] at b3 b4 e2 ⊢
            clear hsi hso
            go_wp2
            go_roundw
            case rel => exact ⟨k + 1, by omega, by go_num, by rw [e1.out], by rw [e2.out], hb6⟩
            case measure => simp [intOf]; omega
          · obtain rfl : k = 3 := by omega
            have K := Lib.hid (KL.out.on hbw.out)
            clear KL hbw
            generalize SI 3 = si at *
            generalize SO 3 = so at *
            go_wp2_with fail
            refine (S1.out _ _ _ _ _ K.out.tl.tl.tl.tl.r0 K.out.tl.tl.tl.tl.tl.r0).mono ?_
            rintro e w ⟨rfl, hb⟩
            have K1 := Lib.hid (K.out.on hb)
            clear hb K
            go_wp2_with fail
            refine (S1.out _ _ _ _ _ K1.out.tl.tl.r0 K1.out.tl.tl.tl.tl.tl.r0).mono ?_
            rintro e w ⟨rfl, hb⟩
            have K := Lib.hid (K1.out.on hb)
            clear hb K1
            go_wp2_with fail
            refine (S1.out _ _ _ _ _ K.out.r0 K.out.tl.tl.tl.tl.tl.r0).mono ?_
            rintro e w ⟨rfl, hb⟩
            have K1 := Lib.hid (K.out.on hb)
            clear hb K
            go_wp2_with fail
            refine (NM.out _ _ _ K1.out.tl.tl.tl.tl.tl.r0).mono ?_
            rintro e w ⟨rfl, hb⟩
            have K := Lib.hid (K1.out.on hb)
            clear hb K1
            have K1 := Lib.hid K.out.below
            clear K
            go_wp2_with fail
            refine (HK.out _ K1.out).mono ?_
            rintro e w ⟨rfl, hb⟩
            have hb := Lib.hid hb
            go_wp2
            go_ret
            exact ⟨rfl, hb.out⟩
      · have h' : (D.jE [sa.x, sb.x, sc.x] != 0) = true := by simpa using k3
        rw [k1] at C1
        rw [k2] at C2
        obtain ⟨aa, ca, A⟩ := sa
        obtain ⟨ab, cb, B⟩ := sb
        obtain ⟨ac, cc, C⟩ := sc
        dsimp only at *
        clear ba bb bc ha hb hc hp
        clear k1 k2 k3
        generalize D.jE [A, B, C] = q3 at *
        generalize D.jP [A, B, C] = ALL at *
        generalize D.jP [A, B] = AB at *
        generalize D.jP [B, C] = BC at *
        go_enter Tryd.func12, Tryd.ntmps12
        go_wp2_with fail
        refine (HA.out _ K.out.r0).mono ?_
        rintro e w1 ⟨v, rfl, hm⟩
        obtain ⟨oa1, ca1, hv, na1, K1⟩ := K.out.made' hm
        subst hv
        clear hm K
        go_wp2_with fail
        refine (HB.out _ K1.out.tl.tl.r0).mono ?_
        rintro e w2 ⟨v, rfl, hm⟩
        obtain ⟨ob1, cb1, hv, nb1, K⟩ := K1.out.made' hm
        subst hv
        clear hm K1
        go_wp2_with fail
        refine (C1.out _ _ _ _ _ K.out.tl.r0 K.out.r0 na1.out nb1.out ).mono ?_
        rintro e w3 ⟨v, rfl, hm⟩
        obtain ⟨oAB, cAB, hv, nAB, K1⟩ := K.out.tl.tl.made' hm
        subst hv
        clear hm K
        go_wp2_with fail
        refine (HB.out _ K1.out.tl.tl.r0).mono ?_
        rintro e w4 ⟨v, rfl, hm⟩
        obtain ⟨ob2, cb2, hv, nb2, K⟩ := K1.out.made' hm
        subst hv
        clear hm K1
        go_wp2_with fail
        refine (HC.out _ K.out.tl.tl.tl.tl.r0).mono ?_
        rintro e w5 ⟨v, rfl, hm⟩
        obtain ⟨oc2, cc2, hv, nc2, K1⟩ := K.out.made' hm
        subst hv
        clear hm K
        go_wp2_with fail
        refine (C2.out _ _ _ _ _ K1.out.tl.r0 K1.out.r0 nb2.out nc2.out ).mono ?_
        rintro e w6 ⟨v, rfl, hm⟩
        obtain ⟨oBC, cBC, hv, nBC, K⟩ := K1.out.tl.tl.made' hm
        subst hv
        clear hm K1
        go_wp2_with fail
        refine (HA.out _ K.out.tl.tl.r0).mono ?_
        rintro e w7 ⟨v, rfl, hm⟩
        obtain ⟨oa3, ca3, hv, na3, K1⟩ := K.out.made' hm
        subst hv
        clear hm K
        go_wp2_with fail
        refine (HB.out _ K1.out.tl.tl.tl.tl.r0).mono ?_
        rintro e w8 ⟨v, rfl, hm⟩
        obtain ⟨ob3, cb3, hv, nb3, K⟩ := K1.out.made' hm
        subst hv
        clear hm K1
        go_wp2_with fail
        refine (HC.out _ K.out.tl.tl.tl.tl.tl.tl.r0).mono ?_
        rintro e w9 ⟨v, rfl, hm⟩
        obtain ⟨oc3, cc3, hv, nc3, K1⟩ := K.out.made' hm
        subst hv
        clear hm K
        go_wp2_with fail
        refine (C3.out _ _ _ _ _ _ _ K1.out.tl.tl.r0 K1.out.tl.r0 K1.out.r0 na3.out nb3.out nc3.out ).mono ?_
        rintro e w10 ⟨v, rfl, hm⟩
        obtain ⟨oALL, cALL, hv, nALL, K⟩ := K1.out.tl.tl.tl.made' hm
        subst hv
        clear hm K1
        have K1 := Lib.hid K.out.below
        clear K
        go_wp2_with fail
        refine (HK.out _ K1.out).mono ?_
        rintro e w ⟨rfl, hb⟩
        have hb := Lib.hid hb
        go_wp2
        go_ret
        exact ⟨rfl, hb.out⟩
    · have h' : (D.jE [sb.x, sc.x] != 0) = true := by simpa using k2
      rw [k1] at C1
      obtain ⟨aa, ca, A⟩ := sa
      obtain ⟨ab, cb, B⟩ := sb
      obtain ⟨ac, cc, C⟩ := sc
      dsimp only at *
      clear ba bb bc ha hb hc hp
      clear k1 k2
      generalize D.jE [A, B, C] = q3 at *
      generalize D.jE [B, C] = q2 at *
      generalize D.jP [A, B, C] = ALL at *
      generalize D.jP [A, B] = AB at *
      generalize D.jP [B, C] = BC at *
      go_enter Tryd.func12, Tryd.ntmps12
      go_wp2_with fail
      refine (HA.out _ K.out.r0).mono ?_
      rintro e w1 ⟨v, rfl, hm⟩
      obtain ⟨oa1, ca1, hv, na1, K1⟩ := K.out.made' hm
      subst hv
      clear hm K
      go_wp2_with fail
      refine (HB.out _ K1.out.tl.tl.r0).mono ?_
      rintro e w2 ⟨v, rfl, hm⟩
      obtain ⟨ob1, cb1, hv, nb1, K⟩ := K1.out.made' hm
      subst hv
      clear hm K1
      go_wp2_with fail
      refine (C1.out _ _ _ _ _ K.out.tl.r0 K.out.r0 na1.out nb1.out ).mono ?_
      rintro e w3 ⟨v, rfl, hm⟩
      obtain ⟨oAB, cAB, hv, nAB, K1⟩ := K.out.tl.tl.made' hm
      subst hv
      clear hm K
      go_wp2_with fail
      refine (HB.out _ K1.out.tl.tl.r0).mono ?_
      rintro e w4 ⟨v, rfl, hm⟩
      obtain ⟨ob2, cb2, hv, nb2, K⟩ := K1.out.made' hm
      subst hv
      clear hm K1
      go_wp2_with fail
      refine (HC.out _ K.out.tl.tl.tl.tl.r0).mono ?_
      rintro e w5 ⟨v, rfl, hm⟩
      obtain ⟨oc2, cc2, hv, nc2, K1⟩ := K.out.made' hm
      subst hv
      clear hm K
      go_wp2_with fail
      refine (C2.out _ _ _ _ _ K1.out.tl.r0 K1.out.r0 nb2.out nc2.out ).mono ?_
      rintro e w6 ⟨v, rfl, hm⟩
      obtain ⟨oBC, cBC, hv, nBC, K⟩ := K1.out.tl.tl.made' hm
      subst hv
      clear hm K1
      go_wp2_with fail
      refine (HA.out _ K.out.tl.tl.r0).mono ?_
      rintro e w7 ⟨v, rfl, hm⟩
      obtain ⟨oa3, ca3, hv, na3, K1⟩ := K.out.made' hm
      subst hv
      clear hm K
      go_wp2_with fail
      refine (HB.out _ K1.out.tl.tl.tl.tl.r0).mono ?_
      rintro e w8 ⟨v, rfl, hm⟩
      obtain ⟨ob3, cb3, hv, nb3, K⟩ := K1.out.made' hm
      subst hv
      clear hm K1
      go_wp2_with fail
      refine (HC.out _ K.out.tl.tl.tl.tl.tl.tl.r0).mono ?_
      rintro e w9 ⟨v, rfl, hm⟩
      obtain ⟨oc3, cc3, hv, nc3, K1⟩ := K.out.made' hm
      subst hv
      clear hm K
      go_wp2_with fail
      refine (C3.out _ _ _ _ _ _ _ K1.out.tl.tl.r0 K1.out.tl.r0 K1.out.r0 na3.out nb3.out nc3.out ).mono ?_
      rintro e w10 ⟨v, rfl, hm⟩
      obtain ⟨oALL, cALL, hv, nALL, K⟩ := K1.out.tl.tl.tl.made' hm
      subst hv
      clear hm K1
      have K1 := Lib.hid K.out.below
      clear K
      go_wp2_with fail
      refine (HK.out _ K1.out).mono ?_
      rintro e w ⟨rfl, hb⟩
      have hb := Lib.hid hb
      go_wp2
      go_ret
      exact ⟨rfl, hb.out⟩
  · have h' : (D.jE [sa.x, sb.x] != 0) = true := by simpa using k1
    obtain ⟨aa, ca, A⟩ := sa
    obtain ⟨ab, cb, B⟩ := sb
    obtain ⟨ac, cc, C⟩ := sc
    dsimp only at *
    clear ba bb bc ha hb hc hp
    clear k1
    generalize D.jE [A, B, C] = q3 at *
    generalize D.jE [A, B] = q1 at *
    generalize D.jE [B, C] = q2 at *
    generalize D.jP [A, B, C] = ALL at *
    generalize D.jP [A, B] = AB at *
    generalize D.jP [B, C] = BC at *
    go_enter Tryd.func12, Tryd.ntmps12
    go_wp2_with fail
    refine (HA.out _ K.out.r0).mono ?_
    rintro e w1 ⟨v, rfl, hm⟩
    obtain ⟨oa1, ca1, hv, na1, K1⟩ := K.out.made' hm
    subst hv
    clear hm K
    go_wp2_with fail
    refine (HB.out _ K1.out.tl.tl.r0).mono ?_
    rintro e w2 ⟨v, rfl, hm⟩
    obtain ⟨ob1, cb1, hv, nb1, K⟩ := K1.out.made' hm
    subst hv
    clear hm K1
    go_wp2_with fail
    refine (C1.out _ _ _ _ _ K.out.tl.r0 K.out.r0 na1.out nb1.out ).mono ?_
    rintro e w3 ⟨v, rfl, hm⟩
    obtain ⟨oAB, cAB, hv, nAB, K1⟩ := K.out.tl.tl.made' hm
    subst hv
    clear hm K
    go_wp2_with fail
    refine (HB.out _ K1.out.tl.tl.r0).mono ?_
    rintro e w4 ⟨v, rfl, hm⟩
    obtain ⟨ob2, cb2, hv, nb2, K⟩ := K1.out.made' hm
    subst hv
    clear hm K1
    go_wp2_with fail
    refine (HC.out _ K.out.tl.tl.tl.tl.r0).mono ?_
    rintro e w5 ⟨v, rfl, hm⟩
    obtain ⟨oc2, cc2, hv, nc2, K1⟩ := K.out.made' hm
    subst hv
    clear hm K
    go_wp2_with fail
    refine (C2.out _ _ _ _ _ K1.out.tl.r0 K1.out.r0 nb2.out nc2.out ).mono ?_
    rintro e w6 ⟨v, rfl, hm⟩
    obtain ⟨oBC, cBC, hv, nBC, K⟩ := K1.out.tl.tl.made' hm
    subst hv
    clear hm K1
    go_wp2_with fail
    refine (HA.out _ K.out.tl.tl.r0).mono ?_
    rintro e w7 ⟨v, rfl, hm⟩
    obtain ⟨oa3, ca3, hv, na3, K1⟩ := K.out.made' hm
    subst hv
    clear hm K
    go_wp2_with fail
    refine (HB.out _ K1.out.tl.tl.tl.tl.r0).mono ?_
    rintro e w8 ⟨v, rfl, hm⟩
    obtain ⟨ob3, cb3, hv, nb3, K⟩ := K1.out.made' hm
    subst hv
    clear hm K1
    go_wp2_with fail
    refine (HC.out _ K.out.tl.tl.tl.tl.tl.tl.r0).mono ?_
    rintro e w9 ⟨v, rfl, hm⟩
    obtain ⟨oc3, cc3, hv, nc3, K1⟩ := K.out.made' hm
    subst hv
    clear hm K
    go_wp2_with fail
    refine (C3.out _ _ _ _ _ _ _ K1.out.tl.tl.r0 K1.out.tl.r0 K1.out.r0 na3.out nb3.out nc3.out ).mono ?_
    rintro e w10 ⟨v, rfl, hm⟩
    obtain ⟨oALL, cALL, hv, nALL, K⟩ := K1.out.tl.tl.tl.made' hm
    subst hv
    clear hm K1
    have K1 := Lib.hid K.out.below
    clear K
    go_wp2_with fail
    refine (HK.out _ K1.out).mono ?_
    rintro e w ⟨rfl, hb⟩
    have hb := Lib.hid hb
    go_wp2
    go_ret
    exact ⟨rfl, hb.out⟩
end Go.Proofs.YtmjoijloflinnaaDoor
