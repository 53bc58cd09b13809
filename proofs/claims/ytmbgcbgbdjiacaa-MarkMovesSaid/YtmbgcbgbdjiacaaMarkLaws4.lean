/- The walk of MarkMoves. -/
import Derived.Test.YtmbgcbgbdjiacaaMarkKnown
namespace Go.Proofs.Ytmbgcbgbdjiacaa
open Go.RowKit

set_option maxRecDepth 100000 in
set_option maxHeartbeats 4000000 in
theorem markMoves_walk (s : K.Src) (r : D.Src) (w : World) (hs : K.ArgOk w s) (hr : D.ArgOk w r) :
    Calls Try.prog 8 #[.slice s.a s.x.length s.c, .slice r.a r.x.length r.c] w fun e w' => e = .returned (.bool true) ∧ Below w.heap.size w w' := by
  have HK := J.hKnown
  have laS : s.x.length ≤ maxLen := by have := hs.fit; unfold maxLen; omega
  have hfS : J.Fits s.x := hs.fits
  have HOS := J.hOwn s.x hs.fit
  have bdR := L.bd_arg hr
  have HPR := L.hOwn r.x hr.fit
  have Z : Hid (K.Kn w w [(r.a, r.x)] [(s.a, s.x)]) := J.Kn.addp (J.Kn.addm (J.Kn0 w) hs.row) hr.src.row
  have nS : Hid ((s.a = none → s.c = 0) ∧ s.x.length ≤ s.c) := ⟨hs.nil, hs.cap⟩
  have nR : Hid ((r.a = none → r.c = 0) ∧ r.x.length ≤ r.c) := ⟨hr.src.nil, hr.cap⟩
  obtain ⟨oS, cS, S⟩ := s
  obtain ⟨oR, cR, R⟩ := r
  dsimp only at *
  clear hs hr
  have H1 := J.hSh S R laS hfS bdR
  by_cases hE : K.shE S R = 0
  · have ok := (K.shE_iff S R).1 hE
    have HL := L.hLen R bdR
    rw [ok.delta, (D.len_qs ok.delta).1, (D.len_qs ok.delta).2] at HL
    have hms : K.Set (D.outL (D.qs R)) (K.shL S R) := by rw [K.shL_ok hE]; exact K.moved_set _ ok.set
    have HT := J.hChk (D.outL (D.qs R)) (K.shL S R) (J.shL_le S R laS) (J.shL_fit S R hfS)
    rw [(K.chk_iff (by omega) _).2 hms] at HT
    have HO2 := J.hOwn (K.shL S R) (by have := hms.len; omega)
    have lT : (K.shL S R).length = S.length := by rw [K.shL_ok hE, List.length_map]
    have HA : Hid (∀ (i : Nat) (m : K.M), S[i]? = some m → ∃ z, (K.shL S R)[i]? = some ⟨m.id, z, m.g⟩) := fun i m hm => ⟨K.mv (D.qs R) m.g m.at_, by rw [K.shL_at hE, hm]; rfl⟩
    have HM : Hid (∀ (i j : Nat) (m p u v : K.M), S[i]? = some m → S[j]? = some p → (K.shL S R)[i]? = some u → (K.shL S R)[j]? = some v → m.at_ ≤ p.at_ → m.g ≤ p.g → u.at_ ≤ v.at_) := fun i j m p u v hm hp hu hv h1 h2 => by
      rw [K.shL_at hE, hm] at hu
      rw [K.shL_at hE, hp] at hv
      cases hu
      cases hv
      exact K.moved_order _ (hfS m (List.mem_of_getElem? hm)).g0 h2 h1
    rw [hE] at H1
    have hSl : S.length ≤ 9223372036854775807 := by unfold maxLen at laS; omega
    clear laS hfS bdR ok hms hE
    generalize K.shL S R = X at *
    generalize D.outL (D.qs R) = O at *
    generalize D.inL (D.qs R) = O2 at *
    have qX : ((X.length : Int) != (S.length : Int)) = false := by rw [lT]; simp
    rw [lT] at HO2 HT
    have lT := Lib.hid lT
    go_enter Try.func8, Try.ntmps8
    go_wp2_with fail
    refine (HOS.out _ _ _ Z.out.m0 nS.out.1).mono ?_
    rintro e w1 ⟨v, rfl, hm⟩
    obtain ⟨ox, cx, hv, nx, Z1⟩ := J.mmade Z.out hm
    subst hv
    clear hm Z
    go_wp2_with fail
    refine (HPR.out _ _ _ Z1.out.p0 nR.out.1).mono ?_
    rintro e w2 ⟨v, rfl, hm⟩
    obtain ⟨oy, cy, hv, ny, Z2⟩ := J.pmade Z1.out hm
    subst hv
    clear hm Z1
    go_wp2_with fail
    refine (H1.out _ _ _ _ _ Z2.out.m0 nx.out.1 Z2.out.p0).mono ?_
    rintro e w3 ⟨v, rfl, hm⟩
    obtain ⟨ot, ct, hv, nt, Z3⟩ := J.mmade Z2.out hm
    subst hv
    clear hm Z2
    go_wp2_with fail
    refine (HPR.out _ _ _ Z3.out.pt.p0 nR.out.1).mono ?_
    rintro e w4 ⟨v, rfl, hm⟩
    obtain ⟨oy2, cy2, hv, ny2, Z4⟩ := J.pmade Z3.out hm
    subst hv
    clear hm Z3
    go_wp2_with fail
    refine (HL.out _ _ _ Z4.out.p0).mono ?_
    rintro e w5 ⟨rfl, hb⟩
    have Z5 := Lib.hid (Z4.out.on hb)
    clear hb Z4
    go_wp2_with fail
    refine (HO2.out _ _ _ Z5.out.m0 nt.out.1).mono ?_
    rintro e w6 ⟨v, rfl, hm⟩
    obtain ⟨ot2, ct2, hv, nt2, Z6⟩ := J.mmade Z5.out hm
    subst hv
    clear hm Z5
    go_wp2_with fail
    refine (HT.out _ _ _ Z6.out.m0).mono ?_
    rintro e w7 ⟨rfl, hb⟩
    have Z7 := Lib.hid (Z6.out.on hb)
    clear hb Z6
    have ZS : Hid (K.Kn w w7 [] [(ot, X), (oS, S)]) := J.Kn.addm (J.Kn.addm (J.Kn.base Z7.out.below) Z7.out.mt.mt.mt.m0) Z7.out.mt.m0
    clear Z7 H1 HL HT HO2 HPR HOS
    go_wp2
    go_loopw [10] (fun i wr => ∃ k : Nat, k ≤ S.length ∧ i = .int .i64 k ∧ Hid (K.Kn w wr [] [(ot, X), (oS, S)])) (fun i _ => S.length - (intOf i).toNat)
    case atStart => exact ⟨0, Nat.zero_le _, rfl, ZS.out⟩
    case round =>
      obtain ⟨k, hk, rfl, ZL⟩ := hrel
      clear ZS
      by_cases hlt : k < S.length
      · obtain ⟨m, hm⟩ : ∃ m, S[k]? = some m := ⟨S[k]'hlt, List.getElem?_eq_getElem _⟩
        obtain ⟨z, hz⟩ := HA.out k m hm
        have Hk := Lib.hid (And.intro hm hz)
        obtain ⟨bt, pt, et, _, c0, c1, c2⟩ := ZL.out.m0 k _ hz
        obtain ⟨bs, ps, es, _, d0, d1, d2⟩ := ZL.out.mt.m0 k m hm
        subst et es
        dsimp only at c0 c1 c2
        have kx : k < X.length := by have := lT.out; omega
        have qi : (m.id != m.id) = false := by simp
        have qg : (m.g != m.g) = false := by simp
        clear hm hz
        go_wp2_with fail
        go_quiet (fail)
        clear c0 c1 c2 d0 d1 d2
        go_wp2
        go_loopw [11] (fun i wx => ∃ j : Nat, j ≤ S.length ∧ i = .int .i64 j ∧ Hid (K.Kn w wx [] [(some ⟨bt, pt, none⟩, X), (some ⟨bs, ps, none⟩, S)])) (fun i _ => S.length - (intOf i).toNat)
        case atStart => exact ⟨0, Nat.zero_le _, rfl, J.Kn.drewN ZL.out _⟩
        case round =>
          obtain ⟨j, hj, rfl, ZM⟩ := hrel
          clear ZL
          by_cases hlt2 : j < S.length
          · obtain ⟨p, hp⟩ : ∃ p, S[j]? = some p := ⟨S[j]'hlt2, List.getElem?_eq_getElem _⟩
            obtain ⟨y, hy⟩ := HA.out j p hp
            have hle := HM.out k j m p _ _ Hk.out.1 hp Hk.out.2 hy
            obtain ⟨c0, c1, c2⟩ := J.row0 ZM.out.m0 Hk.out.2
            obtain ⟨d0, d1, d2⟩ := J.row0 ZM.out.mt.m0 Hk.out.1
            obtain ⟨e0, e1, e2⟩ := J.row0 ZM.out.m0 hy
            obtain ⟨f0, f1, f2⟩ := J.row0 ZM.out.mt.m0 hp
            dsimp only at c0 c1 c2 e0 e1 e2 hle
            have kx2 : j < X.length := by have := lT.out; omega
            clear hp hy
            by_cases h1 : m.at_ ≤ p.at_
            · have q1 : decide (m.at_ ≤ p.at_) = true := by simpa using h1
              by_cases h2 : m.g ≤ p.g
              · have q2 : decide (m.g ≤ p.g) = true := by simpa using h2
                have q3 : decide (y < z) = false := by have := hle h1 h2; simp; omega
                clear hle h1 h2
                go_wp2_with fail
                go_quiet (fail)
                go_wp2
                go_roundw
                case rel => exact ⟨j + 1, by omega, by go_num, J.Kn.drewN ZM.out _⟩
                case measure => simp [intOf]; omega
              · have q2 : decide (m.g ≤ p.g) = false := by simpa using h2
                clear hle h1 h2
                go_wp2_with fail
                go_quiet (fail)
                go_wp2
                go_roundw
                case rel => exact ⟨j + 1, by omega, by go_num, J.Kn.drewN ZM.out _⟩
                case measure => simp [intOf]; omega
            · have q1 : decide (m.at_ ≤ p.at_) = false := by simpa using h1
              clear hle h1
              go_wp2_with fail
              go_quiet (fail)
              go_wp2
              go_roundw
              case rel => exact ⟨j + 1, by omega, by go_num, J.Kn.drewN ZM.out _⟩
              case measure => simp [intOf]; omega
          · obtain rfl : j = S.length := by omega
            go_wp2
            go_roundw
            case rel => exact ⟨k + 1, by omega, by go_num, ZM.out⟩
            case measure => simp [intOf]; omega
      · obtain rfl : k = S.length := by omega
        have KB := Lib.hid ZL.out.below
        clear ZL
        go_wp2_with fail
        refine (HK.out _).mono ?_
        rintro e wk ⟨rfl, hb⟩
        have KC := Lib.hid (KB.out.trans (hb.mono KB.out.size))
        clear hb
        go_wp2
        go_ret
        exact ⟨rfl, KC.out⟩
  · have q0 : (K.shE S R != 0) = true := by simpa using hE
    have lT : (K.shL S R).length = 0 := by rw [K.shL_bad hE]; rfl
    clear laS hfS bdR hE
    generalize K.shL S R = X at *
    generalize K.shE S R = E at *
    have q1 : ((X.length : Int) == 0) = true := by simp [lT]
    go_enter Try.func8, Try.ntmps8
    go_wp2_with fail
    refine (HOS.out _ _ _ Z.out.m0 nS.out.1).mono ?_
    rintro e w1 ⟨v, rfl, hm⟩
    obtain ⟨ox, cx, hv, nx, Z1⟩ := J.mmade Z.out hm
    subst hv
    clear hm Z
    go_wp2_with fail
    refine (HPR.out _ _ _ Z1.out.p0 nR.out.1).mono ?_
    rintro e w2 ⟨v, rfl, hm⟩
    obtain ⟨oy, cy, hv, ny, Z2⟩ := J.pmade Z1.out hm
    subst hv
    clear hm Z1
    go_wp2_with fail
    refine (H1.out _ _ _ _ _ Z2.out.m0 nx.out.1 Z2.out.p0).mono ?_
    rintro e w3 ⟨v, rfl, hm⟩
    obtain ⟨ot, ct, hv, nt, Z3⟩ := J.mmade Z2.out hm
    subst hv
    clear hm Z2
    have KB := Lib.hid Z3.out.below
    clear Z3
    go_wp2_with fail
    refine (HK.out _).mono ?_
    rintro e wk ⟨rfl, hb⟩
    have KC := Lib.hid (KB.out.trans (hb.mono KB.out.size))
    clear hb
    go_wp2
    go_ret
    exact ⟨rfl, KC.out⟩
end Go.Proofs.Ytmbgcbgbdjiacaa
