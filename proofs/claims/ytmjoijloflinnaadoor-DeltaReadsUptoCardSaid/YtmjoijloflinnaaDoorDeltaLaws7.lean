/- The walk of DeltaReads. -/
import Derived.Test.YtmjoijloflinnaaDoorDeltaLaws2
namespace Go.Proofs.YtmjoijloflinnaaDoor
open Go.RowKit

theorem D.parse_zero {t : List UInt8} (h : D.parseE t = 0) : ∃ a, D.parse t = some a ∧ D.chk (a.map D.raw) = 0 ∧ D.parseP t = a.map D.raw ∧ D.txtP (a.map D.raw) = t := by
  unfold D.parseE at h
  cases hp : D.parse t with
  | none => rw [hp] at h; exact absurd h (by decide)
  | some a =>
    rw [hp] at h
    refine ⟨a, rfl, h, ?_, ?_⟩
    · unfold D.parseP; rw [hp]; exact if_pos h
    · unfold D.txtP; rw [if_pos h, D.qs_raw]; exact (D.text_parse t a hp).1
/-- What Parse makes of a delta's text. -/
theorem D.parse_txtP {l : List D.P} (h : D.chk l = 0) : D.parseE (D.txtP l) = 0 ∧ D.parseP (D.txtP l) = l ∧ (D.txtP l).length ≤ 3000000 := by
  obtain ⟨e, pa, hl, hle, hi, ho⟩ := D.valid_qs h
  have e1 : D.txtP l = D.text (D.qs l) := by unfold D.txtP; rw [if_pos h]
  have e2 := D.parse_text (D.qs l) pa hi
  have e3 := D.text_take_len (D.qs l) hi ho (by omega) (D.qs l).length
  rw [List.take_length] at e3
  rw [e1]
  refine ⟨?_, ?_, e3⟩
  · unfold D.parseE; rw [e2]; show D.chk ((D.qs l).map D.raw) = 0; rw [e]; exact h
  · unfold D.parseP; rw [e2]; show (if D.chk ((D.qs l).map D.raw) = 0 then _ else _) = l; rw [e, if_pos h]
set_option maxRecDepth 100000 in
set_option maxHeartbeats 4000000 in
theorem deltaReads_walk (s : D.Src) (t : List UInt8) (w : World) (hs : D.ArgOk w s) (hl : t.length ≤ 1048576) (hp : D.Pow w.heap.size w) :
    Calls Tryd.prog 13 #[.slice s.a s.x.length s.c, .string ⟨t.toArray⟩] w fun e w' => e = .returned (.bool true) ∧ Below w.heap.size w w' := by
  have Hs : Hid (∀ W, D.Row W s.a s.x → Calls Tryd.prog 14 #[.slice s.a s.x.length s.c] W (D.OwnEnd s.x W)) := fun W hr => own_arg s w W hs hr
  have hlen := hs.src.len
  have htxt := hs.src.txt
  have T1 : Hid (∀ ao c W, D.Row W ao s.x → D.Pow W.heap.size W → Calls Tryd.prog 31 #[.slice ao s.x.length c] W (D.TextEnd s.x W)) := fun ao c W h g => delText_any ao c s.x W hlen h htxt g
  have P2 : Hid (∀ W, Calls Tryd.prog 33 #[.string ⟨t.toArray⟩] W (D.ParEnd t W)) := fun W => parse_any t W (by omega)
  have A2 : Hid (D.parseE t = 0 → True ∧ ∀ ao c W, D.Row W ao (D.parseP t) → D.Pow W.heap.size W → Calls Tryd.prog 31 #[.slice ao (D.parseP t).length c] W (fun e w' => e = .returned (.tuple #[.string ⟨t.toArray⟩, .int .i64 0]) ∧ Below W.heap.size W w')) := fun h => ⟨trivial, fun ao c W hr hg => by
    obtain ⟨a, ha, hc, hq, ht⟩ := D.parse_zero h
    obtain ⟨h1, h2⟩ := D.parse_bd ha
    rw [hq] at hr ⊢
    have := delText_any ao c (a.map D.raw) W (by unfold maxLen; omega) hr (fun p hp => by have := h2 p hp; omega) hg
    unfold D.TextEnd at this
    rw [hc, ht] at this
    exact this⟩
  unfold D.TextEnd at T1
  unfold D.ParEnd at P2
  have K : Hid (D.Kn w w [(s.a, s.x)]) := ⟨Below.refl _ _, fun x hx => by simp at hx; subst hx; exact hs.src.row⟩
  have HP : Hid (∀ W, Below w.heap.size w W → D.Pow W.heap.size W) := fun W hb => (hp.on hb).mono hb.size
  have HK : Hid (∀ W, Below w.heap.size w W → Calls Tryd.prog 22 #[] W (fun e w' => e = .returned (.bool true) ∧ Below w.heap.size w w')) := fun W hb => (dknown_any W ((hp.on hb).mono hb.size)).mono fun _ _ h => ⟨h.1, hb.trans (h.2.mono hb.size)⟩
  generalize D.parseE t = k2 at *
  generalize D.parseP t = q at *
  by_cases h0 : D.chk s.x = 0
  · obtain ⟨p1, p2, p3⟩ := D.parse_txtP h0
    have P1 : Hid (∀ W, Calls Tryd.prog 33 #[.string ⟨(D.txtP s.x).toArray⟩] W (fun e w' => ∃ v, e = .returned (.tuple #[v, .int .i64 0]) ∧ D.Made s.x W v w')) := fun W => by
      have := parse_any (D.txtP s.x) W (by omega)
      unfold D.ParEnd at this
      rw [p1, p2] at this
      exact this
    have S1 : Hid (∀ ao bo c d W, D.Row W ao s.x → D.Row W bo s.x → Calls Tryd.prog 21 #[.slice ao s.x.length c, .slice bo s.x.length d] W (fun e w' => e = .returned (.bool true) ∧ Below W.heap.size W w')) := fun ao bo c d W h g => by
      have := refSame_any ao bo c d s.x s.x W h g hlen hlen
      rwa [(D.same_iff s.x s.x).2 rfl] at this
    rw [h0] at T1
    clear hs hlen htxt hp h0 p1 p2 p3 hl
    obtain ⟨ao, c, l⟩ := s
    dsimp only at *
    generalize D.txtP l = T at *
    go_enter Tryd.func13, Tryd.ntmps13
    go_wp2_with fail
    refine (Hs.out _ K.out.r0).mono ?_
    rintro e w1 ⟨v, rfl, hm⟩
    obtain ⟨xa, xc, hv, K1⟩ := K.out.made hm
    subst hv
    clear hm K
    go_wp2_with fail
    refine (T1.out _ _ _ K1.out.r0 (HP.out _ K1.out.below)).mono ?_
    rintro e w2 ⟨rfl, hb⟩
    have K := Lib.hid (K1.out.on hb).tl
    clear hb K1
    go_wp2_with fail
    refine (P1.out _).mono ?_
    rintro e w3 ⟨v, rfl, hm⟩
    obtain ⟨pa, pc, hv, K1⟩ := K.out.made hm
    subst hv
    clear hm K
    go_wp2_with fail
    refine (S1.out _ _ _ _ _ K1.out.r0 K1.out.tl.r0).mono ?_
    rintro e w4 ⟨rfl, hb⟩
    have K := Lib.hid (K1.out.on hb)
    clear hb K1
    go_wp2_with fail
    refine (P2.out _).mono ?_
    rintro e w5 ⟨v, rfl, hm⟩
    obtain ⟨qa, qc, hv, K1⟩ := K.out.made hm
    subst hv
    clear hm K
    by_cases hk2 : k2 = 0
    · obtain ⟨hq1, hq2⟩ := A2.out hk2
      subst hk2
      have T2 := Lib.hid hq2
      clear hq2
      go_wp2_with fail
      refine (T2.out _ _ _ K1.out.r0 (HP.out _ K1.out.below)).mono ?_
      rintro e w ⟨rfl, hb⟩
      have K := Lib.hid (K1.out.on hb).below
      clear hb K1
      go_wp2_with fail
      refine (HK.out _ K.out).mono ?_
      rintro e w ⟨rfl, hb⟩
      have hb := Lib.hid hb
      go_wp2
      go_ret
      exact ⟨rfl, hb.out⟩
    · have h2 : (k2 == 0) = false := by simpa using hk2
      have K := Lib.hid K1.out.below
      clear K1
      go_wp2_with fail
      refine (HK.out _ K.out).mono ?_
      rintro e w ⟨rfl, hb⟩
      have hb := Lib.hid hb
      go_wp2
      go_ret
      exact ⟨rfl, hb.out⟩
  · have h1 : (D.chk s.x == 0) = false := by simpa using h0
    clear hs hlen htxt hp h0 hl
    obtain ⟨ao, c, l⟩ := s
    dsimp only at *
    generalize D.txtP l = T at *
    generalize D.chk l = k at *
    go_enter Tryd.func13, Tryd.ntmps13
    go_wp2_with fail
    refine (Hs.out _ K.out.r0).mono ?_
    rintro e w1 ⟨v, rfl, hm⟩
    obtain ⟨xa, xc, hv, K1⟩ := K.out.made hm
    subst hv
    clear hm K
    go_wp2_with fail
    refine (T1.out _ _ _ K1.out.r0 (HP.out _ K1.out.below)).mono ?_
    rintro e w2 ⟨rfl, hb⟩
    have K := Lib.hid (K1.out.on hb).tl
    clear hb K1
    go_wp2_with fail
    refine (P2.out _).mono ?_
    rintro e w3 ⟨v, rfl, hm⟩
    obtain ⟨qa, qc, hv, K1⟩ := K.out.made hm
    subst hv
    clear hm K
    by_cases hk2 : k2 = 0
    · obtain ⟨hq1, hq2⟩ := A2.out hk2
      subst hk2
      have T2 := Lib.hid hq2
      clear hq2
      go_wp2_with fail
      refine (T2.out _ _ _ K1.out.r0 (HP.out _ K1.out.below)).mono ?_
      rintro e w ⟨rfl, hb⟩
      have K := Lib.hid (K1.out.on hb).below
      clear hb K1
      go_wp2_with fail
      refine (HK.out _ K.out).mono ?_
      rintro e w ⟨rfl, hb⟩
      have hb := Lib.hid hb
      go_wp2
      go_ret
      exact ⟨rfl, hb.out⟩
    · have h2 : (k2 == 0) = false := by simpa using hk2
      have K := Lib.hid K1.out.below
      clear K1
      go_wp2_with fail
      refine (HK.out _ K.out).mono ?_
      rintro e w ⟨rfl, hb⟩
      have hb := Lib.hid hb
      go_wp2
      go_ret
      exact ⟨rfl, hb.out⟩
end Go.Proofs.YtmjoijloflinnaaDoor
