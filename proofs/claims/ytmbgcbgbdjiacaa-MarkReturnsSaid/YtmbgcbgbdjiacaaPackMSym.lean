/- Texts joined: MarkSym MarkSym2 MarkStable -/
import Derived.Test.YtmbgcbgbdjiacaaPackMSort
import Derived.Test.YtmbgcbgbdjiacaaPackMMath
import Derived.Deep.CutBlock
/- MarkSym -/
namespace Go.Proofs.Ytmbgcbgbdjiacaa
open Go.RowKit

/-- A search for the place of mark a among those from m to b: below i all are less, from j on none is. -/
structure K.Bs1 (L : List K.M) (a m b i j : Nat) : Prop where
  lo : ∀ k x y, m ≤ k → k < i → L[a]? = some x → L[k]? = some y → ¬ K.le x y = true
  hi : ∀ k x y, j ≤ k → k < b → L[a]? = some x → L[k]? = some y → K.le x y = true
theorem K.Bs1.start (L : List K.M) (a m b : Nat) : K.Bs1 L a m b m b := ⟨fun k x y h1 h2 => by omega, fun k x y h1 h2 => by omega⟩
theorem K.Bs1.up {L : List K.M} {a m b i j h : Nat} {x y : K.M} (B : K.Bs1 L a m b i j) (hs : K.Seg L m b) (hh : h < b) (hx : L[a]? = some x) (hy : L[h]? = some y) (hlt : ¬ K.le x y = true) : K.Bs1 L a m b (h + 1) j :=
  ⟨fun k x' z h1 h2 hx' hz c => by
    rw [hx] at hx'; cases hx'
    exact hlt (K.le_trans c (hs k h z y h1 (by omega) hh hz hy)), B.hi⟩
theorem K.Bs1.down {L : List K.M} {a m b i j h : Nat} {x y : K.M} (B : K.Bs1 L a m b i j) (hs : K.Seg L m b) (hm : m ≤ h) (hx : L[a]? = some x) (hy : L[h]? = some y) (hle : K.le x y = true) : K.Bs1 L a m b i h :=
  ⟨B.lo, fun k x' z h1 h2 hx' hz => by
    rw [hx] at hx'; cases hx'
    exact K.le_trans hle (hs h k y z hm h1 h2 hy hz)⟩
set_option maxRecDepth 100000 in
set_option maxHeartbeats 8000000 in
theorem symMerge_one (g c a b N : Nat) (L : List K.M) (w W : World) (hN : N = L.length) (h : K.Made L w (.slice (some ⟨g, 0, none⟩) N c) W) (hab : a + 1 < b) (hbN : b ≤ N) (hl : N ≤ 1000000) (hs : K.Seg L (a + 1) b) :
    Calls Try.prog 98 #[.slice (some ⟨g, 0, none⟩) N c, .int .i64 a, .int .i64 ((a : Int) + 1), .int .i64 b, .func (.func 44) #[] #[]] W
      fun e w' => e = .returned (.tuple #[]) ∧ ∃ L', K.Mrg a b L L' ∧ N = L'.length ∧ K.Made L' w (.slice (some ⟨g, 0, none⟩) N c) w' := by
  have HM := Lib.hid h
  have HN := Lib.hid hN
  have HB := Lib.hid (K.Bs1.start L a (a + 1) b)
  have HS := Lib.hid hs
  clear h hN hs
  have w1 : IntKind.i64.wrap ((a : Int) + 1 - (a : Int)) = 1 := by rw [IntWalk.i64_in _ (by omega)]; omega
  go_enter Try.func98, Try.ntmps98
  go_wp2
  go_loopw [10, 11] (fun vi vj wr => ∃ (i j : Nat), vi = .int .i64 i ∧ vj = .int .i64 j ∧ a < i ∧ i ≤ j ∧ j ≤ b ∧ Hid (K.Bs1 L a (a + 1) b i j) ∧ Hid (K.Made L w (.slice (some ⟨g, 0, none⟩) N c) wr)) (fun vi vj _ => (intOf vj).toNat - (intOf vi).toNat)
  case atStart => exact ⟨a + 1, b, by go_num, rfl, by omega, by omega, by omega, HB, HM⟩
  case round =>
    obtain ⟨i, j, rfl, rfl, hai, hij, hjb, hB, hM⟩ := hrel
    clear HM HB w1
    by_cases hlt : i < j
    · have q0 : decide ((i : Int) < (j : Int)) = true := by simp; omega
      obtain ⟨d, hd⟩ : ∃ d, d = (i + j) / 2 := ⟨_, rfl⟩
      have e1 : ((i : Int) + (j : Int)) / 2 = (d : Int) := by omega
      have hid : i ≤ d := by omega
      have hdj : d < j := by omega
      have hdN : d < N := by omega
      have haN : a < N := by omega
      clear hd
      obtain ⟨x, hx⟩ : ∃ x, L[a]? = some x := ⟨L[a]'(by have := HN.out; omega), List.getElem?_eq_getElem _⟩
      obtain ⟨y, hy⟩ : ∃ y, L[d]? = some y := ⟨L[d]'(by have := HN.out; omega), List.getElem?_eq_getElem _⟩
      have hup : Hid (¬ K.le x y = true → K.Bs1 L a (a + 1) b (d + 1) j) := fun h => hB.out.up HS.out (by omega) hx hy h
      have hdn : Hid (K.le x y = true → K.Bs1 L a (a + 1) b i d) := fun h => hB.out.down HS.out (by omega) hx hy h
      have hcf : Hid (K.cf y x < 0 ↔ ¬ K.le x y = true) := K.cf_neg y x
      obtain ⟨W2, hW2⟩ : ∃ W2, Hid (W2 = wr.drew) := ⟨_, rfl⟩
      have hM3 : Hid (K.Made L w (.slice (some ⟨g, 0, none⟩) N c) W2) := by show K.Made _ _ _ _; rw [hW2.out]; exact hM.out.kept (Below.refl _ _).drew
      obtain ⟨lt, p0, p1, p2, _, _, _⟩ := hM3.out.at hx
      obtain ⟨_, x0, x1, x2, _, _, _⟩ := hM3.out.at hy
      have HC := Lib.hid (cmpMarks_any y x W2)
      clear hx hy hB hM
      go_wp2_with fail
      refine A.still_tail 9 (by kernel_rfl) (by kernel_rfl) W2 hW2.out ?_
      simp only [List.take_succ_cons, List.take_zero, List.drop_succ_cons, List.drop_zero]
      repeat still_step
      refine wpStill_nil ?_
      go_wp2_with fail
      refine HC.out.mono ?_
      rintro e w3 ⟨rfl, hb⟩
      have hM4 := Lib.hid (hM3.out.kept hb)
      clear hb p0 p1 p2 x0 x1 x2 hM3 HC hW2
      by_cases hc : K.cf y x < 0
      · have q3 : decide (K.cf y x < 0) = true := by simpa using hc
        have R := Lib.hid (hup.out (hcf.out.1 hc))
        clear hup hdn hcf hc
        go_wp2
        go_roundw
        case rel => exact ⟨d + 1, j, by go_num, rfl, by omega, by omega, hjb, R, hM4⟩
        case measure => simp [intOf]; omega
      · have q3 : decide (K.cf y x < 0) = false := by simpa using hc
        have R := Lib.hid (hdn.out (by
          by_cases c : K.le x y = true
          · exact c
          · exact absurd (hcf.out.2 c) hc))
        clear hup hdn hcf hc
        go_wp2
        go_roundw
        case rel => exact ⟨i, d, rfl, rfl, hai, hid, by omega, R, hM4⟩
        case measure => simp [intOf]; omega
    · obtain rfl : i = j := by omega
      obtain ⟨f, hf⟩ : ∃ f, f + 1 = i := ⟨i - 1, by omega⟩
      have hfN : f < N := by omega
      have q0 : decide ((i : Int) < (i : Int)) = false := by simp
      have w2 : IntKind.i64.wrap ((i : Int) - 1) = (f : Int) := by rw [IntWalk.i64_in _ (by omega)]; omega
      have hU : Hid (K.Up a a f L L) := K.Up.start (by omega) (by have := HN.out; omega)
      have hst : Hid (∀ L', K.Up a f f L L' → K.Mrg a b L L') := fun L' h => h.stop (by omega) (by have := HN.out; omega) HS.out (fun k x y h1 h2 => hB.out.lo k x y h1 (by omega)) (fun k x y h1 h2 => hB.out.hi k x y (by omega) h2)
      clear hB
      go_wp2
      go_loopw [13] (fun vk wr => ∃ (k : Nat) (L' : List K.M), vk = .int .i64 k ∧ a ≤ k ∧ k ≤ f ∧ Hid (K.Up a k f L L') ∧ Hid (K.Made L' w (.slice (some ⟨g, 0, none⟩) N c) wr)) (fun vk _ => f - (intOf vk).toNat)
      case atStart => exact ⟨a, L, rfl, Nat.le_refl _, by omega, hU, hM⟩
      case round =>
        obtain ⟨k, L', rfl, hak, hkf, hX, hM2⟩ := hrel
        clear hM hU
        by_cases hlt2 : k < f
        · have q1 : decide ((k : Int) < (f : Int)) = true := by simp; omega
          have hkN : k < N := by omega
          have hkN1 : k + 1 < N := by omega
          have hNL : Hid (N = L'.length) := hM2.out.block.1
          obtain ⟨p, hp⟩ : ∃ p, L'[k]? = some p := ⟨L'[k]'(by have := hNL.out; omega), List.getElem?_eq_getElem _⟩
          obtain ⟨q, hq⟩ : ∃ q, L'[k + 1]? = some q := ⟨L'[k + 1]'(by have := hNL.out; omega), List.getElem?_eq_getElem _⟩
          have R := Lib.hid (hX.out.step hlt2 hp hq)
          have hst2 := Lib.hid ((hM2.out.put hkN q).put (i := k + 1) hkN1 p)
          obtain ⟨lt, p0, p1, p2, pf0, pf1, pf2⟩ := hM2.out.at hp
          obtain ⟨_, x0, x1, x2, xf0, xf1, xf2⟩ := hM2.out.at hq
          have w3 : IntKind.i64.wrap ((k : Int) + 1) = (k : Int) + 1 := IntWalk.i64_in _ (by omega)
          clear hp hq hX hM2
          go_wp2
          go_region
          go_wp2
          refine ⟨⟨k + 1, _, by go_num, by omega, by omega, R, hst2.out.kept (Below.refl _ _).drew⟩, by simp [intOf]; omega⟩
        · obtain rfl : k = f := by omega
          have q1 : decide ((k : Int) < (k : Int)) = false := by simp
          have R := Lib.hid (hst.out L' hX.out)
          have hNL : Hid (N = L'.length) := hM2.out.block.1
          go_wp2
          refine bodyPost_ret (results_none rfl _ _ _) rfl ?_
          exact ⟨rfl, L', R.out, hNL.out, hM2.out⟩
/-- A search for the place of mark m among those from a on: below i none is greater, from j on all are. -/
structure K.Bs2 (L : List K.M) (a m i j : Nat) : Prop where
  lo : ∀ k x y, a ≤ k → k < i → L[m]? = some x → L[k]? = some y → K.le y x = true
  hi : ∀ k x y, j ≤ k → k < m → L[m]? = some x → L[k]? = some y → ¬ K.le y x = true
theorem K.Bs2.start (L : List K.M) (a m : Nat) : K.Bs2 L a m a m := ⟨fun k x y h1 h2 => by omega, fun k x y h1 h2 => by omega⟩
theorem K.Bs2.up {L : List K.M} {a m i j h : Nat} {x y : K.M} (B : K.Bs2 L a m i j) (hs : K.Seg L a m) (hh : h < m) (hx : L[m]? = some x) (hy : L[h]? = some y) (hle : K.le y x = true) : K.Bs2 L a m (h + 1) j :=
  ⟨fun k x' z h1 h2 hx' hz => by
    rw [hx] at hx'; cases hx'
    exact K.le_trans (hs k h z y h1 (by omega) hh hz hy) hle, B.hi⟩
theorem K.Bs2.down {L : List K.M} {a m i j h : Nat} {x y : K.M} (B : K.Bs2 L a m i j) (hs : K.Seg L a m) (ha : a ≤ h) (hx : L[m]? = some x) (hy : L[h]? = some y) (hlt : ¬ K.le y x = true) : K.Bs2 L a m i h :=
  ⟨B.lo, fun k x' z h1 h2 hx' hz c => by
    rw [hx] at hx'; cases hx'
    exact hlt (K.le_trans (hs h k y z ha h1 h2 hy hz) c)⟩
set_option maxRecDepth 100000 in
set_option maxHeartbeats 8000000 in
theorem symMerge_last (g c a m N : Nat) (L : List K.M) (w W : World) (hN : N = L.length) (h : K.Made L w (.slice (some ⟨g, 0, none⟩) N c) W) (ham : a + 1 < m) (hmN : m < N) (hl : N ≤ 1000000) (hs : K.Seg L a m) :
    Calls Try.prog 98 #[.slice (some ⟨g, 0, none⟩) N c, .int .i64 a, .int .i64 m, .int .i64 ((m : Int) + 1), .func (.func 44) #[] #[]] W
      fun e w' => e = .returned (.tuple #[]) ∧ ∃ L', K.Mrg a (m + 1) L L' ∧ N = L'.length ∧ K.Made L' w (.slice (some ⟨g, 0, none⟩) N c) w' := by
  have HM := Lib.hid h
  have HN := Lib.hid hN
  have HB := Lib.hid (K.Bs2.start L a m)
  have HS := Lib.hid hs
  clear h hN hs
  have w1 : IntKind.i64.wrap ((m : Int) - (a : Int)) = ((m - a : Nat) : Int) := by rw [IntWalk.i64_in _ (by omega)]; omega
  have q1 : (((m - a : Nat) : Int) == 1) = false := by simp; omega
  have w2 : IntKind.i64.wrap ((m : Int) + 1 - (m : Int)) = 1 := by rw [IntWalk.i64_in _ (by omega)]; omega
  go_enter Try.func98, Try.ntmps98
  go_wp2
  go_loopw [14, 15] (fun vi vj wr => ∃ (i j : Nat), vi = .int .i64 i ∧ vj = .int .i64 j ∧ a ≤ i ∧ i ≤ j ∧ j ≤ m ∧ Hid (K.Bs2 L a m i j) ∧ Hid (K.Made L w (.slice (some ⟨g, 0, none⟩) N c) wr)) (fun vi vj _ => (intOf vj).toNat - (intOf vi).toNat)
  case atStart => exact ⟨a, m, rfl, rfl, by omega, by omega, by omega, HB, HM⟩
  case round =>
    obtain ⟨i, j, rfl, rfl, hai, hij, hjb, hB, hM⟩ := hrel
    clear HM HB w1 q1 w2
    by_cases hlt : i < j
    · have q0 : decide ((i : Int) < (j : Int)) = true := by simp; omega
      obtain ⟨d, hd⟩ : ∃ d, d = (i + j) / 2 := ⟨_, rfl⟩
      have e1 : ((i : Int) + (j : Int)) / 2 = (d : Int) := by omega
      have hid : i ≤ d := by omega
      have hdj : d < j := by omega
      have hdN : d < N := by omega
      clear hd
      obtain ⟨x, hx⟩ : ∃ x, L[m]? = some x := ⟨L[m]'(by have := HN.out; omega), List.getElem?_eq_getElem _⟩
      obtain ⟨y, hy⟩ : ∃ y, L[d]? = some y := ⟨L[d]'(by have := HN.out; omega), List.getElem?_eq_getElem _⟩
      have hup : Hid (K.le y x = true → K.Bs2 L a m (d + 1) j) := fun h => hB.out.up HS.out (by omega) hx hy h
      have hdn : Hid (¬ K.le y x = true → K.Bs2 L a m i d) := fun h => hB.out.down HS.out (by omega) hx hy h
      have hcf : Hid (K.cf x y < 0 ↔ ¬ K.le y x = true) := K.cf_neg x y
      obtain ⟨W2, hW2⟩ : ∃ W2, Hid (W2 = wr.drew) := ⟨_, rfl⟩
      have hM3 : Hid (K.Made L w (.slice (some ⟨g, 0, none⟩) N c) W2) := by show K.Made _ _ _ _; rw [hW2.out]; exact hM.out.kept (Below.refl _ _).drew
      obtain ⟨lt, p0, p1, p2, _, _, _⟩ := hM3.out.at hx
      obtain ⟨_, x0, x1, x2, _, _, _⟩ := hM3.out.at hy
      have HC := Lib.hid (cmpMarks_any x y W2)
      clear hx hy hB hM
      go_wp2_with fail
      refine A.still_tail 9 (by kernel_rfl) (by kernel_rfl) W2 hW2.out ?_
      simp only [List.take_succ_cons, List.take_zero, List.drop_succ_cons, List.drop_zero]
      repeat still_step
      refine wpStill_nil ?_
      go_wp2_with fail
      refine HC.out.mono ?_
      rintro e w3 ⟨rfl, hb⟩
      have hM4 := Lib.hid (hM3.out.kept hb)
      clear hb p0 p1 p2 x0 x1 x2 hM3 HC hW2
      by_cases hc : K.cf x y < 0
      · have q3 : decide (K.cf x y < 0) = true := by simpa using hc
        have R := Lib.hid (hdn.out (hcf.out.1 hc))
        clear hup hdn hcf hc
        go_wp2
        go_roundw
        case rel => exact ⟨i, d, rfl, rfl, hai, hid, by omega, R, hM4⟩
        case measure => simp [intOf]; omega
      · have q3 : decide (K.cf x y < 0) = false := by simpa using hc
        have R := Lib.hid (hup.out (by
          by_cases c : K.le y x = true
          · exact c
          · exact absurd (hcf.out.2 c) hc))
        clear hup hdn hcf hc
        go_wp2
        go_roundw
        case rel => exact ⟨d + 1, j, by go_num, rfl, by omega, by omega, hjb, R, hM4⟩
        case measure => simp [intOf]; omega
    · obtain rfl : i = j := by omega
      have q0 : decide ((i : Int) < (i : Int)) = false := by simp
      have hU : Hid (K.Down m m L L) := K.Down.start (by have := HN.out; omega)
      have hst : Hid (∀ L', K.Down i m L L' → K.Mrg a (m + 1) L L') := fun L' h => h.stop hai HS.out (fun k x y h1 h2 => hB.out.lo k x y h1 h2) (fun k x y h1 h2 => hB.out.hi k x y h1 h2)
      clear hB
      go_wp2
      go_loopw [17] (fun vk wr => ∃ (k : Nat) (L' : List K.M), vk = .int .i64 k ∧ i ≤ k ∧ k ≤ m ∧ Hid (K.Down k m L L') ∧ Hid (K.Made L' w (.slice (some ⟨g, 0, none⟩) N c) wr)) (fun vk _ => (intOf vk).toNat)
      case atStart => exact ⟨m, L, rfl, by omega, by omega, hU, hM⟩
      case round =>
        obtain ⟨k, L', rfl, hak, hkf, hX, hM2⟩ := hrel
        clear hM hU
        by_cases hlt2 : i < k
        · have q1 : decide ((i : Int) < (k : Int)) = true := by simp; omega
          obtain ⟨f, hf⟩ : ∃ f, f + 1 = k := ⟨k - 1, by omega⟩
          have hkN : k < N := by omega
          have hfN : f < N := by omega
          have hNL : Hid (N = L'.length) := hM2.out.block.1
          obtain ⟨p, hp⟩ : ∃ p, L'[k]? = some p := ⟨L'[k]'(by have := hNL.out; omega), List.getElem?_eq_getElem _⟩
          obtain ⟨q, hq⟩ : ∃ q, L'[f]? = some q := ⟨L'[f]'(by have := hNL.out; omega), List.getElem?_eq_getElem _⟩
          have R : Hid (K.Down f m L ((L'.set k q).set f p)) := by subst hf; exact hX.out.step hp hq
          have hst2 := Lib.hid ((hM2.out.put hkN q).put (i := f) hfN p)
          obtain ⟨lt, p0, p1, p2, pf0, pf1, pf2⟩ := hM2.out.at hp
          obtain ⟨_, x0, x1, x2, xf0, xf1, xf2⟩ := hM2.out.at hq
          have w3 : IntKind.i64.wrap ((k : Int) - 1) = (f : Int) := by rw [IntWalk.i64_in _ (by omega)]; omega
          have hif : i ≤ f := by omega
          have hfk : f < k := by omega
          clear hp hq hX hM2 hf
          go_wp2
          go_region
          go_wp2
          refine ⟨⟨f, _, rfl, hif, by omega, R, hst2.out.kept (Below.refl _ _).drew⟩, by simp [intOf]; omega⟩
        · obtain rfl : i = k := by omega
          have q1 : decide ((i : Int) < (i : Int)) = false := by simp
          have R := Lib.hid (hst.out L' hX.out)
          have hNL : Hid (N = L'.length) := hM2.out.block.1
          go_wp2
          refine bodyPost_ret (results_none rfl _ _ _) rfl ?_
          exact ⟨rfl, L', R.out, hNL.out, hM2.out⟩
end Go.Proofs.Ytmbgcbgbdjiacaa
/- MarkSym2 -/
namespace Go.Proofs.Ytmbgcbgbdjiacaa
open Go.RowKit

/-- The bounds of a search for the cut of two segments. -/
structure K.Sb (a m b d s0 r0 : Nat) : Prop where
  qa : a ≤ s0
  qb : d + m ≤ s0 + b
  qs : s0 ≤ r0
  qm : r0 ≤ m
  qd : r0 ≤ d
  qr : r0 = m ∨ r0 = d
  qz : s0 = a ∨ s0 + b = d + m
/-- Between two rounds of it. -/
structure K.Bs3 (L : List K.M) (n s0 r0 s r : Nat) : Prop where
  lo : s0 < s → ∀ x y, L[s - 1]? = some x → L[n - s]? = some y → K.le x y = true
  hi : r < r0 → ∀ x y, L[r]? = some x → L[n - 1 - r]? = some y → ¬ K.le x y = true
theorem K.Bs3.start (L : List K.M) (n s0 r0 : Nat) : K.Bs3 L n s0 r0 s0 r0 := ⟨fun h => by omega, fun h => by omega⟩
theorem K.Bs3.fin {L : List K.M} {a m b d s0 r0 s : Nat} (B : K.Bs3 L (d + m) s0 r0 s s) (Q : K.Sb a m b d s0 r0) (h1 : s0 ≤ s) (h2 : s ≤ r0) (hb : b ≤ L.length) (hA : K.Seg L a m) (hB : K.Seg L m b) :
    ∃ G, K.Sym a s m (d + m - s) b d L G := by
  have q := Q.qr
  have q' := Q.qz
  obtain ⟨p1, p2, p3, p4, p5⟩ := (⟨Q.qa, Q.qb, Q.qs, Q.qm, Q.qd⟩ : _ ∧ _ ∧ _ ∧ _ ∧ _)
  refine K.sym (by omega) (by omega) (by omega) (by omega) hb (by omega) hA hB (fun g1 g2 x y hx hy => ?_) fun g1 g2 x y hx hy => ?_
  · exact B.hi (by omega) x y hx (by rw [show d + m - 1 - s = d + m - s - 1 by omega]; exact hy)
  · exact B.lo (by omega) x y hx hy
def K.SymEnd (g c N : Nat) (L : List K.M) (a b : Nat) (w : World) (e : Ending) (w' : World) : Prop := e = .returned (.tuple #[]) ∧ ∃ L', K.Mrg a b L L' ∧ N = L'.length ∧ K.Made L' w (.slice (some ⟨g, 0, none⟩) N c) w'
def K.SymAt (g c N : Nat) (w : World) (t : Nat) : Prop := ∀ (a m b : Nat) (L : List K.M) (W : World), b - a ≤ t → N = L.length → K.Made L w (.slice (some ⟨g, 0, none⟩) N c) W → a < m → m < b → b ≤ N → K.Seg L a m → K.Seg L m b →
    Calls Try.prog 98 #[.slice (some ⟨g, 0, none⟩) N c, .int .i64 a, .int .i64 m, .int .i64 b, .func (.func 44) #[] #[]] W (K.SymEnd g c N L a b w)
set_option maxRecDepth 100000 in
set_option maxHeartbeats 8000000 in
theorem symMerge_gen (g c a m b N t : Nat) (L : List K.M) (w W : World) (IH : K.SymAt g c N w t) (ht : b - a ≤ t + 1) (hN : N = L.length) (h : K.Made L w (.slice (some ⟨g, 0, none⟩) N c) W) (ham : a + 1 < m) (hmb : m + 1 < b) (hbN : b ≤ N) (hl : N ≤ 1000000) (hA : K.Seg L a m) (hB : K.Seg L m b) :
    Calls Try.prog 98 #[.slice (some ⟨g, 0, none⟩) N c, .int .i64 a, .int .i64 m, .int .i64 b, .func (.func 44) #[] #[]] W (K.SymEnd g c N L a b w) := by
  have HM := Lib.hid h
  have HN := Lib.hid hN
  have HA := Lib.hid hA
  have HB := Lib.hid hB
  have HI := Lib.hid IH
  obtain ⟨d, hd⟩ : ∃ d, d = (a + b) / 2 := ⟨_, rfl⟩
  have had : a < d := by omega
  have hdb : d < b := by omega
  have hdm : d + m < 2 * N := by omega
  have e1 : ((a : Int) + (b : Int)) / 2 = (d : Int) := by omega
  have hdd : Hid (d = (a + b) / 2) := hd
  clear h hN hA hB IH hd
  have w1 : IntKind.i64.wrap ((m : Int) - (a : Int)) = ((m - a : Nat) : Int) := by rw [IntWalk.i64_in _ (by omega)]; omega
  have q1 : (((m - a : Nat) : Int) == 1) = false := by simp; omega
  have w2 : IntKind.i64.wrap ((b : Int) - (m : Int)) = ((b - m : Nat) : Int) := by rw [IntWalk.i64_in _ (by omega)]; omega
  have q2 : (((b - m : Nat) : Int) == 1) = false := by simp; omega
  go_enter Try.func98, Try.ntmps98
  go_upto_if 140 with (fail)
  go_cut [20, 21] (fun v u wx => ∃ s0 r0 : Nat, v = .int .i64 s0 ∧ u = .int .i64 r0 ∧ Hid (K.Sb a m b d s0 r0) ∧ Hid (wx = W))
  case first =>
    as_aux_lemma =>
      by_cases hmd : d < m
      · have q3 : decide ((d : Int) < (m : Int)) = true := by simp; omega
        have w3 : IntKind.i64.wrap ((d : Int) + (m : Int) - (b : Int)) = ((d + m - b : Nat) : Int) := by rw [IntWalk.i64_in _ (by have := hdd.out; omega)]; have := hdd.out; omega
        have R : Hid (K.Sb a m b d (d + m - b) d) := by have := hdd.out; exact ⟨by omega, by omega, by omega, by omega, by omega, by omega, by omega⟩
        go_wp2
        go_meet
        case rel => exact ⟨d + m - b, d, rfl, rfl, R, rfl⟩
      · have q3 : decide ((d : Int) < (m : Int)) = false := by simp; omega
        have R : Hid (K.Sb a m b d a m) := by have := hdd.out; exact ⟨by omega, by omega, by omega, by omega, by omega, by omega, by omega⟩
        go_wp2
        go_meet
        case rel => exact ⟨a, m, rfl, rfl, R, rfl⟩
  case rest =>
  obtain ⟨s0, r0, rfl, rfl, HQ, hwx⟩ := hcut
  have hwx := hwx.out
  subst hwx
  obtain ⟨b1, b2, b3, b4, b5⟩ := (⟨HQ.out.qa, HQ.out.qb, HQ.out.qs, HQ.out.qm, HQ.out.qd⟩ : _ ∧ _ ∧ _ ∧ _ ∧ _)
  obtain ⟨P, hP⟩ : ∃ P, P + 1 = d + m := ⟨d + m - 1, by omega⟩
  have HS := Lib.hid (K.Bs3.start L (P + 1) s0 r0)
  have w3 : IntKind.i64.wrap ((d : Int) + (m : Int) - 1) = (P : Int) := by rw [IntWalk.i64_in _ (by omega)]; omega
  have HF : Hid (∀ s, K.Bs3 L (P + 1) s0 r0 s s → s0 ≤ s → s ≤ r0 → ∃ G, K.Sym a s m (d + m - s) b d L G) := fun s B h1 h2 => by
    rw [hP] at B
    exact B.fin HQ.out h1 h2 (by have := HN.out; omega) HA.out HB.out
  clear w1 q1 w2 q2 HQ
  go_wp2
  go_loopw [20, 21] (fun vs vr wr => ∃ (s r : Nat), vs = .int .i64 s ∧ vr = .int .i64 r ∧ s0 ≤ s ∧ s ≤ r ∧ r ≤ r0 ∧ Hid (K.Bs3 L (P + 1) s0 r0 s r) ∧ Hid (K.Made L w (.slice (some ⟨g, 0, none⟩) N c) wr)) (fun vs vr _ => (intOf vr).toNat - (intOf vs).toNat)
  case atStart => exact ⟨s0, r0, rfl, rfl, by omega, by omega, by omega, HS, HM⟩
  case round =>
    obtain ⟨s, r, rfl, rfl, hs0, hsr, hr0, hB, hM⟩ := hrel
    clear HM HS w3
    by_cases hlt : s < r
    · as_aux_lemma =>
        have q0 : decide ((s : Int) < (r : Int)) = true := by simp; omega
        obtain ⟨k, hk⟩ : ∃ k, k = (s + r) / 2 := ⟨_, rfl⟩
        have e2 : ((s : Int) + (r : Int)) / 2 = (k : Int) := by omega
        have hsk : s ≤ k := by omega
        have hkr : k < r := by omega
        have hkN : k < N := by omega
        obtain ⟨u, hu⟩ : ∃ u, u + k = P := ⟨P - k, by omega⟩
        have huN : u < N := by omega
        have w4 : IntKind.i64.wrap ((P : Int) - (k : Int)) = (u : Int) := by rw [IntWalk.i64_in _ (by omega)]; omega
        clear hk
        obtain ⟨x, hx⟩ : ∃ x, L[k]? = some x := ⟨L[k]'(by have := HN.out; omega), List.getElem?_eq_getElem _⟩
        obtain ⟨y, hy⟩ : ∃ y, L[u]? = some y := ⟨L[u]'(by have := HN.out; omega), List.getElem?_eq_getElem _⟩
        have hup : Hid (K.le x y = true → K.Bs3 L (P + 1) s0 r0 (k + 1) r) := fun h => ⟨fun _ x' y' h1 h2 => by
          rw [Nat.add_sub_cancel, hx] at h1
          rw [show P + 1 - (k + 1) = u by omega, hy] at h2
          cases h1; cases h2; exact h, hB.out.hi⟩
        have hdn : Hid (¬ K.le x y = true → K.Bs3 L (P + 1) s0 r0 s k) := fun h => ⟨hB.out.lo, fun _ x' y' h1 h2 => by
          rw [hx] at h1
          rw [show P + 1 - 1 - k = u by omega, hy] at h2
          cases h1; cases h2; exact h⟩
        have hcf : Hid (K.cf y x < 0 ↔ ¬ K.le x y = true) := K.cf_neg y x
        obtain ⟨W2, hW2⟩ : ∃ W2, Hid (W2 = wr.drew) := ⟨_, rfl⟩
        have hM3 : Hid (K.Made L w (.slice (some ⟨g, 0, none⟩) N c) W2) := by show K.Made _ _ _ _; rw [hW2.out]; exact hM.out.kept (Below.refl _ _).drew
        obtain ⟨lt, p0, p1, p2, _, _, _⟩ := hM3.out.at hx
        obtain ⟨_, x0, x1, x2, _, _, _⟩ := hM3.out.at hy
        have HC := Lib.hid (cmpMarks_any y x W2)
        clear hx hy hB hM
        go_wp2_with fail
        refine A.still_tail 11 (by kernel_rfl) (by kernel_rfl) W2 hW2.out ?_
        simp only [List.take_succ_cons, List.take_zero, List.drop_succ_cons, List.drop_zero]
        repeat still_step
        refine wpStill_nil ?_
        go_wp2_with fail
        refine HC.out.mono ?_
        rintro e w3 ⟨rfl, hb⟩
        have hM4 := Lib.hid (hM3.out.kept hb)
        clear hb p0 p1 p2 x0 x1 x2 hM3 HC hW2
        by_cases hc : K.cf y x < 0
        · have q3 : decide (K.cf y x < 0) = true := by simpa using hc
          have R := Lib.hid (hdn.out (hcf.out.1 hc))
          clear hup hdn hcf hc
          go_wp2
          go_roundw
          case rel => exact ⟨s, k, rfl, rfl, hs0, hsk, by omega, R, hM4⟩
          case measure => simp [intOf]; omega
        · have q3 : decide (K.cf y x < 0) = false := by simpa using hc
          have R := Lib.hid (hup.out (by
            by_cases c : K.le x y = true
            · exact c
            · exact absurd (hcf.out.2 c) hc))
          clear hup hdn hcf hc
          go_wp2
          go_roundw
          case rel => exact ⟨k + 1, r, by go_num, rfl, by omega, by omega, hr0, R, hM4⟩
          case measure => simp [intOf]; omega
    · obtain rfl : s = r := by omega
      have q0 : decide ((s : Int) < (s : Int)) = false := by simp
      obtain ⟨G, hG⟩ := HF.out s hB.out hs0 hr0
      obtain ⟨e, he⟩ : ∃ e, e + s = d + m := ⟨d + m - s, by omega⟩
      rw [show d + m - s = e by omega] at hG
      have hG := Lib.hid hG
      have w4 : IntKind.i64.wrap ((d : Int) + (m : Int) - (s : Int)) = (e : Int) := by rw [IntWalk.i64_in _ (by omega)]; omega
      have hme : m ≤ e := by omega
      have heb : e ≤ b := by omega
      have has : a ≤ s := by omega
      have hsm : s ≤ m := by omega
      have hsd : s ≤ d := by omega
      have hde : d ≤ e := by omega
      clear HF hB
      obtain ⟨β39, hβ39⟩ : ∃ β : Bool, Hid (β = (decide (s < m) && decide (m < e))) := ⟨_, rfl⟩
      go_upto_region 39 with (fail)
      go_cut [185] (fun v wx => v = .bool β39 ∧ Hid (wx = wr))
      case first =>
        as_aux_lemma =>
          by_cases c1 : s < m
          · have q4 : decide ((s : Int) < (m : Int)) = true := by simp; omega
            by_cases c2 : m < e
            · have q5 : decide ((m : Int) < (e : Int)) = true := by simp; omega
              have R : Hid (β39 = true) := by show _ = _; rw [hβ39.out]; simp [c1, c2]
              go_wp2
              go_meet
              case rel => exact ⟨by rw [R.out], rfl⟩
            · have q5 : decide ((m : Int) < (e : Int)) = false := by simp; omega
              have R : Hid (β39 = false) := by show _ = _; rw [hβ39.out]; simp [c1, c2]
              go_wp2
              go_meet
              case rel => exact ⟨by rw [R.out], rfl⟩
          · have q4 : decide ((s : Int) < (m : Int)) = false := by simp; omega
            have R : Hid (β39 = false) := by show _ = _; rw [hβ39.out]; simp [c1]
            go_wp2
            go_meet
            case rel => exact ⟨by rw [R.out], rfl⟩
      case rest =>
      obtain ⟨rfl, hwx⟩ := hcut
      have hwx := hwx.out
      subst hwx
      obtain ⟨W0, rfl⟩ : ∃ W0 : World, W0 = wc := ⟨_, rfl⟩
      go_upto_if 185 with (fail)
      go_cut [185] (fun _ wx => Hid (K.Made G w (.slice (some ⟨g, 0, none⟩) N c) wx))
      case first =>
        as_aux_lemma =>
          cases hβ2 : β39 with
          | true =>
            have hb := hβ39.out
            rw [hβ2] at hb
            have cc := hb.symm
            rw [Bool.and_eq_true, decide_eq_true_iff, decide_eq_true_iff] at cc
            clear hb
            have HR := Lib.hid (rotate_any g c s m e N L G (.func (.func 44) #[] #[]) w W0 HN.out hM.out hG.out.rot cc.1 cc.2 hl)
            clear hM cc hβ39
            subst hβ2
            go_wp2_with (go_at_call 106; refine HR.out.mono ?_; rintro e w3 ⟨rfl, hm2⟩; have R := Lib.hid hm2; clear hm2)
            go_meet
            case rel => exact R
          | false =>
            have hb := hβ39.out
            rw [hβ2] at hb
            have cc : ¬ (s < m ∧ m < e) := fun h => by simp [h.1, h.2] at hb
            clear hb
            have R : Hid (K.Made G w (.slice (some ⟨g, 0, none⟩) N c) W0) := by
              show K.Made _ _ _ _
              rw [hG.out.same (by omega)]; exact hM.out
            clear hM cc hβ39
            subst hβ2
            go_wp2
            go_meet
            case rel => exact R
      case rest =>
      obtain ⟨W1, rfl⟩ : ∃ W1 : World, W1 = wc := ⟨_, rfl⟩
      have hM1 := Lib.hid hcut.out
      clear hcut hM w4 hβ39
      have HGN : Hid (N = G.length) := by show _ = _; rw [hG.out.len]; exact HN.out
      obtain ⟨β41, hβ41⟩ : ∃ β : Bool, Hid (β = (decide (a < s) && decide (s < d))) := ⟨_, rfl⟩
      go_upto_region 41 with (fail)
      go_cut [199] (fun v wx => v = .bool β41 ∧ Hid (wx = W1))
      case first =>
        as_aux_lemma =>
          by_cases c1 : a < s
          · have q4 : decide ((a : Int) < (s : Int)) = true := by simp; omega
            by_cases c2 : s < d
            · have q5 : decide ((s : Int) < (d : Int)) = true := by simp; omega
              have R : Hid (β41 = true) := by show _ = _; rw [hβ41.out]; simp [c1, c2]
              go_wp2
              go_meet
              case rel => exact ⟨by rw [R.out], rfl⟩
            · have q5 : decide ((s : Int) < (d : Int)) = false := by simp; omega
              have R : Hid (β41 = false) := by show _ = _; rw [hβ41.out]; simp [c1, c2]
              go_wp2
              go_meet
              case rel => exact ⟨by rw [R.out], rfl⟩
          · have q4 : decide ((a : Int) < (s : Int)) = false := by simp; omega
            have R : Hid (β41 = false) := by show _ = _; rw [hβ41.out]; simp [c1]
            go_wp2
            go_meet
            case rel => exact ⟨by rw [R.out], rfl⟩
      case rest =>
      obtain ⟨rfl, hwx⟩ := hcut
      have hwx := hwx.out
      subst hwx
      obtain ⟨W0, rfl⟩ : ∃ W0 : World, W0 = wc := ⟨_, rfl⟩
      go_upto_if 199 with (fail)
      go_cut [199] (fun _ wx => ∃ L1, Hid (K.Mrg a d G L1) ∧ Hid (K.Made L1 w (.slice (some ⟨g, 0, none⟩) N c) wx))
      case first =>
        as_aux_lemma =>
          cases hβ2 : β41 with
          | true =>
            have hb := hβ41.out
            rw [hβ2] at hb
            have cc := hb.symm
            rw [Bool.and_eq_true, decide_eq_true_iff, decide_eq_true_iff] at cc
            clear hb
            have HR := Lib.hid (HI.out a s d G W0 (by omega) HGN.out hM1.out cc.1 cc.2 (by omega) hG.out.l1 hG.out.l2)
            clear hM1 cc hβ41
            subst hβ2
            go_wp2_with (go_at_call 98; refine HR.out.mono ?_; rintro e w3 ⟨rfl, L1, hm1, hm2, hm3⟩; have R := Lib.hid hm1; have R2 := Lib.hid hm3; clear hm1 hm2 hm3)
            go_meet
            case rel => exact ⟨L1, R, R2⟩
          | false =>
            have hb := hβ41.out
            rw [hβ2] at hb
            have cc : ¬ (a < s ∧ s < d) := fun h => by simp [h.1, h.2] at hb
            clear hb
            have R : Hid (K.Mrg a d G G) := K.Mrg.refl (by omega) (by have := HGN.out; omega) (hG.out.l3 cc)
            clear cc hβ41
            subst hβ2
            go_wp2
            go_meet
            case rel => exact ⟨G, R, hM1⟩
      case rest =>
      obtain ⟨L1, hX1, hM2⟩ := hcut
      obtain ⟨W2, rfl⟩ : ∃ W2 : World, W2 = wc := ⟨_, rfl⟩
      clear hM1 hβ41
      have HLN : Hid (N = L1.length) := by show _ = _; rw [hX1.out.len]; exact HGN.out
      obtain ⟨β43, hβ43⟩ : ∃ β : Bool, Hid (β = (decide (d < e) && decide (e < b))) := ⟨_, rfl⟩
      go_upto_region 43 with (fail)
      go_cut [213] (fun v wx => v = .bool β43 ∧ Hid (wx = W2))
      case first =>
        as_aux_lemma =>
          by_cases c1 : d < e
          · have q4 : decide ((d : Int) < (e : Int)) = true := by simp; omega
            by_cases c2 : e < b
            · have q5 : decide ((e : Int) < (b : Int)) = true := by simp; omega
              have R : Hid (β43 = true) := by show _ = _; rw [hβ43.out]; simp [c1, c2]
              go_wp2
              go_meet
              case rel => exact ⟨by rw [R.out], rfl⟩
            · have q5 : decide ((e : Int) < (b : Int)) = false := by simp; omega
              have R : Hid (β43 = false) := by show _ = _; rw [hβ43.out]; simp [c1, c2]
              go_wp2
              go_meet
              case rel => exact ⟨by rw [R.out], rfl⟩
          · have q4 : decide ((d : Int) < (e : Int)) = false := by simp; omega
            have R : Hid (β43 = false) := by show _ = _; rw [hβ43.out]; simp [c1]
            go_wp2
            go_meet
            case rel => exact ⟨by rw [R.out], rfl⟩
      case rest =>
      obtain ⟨rfl, hwx⟩ := hcut
      have hwx := hwx.out
      subst hwx
      obtain ⟨W0, rfl⟩ : ∃ W0 : World, W0 = wc := ⟨_, rfl⟩
      cases hβ2 : β43 with
      | true =>
        have hb := hβ43.out
        rw [hβ2] at hb
        have cc := hb.symm
        rw [Bool.and_eq_true, decide_eq_true_iff, decide_eq_true_iff] at cc
        clear hb
        have HR := Lib.hid (HI.out d e b L1 W0 (by omega) HLN.out hM2.out cc.1 cc.2 hbN (hG.out.r1 L1 hX1.out) (hG.out.r2 L1 hX1.out))
        have HE := Lib.hid (fun L2 h => hG.out.all L1 L2 hX1.out h)
        clear hM2 cc hβ43
        subst hβ2
        go_wp2_with (go_at_call 98; refine HR.out.mono ?_; rintro e w3 ⟨rfl, L2, hm1, hm2, hm3⟩; have R := Lib.hid (HE.out L2 hm1); have R1 := Lib.hid hm2; have R2 := Lib.hid hm3; clear hm1 hm2 hm3)
        go_end0
        exact ⟨rfl, L2, R.out, R1.out, R2.out⟩
      | false =>
        have hb := hβ43.out
        rw [hβ2] at hb
        have cc : ¬ (d < e ∧ e < b) := fun h => by simp [h.1, h.2] at hb
        clear hb
        have R := Lib.hid (hG.out.all L1 L1 hX1.out (K.Mrg.refl (by omega) (by have := HLN.out; omega) (hG.out.r3 cc L1 hX1.out)))
        clear cc hβ43
        subst hβ2
        go_wp2
        go_end0
        exact ⟨rfl, L1, R.out, HLN.out, hM2.out⟩
theorem symMerge_any (g c N : Nat) (w : World) (hl : N ≤ 1000000) : ∀ t, K.SymAt g c N w t
  | 0 => fun a m b L W h => by omega
  | t + 1 => fun a m b L W ht hN h ham hmb hbN hA hB => by
    by_cases h1 : m = a + 1
    · subst h1
      exact symMerge_one g c a b N L w W hN h hmb hbN hl hB
    · by_cases h2 : b = m + 1
      · subst h2
        exact symMerge_last g c a m N L w W hN h (by omega) (by omega) hl hA
      · exact symMerge_gen g c a m b N t L w W (symMerge_any g c N w hl t) ht hN h (by omega) (by omega) hbN hl hA hB
end Go.Proofs.Ytmbgcbgbdjiacaa
/- MarkStable -/
namespace Go.Proofs.Ytmbgcbgbdjiacaa
open Go.RowKit

set_option maxRecDepth 100000 in
set_option maxHeartbeats 8000000 in
theorem stable_any (g c N : Nat) (L : List K.M) (w W : World) (hN : N = L.length) (h : K.Made L w (.slice (some ⟨g, 0, none⟩) N c) W) (hl : N ≤ 1000000) :
    Calls Try.prog 71 #[.slice (some ⟨g, 0, none⟩) N c, .int .i64 N, .func (.func 44) #[] #[]] W
      fun e w' => e = .returned (.tuple #[]) ∧ K.Made (K.srt L) w (.slice (some ⟨g, 0, none⟩) N c) w' := by
  have HM := Lib.hid h
  have HN := Lib.hid hN
  have HF : Hid (K.Full 20 0 L ∧ K.Same L L) := ⟨fun i hi => by omega, K.Same.refl L⟩
  clear h hN
  go_enter Try.func71, Try.ntmps71
  go_wp2
  go_loopw [7, 8] (fun va vb wr => ∃ (a b : Nat) (L' : List K.M), va = .int .i64 a ∧ vb = .int .i64 b ∧ Hid (b = a + 20) ∧ a ≤ N ∧ Hid (∃ k, a = k * 20 ∧ K.Full 20 k L' ∧ K.Same L L') ∧ Hid (K.Made L' w (.slice (some ⟨g, 0, none⟩) N c) wr)) (fun va vb _ => N + 1 - (intOf vb).toNat)
  case atStart => exact ⟨0, 20, L, rfl, rfl, rfl, by omega, ⟨0, rfl, HF.out.1, HF.out.2⟩, HM⟩
  case round =>
    obtain ⟨a, b, L1, rfl, rfl, hab, haN, hX, hM⟩ := hrel
    clear HM HF
    have hab1 : a ≤ b := by have := hab.out; omega
    have hab2 : b ≤ N + 20 := by have := hab.out; omega
    have hNL : Hid (N = L1.length) := hM.out.block.1
    by_cases hlt : b ≤ N
    · have q0 : decide ((b : Int) ≤ (N : Int)) = true := by simp; omega
      have HI := Lib.hid (insertionSort_any g c a b N L1 w wr hNL.out hM.out hab1 hlt hl)
      have w1 : IntKind.i64.wrap ((b : Int) + 20) = (b : Int) + 20 := IntWalk.i64_in _ (by omega)
      clear hM
      go_wp2_with (go_at_call 97; refine HI.out.mono ?_; rintro e w3 ⟨rfl, L2, hm1, hm2, hm3⟩; have R : Hid (∃ k, b = k * 20 ∧ K.Full 20 k L2 ∧ K.Same L L2) := (by obtain ⟨k, rfl, f, s⟩ := hX.out; rw [hab.out] at hm1; have := hab.out; exact ⟨k + 1, by omega, f.next hm1, s.trans hm1.same⟩); have R2 := Lib.hid hm3; clear hm1 hm2 hm3)
      go_roundw
      case rel => exact ⟨b, b + 20, L2, rfl, by go_num, rfl, hlt, R, R2⟩
      case measure => simp [intOf]; omega
    · have q0 : decide ((b : Int) ≤ (N : Int)) = false := by simp; omega
      have HI := Lib.hid (insertionSort_any g c a N N L1 w wr hNL.out hM.out haN (Nat.le_refl _) hl)
      have HR : Hid (∀ L2, K.Mrg a N L1 L2 → K.Runs 20 N L2 ∧ K.Same L L2) := fun L2 hm1 => by
        obtain ⟨k, rfl, f, s⟩ := hX.out
        exact ⟨f.last hm1 haN (by have := hab.out; omega), s.trans hm1.same⟩
      clear hM hX
      go_wp2_with (go_at_call 97; refine HI.out.mono ?_; rintro e w3 ⟨rfl, L2, hm1, hm2, hm3⟩; have R := Lib.hid (HR.out L2 hm1); have R2 := Lib.hid hm3; clear hm1 hm2 hm3)
      clear HI HR
      go_loopw [6] (fun vz wr => ∃ (z : Nat) (L' : List K.M), vz = .int .i64 z ∧ 0 < z ∧ z ≤ 2000020 ∧ Hid (K.Runs z N L' ∧ K.Same L L') ∧ Hid (K.Made L' w (.slice (some ⟨g, 0, none⟩) N c) wr)) (fun vz _ => N - (intOf vz).toNat)
      case atStart => exact ⟨20, L2, rfl, by omega, by omega, R, R2⟩
      case round =>
        obtain ⟨z, L3, rfl, hz, hzb, hX, hM⟩ := hrel
        clear R R2
        have hNL : Hid (N = L3.length) := hM.out.block.1
        by_cases hzn : z < N
        · have q1 : decide ((z : Int) < (N : Int)) = true := by simp; omega
          obtain ⟨y, hy⟩ : ∃ y, y = 2 * z := ⟨_, rfl⟩
          have w1 : IntKind.i64.wrap (2 * (z : Int)) = (y : Int) := by rw [IntWalk.i64_in _ (by omega)]; omega
          have w2 : IntKind.i64.wrap ((z : Int) * 2) = (y : Int) := by rw [IntWalk.i64_in _ (by omega)]; omega
          have hyb : y ≤ 2000000 := by omega
          have hzy : z < y := by omega
          have HY := Lib.hid hy
          clear hy
          have H0 : Hid (∃ k, 0 = k * y ∧ K.Half z k N L3 ∧ K.Same L L3) := ⟨0, by omega, K.Half.start hX.out.1, hX.out.2⟩
          clear hX
          go_wp2
          go_loopw [7, 8] (fun va vb wr => ∃ (a b : Nat) (L' : List K.M), va = .int .i64 a ∧ vb = .int .i64 b ∧ Hid (b = a + y) ∧ a ≤ N ∧ Hid (∃ k, a = k * y ∧ K.Half z k N L' ∧ K.Same L L') ∧ Hid (K.Made L' w (.slice (some ⟨g, 0, none⟩) N c) wr)) (fun va vb _ => N + 1 - (intOf vb).toNat)
          case atStart => exact ⟨0, y, L3, rfl, rfl, (show y = 0 + y by omega), by omega, H0, hM⟩
          case round =>
            obtain ⟨a, b, L4, rfl, rfl, hab, haN, hX, hM⟩ := hrel
            clear H0
            have hab1 : a < b := by have := hab.out; omega
            have hab2 : b ≤ N + y := by have := hab.out; omega
            have haz : a + z < b := by have := hab.out; omega
            have hNL : Hid (N = L4.length) := hM.out.block.1
            have w3 : IntKind.i64.wrap ((a : Int) + (z : Int)) = ((a + z : Nat) : Int) := by rw [IntWalk.i64_in _ (by omega)]; omega
            by_cases hlt : b ≤ N
            · have q2 : decide ((b : Int) ≤ (N : Int)) = true := by simp; omega
              have hs1 : K.Seg L4 a (a + z) := by
                obtain ⟨k, e, f, _⟩ := hX.out
                have := f.one (by rw [← HY.out, ← e]; have := hab.out; omega)
                rw [← HY.out, ← e] at this; exact this
              have hs2 : K.Seg L4 (a + z) b := by
                obtain ⟨k, e, f, _⟩ := hX.out
                have := f.two hlt (by rw [← HY.out, ← e]; have := HY.out; have := hab.out; omega)
                rw [← HY.out, ← e] at this; exact this
              have HI := Lib.hid (symMerge_any g c N w hl (b - a) a (a + z) b L4 wr (Nat.le_refl _) hNL.out hM.out (by omega) haz hlt hs1 hs2)
              have w4 : IntKind.i64.wrap ((b : Int) + (y : Int)) = ((b + y : Nat) : Int) := by rw [IntWalk.i64_in _ (by omega)]; omega
              have HR : Hid (∀ L2, K.Mrg a b L4 L2 → ∃ k, b = k * y ∧ K.Half z k N L2 ∧ K.Same L L2) := fun L2 hm1 => by
                obtain ⟨k, e, f, s⟩ := hX.out
                refine ⟨k + 1, by rw [Nat.succ_mul, ← e]; exact hab.out, f.next hz ?_, s.trans hm1.same⟩
                rw [← HY.out, ← e, ← hab.out]; exact hm1
              clear hM hX hs1 hs2
              go_wp2_with (go_at_call 98; refine HI.out.mono ?_; rintro e w3 ⟨rfl, L2, hm1, hm2, hm3⟩; have R := Lib.hid (HR.out L2 hm1); have R2 := Lib.hid hm3; clear hm1 hm2 hm3)
              go_roundw
              case rel => exact ⟨b, b + y, L2, rfl, by go_num, rfl, hlt, R, R2⟩
              case measure => simp [intOf]; omega
            · have q2 : decide ((b : Int) ≤ (N : Int)) = false := by simp; omega
              by_cases hm : a + z < N
              · have q3 : decide (((a + z : Nat) : Int) < (N : Int)) = true := by simp; omega
                have hs1 : K.Seg L4 a (a + z) := by
                  obtain ⟨k, e, f, _⟩ := hX.out
                  have := f.one (by rw [← HY.out, ← e]; have := hab.out; omega)
                  rw [← HY.out, ← e] at this; exact this
                have hs2 : K.Seg L4 (a + z) N := by
                  obtain ⟨k, e, f, _⟩ := hX.out
                  have := f.two (Nat.le_refl _) (by rw [← HY.out, ← e]; have := HY.out; have := hab.out; omega)
                  rw [← HY.out, ← e] at this; exact this
                have HI := Lib.hid (symMerge_any g c N w hl (N - a) a (a + z) N L4 wr (Nat.le_refl _) hNL.out hM.out (by omega) hm (Nat.le_refl _) hs1 hs2)
                have HR : Hid (∀ L2, K.Mrg a N L4 L2 → K.Runs y N L2 ∧ K.Same L L2) := fun L2 hm1 => by
                  obtain ⟨k, e, f, s⟩ := hX.out
                  have hY := HY.out
                  have hab := hab.out
                  refine ⟨?_, s.trans hm1.same⟩
                  rw [hY] at e hab ⊢
                  rw [e] at hm1 haN hab
                  exact f.last hm1 haN (by omega)
                clear hM hX hs1 hs2
                go_wp2_with (go_at_call 98; refine HI.out.mono ?_; rintro e w3 ⟨rfl, L2, hm1, hm2, hm3⟩; have R := Lib.hid (HR.out L2 hm1); have R2 := Lib.hid hm3; clear hm1 hm2 hm3)
                exact ⟨⟨y, L2, rfl, by omega, by omega, R, R2⟩, by simp [intOf]; omega⟩
              · have q3 : decide (((a + z : Nat) : Int) < (N : Int)) = false := by simp; omega
                have R : Hid (K.Runs y N L4 ∧ K.Same L L4) := by
                  obtain ⟨k, e, f, s⟩ := hX.out
                  have hY := HY.out
                  have hab := hab.out
                  refine ⟨?_, s⟩
                  rw [hY] at e hab ⊢
                  rw [e] at haN hab hm
                  exact f.last (K.Mrg.refl haN (by have := hNL.out; omega) (f.short (by omega))) haN (by omega)
                clear hX
                go_wp2
                exact ⟨⟨y, L4, rfl, by omega, by omega, R, hM⟩, by simp [intOf]; omega⟩
        · have q1 : decide ((z : Int) < (N : Int)) = false := by simp; omega
          have R : Hid (K.Made (K.srt L) w (.slice (some ⟨g, 0, none⟩) N c) wr) := by
            show K.Made _ _ _ _
            rw [← K.srt_same L L3 hX.out.2 (hX.out.1.done (by omega) hNL.out)]; exact hM.out
          go_wp2
          go_end0
          exact ⟨rfl, R.out⟩
theorem insertionSort_nil (W : World) : Calls Try.prog 97 #[.slice none 0 0, .int .i64 0, .int .i64 0, .func (.func 44) #[] #[]] W fun e w' => e = .returned (.tuple #[]) ∧ w' = W := by
  go_enter Try.func97, Try.ntmps97
  go_wp2
  go_loopw [8] (fun v wr => v = .int .i64 1 ∧ wr = W) (fun _ _ => 0)
  case atStart => exact ⟨rfl, rfl⟩
  case round =>
    obtain ⟨rfl, rfl⟩ := hrel
    go_wp2
    go_end0
    exact ⟨rfl, rfl⟩
theorem stable_nil (W : World) : Calls Try.prog 71 #[.slice none 0 0, .int .i64 0, .func (.func 44) #[] #[]] W fun e w' => e = .returned (.tuple #[]) ∧ w' = W := by
  have HI := Lib.hid (insertionSort_nil W)
  go_enter Try.func71, Try.ntmps71
  go_wp2
  go_loopw [7, 8] (fun va vb wr => va = .int .i64 0 ∧ vb = .int .i64 20 ∧ wr = W) (fun _ _ _ => 0)
  case atStart => exact ⟨rfl, rfl, rfl⟩
  case round =>
    obtain ⟨rfl, rfl, rfl⟩ := hrel
    go_wp2_with (go_at_call 97; refine HI.out.mono ?_; rintro e w3 ⟨rfl, rfl⟩)
    go_loopw [6] (fun v wx => v = .int .i64 20 ∧ wx = w3) (fun _ _ => 0)
    case atStart => exact ⟨rfl, rfl⟩
    case round =>
      obtain ⟨rfl, rfl⟩ := hrel
      go_wp2
      go_end0
      exact ⟨rfl, rfl⟩
theorem sortStable_any (L : List K.M) (v : Value) (w W : World) (h : K.Made L w v W) (hl : L.length ≤ 1000000) :
    Calls Try.prog 43 #[v, .func (.func 44) #[] #[]] W fun e w' => e = .returned (.tuple #[]) ∧ K.Made (K.srt L) w v w' := by
  obtain ⟨hll, ⟨rfl, h0⟩ | ⟨g, c, cur, rfl, _⟩⟩ := h.own
  · have hL : L = [] := List.eq_nil_of_length_eq_zero h0
    subst hL
    have HS := Lib.hid (stable_nil W)
    have HM : Hid (K.Made (K.srt []) w (.slice none 0 0) W) := h
    clear h hll
    go_enter Try.func43, Try.ntmps43
    go_wp2_with (go_at_call 71; refine HS.out.mono ?_; rintro e w3 ⟨rfl, rfl⟩)
    go_end0
    exact ⟨rfl, HM.out⟩
  · have HS := Lib.hid (stable_any g c L.length L w W rfl h hl)
    clear h hll
    go_enter Try.func43, Try.ntmps43
    go_wp2_with (go_at_call 71; refine HS.out.mono ?_; rintro e w3 ⟨rfl, hm⟩; have R := Lib.hid hm; clear hm)
    go_end0
    exact ⟨rfl, R.out⟩
end Go.Proofs.Ytmbgcbgbdjiacaa
