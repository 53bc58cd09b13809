/- The walk of FreelistBound. -/
import Derived.Test.YtndpknkdmaojaaaDoorPackFLaw
import Derived.Test.YtndpknkdmaojaaaDoorFreeLaws3
import Derived.Test.YtndpknkdmaojaaaDoorFreeLaws4
namespace Go.Proofs.YtndpknkdmaojaaaDoor
open Go.RowKit

/-- A row of whatever ints. -/
def FL.IRow (W : World) (ao : Option Addr) (l : List Int) : Prop := ∀ (i : Nat) (z : Int), l[i]? = some z → ∃ b o, ao = some ⟨b, o, none⟩ ∧ b < W.heap.size ∧ W.cell? ⟨b, o + i, none⟩ = some (.int .i64 z)
/-- An argument that is a slice of ints. -/
structure FL.ISrc where
  a : Option Addr
  c : Nat
  x : List Int
structure FL.IArgOk (W : World) (s : FL.ISrc) : Prop where
  row : FL.IRow W s.a s.x
  fits : ∀ z ∈ s.x, -9223372036854775808 ≤ z ∧ z ≤ 9223372036854775807
  len : s.x.length ≤ 1000000000000000000
/-- How often each slot was taken. -/
def FL.S.tkl (s : FL.S) : List Nat := (List.range s.st.length).map s.took
theorem FL.tkl_at {s : FL.S} {i : Nat} (h : i < s.st.length) : s.tkl[i]? = some (s.took i) := FL.range_at _ h
/-- What is known of the list in the loop's i-th round. -/
structure FL.Bd (n g i : Nat) (s : FL.S) : Prop where
  n : s.st.length = n
  g : s.gens = g
  pr : (s.stk = [] ∧ s.hands = []) ∨ i ≤ s.deeds
theorem FL.tkl_new (n g : Nat) : (FL.new n g).tkl = List.replicate n 0 := by
  have l : (FL.new n g).st.length = n := List.length_replicate
  unfold FL.S.tkl
  rw [l]
  apply List.ext_getElem?
  intro i
  by_cases hi : i < n
  · rw [FL.range_at _ hi, List.getElem?_replicate, if_pos hi]
    have a : (FL.new n g).at_ i = 0 := by unfold FL.S.at_ FL.new; rw [List.getD_eq_getElem?_getD, List.getElem?_replicate, if_pos hi]; rfl
    have b : (FL.new n g).gn i = 1 := by unfold FL.S.gn FL.new; rw [List.getD_eq_getElem?_getD, List.getElem?_replicate, if_pos hi]; rfl
    unfold FL.S.took
    rw [a, b]; rfl
  · rw [List.getElem?_eq_none (by simp; omega), List.getElem?_eq_none (by simp; omega)]
theorem FL.tkl_tk {s : FL.S} (v : FL.Inv s) {x : Nat} {r : List Nat} (h : s.stk = x :: r) : s.tkl.set x (s.took x + 1) = s.tk.tkl := by
  have t := FL.tk_cons v h
  unfold FL.S.tkl
  rw [t.len]
  exact FL.range_set _ _ _ _ _ (fun _ => by rw [FL.took_tk v h, if_pos rfl]) (fun i hi _ => by rw [FL.took_tk v h, if_neg hi])
/-- A live handle is given back. -/
theorem FL.bd_give {s : FL.S} (v : FL.Inv s) {n g i : Nat} (h : FL.Bd n g i s) {y : Nat} (hl : s.live y = true) :
    ((s.gv y).st.length = n ∧ (s.gv y).gens = g) ∧ (s.gv y).tkl = s.tkl ∧ (s.gv y).gone = s.gone + (if s.gvB y = true then 1 else 0) ∧ (s.gv y).deeds = s.deeds + 1 := by
  have t := FL.gv_yes v hl
  refine ⟨⟨by rw [t.len]; exact h.n, by rw [t.gens]; exact h.g⟩, ?_, FL.gone_gv v y, FL.deeds_gv v hl⟩
  unfold FL.S.tkl
  exact FL.range_same _ _ t.len fun i _ => FL.took_gv v hl i
theorem FL.One.handlesM {w W : World} {p : Nat} {R : Nat → Prop} {s : FL.S} {B : Nat} (h : FL.One w p R s B W) : Calls Tryd.prog 25 #[FL.ptr p] W fun e w' => ∃ ao c, e = .returned (.slice ao s.hands.length c) ∧ FL.Al B s.hands (.slice ao s.hands.length c) w' ∧ FL.One w p R s B w' ∧ Below W.heap.size W w' := by
  obtain ⟨b1, b2, b3, c1, c2, c3, hA, hR⟩ := h.x
  refine (handles11_any p b1 b2 b3 c1 c2 c3 s W hA).mono fun _ _ k => ?_
  obtain ⟨v, rfl, m⟩ := k
  have hr : FL.Al B s.hands v _ := ⟨D.own_mono m.own h.size, fun x hx => by
    have := H.ok_lt (FL.live_iff.1 ((FL.mem_hands hA.inv).1 hx)).1
    omega⟩
  obtain ⟨ao, c, rfl, _⟩ := hr.slice
  exact ⟨ao, c, rfl, hr, h.on (V.Made.below m), V.Made.below m⟩
theorem FL.hands_le {s : FL.S} (v : FL.Inv s) : s.hands.length ≤ 16384 := by rw [← FL.hk_all]; exact Nat.le_trans (FL.hk_len _ _) v.n2
set_option maxRecDepth 100000 in
set_option maxHeartbeats 8000000 in
theorem freelistBound_walk (n g : Int) (sr : FL.ISrc) (w : World) (_ : -9223372036854775808 ≤ n) (_ : n < 9223372036854775808) (_ : -9223372036854775808 ≤ g) (_ : g < 9223372036854775808) (hs : FL.IArgOk w sr) (hp : H.Pow w.heap.size w) :
    Calls Tryd.prog 8 #[.int .i64 n, .int .i64 g, .slice sr.a sr.x.length sr.c] w fun e w' => e = .returned (.bool true) ∧ Below w.heap.size w w' := by
  have HK : Hid (∀ W, Below w.heap.size w W → Calls Tryd.prog 19 #[] W (fun e w' => e = .returned (.bool true) ∧ Below W.heap.size W w')) := fun W hb => awake11_any W (H.Pow.go hp hb)
  obtain ⟨n1, n2, n3⟩ := FL.nn_bd n
  obtain ⟨g1, g2, g3⟩ := FL.gg_bd g
  have M8 : Hid (∀ W, Calls Tryd.prog 11 #[.int .i64 n, .int .i64 8] W fun x w' => x = .returned (.int .i64 (n % 8)) ∧ W = w') := fun W => mod11_any n 8 (by omega) (by omega) W
  have M4 : Hid (∀ W, Calls Tryd.prog 11 #[.int .i64 g, .int .i64 4] W fun x w' => x = .returned (.int .i64 (g % 4)) ∧ W = w') := fun W => mod11_any g 4 (by omega) (by omega) W
  have MX : Hid (∀ (m : Int) (l : Nat) W, 0 < l → l ≤ 16384 → Calls Tryd.prog 11 #[.int .i64 m, .int .i64 (l : Int)] W fun x w' => x = .returned (.int .i64 (m % (l : Int))) ∧ W = w') := fun m l W h1 h2 => mod11_any m l (by omega) (by omega) W
  have H1 := Lib.hid (new11_ok (FL.nn n) (FL.gg g) (by omega) (by omega) (by omega) (by omega) w)
  have nb := Int.emod_nonneg n (show (8 : Int) ≠ 0 by omega)
  have nc := Int.emod_lt_of_pos n (show (0 : Int) < 8 by omega)
  have gb := Int.emod_nonneg g (show (4 : Int) ≠ 0 by omega)
  have gc := Int.emod_lt_of_pos g (show (0 : Int) < 4 by omega)
  generalize FL.nn n = nn at *
  generalize FL.gg g = gg at *
  have HS0 : Hid (FL.Bd nn gg 0 (FL.new nn gg)) := ⟨List.length_replicate, rfl, .inr (Nat.zero_le _)⟩
  have HC0 : Hid ((FL.new nn gg).tkl = List.replicate nn 0) := FL.tkl_new nn gg
  have HG0 : Hid ((FL.new nn gg).gone = 0) := FL.gone_new nn gg
  generalize FL.new nn gg = s0 at *
  have hm1 := run_make_row' (P := Tryd.prog) 45 3 (.int .i64 0) 8 Tryd.underlying45 Tryd.infoInt11 rfl .i64 .i64 nn (by omega) (by omega)
  obtain ⟨gi, hgi⟩ : ∃ gi : Int, ((gg : Nat) : Int) = gi := ⟨_, rfl⟩
  have cv : IntKind.u64.wrap gi = gi := by rw [← hgi]; exact H.u64_in _ (by omega)
  rw [hgi] at H1 g3
  obtain ⟨N, hN⟩ : ∃ N : Nat, Hid (4 * nn * gg = N) := ⟨_, rfl⟩
  obtain ⟨n4, hn4⟩ : ∃ n4 : Int, (4 : Int) * (nn : Int) = n4 := ⟨_, rfl⟩
  have hN4 : n4 * gi = (N : Int) := by rw [← hn4, ← hgi, ← hN.out]; push_cast; rfl
  have hNl : N ≤ 128 := by rw [← hN.out]; have : 4 * nn * gg ≤ 32 * 4 := Nat.mul_le_mul (by omega) g2; omega
  have hgg : Hid (1 ≤ gg ∧ gg ≤ 4) := ⟨g1, g2⟩
  have hgi4 : gi ≤ 4 := by omega
  clear g1 g2 hp
  generalize n % 8 = nz at *
  generalize g % 4 = gz at *
  obtain ⟨sa, sc, sx⟩ := sr
  have HR : Hid (FL.IRow w sa sx) := hs.row
  have HF : Hid (∀ z ∈ sx, -9223372036854775808 ≤ z ∧ z ≤ 9223372036854775807) := hs.fits
  have hl : sx.length ≤ 1000000000000000000 := hs.len
  dsimp only
  clear hs
  go_enter Tryd.func8, Tryd.ntmps8
  go_wp2_with fail
  refine (M8.out _).mono ?_
  rintro e w1 ⟨rfl, rfl⟩
  go_wp2_with fail
  refine (M4.out _).mono ?_
  rintro e w1 ⟨rfl, rfl⟩
  go_wp2_with fail
  refine H1.out.mono ?_
  rintro e w2 ⟨p, R, rfl, ho, hb, hn⟩
  obtain ⟨B, hB⟩ : ∃ B, w2.heap.size = B := ⟨_, rfl⟩
  have T : Hid (FL.One w p R s0 B w2) := by rw [← hB]; exact FL.One.make ho hb hn
  have wB : w.heap.size ≤ B := by rw [← hB]; exact T.out.below.size
  clear ho hb hn M8 M4 cv nb nc gb gc n3 g3 H1
  go_upto_region 6 with (fail)
  have C0 : Hid (FL.One w p R s0 B (w2.alloc (.cells (madeCells #[.int .i64 0] nn) 3)) ∧ FL.Rw (w2.alloc (.cells (madeCells #[.int .i64 0] nn) 3)) w2.heap.size nn nn 3 (FL.ints (FL.S.tkl s0))) := by
    refine ⟨T.out.on ((Below.refl _ _).alloc (Nat.le_refl _) _), FL.rw_made w2 nn (.int .i64 0) 3 (by unfold maxLen; omega) ?_⟩
    rw [HC0.out]; unfold FL.ints; rw [List.map_replicate]; rfl
  generalize w2.alloc (.cells (madeCells #[.int .i64 0] nn) 3) = W3 at C0 ⊢
  rw [hB] at C0
  clear hB T HC0 hm1
  go_wp2
  go_loopw [12, 13] (fun gv j wr => ∃ (i : Nat) (s : FL.S), i ≤ N ∧ gv = .int .i64 (s.gone : Int) ∧ j = .int .i64 i ∧ Hid (FL.One w p R s B wr ∧ FL.Rw wr B nn nn 3 (FL.ints (FL.S.tkl s)) ∧ FL.Bd nn gg i s)) (fun _ j _ => N - (intOf j).toNat)
  case atStart => exact ⟨0, s0, Nat.zero_le _, by rw [HG0.out]; rfl, rfl, C0.out.1, C0.out.2, HS0.out⟩
  case round =>
    obtain ⟨i, s, hi, rfl, rfl, hT⟩ := hrel
    clear C0 HG0 HS0
    by_cases hlt : i < N
    · have q1 : decide ((i : Int) < (N : Int)) = true := by simp; omega
      have hg16 : (s.gone : Int) ≤ 16384 := by have := FL.gone_le s; have := hT.out.2.2.n; omega
      have g0 : (0 : Int) ≤ (s.gone : Int) := by omega
      have T0 := Lib.hid (show FL.One w p R s B wr ∧ FL.Rw wr B nn nn 3 (FL.ints (FL.S.tkl s)) from ⟨hT.out.1, hT.out.2.1⟩)
      have BD0 := Lib.hid hT.out.2.2
      have HV := Lib.hid hT.out.1.x.inv
      clear hT
      cases e : s.stk with
      | nil =>
        obtain ⟨k1, k2, k3⟩ := FL.tk_nil e
        have TK := T0.out.1.take
        rw [k1, k2, k3] at TK
        have TK := Lib.hid TK
        have BD := BD0
        have hn2 := FL.hands_le HV.out
        have he := Lib.hid e
        clear k1 k2 k3 e
        go_wp2_with fail
        refine TK.out.mono ?_
        rintro e w4 ⟨rfl, t, hb⟩
        have T1 : Hid (FL.One w p R s B w4 ∧ FL.Rw w4 B nn nn 3 (FL.ints (FL.S.tkl s))) := ⟨t, T0.out.2.but hb (by show ¬ _ < _; omega)⟩
        clear t hb TK T0
        go_wp2_with fail
        refine T1.out.1.handlesM.mono ?_
        rintro e wh ⟨lo, lc, rfl, al, t6, hb⟩
        have TH : Hid (FL.One w p R s B wh ∧ FL.Rw wh B nn nn 3 (FL.ints (FL.S.tkl s)) ∧ FL.Al B s.hands (.slice lo s.hands.length lc) wh) := ⟨t6, T1.out.2.but (R := fun _ => False) (FL.But.below hb) id, al⟩
        clear al t6 hb T1
        by_cases hX0 : 0 < s.hands.length
        · have q7 : decide ((0 : Int) < (s.hands.length : Int)) = true := by simp; omega
          by_cases hi2 : i < sx.length
          · obtain ⟨kz, hkz⟩ : ∃ kz, sx[i]? = some kz := ⟨_, List.getElem?_eq_getElem hi2⟩
            obtain ⟨bb, oo, ea, lb, cz⟩ := HR.out i kz hkz
            have cz := H.cell TH.out.1.below lb cz
            subst ea
            clear lb hkz
            have q8 : decide ((i : Int) < (sx.length : Int)) = true := by simp; omega
            by_cases hk0 : kz < 0
            · skip
              have HMX := Lib.hid (MX.out kz s.hands.length wh hX0 hn2)
              have j0 := Int.emod_nonneg kz (show (s.hands.length : Int) ≠ 0 by omega)
              have j1 := Int.emod_lt_of_pos kz (show (0 : Int) < (s.hands.length : Int) by omega)
              obtain ⟨j, hj⟩ := Int.eq_ofNat_of_zero_le j0
              rw [hj] at HMX j1
              have jl : j < s.hands.length := by omega
              obtain ⟨y, hy⟩ : ∃ y, s.hands[j]? = some y := ⟨_, List.getElem?_eq_getElem jl⟩
              have hyX := List.mem_of_getElem? hy
              have hyl := TH.out.2.2.le y hyX
              have hlv := (FL.mem_hands TH.out.1.x.inv).1 hyX
              obtain ⟨b1, o1, ea, l1, cy⟩ := H.row_at (FL.Al.row TH.out.2.2) hy
              subst ea
              have GV := TH.out.1.give y hyl
              have RR := Lib.hid (FL.bd_give TH.out.1.x.inv BD.out hlv)
              have e1 : s.gvE y = 0 := by unfold FL.S.gvE; rw [hlv]; rfl
              rw [e1] at GV
              obtain ⟨yi, hyi⟩ : ∃ yi : Int, (y : Int) = yi := ⟨_, rfl⟩
              rw [hyi] at cy GV
              have GV := Lib.hid GV
              clear hj j0 hy hyX hyl l1 hlv e1 hyi
              go_wp2_with fail
              refine HMX.out.mono ?_
              rintro e wm ⟨rfl, rfl⟩
              go_wp2_with fail
              refine GV.out.mono ?_
              rintro e wg ⟨rfl, t, hb⟩
              have TG : Hid (FL.One w p R (s.gv y) B wg ∧ FL.Rw wg B nn nn 3 (FL.ints (FL.S.tkl s))) := ⟨t, TH.out.2.1.but hb (by show ¬ _ < _; omega)⟩
              clear t hb GV cy HMX
              obtain ⟨r1, r2, r3, r4⟩ := RR.out
              cases hgb : s.gvB y with
              | true =>
                rw [hgb, if_pos rfl] at r3
                have RE := Lib.hid (show FL.One w p R (s.gv y) B wg ∧ FL.Rw wg B nn nn 3 (FL.ints (FL.S.tkl (s.gv y))) ∧ FL.Bd nn gg (i + 1) (s.gv y) from ⟨TG.out.1, by rw [r2]; exact TG.out.2, ⟨r1.1, r1.2, .inr (by have := BD.out.pr; rcases this with h | h; (exfalso; rw [h.2] at hX0; simp at hX0); omega)⟩⟩)
                have hgn : (((s.gv y).gone : Nat) : Int) = (s.gone : Int) + 1 := by omega
                clear r1 r2 r3 r4 hgb RR
                go_wp2
                go_roundw
                case rel => exact ⟨i + 1, s.gv y, by omega, by rw [hgn], by go_num, RE.out⟩
                case measure => simp [intOf]; omega
              | false =>
                rw [hgb, if_neg (by decide)] at r3
                have RE := Lib.hid (show FL.One w p R (s.gv y) B wg ∧ FL.Rw wg B nn nn 3 (FL.ints (FL.S.tkl (s.gv y))) ∧ FL.Bd nn gg (i + 1) (s.gv y) from ⟨TG.out.1, by rw [r2]; exact TG.out.2, ⟨r1.1, r1.2, .inr (by have := BD.out.pr; rcases this with h | h; (exfalso; rw [h.2] at hX0; simp at hX0); omega)⟩⟩)
                have hgn : (((s.gv y).gone : Nat) : Int) = (s.gone : Int) := by omega
                clear r1 r2 r3 r4 hgb RR
                go_wp2
                go_roundw
                case rel => exact ⟨i + 1, s.gv y, by omega, by rw [hgn], by go_num, RE.out⟩
                case measure => simp [intOf]; omega
            · skip
              have HMX := Lib.hid (MX.out kz s.hands.length wh hX0 hn2)
              have j0 := Int.emod_nonneg kz (show (s.hands.length : Int) ≠ 0 by omega)
              have j1 := Int.emod_lt_of_pos kz (show (0 : Int) < (s.hands.length : Int) by omega)
              obtain ⟨j, hj⟩ := Int.eq_ofNat_of_zero_le j0
              rw [hj] at HMX j1
              have jl : j < s.hands.length := by omega
              obtain ⟨y, hy⟩ : ∃ y, s.hands[j]? = some y := ⟨_, List.getElem?_eq_getElem jl⟩
              have hyX := List.mem_of_getElem? hy
              have hyl := TH.out.2.2.le y hyX
              have hlv := (FL.mem_hands TH.out.1.x.inv).1 hyX
              obtain ⟨b1, o1, ea, l1, cy⟩ := H.row_at (FL.Al.row TH.out.2.2) hy
              subst ea
              have GV := TH.out.1.give y hyl
              have RR := Lib.hid (FL.bd_give TH.out.1.x.inv BD.out hlv)
              have e1 : s.gvE y = 0 := by unfold FL.S.gvE; rw [hlv]; rfl
              rw [e1] at GV
              obtain ⟨yi, hyi⟩ : ∃ yi : Int, (y : Int) = yi := ⟨_, rfl⟩
              rw [hyi] at cy GV
              have GV := Lib.hid GV
              clear hj j0 hy hyX hyl l1 hlv e1 hyi
              go_wp2_with fail
              refine HMX.out.mono ?_
              rintro e wm ⟨rfl, rfl⟩
              go_wp2_with fail
              refine GV.out.mono ?_
              rintro e wg ⟨rfl, t, hb⟩
              have TG : Hid (FL.One w p R (s.gv y) B wg ∧ FL.Rw wg B nn nn 3 (FL.ints (FL.S.tkl s))) := ⟨t, TH.out.2.1.but hb (by show ¬ _ < _; omega)⟩
              clear t hb GV cy HMX
              obtain ⟨r1, r2, r3, r4⟩ := RR.out
              cases hgb : s.gvB y with
              | true =>
                rw [hgb, if_pos rfl] at r3
                have RE := Lib.hid (show FL.One w p R (s.gv y) B wg ∧ FL.Rw wg B nn nn 3 (FL.ints (FL.S.tkl (s.gv y))) ∧ FL.Bd nn gg (i + 1) (s.gv y) from ⟨TG.out.1, by rw [r2]; exact TG.out.2, ⟨r1.1, r1.2, .inr (by have := BD.out.pr; rcases this with h | h; (exfalso; rw [h.2] at hX0; simp at hX0); omega)⟩⟩)
                have hgn : (((s.gv y).gone : Nat) : Int) = (s.gone : Int) + 1 := by omega
                clear r1 r2 r3 r4 hgb RR
                go_wp2
                go_roundw
                case rel => exact ⟨i + 1, s.gv y, by omega, by rw [hgn], by go_num, RE.out⟩
                case measure => simp [intOf]; omega
              | false =>
                rw [hgb, if_neg (by decide)] at r3
                have RE := Lib.hid (show FL.One w p R (s.gv y) B wg ∧ FL.Rw wg B nn nn 3 (FL.ints (FL.S.tkl (s.gv y))) ∧ FL.Bd nn gg (i + 1) (s.gv y) from ⟨TG.out.1, by rw [r2]; exact TG.out.2, ⟨r1.1, r1.2, .inr (by have := BD.out.pr; rcases this with h | h; (exfalso; rw [h.2] at hX0; simp at hX0); omega)⟩⟩)
                have hgn : (((s.gv y).gone : Nat) : Int) = (s.gone : Int) := by omega
                clear r1 r2 r3 r4 hgb RR
                go_wp2
                go_roundw
                case rel => exact ⟨i + 1, s.gv y, by omega, by rw [hgn], by go_num, RE.out⟩
                case measure => simp [intOf]; omega
          · have q8 : decide ((i : Int) < (sx.length : Int)) = false := by simp; omega
            have i0 : ¬ (i : Int) < 0 := by omega
            have HMX := Lib.hid (MX.out (i : Int) s.hands.length wh hX0 hn2)
            have j0 := Int.emod_nonneg (i : Int) (show (s.hands.length : Int) ≠ 0 by omega)
            have j1 := Int.emod_lt_of_pos (i : Int) (show (0 : Int) < (s.hands.length : Int) by omega)
            obtain ⟨j, hj⟩ := Int.eq_ofNat_of_zero_le j0
            rw [hj] at HMX j1
            have jl : j < s.hands.length := by omega
            obtain ⟨y, hy⟩ : ∃ y, s.hands[j]? = some y := ⟨_, List.getElem?_eq_getElem jl⟩
            have hyX := List.mem_of_getElem? hy
            have hyl := TH.out.2.2.le y hyX
            have hlv := (FL.mem_hands TH.out.1.x.inv).1 hyX
            obtain ⟨b1, o1, ea, l1, cy⟩ := H.row_at (FL.Al.row TH.out.2.2) hy
            subst ea
            have GV := TH.out.1.give y hyl
            have RR := Lib.hid (FL.bd_give TH.out.1.x.inv BD.out hlv)
            have e1 : s.gvE y = 0 := by unfold FL.S.gvE; rw [hlv]; rfl
            rw [e1] at GV
            obtain ⟨yi, hyi⟩ : ∃ yi : Int, (y : Int) = yi := ⟨_, rfl⟩
            rw [hyi] at cy GV
            have GV := Lib.hid GV
            clear hj j0 hy hyX hyl l1 hlv e1 hyi
            go_wp2_with fail
            refine HMX.out.mono ?_
            rintro e wm ⟨rfl, rfl⟩
            go_wp2_with fail
            refine GV.out.mono ?_
            rintro e wg ⟨rfl, t, hb⟩
            have TG : Hid (FL.One w p R (s.gv y) B wg ∧ FL.Rw wg B nn nn 3 (FL.ints (FL.S.tkl s))) := ⟨t, TH.out.2.1.but hb (by show ¬ _ < _; omega)⟩
            clear t hb GV cy HMX
            obtain ⟨r1, r2, r3, r4⟩ := RR.out
            cases hgb : s.gvB y with
            | true =>
              rw [hgb, if_pos rfl] at r3
              have RE := Lib.hid (show FL.One w p R (s.gv y) B wg ∧ FL.Rw wg B nn nn 3 (FL.ints (FL.S.tkl (s.gv y))) ∧ FL.Bd nn gg (i + 1) (s.gv y) from ⟨TG.out.1, by rw [r2]; exact TG.out.2, ⟨r1.1, r1.2, .inr (by have := BD.out.pr; rcases this with h | h; (exfalso; rw [h.2] at hX0; simp at hX0); omega)⟩⟩)
              have hgn : (((s.gv y).gone : Nat) : Int) = (s.gone : Int) + 1 := by omega
              clear r1 r2 r3 r4 hgb RR
              go_wp2
              go_roundw
              case rel => exact ⟨i + 1, s.gv y, by omega, by rw [hgn], by go_num, RE.out⟩
              case measure => simp [intOf]; omega
            | false =>
              rw [hgb, if_neg (by decide)] at r3
              have RE := Lib.hid (show FL.One w p R (s.gv y) B wg ∧ FL.Rw wg B nn nn 3 (FL.ints (FL.S.tkl (s.gv y))) ∧ FL.Bd nn gg (i + 1) (s.gv y) from ⟨TG.out.1, by rw [r2]; exact TG.out.2, ⟨r1.1, r1.2, .inr (by have := BD.out.pr; rcases this with h | h; (exfalso; rw [h.2] at hX0; simp at hX0); omega)⟩⟩)
              have hgn : (((s.gv y).gone : Nat) : Int) = (s.gone : Int) := by omega
              clear r1 r2 r3 r4 hgb RR
              go_wp2
              go_roundw
              case rel => exact ⟨i + 1, s.gv y, by omega, by rw [hgn], by go_num, RE.out⟩
              case measure => simp [intOf]; omega
        · have hX1 : s.hands.length = 0 := by omega
          have RE := Lib.hid (show FL.One w p R s B wh ∧ FL.Rw wh B nn nn 3 (FL.ints (FL.S.tkl s)) ∧ FL.Bd nn gg (i + 1) s from ⟨TH.out.1, TH.out.2.1, BD.out.n, BD.out.g, .inl ⟨he.out, List.eq_nil_of_length_eq_zero hX1⟩⟩)
          clear hX0
          rw [hX1]
          by_cases hi2 : i < sx.length
          · obtain ⟨kz, hkz⟩ : ∃ kz, sx[i]? = some kz := ⟨_, List.getElem?_eq_getElem hi2⟩
            obtain ⟨bb, oo, ea, lb, cz⟩ := HR.out i kz hkz
            have cz := H.cell TH.out.1.below lb cz
            subst ea
            clear lb hkz TH
            have q8 : decide ((i : Int) < (sx.length : Int)) = true := by simp; omega
            by_cases hk0 : kz < 0
            · go_wp2
              go_roundw
              case rel => exact ⟨i + 1, s, by omega, rfl, by go_num, RE.out⟩
              case measure => simp [intOf]; omega
            · go_wp2
              go_roundw
              case rel => exact ⟨i + 1, s, by omega, rfl, by go_num, RE.out⟩
              case measure => simp [intOf]; omega
          · have q8 : decide ((i : Int) < (sx.length : Int)) = false := by simp; omega
            have i0 : ¬ (i : Int) < 0 := by omega
            clear TH
            go_wp2
            go_roundw
            case rel => exact ⟨i + 1, s, by omega, rfl, by go_num, RE.out⟩
            case measure => simp [intOf]; omega
      | cons x r =>
        have t := FL.tk_cons HV.out e
        have TK := T0.out.1.take
        have hzl := FL.tkH_le HV.out
        have hok : H.Ok s.tkH := by rw [t.hand]; exact t.ok
        have hzs : H.slot s.tkH = x := by rw [t.hand]; exact t.slot
        have hzh : s.tkH ∈ s.tk.hands := by rw [FL.mem_hands (FL.inv_tk HV.out), FL.live_tk HV.out e]; exact .inr t.hand
        have hX0 : 0 < s.tk.hands.length := List.length_pos_of_mem hzh
        have hn2 := FL.hands_le (FL.inv_tk HV.out)
        have hg0 : s.tk.gone = s.gone := FL.gone_tk HV.out
        have BD : Hid (FL.Bd nn gg (i + 1) s.tk) := by
          refine ⟨by rw [t.len]; exact BD0.out.n, by rw [t.gens]; exact BD0.out.g, .inr ?_⟩
          rw [FL.deeds_tk HV.out e]
          rcases BD0.out.pr with h | h
          · rw [e] at h; cases h.1
          · omega
        have hxn : x < nn := by have := t.lt; have := BD0.out.n; omega
        have hxs : x < s.st.length := t.lt
        have htk := Lib.hid (FL.tkl_tk HV.out e)
        have hto := FL.took_le HV.out hxs
        have hgs := BD0.out.g
        have hg4 := hgg.out.2
        have HS := Lib.hid (fun W => slot10_any s.tkH hzl W)
        obtain ⟨e1, e2, _⟩ := H.ck_ok hok
        rw [e1, e2, hzs] at HS
        rw [t.err] at TK
        generalize s.tkH = z at *
        obtain ⟨zi, hzi⟩ : ∃ zi : Int, (z : Int) = zi := ⟨_, rfl⟩
        rw [hzi] at TK HS
        have TK := Lib.hid TK
        obtain ⟨cc, fc⟩ := T0.out.2.cell (FL.ints_at (FL.tkl_at hxs))
        obtain ⟨ci, hci⟩ : ∃ ci : Int, ((s.took x : Nat) : Int) = ci := ⟨_, rfl⟩
        have hcb : 0 ≤ ci ∧ ci ≤ 4 := by omega
        obtain ⟨cb0, cb1⟩ := hcb
        clear hzh hok hzs e1 e2 t e hto hgs hg4 hzl cc fc
        go_wp2_with fail
        refine TK.out.mono ?_
        rintro e w4 ⟨rfl, t, hb⟩
        have T1 : Hid (FL.One w p R s.tk B w4 ∧ FL.Rw w4 B nn nn 3 (FL.ints (FL.S.tkl s))) := ⟨t, T0.out.2.but hb (by show ¬ _ < _; omega)⟩
        obtain ⟨cc, fc⟩ := T1.out.2.cell (FL.ints_at (FL.tkl_at hxs))
        rw [hci] at cc
        have T5 : Hid (FL.One w p R s.tk B (w4.setCell ⟨B, x, none⟩ (.int .i64 (ci + 1))) ∧ FL.Rw (w4.setCell ⟨B, x, none⟩ (.int .i64 (ci + 1))) B nn nn 3 (FL.ints (FL.S.tkl s.tk))) := by
          refine ⟨T1.out.1.set _ (Nat.le_refl _) wB, ?_⟩
          rw [← htk.out, ← FL.ints_set, Int.natCast_add, hci]
          exact T1.out.2.set _ _
        clear t hb TK T0 T1 htk hci
        go_wp2_with fail
        refine (HS.out _).mono ?_
        rintro e w5 ⟨rfl, rfl⟩
        go_wp2_with fail
        refine T5.out.1.handlesM.mono ?_
        rintro e wh ⟨lo, lc, rfl, al, t6, hb⟩
        have TH : Hid (FL.One w p R s.tk B wh ∧ FL.Rw wh B nn nn 3 (FL.ints (FL.S.tkl s.tk)) ∧ FL.Al B s.tk.hands (.slice lo s.tk.hands.length lc) wh) := ⟨t6, T5.out.2.but (R := fun _ => False) (FL.But.below hb) id, al⟩
        clear al t6 hb T5 cc fc
        have q7 : decide ((0 : Int) < (s.tk.hands.length : Int)) = true := by simp; omega
        by_cases hi2 : i < sx.length
        · obtain ⟨kz, hkz⟩ : ∃ kz, sx[i]? = some kz := ⟨_, List.getElem?_eq_getElem hi2⟩
          obtain ⟨bb, oo, ea, lb, cz⟩ := HR.out i kz hkz
          have cz := H.cell TH.out.1.below lb cz
          subst ea
          clear lb hkz
          have q8 : decide ((i : Int) < (sx.length : Int)) = true := by simp; omega
          by_cases hk0 : kz < 0
          · have RE := Lib.hid (show FL.One w p R s.tk B wh ∧ FL.Rw wh B nn nn 3 (FL.ints (FL.S.tkl s.tk)) ∧ FL.Bd nn gg (i + 1) s.tk from ⟨TH.out.1, TH.out.2.1, BD.out⟩)
            clear TH
            go_wp2
            go_roundw
            case rel => exact ⟨i + 1, s.tk, by omega, by rw [hg0], by go_num, RE.out⟩
            case measure => simp [intOf]; omega
          · skip
            have HMX := Lib.hid (MX.out kz s.tk.hands.length wh hX0 hn2)
            have j0 := Int.emod_nonneg kz (show (s.tk.hands.length : Int) ≠ 0 by omega)
            have j1 := Int.emod_lt_of_pos kz (show (0 : Int) < (s.tk.hands.length : Int) by omega)
            obtain ⟨j, hj⟩ := Int.eq_ofNat_of_zero_le j0
            rw [hj] at HMX j1
            have jl : j < s.tk.hands.length := by omega
            obtain ⟨y, hy⟩ : ∃ y, s.tk.hands[j]? = some y := ⟨_, List.getElem?_eq_getElem jl⟩
            have hyX := List.mem_of_getElem? hy
            have hyl := TH.out.2.2.le y hyX
            have hlv := (FL.mem_hands TH.out.1.x.inv).1 hyX
            obtain ⟨b1, o1, ea, l1, cy⟩ := H.row_at (FL.Al.row TH.out.2.2) hy
            subst ea
            have GV := TH.out.1.give y hyl
            have RR := Lib.hid (FL.bd_give TH.out.1.x.inv BD.out hlv)
            have e1 : s.tk.gvE y = 0 := by unfold FL.S.gvE; rw [hlv]; rfl
            rw [e1] at GV
            obtain ⟨yi, hyi⟩ : ∃ yi : Int, (y : Int) = yi := ⟨_, rfl⟩
            rw [hyi] at cy GV
            have GV := Lib.hid GV
            clear hj j0 hy hyX hyl l1 hlv e1 hyi
            go_wp2_with fail
            refine HMX.out.mono ?_
            rintro e wm ⟨rfl, rfl⟩
            go_wp2_with fail
            refine GV.out.mono ?_
            rintro e wg ⟨rfl, t, hb⟩
            have TG : Hid (FL.One w p R (s.tk.gv y) B wg ∧ FL.Rw wg B nn nn 3 (FL.ints (FL.S.tkl s.tk))) := ⟨t, TH.out.2.1.but hb (by show ¬ _ < _; omega)⟩
            clear t hb GV cy HMX
            obtain ⟨r1, r2, r3, r4⟩ := RR.out
            cases hgb : s.tk.gvB y with
            | true =>
              rw [hgb, if_pos rfl] at r3
              have RE := Lib.hid (show FL.One w p R (s.tk.gv y) B wg ∧ FL.Rw wg B nn nn 3 (FL.ints (FL.S.tkl (s.tk.gv y))) ∧ FL.Bd nn gg (i + 1) (s.tk.gv y) from ⟨TG.out.1, by rw [r2]; exact TG.out.2, ⟨r1.1, r1.2, .inr (by have := BD.out.pr; rcases this with h | h; (exfalso; rw [h.2] at hX0; simp at hX0); omega)⟩⟩)
              have hgn : (((s.tk.gv y).gone : Nat) : Int) = (s.tk.gone : Int) + 1 := by omega
              clear r1 r2 r3 r4 hgb RR
              go_wp2
              go_roundw
              case rel => exact ⟨i + 1, s.tk.gv y, by omega, by rw [hgn, hg0], by go_num, RE.out⟩
              case measure => simp [intOf]; omega
            | false =>
              rw [hgb, if_neg (by decide)] at r3
              have RE := Lib.hid (show FL.One w p R (s.tk.gv y) B wg ∧ FL.Rw wg B nn nn 3 (FL.ints (FL.S.tkl (s.tk.gv y))) ∧ FL.Bd nn gg (i + 1) (s.tk.gv y) from ⟨TG.out.1, by rw [r2]; exact TG.out.2, ⟨r1.1, r1.2, .inr (by have := BD.out.pr; rcases this with h | h; (exfalso; rw [h.2] at hX0; simp at hX0); omega)⟩⟩)
              have hgn : (((s.tk.gv y).gone : Nat) : Int) = (s.tk.gone : Int) := by omega
              clear r1 r2 r3 r4 hgb RR
              go_wp2
              go_roundw
              case rel => exact ⟨i + 1, s.tk.gv y, by omega, by rw [hgn, hg0], by go_num, RE.out⟩
              case measure => simp [intOf]; omega
        · have q8 : decide ((i : Int) < (sx.length : Int)) = false := by simp; omega
          have i0 : ¬ (i : Int) < 0 := by omega
          have HMX := Lib.hid (MX.out (i : Int) s.tk.hands.length wh hX0 hn2)
          have j0 := Int.emod_nonneg (i : Int) (show (s.tk.hands.length : Int) ≠ 0 by omega)
          have j1 := Int.emod_lt_of_pos (i : Int) (show (0 : Int) < (s.tk.hands.length : Int) by omega)
          obtain ⟨j, hj⟩ := Int.eq_ofNat_of_zero_le j0
          rw [hj] at HMX j1
          have jl : j < s.tk.hands.length := by omega
          obtain ⟨y, hy⟩ : ∃ y, s.tk.hands[j]? = some y := ⟨_, List.getElem?_eq_getElem jl⟩
          have hyX := List.mem_of_getElem? hy
          have hyl := TH.out.2.2.le y hyX
          have hlv := (FL.mem_hands TH.out.1.x.inv).1 hyX
          obtain ⟨b1, o1, ea, l1, cy⟩ := H.row_at (FL.Al.row TH.out.2.2) hy
          subst ea
          have GV := TH.out.1.give y hyl
          have RR := Lib.hid (FL.bd_give TH.out.1.x.inv BD.out hlv)
          have e1 : s.tk.gvE y = 0 := by unfold FL.S.gvE; rw [hlv]; rfl
          rw [e1] at GV
          obtain ⟨yi, hyi⟩ : ∃ yi : Int, (y : Int) = yi := ⟨_, rfl⟩
          rw [hyi] at cy GV
          have GV := Lib.hid GV
          clear hj j0 hy hyX hyl l1 hlv e1 hyi
          go_wp2_with fail
          refine HMX.out.mono ?_
          rintro e wm ⟨rfl, rfl⟩
          go_wp2_with fail
          refine GV.out.mono ?_
          rintro e wg ⟨rfl, t, hb⟩
          have TG : Hid (FL.One w p R (s.tk.gv y) B wg ∧ FL.Rw wg B nn nn 3 (FL.ints (FL.S.tkl s.tk))) := ⟨t, TH.out.2.1.but hb (by show ¬ _ < _; omega)⟩
          clear t hb GV cy HMX
          obtain ⟨r1, r2, r3, r4⟩ := RR.out
          cases hgb : s.tk.gvB y with
          | true =>
            rw [hgb, if_pos rfl] at r3
            have RE := Lib.hid (show FL.One w p R (s.tk.gv y) B wg ∧ FL.Rw wg B nn nn 3 (FL.ints (FL.S.tkl (s.tk.gv y))) ∧ FL.Bd nn gg (i + 1) (s.tk.gv y) from ⟨TG.out.1, by rw [r2]; exact TG.out.2, ⟨r1.1, r1.2, .inr (by have := BD.out.pr; rcases this with h | h; (exfalso; rw [h.2] at hX0; simp at hX0); omega)⟩⟩)
            have hgn : (((s.tk.gv y).gone : Nat) : Int) = (s.tk.gone : Int) + 1 := by omega
            clear r1 r2 r3 r4 hgb RR
            go_wp2
            go_roundw
            case rel => exact ⟨i + 1, s.tk.gv y, by omega, by rw [hgn, hg0], by go_num, RE.out⟩
            case measure => simp [intOf]; omega
          | false =>
            rw [hgb, if_neg (by decide)] at r3
            have RE := Lib.hid (show FL.One w p R (s.tk.gv y) B wg ∧ FL.Rw wg B nn nn 3 (FL.ints (FL.S.tkl (s.tk.gv y))) ∧ FL.Bd nn gg (i + 1) (s.tk.gv y) from ⟨TG.out.1, by rw [r2]; exact TG.out.2, ⟨r1.1, r1.2, .inr (by have := BD.out.pr; rcases this with h | h; (exfalso; rw [h.2] at hX0; simp at hX0); omega)⟩⟩)
            have hgn : (((s.tk.gv y).gone : Nat) : Int) = (s.tk.gone : Int) := by omega
            clear r1 r2 r3 r4 hgb RR
            go_wp2
            go_roundw
            case rel => exact ⟨i + 1, s.tk.gv y, by omega, by rw [hgn, hg0], by go_num, RE.out⟩
            case measure => simp [intOf]; omega
    · obtain rfl : i = N := by omega
      have q1 : decide ((i : Int) < (i : Int)) = false := by simp
      have BD := hT.out.2.2
      have h4 : 4 * nn * gg = i := hN.out
      obtain ⟨f1, f2, f3⟩ := FL.bound hT.out.1.x.inv hT.out.1.x.wd BD.n BD.g (by rw [h4]; exact BD.pr)
      have T0 := Lib.hid (show FL.One w p R s B wr ∧ FL.Rw wr B nn nn 3 (FL.ints (FL.S.tkl s)) from ⟨hT.out.1, hT.out.2.1⟩)
      have HC : Hid (∀ k, k < nn → wr.cell? ⟨B, k, none⟩ = some (.int .i64 gi)) := fun k hk => by
        have := (T0.out.2.cell (FL.ints_at (FL.tkl_at (s := s) (i := k) (by rw [BD.n]; exact hk)))).1
        rw [f3 k hk, hgi] at this
        exact this
      have hl0 : s.stk.length = 0 := by rw [f1]; rfl
      have hl2 : (s.those 2).length = nn := f2
      rw [f2]
      clear hT BD h4 f1 f2 f3 hlt
      go_wp2
      go_loopw [22] (fun j wr2 => ∃ k : Nat, k ≤ nn ∧ j = .int .i64 k ∧ Hid (wr2 = wr)) (fun j _ => nn - (intOf j).toNat)
      case atStart => exact ⟨0, Nat.zero_le _, rfl, rfl⟩
      case round =>
        obtain ⟨k, hk, rfl, hw⟩ := hrel
        obtain rfl := hw.out
        by_cases hlk : k < nn
        · have ck := HC.out k hlk
          have q9 : (gi != gi) = false := by simp
          have q5 : decide ((k : Int) < (nn : Int)) = true := by simp; omega
          go_wp2
          go_roundw
          case rel => exact ⟨k + 1, by omega, by go_num, trivial⟩
          case measure => simp [intOf]; omega
        · obtain rfl : k = nn := by omega
          have q5 : decide ((k : Int) < (k : Int)) = false := by simp
          have q6 : ((k : Int) == (k : Int)) = true := by simp
          clear HC
          go_wp2_with fail
          refine T0.out.1.toOn.free.mono ?_
          rintro e w5 ⟨ao, c, rfl, _, hb⟩
          rw [hl0]
          have T1 := Lib.hid (T0.out.1.on hb)
          clear hb T0
          go_wp2_with fail
          refine T1.out.toOn.withdrawn.mono ?_
          rintro e w6 ⟨ao2, c2, rfl, _, hb⟩
          rw [hl2]
          have T2 := Lib.hid (T1.out.on hb).below
          clear hb T1
          go_wp2_with fail
          refine (HK.out _ T2.out).mono ?_
          rintro e w7 ⟨rfl, hb⟩
          have T3 := Lib.hid (T2.out.trans (hb.mono T2.out.size))
          clear hb
          go_wp2
          go_ret
          exact ⟨rfl, T3.out⟩
end Go.Proofs.YtndpknkdmaojaaaDoor
