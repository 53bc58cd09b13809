/- The walk of NodeExamples. -/
import Derived.Test.YtdpaleldalplfaaPackNXs
import Derived.Test.YtdpaleldalplfaaPeel
import Derived.Test.YtdpaleldalplfaaNodeLaws2
import Derived.Test.YtdpaleldalplfaaPackNWalk
import Derived.Deep.DeepCutAuto
import Derived.Deep.CutBlock
namespace Go.Proofs.Ytdpaleldalplfaa
open Go.RowKit

def N.lb : Nat → Int
  | 0 => 8
  | k + 1 => 2 * N.lb k
theorem N.lb_bd : ∀ k, k < 21 → N.lb k ≤ 8388608 := by decide
theorem N.lb_next (k : Nat) : N.lb (k + 1) = 2 * N.lb k := rfl
/-- The texts that stand in the row of the third part. -/
def N.tl : List ByteArray := [⟨#[]⟩, ⟨#[97]⟩, ⟨#[49, 50, 51, 52, 53, 54, 55, 56, 57, 48, 49, 50, 51, 52, 53, 54]⟩, ⟨#[49, 50, 51, 52, 53, 54, 55, 56, 57, 48, 49, 50, 51, 52, 53, 54, 55]⟩, ⟨#[10, 10]⟩, ⟨#[255, 128]⟩]
theorem N.tl_short : ∀ t ∈ N.tl, t.size ≤ 17 := by decide
theorem N.enc_short (x : N.Nd) : (N.enc x).length ≤ 49 := by
  by_cases h : N.chk x = 0
  · exact (N.enc_len h).1
  · rw [N.enc_bad h]; exact Nat.zero_le _
theorem N.app_size (s t : ByteArray) : (s ++ t).size = s.size + t.size := ByteArray.size_append
set_option maxRecDepth 100000 in
set_option maxHeartbeats 8000000 in
theorem nodeExamples_walk (w : World) : Calls Try.prog 7 #[] w fun e w' => e = .returned (.bool true) ∧ Below w.heap.size w w' := by
  have HM : Hid (∀ (h : Int) (t : ByteArray) (a : Option Addr) (c : Nat) (l : List N.K) (n : Int) (W : World), (-9223372036854775808 ≤ n ∧ n < 9223372036854775808) → N.NOk W ⟨h, t, ⟨a, c, l⟩⟩ → Calls Try.prog 3 #[.agg #[.int .i64 h, .string t, .slice a l.length c], .int .i64 n] W fun e w' => e = .returned (.bool true) ∧ Below W.heap.size W w') :=
    fun h t a c l n W hn hx => nodeMatches_walk ⟨h, t, ⟨a, c, l⟩⟩ n W hx hn.1 hn.2
  have HN : Hid (∀ (s : ByteArray) (h : Int) (a : Option Addr) (c : Nat) (l : List N.K) (W : World), s.size ≤ 1000 → (-9223372036854775808 ≤ h ∧ h < 9223372036854775808) → N.ArgOk W ⟨a, c, l⟩ → Calls Try.prog 4 #[.string s, .int .i64 h, .slice a l.length c] W fun e w' => e = .returned (.bool true) ∧ Below W.heap.size W w') :=
    fun s h a c l W hs hh hr => nodeMakes_walk s h ⟨a, c, l⟩ W (by omega) hh.1 hh.2 hr
  have HE : Hid (∀ (h : Int) (t : ByteArray) (a : Option Addr) (c : Nat) (l : List N.K) (k : Int) (r : ByteArray) (b : Option Addr) (d : Nat) (m : List N.K) (W : World), N.NOk W ⟨h, t, ⟨a, c, l⟩⟩ → N.NOk W ⟨k, r, ⟨b, d, m⟩⟩ → Calls Try.prog 6 #[.agg #[.int .i64 h, .string t, .slice a l.length c], .agg #[.int .i64 k, .string r, .slice b m.length d]] W fun e w' => e = .returned (.bool true) ∧ Below W.heap.size W w') :=
    fun h t a c l k r b d m W hx hy => nodeEquals_walk ⟨h, t, ⟨a, c, l⟩⟩ ⟨k, r, ⟨b, d, m⟩⟩ W hx hy
  have HD : Hid (∀ (s : ByteArray) (W : World), s.size ≤ 1000 → Calls Try.prog 5 #[.string s] W fun e w' => e = .returned (.bool true) ∧ Below W.heap.size W w') := fun s W hs => nodeDecodes_walk s W (by omega)
  have HK := N.hAw
  have B0 : Hid (Below w.heap.size w w) := Below.refl _ _
  go_enter Try.func7, Try.ntmps7
  go_wp2
  go_loopw [1, 2, 3] (fun L M u wr => ∃ (k : Nat) (a b j : Int), L = .int .i64 a ∧ M = .int .i64 b ∧ u = .int .i64 j ∧ (k : Int) - 1 = j ∧ k ≤ 20 ∧ 8 ≤ a ∧ a ≤ N.lb k ∧ 16 ≤ b ∧ b ≤ 65536 ∧ Hid (Below w.heap.size w wr)) (fun _ _ u _ => 20 - (intOf u + 1).toNat)
  case atStart => exact ⟨0, 8, 16, -1, rfl, rfl, rfl, rfl, by omega, by omega, by decide, by omega, by omega, B0.out⟩
  case round =>
    clear B0
    obtain ⟨k, a, b, j, rfl, rfl, rfl, hj, hk, ha, hak, hb, hb2, hB⟩ := hrel
    by_cases hlk : k < 20
    · have haB : a ≤ 8388608 := Int.le_trans hak (N.lb_bd k (by omega))
      have hjl : j < 19 := by omega
      have ja : Hid (-9223372036854775808 ≤ j ∧ j < 9223372036854775808) := ⟨by omega, by omega⟩
      have A0 : Hid (8 ≤ a ∧ a ≤ 8388608 ∧ a ≤ N.lb k ∧ 16 ≤ b ∧ b ≤ 65536 ∧ -1 ≤ j ∧ j < 19 ∧ k < 20 ∧ (k : Int) - 1 = j) := ⟨ha, haB, hak, hb, hb2, by omega, hjl, hlk, hj⟩
      have b1 : Hid (-9223372036854775808 ≤ a ∧ a < 9223372036854775808) := ⟨by omega, by omega⟩
      have b2 : Hid (-9223372036854775808 ≤ b ∧ b < 9223372036854775808) := ⟨by omega, by omega⟩
      have b3 : Hid (-9223372036854775808 ≤ a - 1 ∧ a - 1 < 9223372036854775808) := ⟨by omega, by omega⟩
      have b4 : Hid (-9223372036854775808 ≤ b + 1 ∧ b + 1 < 9223372036854775808) := ⟨by omega, by omega⟩
      have b5 : Hid (-9223372036854775808 ≤ 65536 - a ∧ 65536 - a < 9223372036854775808) := ⟨by omega, by omega⟩
      have b6 : Hid (-9223372036854775808 ≤ 65537 - a ∧ 65537 - a < 9223372036854775808) := ⟨by omega, by omega⟩
      have b7 : Hid (-9223372036854775808 ≤ (65536 : Int) ∧ (65536 : Int) < 9223372036854775808) := ⟨by omega, by omega⟩
      have e1 : IntKind.i64.wrap (a - 1) = a - 1 := IntWalk.i64_in _ ⟨b3.out.1, by have := b3.out.2; omega⟩
      have e2 : IntKind.i64.wrap (b + 1) = b + 1 := IntWalk.i64_in _ ⟨b4.out.1, by have := b4.out.2; omega⟩
      have e3 : IntKind.i64.wrap (65536 - a) = 65536 - a := IntWalk.i64_in _ ⟨b5.out.1, by have := b5.out.2; omega⟩
      have e4 : IntKind.i64.wrap (65537 - a) = 65537 - a := IntWalk.i64_in _ ⟨b6.out.1, by have := b6.out.2; omega⟩
      have Z0 : Hid (N.Xl w wr []) := ⟨hB.out, fun x hx => by cases hx⟩
      clear hk ha hak hb hb2 haB hlk hj hB
      go_wp2_with fail
      refine (N.of_lit ja.out [a, a] 2 rfl (by omega) (N.Bd.cons b1.out (N.Bd.cons b1.out N.Bd.nil)) _ Z0.out).mono ?_
      rintro e w1 ⟨o1, c1, rfl, Z1⟩
      clear Z0
      go_wp2_with fail
      refine (N.of_lit ja.out [b, b] 2 rfl (by omega) (N.Bd.cons b2.out (N.Bd.cons b2.out N.Bd.nil)) _ Z1.out).mono ?_
      rintro e w2 ⟨o2, c2, rfl, Z2⟩
      clear Z1
      go_wp2_with fail
      refine (N.of_lit ja.out [a - 1, a] 2 rfl (by omega) (N.Bd.cons b3.out (N.Bd.cons b1.out N.Bd.nil)) _ Z2.out).mono ?_
      rintro e w3 ⟨o3, c3, rfl, Z3⟩
      clear Z2
      go_wp2_with fail
      refine (N.of_lit ja.out [a, b + 1] 2 rfl (by omega) (N.Bd.cons b1.out (N.Bd.cons b4.out N.Bd.nil)) _ Z3.out).mono ?_
      rintro e w4 ⟨o4, c4, rfl, Z4⟩
      clear Z3
      go_wp2_with fail
      refine (N.of_lit ja.out [a] 1 rfl (by omega) (N.Bd.cons b1.out N.Bd.nil) _ Z4.out).mono ?_
      rintro e w5 ⟨o5, c5, rfl, Z5⟩
      clear Z4
      go_wp2_with fail
      refine (N.of_lit ja.out [a, a, a, a] 4 rfl (by omega) (N.Bd.cons b1.out (N.Bd.cons b1.out (N.Bd.cons b1.out (N.Bd.cons b1.out N.Bd.nil)))) _ Z5.out).mono ?_
      rintro e w6 ⟨o6, c6, rfl, Z6⟩
      clear Z5
      go_wp2_with fail
      refine (N.of_lit ja.out [a, a, a, a, a] 5 rfl (by omega) (N.Bd.cons b1.out (N.Bd.cons b1.out (N.Bd.cons b1.out (N.Bd.cons b1.out (N.Bd.cons b1.out N.Bd.nil))))) _ Z6.out).mono ?_
      rintro e w7 ⟨o7, c7, rfl, Z7⟩
      clear Z6
      go_wp2_with fail
      refine (N.of_lit ja.out [a, 65536 - a] 2 rfl (by omega) (N.Bd.cons b1.out (N.Bd.cons b5.out N.Bd.nil)) _ Z7.out).mono ?_
      rintro e w8 ⟨o8, c8, rfl, Z8⟩
      clear Z7
      go_wp2_with fail
      refine (N.of_lit ja.out [a, 65537 - a] 2 rfl (by omega) (N.Bd.cons b1.out (N.Bd.cons b6.out N.Bd.nil)) _ Z8.out).mono ?_
      rintro e w9 ⟨o9, c9, rfl, Z9⟩
      clear Z8
      go_wp2_with fail
      refine (N.of_lit ja.out [65536, 65536] 2 rfl (by omega) (N.Bd.cons b7.out (N.Bd.cons b7.out N.Bd.nil)) _ Z9.out).mono ?_
      rintro e w10 ⟨o10, c10, rfl, Z10⟩
      clear Z9
      go_wp2_with fail
      refine (N.of_nil ja.out Z10.out).mono ?_
      rintro e w11 ⟨o11, c11, rfl, Z11⟩
      clear Z10 e1 e2 e3 e4 b2 b3 b4 b5 b6 b7
      go_upto_region 6 with (fail)
      refine N.lt_all Z11.out _ 11 rfl _ rfl (R := fun V => Code.wp _ _ _ _ V) ?_
      intro ys V hys E0
      obtain ⟨q, hq⟩ : ∃ q, w11.heap.size = q := ⟨_, rfl⟩
      rw [hq] at E0
      simp only [hq]
      clear hq Z11
      go_wp2
      go_loopw [5] (fun u wx => ∃ i : Nat, i ≤ 11 ∧ u = .int .i64 i ∧ Hid (N.Lt w q ys wx)) (fun u _ => 11 - (intOf u).toNat)
      case atStart => exact ⟨0, by omega, rfl, E0.out⟩
      case round =>
        obtain ⟨i, hi, rfl, hE⟩ := hrel
        clear E0
        by_cases hli : i < 11
        · skip
          have hi2 : (i : Int) < 11 := by omega
          obtain ⟨⟨xh, xt, xa, xc, xl⟩, hx⟩ : ∃ x, ys[i]? = some x := ⟨_, List.getElem?_eq_getElem (by omega)⟩
          obtain ⟨⟨zh, zt, za, zc, zl⟩, hz⟩ : ∃ x, ys[0]? = some x := ⟨_, List.getElem?_eq_getElem (by omega)⟩
          have HC : Hid (∀ V, N.Lt w q ys V → (V.cell? ⟨q, i * 3, none⟩ = some (.int .i64 xh) ∧ V.cell? ⟨q, i * 3 + 1, none⟩ = some (.string xt) ∧ V.cell? ⟨q, i * 3 + 2, none⟩ = some (.slice xa xl.length xc)) ∧ Hid (N.NOk V ⟨xh, xt, ⟨xa, xc, xl⟩⟩)) := fun V h => ⟨h.cell i _ hx, h.ok _ (List.mem_of_getElem? hx)⟩
          have HZ : Hid (∀ V, N.Lt w q ys V → (V.cell? ⟨q, 0, none⟩ = some (.int .i64 zh) ∧ V.cell? ⟨q, 1, none⟩ = some (.string zt) ∧ V.cell? ⟨q, 2, none⟩ = some (.slice za zl.length zc)) ∧ Hid (N.NOk V ⟨zh, zt, ⟨za, zc, zl⟩⟩)) := fun V h => ⟨by simpa using h.cell 0 _ hz, h.ok _ (List.mem_of_getElem? hz)⟩
          have I0 : Hid (i < 11) := hli
          have e1 : IntKind.i64.wrap (2 * a) = 2 * a := IntWalk.i64_in _ (by have := A0.out; omega)
          clear hx hz hi hli
          go_wp2
          go_loopw [6] (fun u wx => ∃ (m : Nat) (n : Int), u = .int .i64 n ∧ m ≤ 4 ∧ (m : Int) - 1 = n ∧ Hid (N.Lt w q ys wx)) (fun u _ => 4 - (intOf u + 1).toNat)
          case atStart => exact ⟨0, -1, rfl, by omega, rfl, hE.out⟩
          case round =>
            obtain ⟨m, n, rfl, hm, hn, hF⟩ := hrel
            clear hE
            by_cases hlm : m < 4
            · have hn3 : n < 3 := by omega
              have nB : Hid (-1 ≤ n ∧ n < 3 ∧ (m : Int) - 1 = n ∧ m < 4) := ⟨by omega, hn3, hn, hlm⟩
              clear hm hn hlm
              have e2 : IntKind.i64.wrap (n + a) = n + a := IntWalk.i64_in _ (by have := A0.out; have := nB.out; omega)
              have e3 : IntKind.i64.wrap (n + 2 * a) = n + 2 * a := IntWalk.i64_in _ (by have := A0.out; have := nB.out; omega)
              have m1 : Hid (-9223372036854775808 ≤ n ∧ n < 9223372036854775808) := by have := nB.out; exact ⟨by omega, by omega⟩
              have m2 : Hid (-9223372036854775808 ≤ n + a ∧ n + a < 9223372036854775808) := by have := nB.out; have := A0.out; exact ⟨by omega, by omega⟩
              have m3 : Hid (-9223372036854775808 ≤ n + 2 * a ∧ n + 2 * a < 9223372036854775808) := by have := nB.out; have := A0.out; exact ⟨by omega, by omega⟩
              obtain ⟨⟨x0, x1, x2⟩, ok⟩ := HC.out _ hF.out
              go_wp2_with fail
              refine (HM.out xh xt xa xc xl n _ m1.out ok.out).mono ?_
              rintro e v1 ⟨rfl, hb⟩
              have F1 := Lib.hid (hF.out.on hb)
              clear hb x0 x1 x2 ok hF
              obtain ⟨⟨x0, x1, x2⟩, ok⟩ := HC.out _ F1.out
              go_wp2_with fail
              refine (HM.out xh xt xa xc xl (n + a) _ m2.out ok.out).mono ?_
              rintro e v2 ⟨rfl, hb⟩
              have F2 := Lib.hid (F1.out.on hb)
              clear hb x0 x1 x2 ok F1
              obtain ⟨⟨x0, x1, x2⟩, ok⟩ := HC.out _ F2.out
              go_wp2_with fail
              refine (HM.out xh xt xa xc xl (n + 2 * a) _ m3.out ok.out).mono ?_
              rintro e v3 ⟨rfl, hb⟩
              have F3 := Lib.hid (F2.out.on hb)
              clear hb x0 x1 x2 ok F2
              clear e2 e3 m1 m2 m3
              have e2 : IntKind.i64.wrap (n + 1) = n + 1 := IntWalk.i64_in _ (by have := nB.out; omega)
              go_wp2
              clear e2
              go_roundw
              case rel => exact ⟨m + 1, n + 1, rfl, by have := nB.out; omega, by have := nB.out; omega, F3⟩
              case measure => have := nB.out; simp [intOf]; omega
            · obtain rfl : m = 4 := by omega
              obtain rfl : n = 3 := by omega
              clear hm hn hlm
              obtain ⟨⟨x0, x1, x2⟩, ok⟩ := HC.out _ hF.out
              obtain ⟨⟨z0, z1, z2⟩, okz⟩ := HZ.out _ hF.out
              have HS : Hid (∀ V, N.Lt w q ys V → ((V.cell? ⟨q, i * 3, none⟩ = some (.int .i64 xh) ∧ V.cell? ⟨q, i * 3 + 1, none⟩ = some (.string xt) ∧ V.cell? ⟨q, i * 3 + 2, none⟩ = some (.slice xa xl.length xc)) ∧ V.cell? ⟨q, 0, none⟩ = some (.int .i64 zh) ∧ V.cell? ⟨q, 1, none⟩ = some (.string zt) ∧ V.cell? ⟨q, 2, none⟩ = some (.slice za zl.length zc)) ∧ N.Lt w q ys V) := fun V h => ⟨⟨(HC.out V h).1, (HZ.out V h).1⟩, h⟩
              go_wp2
              go_region_held3 (fun V => ((V.cell? ⟨q, i * 3, none⟩ = some (.int .i64 xh) ∧ V.cell? ⟨q, i * 3 + 1, none⟩ = some (.string xt) ∧ V.cell? ⟨q, i * 3 + 2, none⟩ = some (.slice xa xl.length xc)) ∧ V.cell? ⟨q, 0, none⟩ = some (.int .i64 zh) ∧ V.cell? ⟨q, 1, none⟩ = some (.string zt) ∧ V.cell? ⟨q, 2, none⟩ = some (.slice za zl.length zc)) ∧ N.Lt w q ys V)
                ((refine HS.out _ ?_; first | exact hF.out.drew | (with_reducible assumption)))
                (first
                  | (go_at_call 4; (with_reducible refine (HN.out ⟨#[]⟩ j xa xc xl _ (by decide) ja.out (HC.out _ (by go_split_ands; with_reducible assumption)).2.out.s).mono ?_); rintro e v1 ⟨rfl, hb⟩; have L1 := N.Lt.on (by go_split_ands; with_reducible assumption) hb; clear hb)
                  | (go_at_call 6; (with_reducible refine (HE.out xh xt xa xc xl zh zt za zc zl _ (HC.out _ (by go_split_ands; with_reducible assumption)).2.out (HZ.out _ (by go_split_ands; with_reducible assumption)).2.out).mono ?_); rintro e v2 ⟨rfl, hb⟩; have L2 := N.Lt.on (by go_split_ands; with_reducible assumption) hb; clear hb))
              have hG : Hid (N.Lt w q ys v2) := L2
              obtain ⟨_, okG⟩ := HC.out _ hG.out
              have HEn := N.hEn' okG.out.cd
              have rG := Lib.hid okG.out.s.row
              have hsz : Hid ((⟨(N.enc (N.nd xh xt xl)).toArray⟩ : ByteArray).size ≤ 49) := by show _ ≤ _; rw [D.size_l]; exact N.enc_short _
              dsimp only at HEn rG
              generalize (⟨(N.enc (N.nd xh xt xl)).toArray⟩ : ByteArray) = s at HEn hsz
              generalize N.chk (N.nd xh xt xl) = ck at HEn
              clear x0 x1 x2 z0 z1 z2 ok okz HS okG hF HC HZ L1 L2
              go_wp2_with fail
              refine (HEn.out xa xc _ rG.out).mono ?_
              rintro e v3 ⟨rfl, hb⟩
              have G1 := Lib.hid (hG.out.on hb)
              clear hb hG rG HEn
              go_wp2_with fail
              refine (HD.out s _ (by have := hsz.out; omega)).mono ?_
              rintro e v4 ⟨rfl, hb⟩
              have G2 := Lib.hid (G1.out.on hb)
              clear hb G1
              have hs49 : s.size ≤ 49 := hsz.out
              have hs97 : Hid ((s ++ (⟨#[97]⟩ : ByteArray)).size ≤ 1000) := by show _ ≤ _; rw [N.app_size]; show s.size + 1 ≤ 1000; omega
              go_wp2_with fail
              refine (HD.out (s ++ (⟨#[97]⟩ : ByteArray)) _ hs97.out).mono ?_
              rintro e v5 ⟨rfl, hb⟩
              have G3 := Lib.hid (G2.out.on hb)
              clear hb G2
              by_cases hs0 : s.size = 0
              · obtain rfl := N.size0 hs0
                clear hs0 hsz
                go_wp2
                go_roundw
                case rel => exact ⟨i + 1, by have := I0.out; omega, by go_num, G3⟩
                case measure => have := I0.out; simp [intOf]; omega
              · obtain ⟨hq1, hq2⟩ := N.size1 hs0
                have hpos : 0 < s.size := by omega
                have hpos' : (0 : Int) < (s.size : Int) := by omega
                obtain ⟨_, hrs⟩ := N.extract_to s 1 hpos
                have hrs : Hid ((s.extract 1 s.size).size ≤ 1000) := by show _ ≤ _; have := hsz.out; omega
                go_wp2_with fail
                refine (HD.out (s.extract 1 s.size) _ hrs.out).mono ?_
                rintro e v6 ⟨rfl, hb⟩
                have G4 := Lib.hid (G3.out.on hb)
                clear hb G3 hq1 hq2 hpos hpos' hrs hs0
                go_wp2
                go_roundw
                case rel => exact ⟨i + 1, by have := I0.out; omega, by go_num, G4⟩
                case measure => have := I0.out; simp [intOf]; omega
        · obtain rfl : i = 11 := by omega
          have BE := Lib.hid hE.out.below
          have e5 : IntKind.i64.wrap (2 * a) = 2 * a := IntWalk.i64_in _ (by have := A0.out; omega)
          have e6 : IntKind.i64.wrap (4 * b) = 4 * b := IntWalk.i64_in _ (by have := A0.out; omega)
          have e7 : IntKind.i64.wrap (j + 1) = j + 1 := IntWalk.i64_in _ (by have := A0.out; omega)
          obtain ⟨d, hd⟩ : ∃ d, min (4 * b) 65536 = d := ⟨_, rfl⟩
          have hdB : Hid (16 ≤ d ∧ d ≤ 65536) := by have := A0.out; exact ⟨by omega, by omega⟩
          have hlb : Hid (N.lb (k + 1) = 2 * N.lb k) := N.lb_next k
          clear hE hi hys
          rw [show ((11 : Nat) : Int) = 11 from rfl]
          by_cases hj1 : 1 ≤ j
          · go_wp2
            clear e5 e6 e7 hd
            go_roundw
            case rel => exact ⟨k + 1, 2 * a, d, j + 1, rfl, rfl, rfl, by have := A0.out; omega, by have := A0.out; omega, by have := A0.out; omega, by have := A0.out; have := hlb.out; omega, hdB.out.1, hdB.out.2, BE⟩
            case measure => have := A0.out; simp [intOf]; omega
          · go_wp2
            clear e5 e6 e7 hd
            go_roundw
            case rel => exact ⟨k + 1, a, b, j + 1, rfl, rfl, rfl, by have := A0.out; omega, by have := A0.out; omega, by have := A0.out; omega, by have := A0.out; have := hlb.out; omega, by have := A0.out; omega, by have := A0.out; omega, BE⟩
            case measure => have := A0.out; simp [intOf]; omega
    · obtain rfl : k = 20 := by omega
      obtain rfl : j = 19 := by omega
      clear hk ha hak hb hb2 hj hlk
      go_upto_region 22 with (fail)
      refine N.ks_all hB.out N.kl _ rfl (R := fun V => Code.wp _ _ _ _ V) ?_
      intro V E0
      obtain ⟨q, hq⟩ : ∃ q, wr.heap.size = q := ⟨_, rfl⟩
      rw [hq] at E0
      simp only [hq]
      clear hq hB
      go_wp2
      go_loopw [10] (fun u wx => ∃ i : Nat, i ≤ 9 ∧ u = .int .i64 i ∧ Hid (N.Ks w q N.kl wx)) (fun u _ => 9 - (intOf u).toNat)
      case atStart => exact ⟨0, by omega, rfl, E0.out⟩
      case round =>
        obtain ⟨i, hi, rfl, hE⟩ := hrel
        clear E0
        by_cases hli : i < 9
        · have hi2 : (i : Int) < 9 := by omega
          have I0 : Hid (i < 9) := hli
          obtain ⟨p, hp⟩ : ∃ p, N.kl[i]? = some p := ⟨_, List.getElem?_eq_getElem (show i < N.kl.length from hli)⟩
          have hpf := N.kl_fit p (List.mem_of_getElem? hp)
          have HC : Hid (∀ V, N.Ks w q N.kl V → V.cell? ⟨q, i * 4, none⟩ = some (.int .u64 (p.at_ : Int)) ∧ V.cell? ⟨q, i * 4 + 1, none⟩ = some (.int .i64 p.b) ∧ V.cell? ⟨q, i * 4 + 2, none⟩ = some (.int .i64 p.r) ∧ V.cell? ⟨q, i * 4 + 3, none⟩ = some (.int .i64 p.l)) := fun V h => h.cell hp
          have hpf := Lib.hid hpf
          clear hi hli hp
          go_wp2_with fail
          refine (of12_any 1 _ _ [8, 8] _ (by decide) (N.vlit wr (N.iv [8, 8]) _)).mono ?_
          rintro e v1 ⟨v, rfl, hm⟩
          obtain ⟨g, c, hv, X1⟩ := N.Bx.new (hE.out.on ((Below.refl _ _).alloc (Nat.le_refl _) _)) hm
          subst hv
          clear hm hE
          go_upto_region 26 with (fail)
          generalize v1.alloc (.cells #[.int .i64 1, .string ⟨#[]⟩, .slice (some ⟨g, 0, none⟩) 2 c] 24) = V1 at X1 ⊢
          obtain ⟨bx, hbx⟩ : ∃ bx, v1.heap.size = bx := ⟨_, rfl⟩
          rw [hbx] at X1
          simp only [hbx]
          clear hbx
          obtain ⟨W2, hW2⟩ : ∃ W2, W2 = V1.drew := ⟨_, rfl⟩
          have X2 : Hid (N.Bx w (wr.alloc (.cells (N.iv [8, 8]).toArray 3)) q g c bx (N.ofK [8, 8] 2) W2) := by subst hW2; exact X1.out.on (Below.refl _ _).drew
          have x2 := X2.out.box.c2
          obtain ⟨k0, k1, k2, k3⟩ := HC.out _ X2.out.ks
          obtain ⟨⟨u4, f4⟩, p4⟩ := X2.out.far 4 (by decide)
          obtain ⟨⟨u5, f5⟩, p5⟩ := X2.out.far 5 (by decide)
          obtain ⟨⟨u6, f6⟩, p6⟩ := X2.out.far 6 (by decide)
          obtain ⟨⟨u7, f7⟩, p7⟩ := X2.out.far 7 (by decide)
          have X3 := Lib.hid (X2.out.put p)
          refine Pe.start (z := 7) (S := fun V => V = W2) (by kernel_rfl) (by kernel_rfl) W2 hW2 rfl (fun hHeld => ?_)
          clear hW2 X1
          refine Pe.Left.take (i := 0) (o := ?or0) (v := ?vr0) ?hir0 (by kernel_rfl) (by decide) (by kernel_rfl) (by kernel_rfl) ?hQr0 (Or.inl ⟨?war0, ?hyr0⟩) hHeld ?restr0
          case hir0 => simp only [List.getElem?_toArray, List.getElem?_cons_zero]; rfl
          case hQr0 => exact fun _ _ _ h => h
          case war0 => rfl
          case hyr0 => (intro w hSw; (try dsimp only at hSw); subst hSw; go_simp; (try with_reducible rfl))
          (try simp only [Act.put, List.setIfInBounds_toArray, List.set_cons_zero, List.set_cons_succ])
          refine Pe.Left.take (i := 1) (o := ?or1) (v := ?vr1) ?hir1 (by kernel_rfl) (by decide) (by kernel_rfl) (by kernel_rfl) ?hQr1 (Or.inl ⟨?war1, ?hyr1⟩) hHeld ?restr1
          case hir1 => simp only [List.getElem?_toArray, List.getElem?_cons_succ, List.getElem?_cons_zero]; rfl
          case hQr1 => exact fun _ _ _ h => h
          case war1 => rfl
          case hyr1 => (intro w hSw; (try dsimp only at hSw); subst hSw; go_simp; (try with_reducible rfl))
          (try simp only [Act.put, List.setIfInBounds_toArray, List.set_cons_zero, List.set_cons_succ])
          refine Pe.Left.take (i := 2) (o := ?or2) (v := ?vr2) ?hir2 (by kernel_rfl) (by decide) (by kernel_rfl) (by kernel_rfl) ?hQr2 (Or.inl ⟨?war2, ?hyr2⟩) hHeld ?restr2
          case hir2 => simp only [List.getElem?_toArray, List.getElem?_cons_succ, List.getElem?_cons_zero]; rfl
          case hQr2 => exact fun _ _ _ h => h
          case war2 => rfl
          case hyr2 => (intro w hSw; (try dsimp only at hSw); subst hSw; go_simp; (try with_reducible rfl))
          (try simp only [Act.put, List.setIfInBounds_toArray, List.set_cons_zero, List.set_cons_succ])
          refine Pe.Left.take (i := 3) (o := ?or3) (v := ?vr3) ?hir3 (by kernel_rfl) (by decide) (by kernel_rfl) (by kernel_rfl) ?hQr3 (Or.inl ⟨?war3, ?hyr3⟩) hHeld ?restr3
          case hir3 => simp only [List.getElem?_toArray, List.getElem?_cons_succ, List.getElem?_cons_zero]; rfl
          case hQr3 => exact fun _ _ _ h => h
          case war3 => rfl
          case hyr3 => (intro w hSw; (try dsimp only at hSw); subst hSw; go_simp; (try with_reducible rfl))
          (try simp only [Act.put, List.setIfInBounds_toArray, List.set_cons_zero, List.set_cons_succ])
          refine Pe.Left.take (i := 4) (o := ?or4) (v := ?vr4) ?hir4 (by kernel_rfl) (by decide) (by kernel_rfl) (by kernel_rfl) ?hQr4 (Or.inl ⟨?war4, ?hyr4⟩) hHeld ?restr4
          case hir4 => simp only [List.getElem?_toArray, List.getElem?_cons_succ, List.getElem?_cons_zero]; rfl
          case hQr4 => exact fun _ _ _ h => h
          case war4 => rfl
          case hyr4 => (intro w hSw; (try dsimp only at hSw); subst hSw; go_simp; (try with_reducible rfl))
          (try simp only [Act.put, List.setIfInBounds_toArray, List.set_cons_zero, List.set_cons_succ])
          refine Pe.Left.take (i := 5) (o := ?or5) (v := ?vr5) ?hir5 (by kernel_rfl) (by decide) (by kernel_rfl) (by kernel_rfl) ?hQr5 (Or.inl ⟨?war5, ?hyr5⟩) hHeld ?restr5
          case hir5 => simp only [List.getElem?_toArray, List.getElem?_cons_succ, List.getElem?_cons_zero]; rfl
          case hQr5 => exact fun _ _ _ h => h
          case war5 => rfl
          case hyr5 => (intro w hSw; (try dsimp only at hSw); subst hSw; go_simp; (try with_reducible rfl))
          (try simp only [Act.put, List.setIfInBounds_toArray, List.set_cons_zero, List.set_cons_succ])
          refine Pe.Left.take (i := 6) (o := ?or6) (v := ?vr6) ?hir6 (by kernel_rfl) (by decide) (by kernel_rfl) (by kernel_rfl) ?hQr6 (Or.inl ⟨?war6, ?hyr6⟩) hHeld ?restr6
          case hir6 => simp only [List.getElem?_toArray, List.getElem?_cons_succ, List.getElem?_cons_zero]; rfl
          case hQr6 => exact fun _ _ _ h => h
          case war6 => rfl
          case hyr6 => (intro w hSw; (try dsimp only at hSw); subst hSw; go_simp; (try with_reducible rfl))
          (try simp only [Act.put, List.setIfInBounds_toArray, List.set_cons_zero, List.set_cons_succ])
          refine Pe.Left.last (o := ?orZ) ?hirZ (by kernel_rfl) (by kernel_rfl) (fun KK hK => ?restrZ)
          case hirZ => simp only [List.getElem?_toArray, List.getElem?_cons_succ, List.getElem?_cons_zero]; rfl
          go_simp
          refine hK.out _ _ ?_
          clear hK KK hHeld
          have XF : Hid (∀ r ∈ (N.ofK [8, 8] 2).set 1 p, N.Fit r) := fun r hr => by
            rcases List.mem_or_eq_of_mem_set hr with h | rfl
            · exact N.ofK_fit _ _ (by decide) (N.Bd.cons (by omega) (N.Bd.cons (by omega) N.Bd.nil)) r h
            · exact hpf.out
          unfold N.put4 at X3
          generalize (((W2.setCell ⟨g, 4, none⟩ (.int .u64 (p.at_ : Int))).setCell ⟨g, 5, none⟩ (.int .i64 p.b)).setCell ⟨g, 6, none⟩ (.int .i64 p.r)).setCell ⟨g, 7, none⟩ (.int .i64 p.l) = W3 at X3 ⊢
          have XF := Lib.hid XF
          generalize (N.ofK [8, 8] 2).set 1 p = L at X3 XF
          clear X2 x2 k0 k1 k2 k3 f4 f5 f6 f7 p4 p5 p6 p7 HC hpf
          go_wp2_with fail
          refine (of12_any 1 _ _ [8, 8, 8] _ (by decide) (N.vlit W3 (N.iv [8, 8, 8]) _)).mono ?_
          rintro e v2 ⟨v, rfl, hm⟩
          obtain ⟨o, d, hv, _⟩ := hm.cap
          have hv : v = .slice o 3 d := hv
          subst hv
          have X4 := Lib.hid (X3.out.on (((Below.refl _ _).alloc (Nat.le_refl _) _).trans (hm.below.mono (by simp))))
          have Y4 : Hid (N.NOk v2 ⟨1, ⟨#[97]⟩, ⟨o, d, N.ofK [8, 8, 8] 3⟩⟩) := N.ok_made (by omega) (by decide) (by decide) (N.ofK_fit _ _ (by decide) (N.Bd.cons (by omega) (N.Bd.cons (by omega) (N.Bd.cons (by omega) N.Bd.nil)))) hm
          clear X3 hm
          go_upto_region 29 with (fail)
          have ha : Below v2.heap.size v2 (v2.alloc (.cells #[.int .i64 1, .string ⟨#[97]⟩, .slice o 3 d] 24)) := (Below.refl _ _).alloc (Nat.le_refl _) _
          have X5 := Lib.hid (X4.out.on ha)
          have Y5 := Lib.hid (Y4.out.on ha)
          have Z5 := Lib.hid (N.Nb.new v2 1 ⟨#[97]⟩ (.slice o 3 d) 24)
          clear X4 Y4 ha
          generalize v2.alloc (.cells #[.int .i64 1, .string ⟨#[97]⟩, .slice o 3 d] 24) = W4 at X5 Y5 Z5 ⊢
          obtain ⟨y, hy⟩ : ∃ y, v2.heap.size = y := ⟨_, rfl⟩
          rw [hy] at Z5
          simp only [hy]
          clear hy
          have hL : L.length = 2 := X5.out.len
          have x0 := X5.out.box.c0
          have x1 := X5.out.box.c1
          have x2 := X5.out.box.c2
          have A1 := HM.out 1 ⟨#[]⟩ (some ⟨g, 0, none⟩) c L 0 W4 (by omega) (X5.out.ok XF.out)
          rw [hL] at A1
          have A1 := Lib.hid A1
          clear hL
          go_wp2_with fail
          refine A1.out.mono ?_
          rintro e w5 ⟨rfl, hb⟩
          have X6 := Lib.hid (X5.out.on hb)
          have Y6 := Lib.hid (Y5.out.on hb)
          have Z6 := Lib.hid (Z5.out.below hb)
          clear A1 X5 Y5 Z5 hb x0 x1 x2
          have y0 := Z6.out.c0
          have y1 := Z6.out.c1
          have y2 := Z6.out.c2
          go_wp2_with fail
          refine (HM.out 1 ⟨#[97]⟩ o d (N.ofK [8, 8, 8] 3) (i : Int) w5 (by have := I0.out; omega) Y6.out).mono ?_
          rintro e w6 ⟨rfl, hb⟩
          have X7 := Lib.hid (X6.out.on hb)
          have Y7 := Lib.hid (Y6.out.on hb)
          have Z7 := Lib.hid (Z6.out.below hb)
          clear X6 Y6 Z6 hb y0 y1 y2
          have hL : L.length = 2 := X7.out.len
          have A1 := HE.out 1 ⟨#[]⟩ (some ⟨g, 0, none⟩) c L 1 ⟨#[97]⟩ o d (N.ofK [8, 8, 8] 3) w6 (X7.out.ok XF.out) Y7.out
          rw [hL] at A1
          have A1 := Lib.hid A1
          clear hL
          have x0 := X7.out.box.c0
          have x1 := X7.out.box.c1
          have x2 := X7.out.box.c2
          have y0 := Z7.out.c0
          have y1 := Z7.out.c1
          have y2 := Z7.out.c2
          go_wp2_with fail
          refine A1.out.mono ?_
          rintro e w7 ⟨rfl, hb⟩
          have K8 := Lib.hid (X7.out.ks.on hb)
          clear A1 X7 Y7 Z7 hb x0 x1 x2 y0 y1 y2 XF
          go_wp2
          go_roundw
          case rel => exact ⟨i + 1, by have := I0.out; omega, by go_num, K8⟩
          case measure => have := I0.out; simp [intOf]; omega
        · obtain rfl : i = 9 := by omega
          have BE := Lib.hid hE.out.below
          clear hE hi hli
          rw [show ((9 : Nat) : Int) = 9 from rfl]
          go_upto_region 32 with (fail)
          refine N.tx_all BE.out N.tl _ _ rfl (R := fun V => Code.wp _ _ _ _ V) ?_
          intro V E0
          obtain ⟨r, hr⟩ : ∃ r, wr.heap.size = r := ⟨_, rfl⟩
          rw [hr] at E0
          simp only [hr]
          clear hr BE
          go_wp2
          go_loopw [14] (fun u wx => ∃ i : Nat, i ≤ 6 ∧ u = .int .i64 i ∧ Hid (N.Tx w r N.tl wx)) (fun u _ => 6 - (intOf u).toNat)
          case atStart => exact ⟨0, by omega, rfl, E0.out⟩
          case round =>
            obtain ⟨i, hi, rfl, hE⟩ := hrel
            clear E0
            by_cases hli : i < 6
            · have hi2 : (i : Int) < 6 := by omega
              have I0 : Hid (i < 6) := hli
              obtain ⟨t, ht⟩ : ∃ t, N.tl[i]? = some t := ⟨_, List.getElem?_eq_getElem (show i < N.tl.length from hli)⟩
              have hts : Hid (t.size ≤ 17) := N.tl_short t (List.mem_of_getElem? ht)
              have HC : Hid (∀ V, N.Tx w r N.tl V → V.cell? ⟨r, i, none⟩ = some (.string t)) := fun V h => h.cell i t ht
              clear hi hli ht
              have OL : Hid (∀ V : World, N.NOk V ⟨0, t, ⟨none, 0, []⟩⟩) := fun V => N.ok_leaf t (by have := hts.out; omega) V
              have M1 : Hid (∀ V : World, Calls Try.prog 3 #[.agg #[.int .i64 0, .string t, .slice none 0 0], .int .i64 0] V fun e w' => e = .returned (.bool true) ∧ Below V.heap.size V w') := fun V => HM.out 0 t none 0 [] 0 V (by omega) (OL.out V)
              have M2 : Hid (∀ (o : Option Addr) (c : Nat) (V : World), N.NOk V ⟨0, t, ⟨o, c, N.ofK [8, 8] 2⟩⟩ → Calls Try.prog 3 #[.agg #[.int .i64 0, .string t, .slice o 2 c], .int .i64 0] V fun e w' => e = .returned (.bool true) ∧ Below V.heap.size V w') := fun o c V h => HM.out 0 t o c (N.ofK [8, 8] 2) 0 V (by omega) h
              have N1 : Hid (∀ V : World, Calls Try.prog 4 #[.string t, .int .i64 0, .slice none 0 0] V fun e w' => e = .returned (.bool true) ∧ Below V.heap.size V w') := fun V => HN.out t 0 none 0 [] V (by have := hts.out; omega) (by omega) (OL.out V).s
              have O1 := Lib.hid (N.of_two t (by have := hts.out; omega))
              have D1 : Hid (∀ V : World, Calls Try.prog 5 #[.string ((⟨#[0]⟩ : ByteArray) ++ t)] V fun e w' => e = .returned (.bool true) ∧ Below V.heap.size V w') := fun V => HD.out _ V (by rw [N.app_size]; have := hts.out; show 1 + t.size ≤ 1000; omega)
              have D2 : Hid (∀ V : World, Calls Try.prog 5 #[.string t] V fun e w' => e = .returned (.bool true) ∧ Below V.heap.size V w') := fun V => HD.out _ V (by have := hts.out; omega)
              have HS : Hid (∀ V, N.Tx w r N.tl V → V.cell? ⟨r, i, none⟩ = some (.string t) ∧ N.Tx w r N.tl V) := fun V h => ⟨HC.out V h, h⟩
              have ht17 : t.size ≤ 17 := hts.out
              have hcat : ∀ V, (Op.stringOp .add ⟨#[0]⟩ t).run Try.prog V = .ok (.string ((⟨#[0]⟩ : ByteArray) ++ t)) V := fun V => run_string_add_sum V (⟨#[0]⟩ : ByteArray) t (by show 1 + t.size ≤ _; omega)
              have x0 := HC.out _ hE.out
              clear OL HC
              go_wp2
              go_region_held3 (fun V => V.cell? ⟨r, i, none⟩ = some (.string t) ∧ N.Tx w r N.tl V)
                ((refine HS.out _ ?_; first | exact hE.out.drew | (with_reducible assumption) | exact N.Tx.on (by go_split_ands; with_reducible assumption) ((Below.refl _ _).alloc (Nat.le_refl _) _)))
                (first
                  | (go_at_call 4; (with_reducible refine (N1.out _).mono ?_); rintro e v1 ⟨rfl, hb⟩; have L1 := N.Tx.on (by go_split_ands; with_reducible assumption) hb; clear hb)
                  | (go_at_call 3; (with_reducible refine (M1.out _).mono ?_); rintro e v2 ⟨rfl, hb⟩; have L2 := N.Tx.on (by go_split_ands; with_reducible assumption) hb; clear hb)
                  | (go_at_call 38; (with_reducible refine (O1.out _ _).mono ?_); rintro e v3 ⟨o, c, rfl, ok3, hb⟩; have L3 := N.Tx.on (by go_split_ands; with_reducible assumption) hb; clear hb)
                  | (go_at_call 3; (with_reducible refine (M2.out _ _ _ ok3).mono ?_); rintro e v4 ⟨rfl, hb⟩; have L4 := N.Tx.on (by go_split_ands; with_reducible assumption) hb; clear hb)
                  | (go_at_call 5; (with_reducible refine (D1.out _).mono ?_); rintro e v5 ⟨rfl, hb⟩; have L5 := N.Tx.on (by go_split_ands; with_reducible assumption) hb; clear hb)
                  | (go_at_call 5; (with_reducible refine (D2.out _).mono ?_); rintro e v6 ⟨rfl, hb⟩; have L6 := N.Tx.on (by go_split_ands; with_reducible assumption) hb; clear hb))
              clear hcat ht17 M1 M2 N1 O1 D1 D2 HS x0 hts
              have LE : Hid (N.Tx w r N.tl v6) := L6
              clear L1 L2 L3 L4 L5 L6 ok3 hE
              go_wp2
              go_roundw
              case rel => exact ⟨i + 1, by have := I0.out; omega, by go_num, LE⟩
              case measure => have := I0.out; simp [intOf]; omega
            · obtain rfl : i = 6 := by omega
              have BT := Lib.hid hE.out.below
              clear hE hi hli
              rw [show ((6 : Nat) : Int) = 6 from rfl]
              go_wp2_with fail
              refine (HK.out _).mono ?_
              rintro e w9 ⟨rfl, hb⟩
              have KC := Lib.hid (BT.out.trans (hb.mono BT.out.size))
              clear hb
              go_wp2
              go_ret
              exact ⟨rfl, KC.out⟩
end Go.Proofs.Ytdpaleldalplfaa
