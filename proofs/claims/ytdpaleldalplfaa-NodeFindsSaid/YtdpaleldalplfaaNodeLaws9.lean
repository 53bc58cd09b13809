/- The walk of NodeFinds. -/
import Derived.Test.YtdpaleldalplfaaNodeLaws0
namespace Go.Proofs.Ytdpaleldalplfaa
open Go.RowKit

/-- A node and a measure, each in a box. -/
structure N.F1 (w : World) (bx bm : Nat) (h : Int) (t : ByteArray) (v : Value) (a b c : Int) (W : World) : Prop where
  below : Below w.heap.size w W
  x : N.Nb W bx h t v
  m : M.Own W bm a b c
theorem N.F1.on {w : World} {bx bm : Nat} {h : Int} {t : ByteArray} {v : Value} {a b c : Int} {W W' : World} (s : N.F1 w bx bm h t v a b c W) (hb : Below W.heap.size W W') : N.F1 w bx bm h t v a b c W' := ⟨s.below.trans (hb.mono s.below.size), s.x.below hb, s.m.below hb⟩
theorem N.fd_none {x : N.Nd} (hx : N.chk x ≠ 0 ∨ x.h = 0) (f : N.K → Int) (first n : Int) : N.fdI f first x n = 0 ∧ N.fdR f first x n = 0 ∧ (N.fdE f first x n == 0) = false := by
  have he : N.fdE f first x n ≠ 0 := by
    rw [N.fdE]
    by_cases hc : N.chk x = 0
    · rw [if_pos hc, if_pos (hx.resolve_left (not_not_intro hc))]; decide
    · rw [if_neg hc]; exact hc
  exact ⟨by rw [N.fdI, if_neg he], by rw [N.fdR, if_neg he], by simpa using he⟩
/-- What finding answers at a valid inner node. -/
def N.FdIn (f : N.K → Int) (first : Int) (l : List N.K) (n I R : Int) : Prop := ∃ (k : Nat) (p : N.K), I = (k : Int) ∧ k < l.length ∧ l[k]? = some p ∧ N.sum f (l.take k) + R = n ∧ first ≤ R ∧ R < f p + first
theorem N.fd_good {h : Int} {t : ByteArray} {l : List N.K} (hc : N.chk (N.nd h t l) = 0) (h0 : ¬ h = 0) (f : N.K → Int) (first n : Int) :
    (n < first ∧ N.fdI f first (N.nd h t l) n = 0 ∧ N.fdR f first (N.nd h t l) n = 0 ∧ N.fdE f first (N.nd h t l) n = 3) ∨
    (first ≤ n ∧ N.sum f l + first ≤ n ∧ N.fdI f first (N.nd h t l) n = 0 ∧ N.fdR f first (N.nd h t l) n = 0 ∧ N.fdE f first (N.nd h t l) n = 3) ∨
    (first ≤ n ∧ n < N.sum f l + first ∧ N.FdIn f first l n (N.fdI f first (N.nd h t l) n) (N.fdR f first (N.nd h t l) n) ∧ N.fdE f first (N.nd h t l) n = 0) := by
  have he : N.fdE f first (N.nd h t l) n = if first ≤ n ∧ n < first + N.sum f l then 0 else 3 := by
    rw [N.fdE, if_pos hc, if_neg (show ¬ (N.nd h t l).h = 0 from h0)]; rfl
  by_cases hx : first ≤ n ∧ n < first + N.sum f l
  · rw [if_pos hx] at he
    refine .inr (.inr ⟨hx.1, by omega, ?_, he⟩)
    rw [N.fdI, N.fdR, if_pos he, if_pos he]
    have k := N.fnd_ok (f := f) (l := l) (n := n - first) (by omega) (by omega)
    refine ⟨(N.fnd f l (n - first)).1, l[(N.fnd f l (n - first)).1]'k.lt, rfl, k.lt, List.getElem?_eq_getElem k.lt, ?_, ?_, ?_⟩
    · have := k.sum
      show N.sum f (l.take (N.fnd f l (n - first)).1) + ((N.fnd f l (n - first)).2 + first) = n
      omega
    · have := k.rest
      show first ≤ (N.fnd f l (n - first)).2 + first
      omega
    · have := k.in_ _ (List.getElem?_eq_getElem k.lt)
      show (N.fnd f l (n - first)).2 + first < _
      omega
  · rw [if_neg hx] at he
    have hne : ¬ N.fdE f first (N.nd h t l) n = 0 := by rw [he]; decide
    have hI : N.fdI f first (N.nd h t l) n = 0 := by rw [N.fdI, if_neg hne]
    have hR : N.fdR f first (N.nd h t l) n = 0 := by rw [N.fdR, if_neg hne]
    by_cases h1 : n < first
    · exact .inl ⟨h1, hI, hR, he⟩
    · exact .inr (.inl ⟨by omega, by omega, hI, hR, he⟩)
theorem N.wh_sum (i : Nat) (l : List N.K) : N.wh i ⟨0, N.sum N.K.b l, N.sum N.K.r l, N.sum N.K.l l⟩ = N.sum (N.wh i) l := by
  match i with
  | 0 => rfl
  | 1 => rfl
  | _ + 2 => rfl
theorem N.wh_bd (i : Nat) {l : List N.K} (h : N.Sml l) : ∀ k ∈ l, 0 ≤ N.wh i k ∧ N.wh i k ≤ 65536 := by
  match i with
  | 0 => exact h.b
  | 1 => exact h.r
  | _ + 2 => exact h.l
set_option maxRecDepth 100000 in
set_option maxHeartbeats 4000000 in
theorem nodeFinds_bad (h : Int) (t : ByteArray) (ao : Option Addr) (ca : Nat) (l : List N.K) (n : Int) (w : World) (cd : N.Cd h t l) (hrow : N.Row w ao l) (hx : N.chk (N.nd h t l) ≠ 0 ∨ h = 0) (n0 : -9223372036854775808 ≤ n) (n1 : n < 9223372036854775808) :
    Calls Try.prog 10 #[.agg #[.int .i64 h, .string t, .slice ao l.length ca], .int .i64 n] w fun e w' => e = .returned (.bool true) ∧ Below w.heap.size w w' := by
  have HF : Hid (∀ (i : Nat) W, i < 3 → N.Row W ao l → ∃ E : Int, (E == 0) = false ∧ Calls Try.prog 42 #[.agg #[.int .i64 h, .string t, .slice ao l.length ca], .int .i64 (i : Int), .int .i64 n] W fun e w' => e = .returned (.tuple #[.int .i64 0, .int .i64 0, .int .i64 E]) ∧ Below W.heap.size W w') := fun i W hi hr => by
    have := lawFind12_any i hi h t ao ca l n n0 (by omega) W cd.ts cd.len hr cd.ft
    unfold N.FdEnd at this
    obtain ⟨e1, e2, e3⟩ := N.fd_none (x := N.nd h t l) hx (N.wh i) (N.wf i) n
    rw [e1, e2] at this
    exact ⟨_, e3, this⟩
  have HCk := N.hCk cd
  have HK := N.hAw
  have X1 := Lib.hid (N.Nb.new w h t (.slice ao l.length ca) 24)
  have Z1 : Hid (N.Kn w (w.alloc (.cells #[.int .i64 h, .string t, .slice ao l.length ca] 24)) [(ao, l)]) := ((N.Kn0 w).add hrow).on ((Below.refl _ _).alloc (Nat.le_refl _) _)
  have hcase : ((N.chk (N.nd h t l) != 0) = true) ∨ ((N.chk (N.nd h t l) != 0) = false ∧ h = 0) := by
    by_cases hc : N.chk (N.nd h t l) = 0
    · exact .inr ⟨by simpa using hc, hx.resolve_left (not_not_intro hc)⟩
    · exact .inl (by simpa using hc)
  generalize N.chk (N.nd h t l) = ck at *
  clear hx cd hrow n0 n1
  rcases hcase with hc' | ⟨hc', rfl⟩
  all_goals
    go_enter Try.func10, Try.ntmps10
    go_wp2_with fail
    refine (HCk.out _ _ _ Z1.out.r0).mono ?_
    rintro e w2 ⟨rfl, hb⟩
    have Z2 := Lib.hid (Z1.out.on hb)
    have X2 := Lib.hid (X1.out.below hb)
    have x0 := X2.out.c0
    clear hb Z1 X1
    go_wp2
    go_loopw [5] (fun j wr => ∃ i : Nat, i ≤ 3 ∧ j = .int .i64 i ∧ Hid (N.Kn w wr [(ao, l)]) ∧ Hid (N.Nb wr w.heap.size _ t (.slice ao l.length ca))) (fun j _ => 3 - (intOf j).toNat)
    case atStart => exact ⟨0, by decide, rfl, Z2, X2⟩
    case round =>
      clear Z2 X2 x0
      obtain ⟨i, hi, rfl, hZ, hX⟩ := hrel
      have x0 := hX.out.c0
      have x1 := hX.out.c1
      have x2 := hX.out.c2
      by_cases hlt : i < 3
      · obtain ⟨E, hE, H1⟩ := HF.out i wr hlt hZ.out.r0
        have H1 := Lib.hid H1
        go_wp2_with fail
        refine H1.out.mono ?_
        rintro e w3 ⟨rfl, hb⟩
        have Z3 := Lib.hid (hZ.out.on hb)
        have X3 := Lib.hid (hX.out.below hb)
        clear hb x0 x1 x2
        go_wp2
        go_roundw
        case rel => exact ⟨i + 1, by omega, by go_num, Z3, X3⟩
        case measure => simp [intOf]; omega
      · obtain rfl : i = 3 := by omega
        go_wp2_with fail
        refine (HK.out _).mono ?_
        rintro e w3 ⟨rfl, hb⟩
        have KC := Lib.hid (hZ.out.below.trans (hb.mono hZ.out.below.size))
        clear hb
        go_wp2
        go_ret
        exact ⟨rfl, KC.out⟩
set_option maxRecDepth 100000 in
set_option maxHeartbeats 8000000 in
theorem nodeFinds_good (h : Int) (t : ByteArray) (ao : Option Addr) (ca : Nat) (l : List N.K) (n : Int) (w : World) (cd : N.Cd h t l) (hrow : N.Row w ao l) (hc : N.chk (N.nd h t l) = 0) (h0 : ¬ h = 0) (n0 : -9223372036854775808 ≤ n) (n1 : n < 9223372036854775808) :
    Calls Try.prog 10 #[.agg #[.int .i64 h, .string t, .slice ao l.length ca], .int .i64 n] w fun e w' => e = .returned (.bool true) ∧ Below w.heap.size w w' := by
  have hin : N.inP h t l := (N.inP_of hc h0).1
  have hsm := N.sml_of hin
  have l4 : l.length ≤ 4 := hsm.len
  have HF : Hid (∀ (i : Nat) W, i < 3 → N.Row W ao l → Calls Try.prog 42 #[.agg #[.int .i64 h, .string t, .slice ao l.length ca], .int .i64 (i : Int), .int .i64 n] W fun e w' => e = .returned (.tuple #[.int .i64 (N.fdI (N.wh i) (N.wf i) (N.nd h t l) n), .int .i64 (N.fdR (N.wh i) (N.wf i) (N.nd h t l) n), .int .i64 (N.fdE (N.wh i) (N.wf i) (N.nd h t l) n)]) ∧ Below W.heap.size W w') := fun i W hi hr => lawFind12_any i hi h t ao ca l n n0 (by omega) W cd.ts cd.len hr cd.ft
  have HG : Hid (∀ i : Nat, _) := fun i : Nat => N.fd_good hc h0 (N.wh i) (N.wf i) n
  have HP : Hid (∀ (i : Nat) W, i < 3 → Calls Try.prog 43 #[.agg #[.int .i64 (N.sum N.K.b l), .int .i64 (N.sum N.K.r l), .int .i64 (N.sum N.K.l l)], .int .i64 (i : Int)] W fun e w' => e = .returned (.int .i64 (N.sum (N.wh i) l)) ∧ Below W.heap.size W w') := fun i W hi => by
    have := part12_any (N.sum N.K.b l) (N.sum N.K.r l) (N.sum N.K.l l) i hi W
    rwa [N.wh_sum] at this
  have HQ : Hid (∀ (i : Nat) (p : N.K) W, i < 3 → Calls Try.prog 43 #[.agg #[.int .i64 p.b, .int .i64 p.r, .int .i64 p.l], .int .i64 (i : Int)] W fun e w' => e = .returned (.int .i64 (N.wh i p)) ∧ Below W.heap.size W w') := fun i p W hi => by
    have := part12_any p.b p.r p.l i hi W
    match i, hi with
    | 0, _ => exact this
    | 1, _ => exact this
    | 2, _ => exact this
  have HB : Hid (∀ (i j : Nat), 0 ≤ N.sum (N.wh i) (l.take j) ∧ N.sum (N.wh i) (l.take j) ≤ 1000000) := fun i j => by
    have := N.sum_bd (f := N.wh i) (l := l.take j) fun y hy => N.wh_bd i hsm y (List.mem_of_mem_take hy)
    have hl : (l.take j).length ≤ 4 := by rw [List.length_take]; omega
    omega
  have HB1 : Hid (∀ i : Nat, 0 ≤ N.sum (N.wh i) l ∧ N.sum (N.wh i) l ≤ 1000000) := fun i => by
    have := HB.out i l.length
    rwa [List.take_length] at this
  have HW : Hid (∀ (i : Nat) (p : N.K), p ∈ l → 0 ≤ N.wh i p ∧ N.wh i p ≤ 65536) := fun i p hp => N.wh_bd i hsm p hp
  have HCk : Hid (∀ W, N.Row W ao l → Calls Try.prog 15 #[.agg #[.int .i64 h, .string t, .slice ao l.length ca]] W fun e w' => e = .returned (.int .i64 0) ∧ Below W.heap.size W w') := fun W hr => by
    have := (N.hCk cd).out ao ca W hr
    rwa [hc] at this
  have HMs : Hid (∀ W, N.Row W ao l → Calls Try.prog 13 #[.agg #[.int .i64 h, .string t, .slice ao l.length ca]] W fun e w' => e = .returned (.tuple #[.agg #[.int .i64 (N.sum N.K.b l), .int .i64 (N.sum N.K.r l), .int .i64 (N.sum N.K.l l)], .int .i64 0]) ∧ Below W.heap.size W w') := fun W hr => by
    have := (N.hMs cd).out ao ca W hr
    have e0 : ¬ (N.nd h t l).h = 0 := h0
    rw [N.mB, N.mR, N.mL, if_pos hc, if_neg e0, if_pos hc, if_neg e0, if_pos hc, if_neg e0, hc] at this
    exact this
  have HK := N.hAw
  have X1 := Lib.hid (N.Nb.new w h t (.slice ao l.length ca) 24)
  have B1 : Hid (Below w.heap.size w (w.alloc (.cells #[.int .i64 h, .string t, .slice ao l.length ca] 24))) := (Below.refl _ _).alloc (Nat.le_refl _) _
  have Hr := Lib.hid hrow
  have h0' : (h == 0) = false := by simpa using h0
  generalize N.sum N.K.b l = ma at HP HMs
  generalize N.sum N.K.r l = mb at HP HMs
  generalize N.sum N.K.l l = mc at HP HMs
  clear hc hin hsm hrow cd h0
  go_enter Try.func10, Try.ntmps10
  go_wp2_with fail
  refine (HCk.out _ (Hr.out.below B1.out)).mono ?_
  rintro e w2 ⟨rfl, hb⟩
  have B2 := Lib.hid (B1.out.trans (hb.mono B1.out.size))
  have X2 := Lib.hid (X1.out.below hb)
  have x0 := X2.out.c0
  have x1 := X2.out.c1
  have x2 := X2.out.c2
  clear hb X1 B1
  go_wp2_with fail
  refine (HMs.out _ (Hr.out.below B2.out)).mono ?_
  rintro e w3 ⟨rfl, hb⟩
  have S3 : Hid (N.F1 w w.heap.size w3.heap.size h t (.slice ao l.length ca) ma mb mc (w3.alloc (.cells #[.int .i64 ma, .int .i64 mb, .int .i64 mc] 27))) := ⟨(B2.out.trans (hb.mono B2.out.size)).alloc (B2.out.trans (hb.mono B2.out.size)).size _, (X2.out.below hb).alloc _, M.Own.new w3 ma mb mc 27⟩
  clear hb x0 x1 x2 X2 B2
  go_wp2
  go_loopw [11] (fun j wr => ∃ i : Nat, i ≤ 3 ∧ j = .int .i64 i ∧ Hid (N.F1 w w.heap.size w3.heap.size h t (.slice ao l.length ca) ma mb mc wr)) (fun j _ => 3 - (intOf j).toNat)
  case atStart => exact ⟨0, by decide, rfl, S3⟩
  case round =>
    clear S3
    obtain ⟨i, hi, rfl, hS⟩ := hrel
    have x0 := hS.out.x.c0
    have x1 := hS.out.x.c1
    have x2 := hS.out.x.c2
    by_cases hlt : i < 3
    · have H1 := Lib.hid (HF.out i wr hlt (Hr.out.below hS.out.below))
      have H2 : Hid (∀ W, _) := fun W : World => HP.out i W hlt
      have H3 : Hid (∀ (p : N.K) (W : World), _) := fun (p : N.K) (W : World) => HQ.out i p W hlt
      have H4 := Lib.hid (HB.out i)
      have H5 := Lib.hid (HW.out i)
      have hb1 := HB1.out i
      have hg := HG.out i
      have hT : Hid (N.sum (N.wh i) (l.take 0) = 0) := by show _ = _; simp [N.sum]
      have hU : Hid (∀ (j : Nat) (p : N.K), l[j]? = some p → N.sum (N.wh i) (l.take (j + 1)) = N.sum (N.wh i) (l.take j) + N.wh i p) := fun j p hp => N.sum_take hp
      have hf : (N.wf i = 0 ∧ ((i : Int) == 2) = false) ∨ (N.wf i = 1 ∧ ((i : Int) == 2) = true) := by
        rcases (show i = 0 ∨ i = 1 ∨ i = 2 by omega) with rfl | rfl | rfl
        · exact .inl ⟨rfl, rfl⟩
        · exact .inl ⟨rfl, rfl⟩
        · exact .inr ⟨rfl, rfl⟩
      generalize N.fdI (N.wh i) (N.wf i) (N.nd h t l) n = I at H1 hg
      generalize N.fdR (N.wh i) (N.wf i) (N.nd h t l) n = R at H1 hg
      generalize N.fdE (N.wh i) (N.wf i) (N.nd h t l) n = E at H1 hg
      obtain ⟨F, hF⟩ : ∃ F, N.wh i = F := ⟨_, rfl⟩
      rw [hF] at H2 H3 H4 H5 hb1 hg hT hU
      obtain ⟨s1, s2⟩ := hb1
      clear hF HB HB1 HW HG HF HP HQ
      rcases hf with ⟨f1, f2⟩ | ⟨f1, f2⟩
      all_goals
        rw [f1] at hg
        clear f1
        rcases hg with ⟨g1, rfl, rfl, rfl⟩ | ⟨g1, g2, rfl, rfl, rfl⟩ | ⟨g1, g2, hI, rfl⟩
        · go_wp2_with fail
          refine H1.out.mono ?_
          rintro e w4 ⟨rfl, hb⟩
          have S4 := Lib.hid (hS.out.on hb)
          have m0 := S4.out.m.c0
          have m1 := S4.out.m.c1
          have m2 := S4.out.m.c2
          clear hb x0 x1 x2 hS H1
          go_wp2
          go_roundw
          case rel => exact ⟨i + 1, by omega, by go_num, S4⟩
          case measure => simp [intOf]; omega
        · go_wp2_with fail
          refine H1.out.mono ?_
          rintro e w4 ⟨rfl, hb⟩
          have S4 := Lib.hid (hS.out.on hb)
          have m0 := S4.out.m.c0
          have m1 := S4.out.m.c1
          have m2 := S4.out.m.c2
          clear hb x0 x1 x2 hS H1
          go_wp2_with fail
          refine (H2.out _).mono ?_
          rintro e w5 ⟨rfl, hb⟩
          have S5 := Lib.hid (S4.out.on hb)
          clear hb m0 m1 m2 S4
          generalize N.sum F l = sf at *
          (try simp only [Int.add_zero] at g2)
          have hd := decide_eq_false (Int.not_lt.2 g2)
          go_wp2
          go_roundw
          case rel => exact ⟨i + 1, by omega, by go_num, S5⟩
          case measure => simp [intOf]; omega
        · go_wp2_with fail
          refine H1.out.mono ?_
          rintro e w4 ⟨rfl, hb⟩
          have S4 := Lib.hid (hS.out.on hb)
          have m0 := S4.out.m.c0
          have m1 := S4.out.m.c1
          have m2 := S4.out.m.c2
          clear hb x0 x1 x2 hS H1
          obtain ⟨k, p, rfl, hk, hp, h6, h7, h8⟩ := hI
          go_wp2_with fail
          refine (H2.out _).mono ?_
          rintro e w5 ⟨rfl, hb⟩
          have S5 := Lib.hid (S4.out.on hb)
          have x0 := S5.out.x.c0
          have x1 := S5.out.x.c1
          have x2 := S5.out.x.c2
          clear hb m0 m1 m2 S4
          generalize N.sum F l = sf at *
          (try simp only [Int.add_zero] at g2)
          have hd := decide_eq_true g2
          have hk1 : ((k : Int) < (l.length : Int)) := by omega
          have hk2 : decide ((l.length : Int) ≤ (k : Int)) = false := decide_eq_false (by omega)
          have hk3 : decide (l.length ≤ k) = false := decide_eq_false (by omega)
          have hk4 : ¬ (l.length ≤ k) := by omega
          have hk5 : ¬ ((l.length : Int) ≤ (k : Int)) := by omega
          have HL := Lib.hid (And.intro hp (And.intro h6 (And.intro h7 h8)))
          clear hp h6 h8
          go_wp2
          go_loopw [17, 18] (fun s j wr => ∃ i : Nat, i ≤ k ∧ j = .int .i64 i ∧ s = .int .i64 (N.sum F (l.take i)) ∧ Hid (N.F1 w w.heap.size w3.heap.size h t (.slice ao l.length ca) ma mb mc wr)) (fun _ j _ => k - (intOf j).toNat)
          case atStart => exact ⟨0, Nat.zero_le _, rfl, by rw [hT.out], S5⟩
          case round =>
            clear S5 x0 x1 x2
            obtain ⟨j, hj, rfl, rfl, hS⟩ := hrel
            have x0 := hS.out.x.c0
            have x2 := hS.out.x.c2
            have hlt2 : j < l.length := by omega
            obtain ⟨y, hy, _⟩ := N.drop_cons hlt2
            obtain ⟨b1, o, e, hbl, hcs⟩ := Hr.out j y hy
            subst e
            obtain ⟨c0, c1, c2, c3⟩ := N.cell4 hS.out.below hbl hcs
            have hyb := H5.out y (List.mem_of_getElem? hy)
            have hjb := H4.out j
            have HY : Hid (∀ W, _) := fun W : World => H3.out y W
            have hN := Lib.hid (hU.out j y hy)
            obtain ⟨hyb1, hyb2⟩ := hyb
            obtain ⟨hjb1, hjb2⟩ := hjb
            by_cases hjk : j < k
            · clear hcs hy
              generalize F y = fy at *
              generalize N.sum F (l.take j) = sj at *
              go_wp2_with fail
              refine (HY.out _).mono ?_
              rintro e w6 ⟨rfl, hb⟩
              have S6 := Lib.hid (hS.out.on hb)
              clear hb
              go_wp2
              go_roundw
              case rel => exact ⟨j + 1, by omega, by go_num, by rw [hN.out], S6⟩
              case measure => simp [intOf]; omega
            · obtain rfl : j = k := by omega
              obtain rfl : y = p := by
                have := HL.out.1
                rw [hy] at this
                exact Option.some.inj this
              have h6 := HL.out.2.1
              have h8 := HL.out.2.2.2
              clear hN HL hcs hy hjk hj
              generalize F y = fy at *
              generalize N.sum F (l.take j) = sj at *
              have q6 : (sj + R != n) = false := by simp [h6]
              go_wp2_with fail
              refine (HY.out _).mono ?_
              rintro e w6 ⟨rfl, hb⟩
              have S6 := Lib.hid (hS.out.on hb)
              clear hb
              go_wp2
              go_roundw
              case rel => exact ⟨i + 1, by omega, by go_num, S6⟩
              case measure => simp [intOf]; omega
    · obtain rfl : i = 3 := by omega
      go_wp2_with fail
      refine (HK.out _).mono ?_
      rintro e wk ⟨rfl, hb⟩
      have KC := Lib.hid (hS.out.below.trans (hb.mono hS.out.below.size))
      clear hb
      go_wp2
      go_ret
      exact ⟨rfl, KC.out⟩
theorem nodeFinds_walk (x : N.NArg) (n : Int) (w : World) (hx : N.NOk w x) (n0 : -9223372036854775808 ≤ n) (n1 : n < 9223372036854775808) :
    Calls Try.prog 10 #[x.v, .int .i64 n] w fun e w' => e = .returned (.bool true) ∧ Below w.heap.size w w' := by
  have cd := hx.cd
  have hrow := hx.s.row
  obtain ⟨h, t, ao, ca, l⟩ := x
  by_cases hc : N.chk (N.nd h t l) = 0
  · by_cases h0 : h = 0
    · exact nodeFinds_bad h t ao ca l n w cd hrow (.inr h0) n0 n1
    · exact nodeFinds_good h t ao ca l n w cd hrow hc h0 n0 n1
  · exact nodeFinds_bad h t ao ca l n w cd hrow (.inl hc) n0 n1
end Go.Proofs.Ytdpaleldalplfaa
