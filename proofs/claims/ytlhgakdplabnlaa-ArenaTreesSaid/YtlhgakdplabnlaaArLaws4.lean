/- The walk of ArenaTrees, over whatever arena. -/
import Derived.Test.YtlhgakdplabnlaaArKeepM
namespace Go.Proofs.Ytlhgakdplabnlaa
open Go.RowKit

theorem Ar.blw_no {a : A13.A} (v : A13.Inv a) {n : Nat} (hb : Ar.blw a n = false) : ∀ g x, a.look g = some x → ∀ k ∈ x.ks, k.at_ ≠ n := fun g x hx k hk e => by
  have hg : g ∈ a.l.hands := (FL.mem_hands v.l).2 ((A13.has_iff v).1 (Ar.look_has hx))
  unfold Ar.blw at hb
  have h1 := List.any_eq_false.1 hb g hg
  refine h1 ?_
  unfold Ar.kd Ar.got
  rw [hx]
  exact List.any_eq_true.2 ⟨k, hk, by simpa using e⟩
theorem Ar.stale_eq {a : A13.A} {n : Nat} (h : A13.Tree Ar.ms a) : A13.Tree Ar.ms { a with st := n } := h
/-- What a deed does to a tree: nothing that is a child is freed. -/
theorem Ar.tree_op {d : Ar.Dd} {all : List Ar.I} {a : A13.A} (v : A13.Inv a) (t : A13.Tree Ar.ms a) (nb : d.kind % 8 = 6 → Ar.blw a (d.hand all) = false) : A13.Tree Ar.ms (d.op all a) := by
  cases Ar.did d all a with
  | made k e c h o z => rw [o]; exact A13.tree_al v t _
  | not k e h o => rw [o]; exact t
  | freed k e h s o =>
    rw [o]
    refine A13.tree_free v t (Ar.blw_no v (nb ?_))
    unfold Ar.Dd.opK at k
    split at k
    · cases k
    · split at k
      · assumption
      · cases k
  | read k e h s o => rw [o]; exact t
  | stale k e h s o => rw [o]; exact Ar.stale_eq t
/-- A row of children that lies in the law's own blocks. -/
theorem Ar.kept_kids {W W' : World} {L : Nat → Prop} {ao : Option Addr} {l : List N.K} (h : N.Row W ao l) (hk : Ar.Kept L W W') (hs : W.heap.size ≤ W'.heap.size) (hL : ∀ k o, ao = some ⟨k, o, none⟩ → L k) : N.Row W' ao l := fun i q hq => by
  obtain ⟨b, o, e, hlt, h0, h1, h2, h3⟩ := h i q hq
  have k : ∀ j : Nat, W'.cell? ⟨b, j, none⟩ = W.cell? ⟨b, j, none⟩ := fun j => by unfold World.cell?; rw [(hk b (hL b o e)).2]
  exact ⟨b, o, e, Nat.lt_of_lt_of_le hlt hs, (k _).trans h0, (k _).trans h1, (k _).trans h2, (k _).trans h3⟩
theorem Ar.kept_node {W W' : World} {L : Nat → Prop} {x : N.NArg} (h : N.NOk W x) (hk : Ar.Kept L W W') (hs : W.heap.size ≤ W'.heap.size) (hL : ∀ k o, x.s.a = some ⟨k, o, none⟩ → L k) : N.NOk W' x := ⟨h.h0, h.h1, h.t, ⟨Ar.kept_kids h.s.row hk hs hL, h.s.nil, h.s.fits, h.s.fit, h.s.cap⟩⟩
theorem Ar.has_look {a : A13.A} {h : Nat} (k : a.has h = true) : ∃ x, a.look h = some x := by
  unfold A13.A.has at k
  cases e : a.look h with
  | none => rw [e] at k; cases k
  | some x => exact ⟨x, rfl⟩
theorem Ar.nd_of {x : N.Nd} {t : ByteArray} (ht : t.data.toList = x.t) : N.nd x.h t x.ks = x := by unfold N.nd; rw [ht]
section
variable {O : World → Nat → A13.A → (Nat → Prop) → Prop}
theorem Ar.St.hand {w W : World} {p : Nat} {a : A13.A} {v : Value} {all pend : List Ar.I} {L : Nat → Prop} (h : Ar.St O w p a v all pend L W) (d : Ar.Dd) (hd : Ar.DOk W d) (hl : all.length ≤ 1000) :
    Calls Try.prog 13 #[d.v, v] W fun e w' => e = .returned (.int .u64 (d.hand all : Nat)) ∧ Below W.heap.size W w' := by
  obtain ⟨ao, ac, hv, hr⟩ := h.row
  rw [hv]
  exact dHandle13_any d ao ac all W hd hl (fun i q hq => by obtain ⟨b, e, h1, h2, _⟩ := hr i q hq; exact ⟨b, e, h1, h2⟩)
set_option maxRecDepth 100000 in
set_option maxHeartbeats 16000000 in
theorem arenaTrees_walk (X : Ar.Pa O) (n g : Int) (sr : Ar.Src) (w : World) (_ : -9223372036854775808 ≤ n) (_ : n < 9223372036854775808) (_ : -9223372036854775808 ≤ g) (_ : g < 9223372036854775808) (hs : Ar.ArgOk w sr) :
    Calls Try.prog 8 #[.int .i64 n, .int .i64 g, .slice sr.a sr.x.length sr.c] w fun e w' => e = .returned (.bool true) ∧ Below w.heap.size w w' := by
  have HK : Hid (∀ W, Below w.heap.size w W → Calls Try.prog 27 #[] W (fun e w' => e = .returned (.bool true) ∧ Below w.heap.size w w')) := fun W hb => (awake13_any X W).mono fun _ _ k => ⟨k.1, Ar.bt hb k.2⟩
  obtain ⟨Nn, hN, N1, N2⟩ := Ar.nn_of n 12 (by omega) (by omega)
  obtain ⟨Gn, hG, G1, G2⟩ := Ar.nn_of g 3 (by omega) (by omega)
  have M12 := Lib.hid (fun W => mod11_any n 12 (by omega) (by omega) W)
  have M3 := Lib.hid (fun W => mod11_any g 3 (by omega) (by omega) W)
  have M8 : Hid (∀ (z : Int) W, Calls Try.prog 11 #[.int .i64 z, .int .i64 8] W fun x w' => x = .returned (.int .i64 (z % 8)) ∧ W = w') := fun z W => mod11_any z 8 (by omega) (by omega) W
  have H1 := Lib.hid (X.new Nn Gn w (by omega) (by omega) (by omega) (by omega))
  have b1 : 0 ≤ n % 12 ∧ n % 12 < 12 := by omega
  have b2 : 0 ≤ g % 3 ∧ g % 3 < 3 := by omega
  rw [hN, hG] at H1
  have wn : IntKind.i64.wrap (1 + n % 12) = 1 + n % 12 := IntWalk.i64_in _ (by omega)
  have wg : IntKind.i64.wrap (1 + g % 3) = 1 + g % 3 := IntWalk.i64_in _ (by omega)
  have wu : IntKind.u64.wrap (1 + g % 3) = 1 + g % 3 := by rw [← hG]; exact H.u64_in _ (by omega)
  generalize n % 12 = nz at *
  generalize g % 3 = gz at *
  obtain ⟨sa, sc, sx⟩ := sr
  have HA : Hid (Ar.ArgOk w ⟨sa, sc, sx⟩) := hs
  have hl : sx.length ≤ 2000000000000 := hs.len
  dsimp only
  clear hs
  unfold FL.ptr at H1
  go_enter Try.func8, Try.ntmps8
  go_wp2_with fail
  refine (M12.out _).mono ?_
  rintro e w1 ⟨rfl, rfl⟩
  go_wp2_with fail
  refine (M3.out _).mono ?_
  rintro e w1 ⟨rfl, rfl⟩
  go_wp2_with fail
  refine H1.out.mono ?_
  rintro e w1 ⟨p, rfl, ho, hb⟩
  have S0 : Hid (Ar.St O w p (A13.new Nn Gn) (.slice none 0 0) [] [] (fun _ => False) w1 ∧ A13.Tree Ar.ms (A13.new Nn Gn)) :=
    ⟨Ar.St.make ho hb (fun k c => c.elim False.elim (fun c => c.1)), A13.tree_new _ _⟩
  have F0 : (A13.new Nn Gn).st = 0 := rfl
  clear ho hb H1 M12 M3 wn wg wu hN hG b1 b2
  go_wp2
  go_loopw [9, 10] (fun v j wr => ∃ (i : Nat) (a : A13.A) (all : List Ar.I), i ≤ sx.length ∧ i ≤ 40 ∧ all.length ≤ i ∧ a.st ≤ i ∧ j = .int .i64 i ∧ Hid (Ar.St O w p a v all [] (fun _ => False) wr ∧ A13.Tree Ar.ms a)) (fun _ j _ => 40 - (intOf j).toNat)
  case atStart => exact ⟨0, _, [], Nat.zero_le _, Nat.zero_le _, Nat.zero_le _, Nat.zero_le _, rfl, S0.out⟩
  case round =>
    obtain ⟨i, a, all, hi, hi4, hX, hst, rfl, hT⟩ := hrel
    clear S0 F0
    by_cases hlt : i < sx.length ∧ i < 40
    · obtain ⟨h1, h2⟩ := hlt
      have q1 : decide ((i : Int) < (sx.length : Int)) = true := by simp; omega
      have q2 : decide ((i : Int) < 40) = true := by simp; omega
      have q1' : (i : Int) < (sx.length : Int) := by omega
      obtain ⟨d, hd⟩ : ∃ d, sx[i]? = some d := ⟨_, List.getElem?_eq_getElem h1⟩
      obtain ⟨bb, oo, ea, _⟩ := (HA.out.on hT.out.1.below).row i d hd
      dsimp only at ea
      subst ea
      have HAd := Lib.hid (HA.out.deed d (List.mem_of_getElem? hd))
      have HC : Hid (∀ Z, Below w.heap.size w Z → Z.cell? ⟨bb, oo + i * 7, none⟩ = some (.int .i64 d.kind) ∧ Z.cell? ⟨bb, oo + i * 7 + 1, none⟩ = some (.string d.text) ∧ Z.cell? ⟨bb, oo + i * 7 + 2, none⟩ = some (.slice d.lo d.l.length d.lc) ∧ Z.cell? ⟨bb, oo + i * 7 + 3, none⟩ = some (.int .i64 d.x.h) ∧ Z.cell? ⟨bb, oo + i * 7 + 4, none⟩ = some (.string d.x.t) ∧ Z.cell? ⟨bb, oo + i * 7 + 5, none⟩ = some (.slice d.x.s.a d.x.s.x.length d.x.s.c) ∧ Z.cell? ⟨bb, oo + i * 7 + 6, none⟩ = some (.int .u64 (d.h : Int))) := fun Z hb => by
        obtain ⟨bb', oo', ea, _, c⟩ := (HA.out.on hb).row i d hd
        dsimp only at ea
        cases ea
        exact c
      obtain ⟨va, vc, hv, _⟩ := hT.out.1.row
      subst hv
      have MK := Lib.hid (M8.out d.kind)
      have HH := Lib.hid (hT.out.1.hand d (HAd.out.1.on hT.out.1.below) (by omega))
      have hhl : d.hand all ≤ 18446744073709551615 := Ar.hand_le HAd.out.1.h (fun i hi => (hT.out.1.hands i hi).2.2)
      have HB : Hid (∀ Z, Ar.St O w p a (.slice va all.length vc) all [] (fun _ => False) Z → Calls Try.prog 35 #[FL.ptr p, .int .u64 ((d.hand all : Nat) : Int)] Z fun e W' => e = .returned (.bool (Ar.blw a (d.hand all))) ∧ Ar.St O w p a (.slice va all.length vc) all [] (fun _ => False) W') := fun Z hZ => (below13_any X hZ (by omega) (d.hand all)).mono fun _ _ k => ⟨k.1, k.2.1⟩
      obtain ⟨sk, hsk⟩ : ∃ b : Bool, Hid ((decide (d.kind % 8 = 6) && Ar.blw a (d.hand all)) = b) := ⟨_, rfl⟩
      clear hd
      unfold Ar.Dd.v at HH
      unfold FL.ptr at HB
      go_upto_region 8 with (fail)
      go_cut [63] from 47 to 63 (fun c wx => c = .bool sk ∧ Hid (Ar.St O w p a (.slice va all.length vc) all [] (fun _ => False) wx))
      case first =>
        obtain ⟨c0, c1, c2, c3, c4, c5, c6⟩ := HC.out wr hT.out.1.below
        go_wp2_with fail
        refine (MK.out _).mono ?_
        rintro e w3 ⟨rfl, rfl⟩
        by_cases k6 : d.kind % 8 = 6
        · have hs : Ar.blw a (d.hand all) = sk := by rw [← hsk.out, decide_eq_true k6, Bool.true_and]
          rw [hs] at HB
          have n1 : (d.kind % 8 == 6) = true := by simpa using k6
          rw [k6]
          clear hsk k6 hs
          generalize d.hand all = hd at *
          go_wp2_with fail
          refine HH.out.mono ?_
          rintro e w3 ⟨rfl, hb⟩
          have S3 := Lib.hid (hT.out.1.on X hb)
          clear hb HH c0 c1 c2 c3 c4 c5 c6
          go_wp2_with fail
          refine (HB.out _ S3.out).mono ?_
          rintro e w4 ⟨rfl, S4⟩
          have S4 := Lib.hid S4
          clear HB S3
          go_wp2
          go_meet
          exact ⟨rfl, S4.out⟩
        · have m : sk = false := by rw [← hsk.out, decide_eq_false k6, Bool.false_and]
          have n1 : (d.kind % 8 == 6) = false := by simpa using k6
          have S4 := Lib.hid hT.out.1
          clear hsk HB HH
          generalize d.kind % 8 = km at *
          go_wp2
          go_meet
          exact ⟨by rw [m], S4.out⟩
      case rest =>
      obtain ⟨rfl, hS8⟩ := hcut
      have hTr := Lib.hid hT.out.2
      have hinv := Lib.hid (hT.out.1.inv X)
      clear HB HH MK
      cases sk with
      | true =>
        have F : Hid (Ar.St O w p a (.slice va all.length vc) all [] (fun _ => False) wc ∧ A13.Tree Ar.ms a) := ⟨hS8.out, hTr.out⟩
        clear hT hS8 hTr HC HAd hsk
        go_wp2
        go_roundw
        case rel => exact ⟨i + 1, a, all, by omega, by omega, by omega, by omega, by rfl, F.out⟩
        case measure => simp [intOf]; omega
      | false =>
      have hnb : Hid (d.kind % 8 = 6 → Ar.blw a (d.hand all) = false) := fun k => by
        have := hsk.out
        rw [decide_eq_true k, Bool.true_and] at this
        exact this
      have HP := Lib.hid (hS8.out.play X (by omega) d (HAd.out.1.on hS8.out.below) (by omega) (fun g o e n => HAd.out.2 g o e n))
      unfold Ar.Dd.v FL.ptr at HP
      have hOp := Ar.opH_le hinv.out HAd.out.1.h (fun i hi => (hS8.out.hands i hi).2.2)
      obtain ⟨c0, c1, c2, c3, c4, c5, c6⟩ := HC.out wc hS8.out.below
      clear hT hhl
      go_wp2_with fail
      refine HP.out.mono ?_
      rintro e w3 ⟨t, xo, xc, ht, rfl, hS3, hK3⟩
      have S3 := hS3 hOp
      have BA : Below w3.heap.size w3 (w3.alloc (.cells #[.int .i64 (d.opX all a).h, .string t, .slice xo (d.opX all a).ks.length xc] 37)) := (Below.refl _ _).alloc (Nat.le_refl _) _
      have S4 := Lib.hid (S3.on X BA)
      have stp := Ar.op_st d all a
      have C3 := Ar.did3 d all a
      have N4 := heap_alloc_new w3 (.cells #[.int .i64 (d.opX all a).h, .string t, .slice xo (d.opX all a).ks.length xc] 37)
      have htc := Lib.hid (fun (c : N.chk (d.opX all a) = 0) => Ar.chk_of (xo := xo) (xc := xc) ht c)
      have T4 := Lib.hid (Ar.tree_op hinv.out hTr.out hnb.out)
      clear hS3 S3 hK3 HP BA c0 c1 c2 c3 c4 c5 c6 ht HAd HC hS8 hTr hinv hnb hsk hOp
      generalize d.op all a = a6 at *
      generalize d.opK = K at *
      generalize d.opE all a = E at *
      generalize d.opH all a = hh at *
      generalize d.opX all a = x at *
      obtain ⟨W4, hW4⟩ : ∃ Z, w3.alloc (.cells #[.int .i64 x.h, .string t, .slice xo x.ks.length xc] 37) = Z := ⟨_, rfl⟩
      rw [hW4] at S4 N4
      go_upto_region 10 with (fail)
      obtain ⟨mk, hmk⟩ : ∃ b : Bool, Hid (decide (K = 0 ∧ E = 0) = b) := ⟨_, rfl⟩
      go_cut [81] from 76 to 81 (fun c wx => c = .bool mk ∧ wx = W4)
      case first =>
        by_cases k0 : K = 0
        · by_cases e0 : E = 0
          · have m : mk = true := by rw [← hmk.out]; exact decide_eq_true ⟨k0, e0⟩
            subst k0 e0
            clear C3 S4 htc
            go_wp2
            go_meet
            exact ⟨by rw [m], rfl⟩
          · have m : mk = false := by rw [← hmk.out]; exact decide_eq_false (fun c => e0 c.2)
            have e0' : (E == 0) = false := by simpa using e0
            subst k0
            clear C3 S4 htc
            go_wp2
            go_meet
            exact ⟨by rw [m], rfl⟩
        · have m : mk = false := by rw [← hmk.out]; exact decide_eq_false (fun c => k0 c.1)
          have k0' : (K == 0) = false := by simpa using k0
          clear C3 S4 htc
          go_wp2
          go_meet
          exact ⟨by rw [m], rfl⟩
      case rest =>
      obtain ⟨rfl, hwc⟩ := hcut
      have hwc := hwc.symm
      subst hwc
      go_upto_if 81 with (fail)
      go_cut [9] (fun v' wx => ∃ (all' : List Ar.I), all'.length ≤ i + 1 ∧ Hid (Ar.St O w p a6 v' all' [] (fun _ => False) wx))
      case first =>
        by_cases m : mk = true
        · subst m
          have c : N.chk x = 0 := by
            have := of_decide_eq_true hmk.out
            rcases C3 with ⟨_, _, c, _⟩ | ⟨k, _⟩ | ⟨⟨_, k⟩ | k | ⟨k, _⟩, _⟩
            · exact c
            · omega
            · exact absurd this.2 k
            · omega
            · omega
          have cc := Lib.hid (htc.out c)
          have n0 := Lib.cell_of_heap N4 0
          have n1 := Lib.cell_of_heap N4 1
          have n2 := Lib.cell_of_heap N4 2
          clear C3 htc c hmk
          go_wp2_with (at_builtin; refine Ar.append_known rfl _ _ rfl w.heap.size (.slice va all.length vc) all ?s1 ?s2 ⟨hh, ⟨x.h, t, ⟨xo, xc, x.ks⟩⟩⟩ 1 ?s3 ?s4 ?s5 ?_)
          case s2 => exact S4.out.own
          case s4 => omega
          case s5 => exact S4.out.below.size
          intro v' w5 g1 g2 g3
          obtain ⟨S5, _⟩ := S4.out.push X cc.out (by simpa using g1) g2 g3
          have S5 := Lib.hid S5
          clear g1 g2 g3 n0 n1 n2 S4 N4
          go_wp2
          go_meet
          exact ⟨_, by rw [List.length_append]; simp; omega, S5.out⟩
        · have m : mk = false := by simpa using m
          subst m
          have S5 := Lib.hid S4.out.drop
          clear S4 N4 C3 htc hmk
          go_wp2
          go_meet
          exact ⟨all, by omega, S5.out⟩
      case rest =>
      obtain ⟨all', hX', hS5⟩ := hcut
      clear C3 S4 N4 htc hmk
      have hinv := Lib.hid (hS5.out.inv X)
      have HL := Lib.hid (hS5.out.handles X)
      have hnl := (Ar.lens hinv.out).2.1
      have st6 : a6.st < 1000000000 := by omega
      unfold FL.ptr at HL
      go_wp2_with fail
      refine HL.out.mono ?_
      rintro e w6 ⟨ho, hc, rfl, hS6, hr6, hb6, hfr⟩
      obtain ⟨L1, hL1⟩ : ∃ L1 : Nat → Prop, L1 = fun k => False ∨ ∃ o, ho = some ⟨k, o, none⟩ ∧ wc.heap.size ≤ k := ⟨_, rfl⟩
      rw [← hL1] at hS6
      have HLL : Hid (∀ k o, ho = some ⟨k, o, none⟩ → L1 k) := by subst hL1; exact fun k o e => .inr ⟨o, e, hfr k o e⟩
      have A1 : Hid (Ar.St O w p a6 u9 all' [] L1 w6 ∧ V.Row w6 ho (H.row a6.l.hands)) := ⟨hS6, hr6⟩
      clear hS6 hr6 hb6 hfr hL1 HL hS5
      have hgot : ∀ (z : Nat) (y : N.Nd), a6.look z = some y → Ar.got a6 z = y ∧ a6.gtE z = 0 ∧ a6.gt z = a6 := fun z y e => by
        have hy := Ar.look_has e
        exact ⟨by unfold Ar.got; rw [e]; rfl, by unfold A13.A.gtE; rw [if_pos hy], A13.gt_yes hy⟩
      have hgot := Lib.hid hgot
      go_wp2
      go_loopw [16] (fun u wr => ∃ k : Nat, u = .int .i64 k ∧ k ≤ a6.l.hands.length ∧ Hid (Ar.St O w p a6 u9 all' [] L1 wr ∧ V.Row wr ho (H.row a6.l.hands))) (fun u _ => a6.l.hands.length - (intOf u).toNat)
      case atStart => exact ⟨0, rfl, Nat.zero_le _, A1.out⟩
      case round =>
        clear A1
        obtain ⟨k, rfl, hk, hB⟩ := hrel
        by_cases hkl : k < a6.l.hands.length
        · have hkl' : (k : Int) < (a6.l.hands.length : Int) := by omega
          obtain ⟨z, hz⟩ : ∃ z, a6.l.hands[k]? = some z := ⟨_, List.getElem?_eq_getElem hkl⟩
          obtain ⟨b, o, e, _, c0⟩ := H.row_at hB.out.2 hz
          subst e
          have hzm := List.mem_of_getElem? hz
          obtain ⟨y, hly⟩ := Ar.has_look (Ar.hands_has hinv.out hzm)
          obtain ⟨hchk, hkids⟩ := T4.out z y hly
          have HG := hB.out.1.get X st6 z (Ar.hands_le hinv.out hzm)
          obtain ⟨g1, g2, g3⟩ := hgot.out _ _ hly
          rw [g1, g2, g3] at HG
          unfold FL.ptr at HG
          have HG := Lib.hid HG
          have hyh : 0 ≤ y.h ∧ y.h ≤ 16 := by
            rcases N.chk_cases hchk with q | q
            · have := q.h; omega
            · have := q.h1; have := q.h2; omega
          have hkn : y.ks.length ≤ 4 := by
            rcases N.chk_cases hchk with q | q
            · rw [q.ks]; exact Nat.zero_le _
            · exact q.k4
          have w1 : IntKind.i64.wrap (y.h - 1) = y.h - 1 := IntWalk.i64_in _ (by omega)
          have hkids := Lib.hid hkids
          have hchk := Lib.hid hchk
          clear hz hzm hly g1 g2 g3
          go_wp2_with fail
          refine HG.out.mono ?_
          rintro e w7 ⟨t7, yo, yc, ht7, rfl, hS7, hK7, hN7, hz7⟩
          obtain ⟨W8, hW8⟩ : ∃ Z, w7.alloc (.cells #[.int .i64 y.h, .string t7, .slice yo y.ks.length yc] 37) = Z := ⟨_, rfl⟩
          have b8 : Below w7.heap.size w7 W8 := hW8 ▸ (Below.refl _ _).alloc (Nat.le_refl _) _
          have Y8 := heap_alloc_new w7 (.cells #[.int .i64 y.h, .string t7, .slice yo y.ks.length yc] 37)
          have z8 : W8.heap.size = w7.heap.size + 1 := by rw [← hW8]; exact World.size_alloc _ _
          rw [hW8] at Y8
          obtain ⟨L2, hL2⟩ : ∃ L2 : Nat → Prop, L2 = fun k => (L1 k ∨ ∃ o, yo = some ⟨k, o, none⟩) ∨ k = w7.heap.size := ⟨_, rfl⟩
          have S8 : Ar.St O w p a6 u9 all' [] L2 W8 := hS7.more X b8 (fun k c => by
            rw [hL2] at c
            rcases c with c | c
            · exact .inl c
            · exact .inr ⟨by omega, by omega⟩)
          have HL2 : Hid ((∀ k, L1 k → L2 k) ∧ (∀ k o', (some ⟨b, o, none⟩ : Option Addr) = some ⟨k, o', none⟩ → L2 k) ∧ (∀ k o, yo = some ⟨k, o, none⟩ → L2 k) ∧ L2 w7.heap.size) := by
            subst hL2
            exact ⟨fun k c => .inl (.inl c), fun k o' e => .inl (.inl (HLL.out k o' e)), fun k o e => .inl (.inr ⟨o, e⟩), .inr rfl⟩
          have R8 := (Ar.kept_row hB.out.2 hK7 hz7 HLL.out).below b8
          have N8 := hN7.on b8
          have HCk := check12_any y.h t7 yo yc y.ks W8 N8.cd.ts N8.cd.len N8.s.row N8.s.fits
          rw [Ar.nd_of ht7, hchk.out] at HCk
          unfold N.nv at HCk
          have HCk := Lib.hid HCk
          have A8 : Hid ((Ar.St O w p a6 u9 all' [] L2 W8 ∧ V.Row W8 (some ⟨b, o, none⟩) (H.row a6.l.hands)) ∧ W8.heap[w7.heap.size]? = some (.cells #[.int .i64 y.h, .string t7, .slice yo y.ks.length yc] 37 (0, 0)) ∧ N.NOk W8 ⟨y.h, t7, ⟨yo, yc, y.ks⟩⟩) := ⟨⟨S8, R8⟩, Y8, N8⟩
          have y0 := Lib.cell_of_heap Y8 0
          have y1 := Lib.cell_of_heap Y8 1
          have y2 := Lib.cell_of_heap Y8 2
          clear hS7 hK7 hN7 hz7 b8 Y8 S8 R8 N8 hL2 z8 ht7 HG hB c0 hchk
          go_wp2_with fail
          refine HCk.out.mono ?_
          rintro e w9 ⟨rfl, hb9⟩
          have A9 : Hid ((Ar.St O w p a6 u9 all' [] L2 w9 ∧ V.Row w9 (some ⟨b, o, none⟩) (H.row a6.l.hands)) ∧ w9.heap[w7.heap.size]? = some (.cells #[.int .i64 y.h, .string t7, .slice yo y.ks.length yc] 37 (0, 0)) ∧ N.NOk w9 ⟨y.h, t7, ⟨yo, yc, y.ks⟩⟩) := by
            have h8 := (Array.getElem?_eq_some_iff.1 A8.out.2.1).1
            exact ⟨⟨A8.out.1.1.on X hb9, A8.out.1.2.below hb9⟩, (hb9.block _ h8).trans A8.out.2.1, A8.out.2.2.on hb9⟩
          clear HCk A8 hb9 y0 y1 y2
          go_wp2
          go_loopw [19] (fun u wr => ∃ j : Nat, u = .int .i64 j ∧ j ≤ y.ks.length ∧ Hid ((Ar.St O w p a6 u9 all' [] L2 wr ∧ V.Row wr (some ⟨b, o, none⟩) (H.row a6.l.hands)) ∧ wr.heap[w7.heap.size]? = some (.cells #[.int .i64 y.h, .string t7, .slice yo y.ks.length yc] 37 (0, 0)) ∧ N.NOk wr ⟨y.h, t7, ⟨yo, yc, y.ks⟩⟩)) (fun u _ => y.ks.length - (intOf u).toNat)
          case atStart => exact ⟨0, rfl, Nat.zero_le _, A9.out⟩
          case round =>
            clear A9
            obtain ⟨j, rfl, hj, hJ⟩ := hrel
            have y0 := Lib.cell_of_heap hJ.out.2.1 0
            have y2 := Lib.cell_of_heap hJ.out.2.1 2
            by_cases hjl : j < y.ks.length
            · have hjl' : (j : Int) < (y.ks.length : Int) := by omega
              obtain ⟨q, hq⟩ : ∃ q, y.ks[j]? = some q := ⟨_, List.getElem?_eq_getElem hjl⟩
              obtain ⟨kb, ko, e, _, d0, d1, d2, d3⟩ := hJ.out.2.2.s.row j q hq
              dsimp only at e
              subst e
              obtain ⟨v, hlv, hvh, hvm⟩ := hkids.out q (List.mem_of_getElem? hq)
              unfold Ar.ms at hvm
              rw [Prod.mk.injEq, Prod.mk.injEq] at hvm
              obtain ⟨m1, m2, m3⟩ := hvm
              have hqa : q.at_ ≤ 18446744073709551615 := by have := (hJ.out.2.2.s.fits q (List.mem_of_getElem? hq)).at_; omega
              have HG := hJ.out.1.1.get X st6 q.at_ hqa
              obtain ⟨g1, g2, g3⟩ := hgot.out _ _ hlv
              rw [g1, g2, g3] at HG
              unfold FL.ptr at HG
              rw [hvh] at HG
              have HG := Lib.hid HG
              have m := Lib.hid (And.intro m1 (And.intro m2 (And.intro m3 hvh)))
              have hq := Lib.hid hq
              clear hlv g1 g2 g3 m1 m2 m3 hvh hqa
              go_wp2_with fail
              refine HG.out.mono ?_
              rintro e w10 ⟨t10, zo, zc, ht10, rfl, hS10, hK10, hN10, hz10⟩
              obtain ⟨W11, hW11⟩ : ∃ Z, w10.alloc (.cells #[.int .i64 (y.h - 1), .string t10, .slice zo v.ks.length zc] 37) = Z := ⟨_, rfl⟩
              have b11 : Below w10.heap.size w10 W11 := hW11 ▸ (Below.refl _ _).alloc (Nat.le_refl _) _
              have Y11 := heap_alloc_new w10 (.cells #[.int .i64 (y.h - 1), .string t10, .slice zo v.ks.length zc] 37)
              rw [hW11] at Y11
              have N11 := hN10.on b11
              have HM := measure12_any (y.h - 1) t10 zo zc v.ks W11 N11.cd.ts N11.cd.len N11.s.row N11.s.fits
              have hnv : N.nd (y.h - 1) t10 v.ks = v := by rw [← m.out.2.2.2]; exact Ar.nd_of ht10
              unfold N.MsEnd N.nv at HM
              rw [hnv] at HM
              have HM : Hid (Calls Try.prog 37 #[.agg #[.int .i64 (y.h - 1), .string t10, .slice zo v.ks.length zc]] W11 fun e w' => e = .returned (.tuple #[.agg #[.int .i64 q.b, .int .i64 q.r, .int .i64 q.l], .int .i64 (N.chk v)]) ∧ Below W11.heap.size W11 w') := by
                rw [← m.out.1, ← m.out.2.1, ← m.out.2.2.1]; exact HM
              have hbx := (hK10 _ HL2.out.2.2.2).2.trans hJ.out.2.1
              have A11 : Hid ((Ar.St O w p a6 u9 all' [] L2 W11 ∧ V.Row W11 (some ⟨b, o, none⟩) (H.row a6.l.hands)) ∧ W11.heap[w7.heap.size]? = some (.cells #[.int .i64 y.h, .string t7, .slice (some ⟨kb, ko, none⟩) y.ks.length yc] 37 (0, 0)) ∧ N.NOk W11 ⟨y.h, t7, ⟨some ⟨kb, ko, none⟩, yc, y.ks⟩⟩) :=
                ⟨⟨(hS10.less (fun _ c => .inl c)).on X b11, (Ar.kept_row hJ.out.1.2 hK10 hz10 HL2.out.2.1).below b11⟩, (b11.block _ (Array.getElem?_eq_some_iff.1 hbx).1).trans hbx, (Ar.kept_node hJ.out.2.2 hK10 hz10 HL2.out.2.2.1).on b11⟩
              have v0 := Lib.cell_of_heap Y11 0
              have v1 := Lib.cell_of_heap Y11 1
              have v2 := Lib.cell_of_heap Y11 2
              have Y11 := Lib.hid Y11
              clear hS10 hK10 hN10 hz10 b11 N11 hnv hbx ht10 HG hJ y0 y2 d0 d1 d2 d3
              go_wp2_with fail
              refine HM.out.mono ?_
              rintro e w12 ⟨rfl, hb12⟩
              obtain ⟨W13, hW13⟩ : ∃ Z, w12.alloc (.cells #[.int .i64 q.b, .int .i64 q.r, .int .i64 q.l] 48) = Z := ⟨_, rfl⟩
              have b13 : Below w12.heap.size w12 W13 := hW13 ▸ (Below.refl _ _).alloc (Nat.le_refl _) _
              have Y13 := heap_alloc_new w12 (.cells #[.int .i64 q.b, .int .i64 q.r, .int .i64 q.l] 48)
              rw [hW13] at Y13
              have B13 := Ar.bt hb12 b13
              have h11 := (Array.getElem?_eq_some_iff.1 A11.out.2.1).1
              have Q13 : Hid ((Ar.St O w p a6 u9 all' [] L2 W13 ∧ V.Row W13 (some ⟨b, o, none⟩) (H.row a6.l.hands)) ∧ W13.heap[w7.heap.size]? = some (.cells #[.int .i64 y.h, .string t7, .slice (some ⟨kb, ko, none⟩) y.ks.length yc] 37 (0, 0)) ∧ N.NOk W13 ⟨y.h, t7, ⟨some ⟨kb, ko, none⟩, yc, y.ks⟩⟩) :=
                ⟨⟨A11.out.1.1.on X B13, A11.out.1.2.below B13⟩, (B13.block _ h11).trans A11.out.2.1, A11.out.2.2.on B13⟩
              have v0 : W13.cell? ⟨w10.heap.size, 0, none⟩ = some (.int .i64 (y.h - 1)) := Lib.cell_of_heap ((B13.block _ (Array.getElem?_eq_some_iff.1 Y11.out).1).trans Y11.out) 0
              have y0 := Lib.cell_of_heap Q13.out.2.1 0
              have y2 := Lib.cell_of_heap Q13.out.2.1 2
              have m0 := Lib.cell_of_heap Y13 0
              have m1 := Lib.cell_of_heap Y13 1
              have m2 := Lib.cell_of_heap Y13 2
              obtain ⟨kb', ko', e, _, d0, d1, d2, d3⟩ := Q13.out.2.2.s.row j q hq.out
              dsimp only at e
              cases e
              have i1 : ∀ z : Int, (z == z) = true := fun z => by simp
              have H13 : Hid (∀ Z, Below W13.heap.size W13 Z → (Ar.St O w p a6 u9 all' [] L2 Z ∧ V.Row Z (some ⟨b, o, none⟩) (H.row a6.l.hands)) ∧ Z.heap[w7.heap.size]? = some (.cells #[.int .i64 y.h, .string t7, .slice (some ⟨kb, ko, none⟩) y.ks.length yc] 37 (0, 0)) ∧ N.NOk Z ⟨y.h, t7, ⟨some ⟨kb, ko, none⟩, yc, y.ks⟩⟩) := fun Z bd =>
                ⟨⟨Q13.out.1.1.on X bd, Q13.out.1.2.below bd⟩, (bd.block _ (Array.getElem?_eq_some_iff.1 Q13.out.2.1).1).trans Q13.out.2.1, Q13.out.2.2.on bd⟩
              clear hb12 b13 Y13 B13 h11 A11 Y11 HM v1 v2
              go_wp2
              go_quiet (fail)
              go_wp2
              go_roundw
              case rel => exact ⟨j + 1, by first | rfl | go_num, by omega, H13.out _ (Go.Proofs.Ytlhgakdplabnlaa.H.drewN (Below.refl _ _) _)⟩
              case measure => simp [intOf]; omega
            · have hje : ¬ (j : Int) < (y.ks.length : Int) := by omega
              have hjd : decide (j < y.ks.length) = false := decide_eq_false hjl
              have F := Lib.hid (And.intro (hJ.out.1.1.less HL2.out.1) hJ.out.1.2)
              clear hJ
              go_wp2
              go_roundw
              case rel => exact ⟨k + 1, by rfl, by omega, F.out⟩
              case measure => simp [intOf]; omega
        · have hge : ¬ (k : Int) < (a6.l.hands.length : Int) := by omega
          have hgd : decide (k < a6.l.hands.length) = false := decide_eq_false hkl
          have F : Hid (Ar.St O w p a6 u9 all' [] (fun _ => False) wr ∧ A13.Tree Ar.ms a6) := ⟨hB.out.1.less (fun _ c => c.elim), T4.out⟩
          clear hB
          go_wp2
          go_roundw
          case rel => exact ⟨i + 1, a6, all', by omega, by omega, hX', by omega, by rfl, F.out⟩
          case measure => simp [intOf]; omega
    · have q : decide ((i : Int) < (sx.length : Int)) = false ∨ (decide ((i : Int) < (sx.length : Int)) = true ∧ decide ((i : Int) < 40) = false) := by
        by_cases c : i < sx.length
        · exact .inr ⟨decide_eq_true (by omega), decide_eq_false (by omega)⟩
        · exact .inl (decide_eq_false (by omega))
      have BE := Lib.hid hT.out.1.below
      clear hT hlt
      rcases q with q1 | ⟨q1, q2⟩
      all_goals
        (try have z1 : decide (i < sx.length) = false := decide_eq_false (by simpa using q1))
        (try have z2 : decide (i < 40) = false := decide_eq_false (by simpa using q2))
        (try have z3 : decide (i < sx.length) = true := decide_eq_true (by simpa using q1))
        go_wp2_with fail
        refine (HK.out _ BE.out).mono ?_
        rintro e w3 ⟨rfl, hb⟩
        have B3 := Lib.hid hb
        clear hb
        go_wp2
        go_ret
        exact ⟨rfl, B3.out⟩
end
end Go.Proofs.Ytlhgakdplabnlaa
