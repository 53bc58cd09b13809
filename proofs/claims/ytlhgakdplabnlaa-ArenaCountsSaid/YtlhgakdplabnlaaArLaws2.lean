/- The walk of ArenaCounts, over whatever arena. -/
import Derived.Test.YtlhgakdplabnlaaArCnt
namespace Go.Proofs.Ytlhgakdplabnlaa
open Go.RowKit

section
variable {O : World → Nat → A13.A → (Nat → Prop) → Prop}
set_option maxRecDepth 100000 in
set_option maxHeartbeats 8000000 in
theorem arenaCounts_walk (X : Ar.Pa O) (n g : Int) (sr : Ar.Src) (w : World) (_ : -9223372036854775808 ≤ n) (_ : n < 9223372036854775808) (_ : -9223372036854775808 ≤ g) (_ : g < 9223372036854775808) (hs : Ar.ArgOk w sr) :
    Calls Try.prog 7 #[.int .i64 n, .int .i64 g, .slice sr.a sr.x.length sr.c] w fun e w' => e = .returned (.bool true) ∧ Below w.heap.size w w' := by
  have HK : Hid (∀ W, Below w.heap.size w W → Calls Try.prog 27 #[] W (fun e w' => e = .returned (.bool true) ∧ Below w.heap.size w w')) := fun W hb => (awake13_any X W).mono fun _ _ k => ⟨k.1, Ar.bt hb k.2⟩
  obtain ⟨N, hN, N1, N2⟩ := Ar.nn_of n 12 (by omega) (by omega)
  obtain ⟨G, hG, G1, G2⟩ := Ar.nn_of g 3 (by omega) (by omega)
  have M12 := Lib.hid (fun W => mod11_any n 12 (by omega) (by omega) W)
  have M3 := Lib.hid (fun W => mod11_any g 3 (by omega) (by omega) W)
  have H1 := Lib.hid (X.new N G w (by omega) (by omega) (by omega) (by omega))
  have b1 : 0 ≤ n % 12 ∧ n % 12 < 12 := by omega
  have b2 : 0 ≤ g % 3 ∧ g % 3 < 3 := by omega
  rw [hN, hG] at H1
  have wn : IntKind.i64.wrap (1 + n % 12) = 1 + n % 12 := IntWalk.i64_in _ (by omega)
  have wg : IntKind.i64.wrap (1 + g % 3) = 1 + g % 3 := IntWalk.i64_in _ (by omega)
  have wu : IntKind.u64.wrap (1 + g % 3) = 1 + g % 3 := by rw [← hG]; exact H.u64_in _ (by omega)
  generalize n % 12 = nz at *
  generalize g % 3 = gz at *
  obtain ⟨sa, sc, sx⟩ := sr
  have HA : Hid (Ar.ArgOk w ⟨sa, sc, sx⟩) := hs
  have hl : sx.length ≤ 2000000000000 := hs.len
  dsimp only
  clear hs
  unfold FL.ptr at H1
  go_enter Try.func7, Try.ntmps7
  go_wp2_with fail
  refine (M12.out _).mono ?_
  rintro e w1 ⟨rfl, rfl⟩
  go_wp2_with fail
  refine (M3.out _).mono ?_
  rintro e w1 ⟨rfl, rfl⟩
  go_wp2_with fail
  refine H1.out.mono ?_
  rintro e w1 ⟨p, rfl, ho, hb⟩
  have S0 : Hid (Ar.St O w p (A13.new N G) (.slice none 0 0) [] [] (fun k => k = w1.heap.size) (w1.alloc (.cells #[.int .i64 (1 + nz), .int .i64 0, .int .i64 0, .int .i64 0, .int .i64 0, .int .i64 0, .int .i64 0] 62))) :=
    (Ar.St.make ho hb (fun k c => c.elim False.elim (fun c => c.1))).more X ((Below.refl _ _).alloc (Nat.le_refl _) _) (fun k c => .inr (by subst c; simp))
  have C0 := Lib.hid (heap_alloc_new w1 (.cells #[.int .i64 (1 + nz), .int .i64 0, .int .i64 0, .int .i64 0, .int .i64 0, .int .i64 0, .int .i64 0] 62))
  have F0 : (A13.new N G).l.st.length = N ∧ (A13.new N G).l.gens = G ∧ (A13.new N G).al = 0 ∧ (A13.new N G).fr = 0 ∧ (A13.new N G).st = 0 := ⟨List.length_replicate, rfl, rfl, rfl, rfl⟩
  clear ho hb H1 M12 M3 wn wg wu
  go_wp2
  go_loopw [11, 13] (fun v j wr => ∃ (i : Nat) (a : A13.A) (all : List Ar.I), i ≤ sx.length ∧ i ≤ 60 ∧ all.length ≤ i ∧ a.st ≤ i ∧ j = .int .i64 i ∧ (a.l.st.length = N ∧ a.l.gens = G) ∧ Hid (Ar.St O w p a v all [] (fun k => k = w1.heap.size) wr ∧ ∃ x1 x2 x3, wr.heap[w1.heap.size]? = some (.cells #[.int .i64 (1 + nz), .int .i64 x1, .int .i64 x2, .int .i64 x3, .int .i64 (a.al : Int), .int .i64 (a.fr : Int), .int .i64 (a.st : Int)] 62 (0, 0)))) (fun _ j _ => 60 - (intOf j).toNat)
  case atStart => exact ⟨0, _, [], Nat.zero_le _, Nat.zero_le _, Nat.zero_le _, Nat.zero_le _, rfl, ⟨F0.1, F0.2.1⟩, S0.out, 0, 0, 0, C0.out⟩
  case round =>
    obtain ⟨i, a, all, hi, hi6, hX, hst, rfl, hF, hT⟩ := hrel
    clear S0 C0 F0
    by_cases hlt : i < sx.length ∧ i < 60
    · obtain ⟨h1, h2⟩ := hlt
      have q1 : decide ((i : Int) < (sx.length : Int)) = true := by simp; omega
      have q2 : decide ((i : Int) < 60) = true := by simp; omega
      obtain ⟨d, hd⟩ : ∃ d, sx[i]? = some d := ⟨_, List.getElem?_eq_getElem h1⟩
      obtain ⟨hS, x1, x2, x3, hC⟩ := hT.out
      have HAw := HA.out.on hS.below
      obtain ⟨bb, oo, ea, lb, c0, c1, c2, c3, c4, c5, c6⟩ := HAw.row i d hd
      dsimp only at ea
      subst ea
      obtain ⟨va, vc, hv, _⟩ := hS.row
      subst hv
      have HP := Lib.hid (hS.play X (by omega) d (HAw.deed d (List.mem_of_getElem? hd)).1 (by omega) (fun g o e n => (HA.out.deed d (List.mem_of_getElem? hd)).2 g o e n))
      unfold Ar.Dd.v FL.ptr at HP
      have HAd := (HAw.deed d (List.mem_of_getElem? hd)).1.h
      clear HAw hd
      go_wp2_with fail
      refine HP.out.mono ?_
      rintro e w3 ⟨t, xo, xc, ht, rfl, hS3, hK3⟩
      have hinv := hS.inv X
      have hOp := Ar.opH_le hinv (HAd) (fun i hi => (hS.hands i hi).2.2)
      have S3 := hS3 hOp
      have C3 := (hK3 _ rfl).2.trans hC
      have F6 : (d.op all a).l.st.length = N ∧ (d.op all a).l.gens = G := ⟨(Ar.op_len hinv).1.trans hF.1, (Ar.op_len hinv).2.trans hF.2⟩
      have BA : Below w3.heap.size w3 (w3.alloc (.cells #[.int .i64 (d.opX all a).h, .string t, .slice xo (d.opX all a).ks.length xc] 37)) := (Below.refl _ _).alloc (Nat.le_refl _) _
      have S4 := Lib.hid (S3.on X BA)
      have C4 := (BA.block _ (Array.getElem?_eq_some_iff.1 C3).1).trans C3
      have cn := Ar.counts hinv (hS.cnt X) hF.1 hF.2
      have hNG0 : N * G ≤ 36 := Nat.le_trans (Nat.mul_le_mul (show N ≤ 12 by omega) (show G ≤ 3 by omega)) (by decide)
      have wa : IntKind.i64.wrap ((a.al : Int) + 1) = (a.al : Int) + 1 := IntWalk.i64_in _ (by omega)
      have wf : IntKind.i64.wrap ((a.fr : Int) + 1) = (a.fr : Int) + 1 := IntWalk.i64_in _ (by omega)
      have ws : IntKind.i64.wrap ((a.st : Int) + 1) = (a.st : Int) + 1 := IntWalk.i64_in _ (by omega)
      cases Ar.did d all a with
      | made k e c h o z =>
        rw [k, e]
        have cc := Ar.chk_of (xo := xo) (xc := xc) ht c
        have n0 := Lib.cell_of_heap (heap_alloc_new w3 (.cells #[.int .i64 (d.opX all a).h, .string t, .slice xo (d.opX all a).ks.length xc] 37)) 0
        have n1 := Lib.cell_of_heap (heap_alloc_new w3 (.cells #[.int .i64 (d.opX all a).h, .string t, .slice xo (d.opX all a).ks.length xc] 37)) 1
        have n2 := Lib.cell_of_heap (heap_alloc_new w3 (.cells #[.int .i64 (d.opX all a).h, .string t, .slice xo (d.opX all a).ks.length xc] 37)) 2
        clear h
        go_wp2_with (at_builtin; refine Ar.append_known rfl _ _ rfl w.heap.size (.slice va all.length vc) all ?s1 ?s2 ⟨d.opH all a, ⟨(d.opX all a).h, t, ⟨xo, xc, (d.opX all a).ks⟩⟩⟩ 1 ?s3 ?s4 ?s5 ?_)
        case s1 => rfl
        case s2 => exact S4.out.own
        case s3 => rw [World.size_alloc]; rfl
        case s4 => omega
        case s5 => exact S4.out.below.size
        intro v' w5 g1 g2 g3
        obtain ⟨S5, K5⟩ := S4.out.push X cc (by simpa using g1) g2 (by rw [World.size_alloc]; exact g3)
        have C5 := (K5 _ rfl).2.trans C4
        obtain ⟨va', vc', hv', _⟩ := S5.row
        subst hv'
        have hX' : (all ++ [(⟨d.opH all a, ⟨(d.opX all a).h, t, ⟨xo, xc, (d.opX all a).ks⟩⟩⟩ : Ar.I)]).length ≤ i + 1 := by simp; omega
        clear g1 g2 g3 K5 cc n0 n1 n2
        have u4 := Lib.cell_of_heap C5 4
        have uf : ∀ j, w5.frozen? ⟨w1.heap.size, j, none⟩ = false := fun j => frozen_of_row _ _ _ _ _ C5
        generalize all ++ [(⟨d.opH all a, ⟨(d.opX all a).h, t, ⟨xo, xc, (d.opX all a).ks⟩⟩⟩ : Ar.I)] = all' at S5 hX' ⊢
        have T6 : Hid (Ar.St O w p (d.op all a) (.slice va' all'.length vc') all' [] (fun k => k = w1.heap.size) (w5.setCell ⟨w1.heap.size, 4, none⟩ (.int .i64 ((a.al : Int) + 1)))) := S5.put X rfl 4 _
        have C6 : (w5.setCell ⟨w1.heap.size, 4, none⟩ (.int .i64 ((a.al : Int) + 1))).heap[w1.heap.size]? = some (.cells #[.int .i64 (1 + nz), .int .i64 x1, .int .i64 x2, .int .i64 x3, .int .i64 ((d.op all a).al : Int), .int .i64 ((d.op all a).fr : Int), .int .i64 ((d.op all a).st : Int)] 62 (0, 0)) := by
          rw [o]; unfold A13.al; rw [if_pos z, FL.set_obj C5 4 _]; rfl
        obtain ⟨W6, hW6⟩ : ∃ V, (w5.setCell ⟨w1.heap.size, 4, none⟩ (.int .i64 ((a.al : Int) + 1))) = V := ⟨_, rfl⟩
        rw [hW6] at T6 C6
        have st6 : (d.op all a).st ≤ i + 1 := by have := Ar.op_st d all a; omega
        generalize d.op all a = a6 at T6 C6 F6 st6
        clear S5 C5 S3 C3 S4 C4 BA hS3 hK3 hC hT HP cn hS c0 c1 c2 c3 c4 c5 c6
        have cnt := Ar.counts (T6.out.inv X) (T6.out.cnt X) F6.1 F6.2
        have HS6 := Ar.St.stats X T6.out
        have e7 : Ar.st7 a6 = .agg #[.int .i64 (1 + nz), .int .i64 (a6.l.stk.length : Int), .int .i64 (a6.l.hands.length : Int), .int .i64 ((a6.l.those 2).length : Int), .int .i64 (a6.al : Int), .int .i64 (a6.fr : Int), .int .i64 (a6.st : Int)] := by
          unfold Ar.st7
          rw [F6.1, hN, cnt.1]; rfl
        rw [e7] at HS6
        have HS6 := Lib.hid HS6
        have HL6 : Hid (∀ V, Below W6.heap.size W6 V → Calls Try.prog 29 #[.pointer (some ⟨p, 0, none⟩)] V fun e W' => ∃ ao c bo d, e = .returned (.tuple #[.slice ao a6.l.stk.length c, .slice bo (a6.l.those 2).length d]) ∧ Below V.heap.size V W') := fun V hb => (Ar.St.slots X (T6.out.on X hb)).mono fun _ _ k => by
          obtain ⟨ao, c, bo, d, he, _, _, _, hb⟩ := k
          exact ⟨ao, c, bo, d, he, hb⟩
        have HH6 : Hid (∀ V, Below W6.heap.size W6 V → Calls Try.prog 30 #[.pointer (some ⟨p, 0, none⟩)] V fun e W' => ∃ ao c, e = .returned (.slice ao a6.l.hands.length c) ∧ Below V.heap.size V W') := fun V hb => (Ar.St.handles X (T6.out.on X hb)).mono fun _ _ k => by
          obtain ⟨ao, c, he, _, _, hb, _⟩ := k
          exact ⟨ao, c, he, hb⟩
        unfold FL.ptr at HS6
        obtain ⟨n2, hn2⟩ : ∃ z, a6.l.hands.length = z := ⟨_, rfl⟩
        obtain ⟨n1, hn1⟩ : ∃ z, a6.l.stk.length = z := ⟨_, rfl⟩
        obtain ⟨n3, hn3⟩ : ∃ z, (a6.l.those 2).length = z := ⟨_, rfl⟩
        obtain ⟨A, hA⟩ : ∃ z, a6.al = z := ⟨_, rfl⟩
        obtain ⟨F, hF'⟩ : ∃ z, a6.fr = z := ⟨_, rfl⟩
        rw [hn1, hn2, hn3, hA, hF'] at HS6
        rw [hn1, hn3] at HL6
        rw [hn2] at HH6
        rw [hn1, hn2, hn3, hA, hF'] at cnt
        obtain ⟨_, r1, r2, r3, r4⟩ := cnt
        have mm : ((N * G : Nat) : Int) = (1 + nz) * (1 + gz) := by rw [← hN, ← hG]; exact Int.natCast_mul _ _
        have hNG : N * G ≤ 36 := Nat.le_trans (Nat.mul_le_mul (show N ≤ 12 by omega) (show G ≤ 3 by omega)) (by decide)
        have u1 : IntKind.i64.wrap ((n1 : Int) + n2) = n1 + n2 := IntWalk.i64_in _ (by omega)
        have u2 : IntKind.i64.wrap ((n1 : Int) + n2 + n3) = 1 + nz := by rw [IntWalk.i64_in _ (by omega)]; omega
        have u3 : IntKind.i64.wrap ((A : Int) - F) = n2 := by rw [IntWalk.i64_in _ (by omega)]; omega
        have u4 : decide ((F : Int) < n3) = false := decide_eq_false (by omega)
        have u4' : decide (F < n3) = false := decide_eq_false (by omega)
        have u5 : IntKind.i64.wrap ((1 + nz) * (1 + gz)) = (1 + nz) * (1 + gz) := by rw [← mm]; exact IntWalk.i64_in _ (by omega)
        have u6 : decide ((1 + nz) * (1 + gz) < (A : Int)) = false := decide_eq_false (by rw [← mm]; omega)
        rw [hA, hF'] at C6
        clear e7 mm r1 r2 r3 r4 hNG hn1 hn2 hn3 hN hG
        go_wp2_with fail
        refine HS6.out.mono ?_
        rintro e w7 ⟨rfl, hb7⟩
        have B7 : Below W6.heap.size W6 (w7.alloc (.cells #[.int .i64 (1 + nz), .int .i64 (n1 : Int), .int .i64 (n2 : Int), .int .i64 (n3 : Int), .int .i64 (A : Int), .int .i64 (F : Int), .int .i64 (a6.st : Int)] 62)) := hb7.alloc hb7.size _
        have D7 := heap_alloc_new w7 (.cells #[.int .i64 (1 + nz), .int .i64 (n1 : Int), .int .i64 (n2 : Int), .int .i64 (n3 : Int), .int .i64 (A : Int), .int .i64 (F : Int), .int .i64 (a6.st : Int)] 62)
        have z7 : w7.heap.size < (w7.alloc (.cells #[.int .i64 (1 + nz), .int .i64 (n1 : Int), .int .i64 (n2 : Int), .int .i64 (n3 : Int), .int .i64 (A : Int), .int .i64 (F : Int), .int .i64 (a6.st : Int)] 62)).heap.size := by simp
        have z6 := hb7.size
        have HL7 := Lib.hid (HL6.out _ B7)
        clear HS6 HL6
        go_wp2_with fail
        refine HL7.out.mono ?_
        rintro e w8 ⟨_, _, _, _, rfl, hb8⟩
        have B8 := Ar.bt B7 hb8
        have HH8 := Lib.hid (HH6.out _ B8)
        clear HL7 HH6
        go_wp2_with fail
        refine HH8.out.mono ?_
        rintro e w9 ⟨_, _, rfl, hb9⟩
        have B9 : Below W6.heap.size W6 w9 := Ar.bt B8 hb9
        have D9 := (hb9.block _ (Nat.lt_of_lt_of_le z7 hb8.size)).trans ((hb8.block _ z7).trans D7)
        have lt6 := (Array.getElem?_eq_some_iff.1 C6).1
        have C9 := (B9.block _ lt6).trans C6
        have hne : w7.heap.size ≠ w1.heap.size := by omega
        have v0 := Lib.cell_of_heap C9 0
        have v1 := Lib.cell_of_heap C9 1
        have v2 := Lib.cell_of_heap C9 2
        have v3 := Lib.cell_of_heap C9 3
        have v4 := Lib.cell_of_heap C9 4
        have v5 := Lib.cell_of_heap C9 5
        have v6 := Lib.cell_of_heap C9 6
        have vf : ∀ j, w9.frozen? ⟨w1.heap.size, j, none⟩ = false := fun j => frozen_of_row _ _ _ _ _ C9
        have y0 := Lib.cell_of_heap D9 0
        have y1 := Lib.cell_of_heap D9 1
        have y2 := Lib.cell_of_heap D9 2
        have y3 := Lib.cell_of_heap D9 3
        have y4 := Lib.cell_of_heap D9 4
        have y5 := Lib.cell_of_heap D9 5
        have y6 := Lib.cell_of_heap D9 6
        have i1 : ∀ z : Int, (z == z) = true := fun z => by simp
        have T10 : Hid (Ar.St O w p a6 (.slice va' all'.length vc') all' [] (fun k => k = w1.heap.size) (((w9.setCell ⟨w1.heap.size, 1, none⟩ (.int .i64 (n1 : Int))).setCell ⟨w1.heap.size, 3, none⟩ (.int .i64 (n3 : Int))).setCell ⟨w1.heap.size, 2, none⟩ (.int .i64 (n2 : Int)))) := (((T6.out.on X B9).put X rfl 1 _).put X rfl 3 _).put X rfl 2 _
        have C10 : Hid ((((w9.setCell ⟨w1.heap.size, 1, none⟩ (.int .i64 (n1 : Int))).setCell ⟨w1.heap.size, 3, none⟩ (.int .i64 (n3 : Int))).setCell ⟨w1.heap.size, 2, none⟩ (.int .i64 (n2 : Int))).heap[w1.heap.size]? = some (.cells #[.int .i64 (1 + nz), .int .i64 (n1 : Int), .int .i64 (n2 : Int), .int .i64 (n3 : Int), .int .i64 (a6.al : Int), .int .i64 (a6.fr : Int), .int .i64 (a6.st : Int)] 62 (0, 0))) := by
          show _ = _
          rw [FL.set_obj (FL.set_obj (FL.set_obj C9 1 _) 3 _) 2 _, hA, hF']; rfl
        clear HH8 B7 D7 B8 hb7 hb8 hb9 T6 C6 C9 D9 B9 hA hF'
        go_wp2
        go_roundw
        case rel => exact ⟨i + 1, a6, _, by omega, by omega, by omega, by omega, by rfl, F6, T10.out, _, _, _, C10.out⟩
        case measure => simp [intOf]; omega
      | freed k e h s o =>
        rw [k, e]
        have u4 := Lib.cell_of_heap C4 4
        have u5 := Lib.cell_of_heap C4 5
        have u6 := Lib.cell_of_heap C4 6
        have uf : ∀ j, (w3.alloc (.cells #[.int .i64 (d.opX all a).h, .string t, .slice xo (d.opX all a).ks.length xc] 37)).frozen? ⟨w1.heap.size, j, none⟩ = false := fun j => frozen_of_row _ _ _ _ _ C4
        have T6 : Hid (Ar.St O w p (d.op all a) (.slice va all.length vc) all [] (fun k => k = w1.heap.size) ((w3.alloc (.cells #[.int .i64 (d.opX all a).h, .string t, .slice xo (d.opX all a).ks.length xc] 37)).setCell ⟨w1.heap.size, 5, none⟩ (.int .i64 ((a.fr : Int) + 1)))) := S4.out.drop.put X rfl 5 _
        have C6 : ((w3.alloc (.cells #[.int .i64 (d.opX all a).h, .string t, .slice xo (d.opX all a).ks.length xc] 37)).setCell ⟨w1.heap.size, 5, none⟩ (.int .i64 ((a.fr : Int) + 1))).heap[w1.heap.size]? = some (.cells #[.int .i64 (1 + nz), .int .i64 x1, .int .i64 x2, .int .i64 x3, .int .i64 ((d.op all a).al : Int), .int .i64 ((d.op all a).fr : Int), .int .i64 ((d.op all a).st : Int)] 62 (0, 0)) := by rw [o, A13.free_yes s, FL.set_obj C4 5 _]; rfl
        obtain ⟨W6, hW6⟩ : ∃ V, ((w3.alloc (.cells #[.int .i64 (d.opX all a).h, .string t, .slice xo (d.opX all a).ks.length xc] 37)).setCell ⟨w1.heap.size, 5, none⟩ (.int .i64 ((a.fr : Int) + 1))) = V := ⟨_, rfl⟩
        rw [hW6] at T6 C6
        have st6 : (d.op all a).st ≤ i + 1 := by have := Ar.op_st d all a; omega
        generalize d.op all a = a6 at T6 C6 F6 st6
        clear S3 C3 S4 C4 BA hS3 hK3 hC hT HP cn hS c0 c1 c2 c3 c4 c5 c6
        have cnt := Ar.counts (T6.out.inv X) (T6.out.cnt X) F6.1 F6.2
        have HS6 := Ar.St.stats X T6.out
        have e7 : Ar.st7 a6 = .agg #[.int .i64 (1 + nz), .int .i64 (a6.l.stk.length : Int), .int .i64 (a6.l.hands.length : Int), .int .i64 ((a6.l.those 2).length : Int), .int .i64 (a6.al : Int), .int .i64 (a6.fr : Int), .int .i64 (a6.st : Int)] := by
          unfold Ar.st7
          rw [F6.1, hN, cnt.1]; rfl
        rw [e7] at HS6
        have HS6 := Lib.hid HS6
        have HL6 : Hid (∀ V, Below W6.heap.size W6 V → Calls Try.prog 29 #[.pointer (some ⟨p, 0, none⟩)] V fun e W' => ∃ ao c bo d, e = .returned (.tuple #[.slice ao a6.l.stk.length c, .slice bo (a6.l.those 2).length d]) ∧ Below V.heap.size V W') := fun V hb => (Ar.St.slots X (T6.out.on X hb)).mono fun _ _ k => by
          obtain ⟨ao, c, bo, d, he, _, _, _, hb⟩ := k
          exact ⟨ao, c, bo, d, he, hb⟩
        have HH6 : Hid (∀ V, Below W6.heap.size W6 V → Calls Try.prog 30 #[.pointer (some ⟨p, 0, none⟩)] V fun e W' => ∃ ao c, e = .returned (.slice ao a6.l.hands.length c) ∧ Below V.heap.size V W') := fun V hb => (Ar.St.handles X (T6.out.on X hb)).mono fun _ _ k => by
          obtain ⟨ao, c, he, _, _, hb, _⟩ := k
          exact ⟨ao, c, he, hb⟩
        unfold FL.ptr at HS6
        obtain ⟨n2, hn2⟩ : ∃ z, a6.l.hands.length = z := ⟨_, rfl⟩
        obtain ⟨n1, hn1⟩ : ∃ z, a6.l.stk.length = z := ⟨_, rfl⟩
        obtain ⟨n3, hn3⟩ : ∃ z, (a6.l.those 2).length = z := ⟨_, rfl⟩
        obtain ⟨A, hA⟩ : ∃ z, a6.al = z := ⟨_, rfl⟩
        obtain ⟨F, hF'⟩ : ∃ z, a6.fr = z := ⟨_, rfl⟩
        rw [hn1, hn2, hn3, hA, hF'] at HS6
        rw [hn1, hn3] at HL6
        rw [hn2] at HH6
        rw [hn1, hn2, hn3, hA, hF'] at cnt
        obtain ⟨_, r1, r2, r3, r4⟩ := cnt
        have mm : ((N * G : Nat) : Int) = (1 + nz) * (1 + gz) := by rw [← hN, ← hG]; exact Int.natCast_mul _ _
        have hNG : N * G ≤ 36 := Nat.le_trans (Nat.mul_le_mul (show N ≤ 12 by omega) (show G ≤ 3 by omega)) (by decide)
        have u1 : IntKind.i64.wrap ((n1 : Int) + n2) = n1 + n2 := IntWalk.i64_in _ (by omega)
        have u2 : IntKind.i64.wrap ((n1 : Int) + n2 + n3) = 1 + nz := by rw [IntWalk.i64_in _ (by omega)]; omega
        have u3 : IntKind.i64.wrap ((A : Int) - F) = n2 := by rw [IntWalk.i64_in _ (by omega)]; omega
        have u4 : decide ((F : Int) < n3) = false := decide_eq_false (by omega)
        have u4' : decide (F < n3) = false := decide_eq_false (by omega)
        have u5 : IntKind.i64.wrap ((1 + nz) * (1 + gz)) = (1 + nz) * (1 + gz) := by rw [← mm]; exact IntWalk.i64_in _ (by omega)
        have u6 : decide ((1 + nz) * (1 + gz) < (A : Int)) = false := decide_eq_false (by rw [← mm]; omega)
        rw [hA, hF'] at C6
        clear e7 mm r1 r2 r3 r4 hNG hn1 hn2 hn3 hN hG
        go_wp2_with fail
        refine HS6.out.mono ?_
        rintro e w7 ⟨rfl, hb7⟩
        have B7 : Below W6.heap.size W6 (w7.alloc (.cells #[.int .i64 (1 + nz), .int .i64 (n1 : Int), .int .i64 (n2 : Int), .int .i64 (n3 : Int), .int .i64 (A : Int), .int .i64 (F : Int), .int .i64 (a6.st : Int)] 62)) := hb7.alloc hb7.size _
        have D7 := heap_alloc_new w7 (.cells #[.int .i64 (1 + nz), .int .i64 (n1 : Int), .int .i64 (n2 : Int), .int .i64 (n3 : Int), .int .i64 (A : Int), .int .i64 (F : Int), .int .i64 (a6.st : Int)] 62)
        have z7 : w7.heap.size < (w7.alloc (.cells #[.int .i64 (1 + nz), .int .i64 (n1 : Int), .int .i64 (n2 : Int), .int .i64 (n3 : Int), .int .i64 (A : Int), .int .i64 (F : Int), .int .i64 (a6.st : Int)] 62)).heap.size := by simp
        have z6 := hb7.size
        have HL7 := Lib.hid (HL6.out _ B7)
        clear HS6 HL6
        go_wp2_with fail
        refine HL7.out.mono ?_
        rintro e w8 ⟨_, _, _, _, rfl, hb8⟩
        have B8 := Ar.bt B7 hb8
        have HH8 := Lib.hid (HH6.out _ B8)
        clear HL7 HH6
        go_wp2_with fail
        refine HH8.out.mono ?_
        rintro e w9 ⟨_, _, rfl, hb9⟩
        have B9 : Below W6.heap.size W6 w9 := Ar.bt B8 hb9
        have D9 := (hb9.block _ (Nat.lt_of_lt_of_le z7 hb8.size)).trans ((hb8.block _ z7).trans D7)
        have lt6 := (Array.getElem?_eq_some_iff.1 C6).1
        have C9 := (B9.block _ lt6).trans C6
        have hne : w7.heap.size ≠ w1.heap.size := by omega
        have v0 := Lib.cell_of_heap C9 0
        have v1 := Lib.cell_of_heap C9 1
        have v2 := Lib.cell_of_heap C9 2
        have v3 := Lib.cell_of_heap C9 3
        have v4 := Lib.cell_of_heap C9 4
        have v5 := Lib.cell_of_heap C9 5
        have v6 := Lib.cell_of_heap C9 6
        have vf : ∀ j, w9.frozen? ⟨w1.heap.size, j, none⟩ = false := fun j => frozen_of_row _ _ _ _ _ C9
        have y0 := Lib.cell_of_heap D9 0
        have y1 := Lib.cell_of_heap D9 1
        have y2 := Lib.cell_of_heap D9 2
        have y3 := Lib.cell_of_heap D9 3
        have y4 := Lib.cell_of_heap D9 4
        have y5 := Lib.cell_of_heap D9 5
        have y6 := Lib.cell_of_heap D9 6
        have i1 : ∀ z : Int, (z == z) = true := fun z => by simp
        have T10 : Hid (Ar.St O w p a6 (.slice va all.length vc) all [] (fun k => k = w1.heap.size) (((w9.setCell ⟨w1.heap.size, 1, none⟩ (.int .i64 (n1 : Int))).setCell ⟨w1.heap.size, 3, none⟩ (.int .i64 (n3 : Int))).setCell ⟨w1.heap.size, 2, none⟩ (.int .i64 (n2 : Int)))) := (((T6.out.on X B9).put X rfl 1 _).put X rfl 3 _).put X rfl 2 _
        have C10 : Hid ((((w9.setCell ⟨w1.heap.size, 1, none⟩ (.int .i64 (n1 : Int))).setCell ⟨w1.heap.size, 3, none⟩ (.int .i64 (n3 : Int))).setCell ⟨w1.heap.size, 2, none⟩ (.int .i64 (n2 : Int))).heap[w1.heap.size]? = some (.cells #[.int .i64 (1 + nz), .int .i64 (n1 : Int), .int .i64 (n2 : Int), .int .i64 (n3 : Int), .int .i64 (a6.al : Int), .int .i64 (a6.fr : Int), .int .i64 (a6.st : Int)] 62 (0, 0))) := by
          show _ = _
          rw [FL.set_obj (FL.set_obj (FL.set_obj C9 1 _) 3 _) 2 _, hA, hF']; rfl
        clear HH8 B7 D7 B8 hb7 hb8 hb9 T6 C6 C9 D9 B9 hA hF'
        go_wp2
        go_roundw
        case rel => exact ⟨i + 1, a6, _, by omega, by omega, by omega, by omega, by rfl, F6, T10.out, _, _, _, C10.out⟩
        case measure => simp [intOf]; omega
      | stale k e h s o =>
        rcases k with k | k
        all_goals
          rw [k, e]
          have u4 := Lib.cell_of_heap C4 4
          have u5 := Lib.cell_of_heap C4 5
          have u6 := Lib.cell_of_heap C4 6
          have uf : ∀ j, (w3.alloc (.cells #[.int .i64 (d.opX all a).h, .string t, .slice xo (d.opX all a).ks.length xc] 37)).frozen? ⟨w1.heap.size, j, none⟩ = false := fun j => frozen_of_row _ _ _ _ _ C4
          have T6 : Hid (Ar.St O w p (d.op all a) (.slice va all.length vc) all [] (fun k => k = w1.heap.size) ((w3.alloc (.cells #[.int .i64 (d.opX all a).h, .string t, .slice xo (d.opX all a).ks.length xc] 37)).setCell ⟨w1.heap.size, 6, none⟩ (.int .i64 ((a.st : Int) + 1)))) := S4.out.drop.put X rfl 6 _
          have C6 : ((w3.alloc (.cells #[.int .i64 (d.opX all a).h, .string t, .slice xo (d.opX all a).ks.length xc] 37)).setCell ⟨w1.heap.size, 6, none⟩ (.int .i64 ((a.st : Int) + 1))).heap[w1.heap.size]? = some (.cells #[.int .i64 (1 + nz), .int .i64 x1, .int .i64 x2, .int .i64 x3, .int .i64 ((d.op all a).al : Int), .int .i64 ((d.op all a).fr : Int), .int .i64 ((d.op all a).st : Int)] 62 (0, 0)) := by rw [o, FL.set_obj C4 6 _]; rfl
          obtain ⟨W6, hW6⟩ : ∃ V, ((w3.alloc (.cells #[.int .i64 (d.opX all a).h, .string t, .slice xo (d.opX all a).ks.length xc] 37)).setCell ⟨w1.heap.size, 6, none⟩ (.int .i64 ((a.st : Int) + 1))) = V := ⟨_, rfl⟩
          rw [hW6] at T6 C6
          have st6 : (d.op all a).st ≤ i + 1 := by have := Ar.op_st d all a; omega
          generalize d.op all a = a6 at T6 C6 F6 st6
          clear S3 C3 S4 C4 BA hS3 hK3 hC hT HP cn hS c0 c1 c2 c3 c4 c5 c6
          have cnt := Ar.counts (T6.out.inv X) (T6.out.cnt X) F6.1 F6.2
          have HS6 := Ar.St.stats X T6.out
          have e7 : Ar.st7 a6 = .agg #[.int .i64 (1 + nz), .int .i64 (a6.l.stk.length : Int), .int .i64 (a6.l.hands.length : Int), .int .i64 ((a6.l.those 2).length : Int), .int .i64 (a6.al : Int), .int .i64 (a6.fr : Int), .int .i64 (a6.st : Int)] := by
            unfold Ar.st7
            rw [F6.1, hN, cnt.1]; rfl
          rw [e7] at HS6
          have HS6 := Lib.hid HS6
          have HL6 : Hid (∀ V, Below W6.heap.size W6 V → Calls Try.prog 29 #[.pointer (some ⟨p, 0, none⟩)] V fun e W' => ∃ ao c bo d, e = .returned (.tuple #[.slice ao a6.l.stk.length c, .slice bo (a6.l.those 2).length d]) ∧ Below V.heap.size V W') := fun V hb => (Ar.St.slots X (T6.out.on X hb)).mono fun _ _ k => by
            obtain ⟨ao, c, bo, d, he, _, _, _, hb⟩ := k
            exact ⟨ao, c, bo, d, he, hb⟩
          have HH6 : Hid (∀ V, Below W6.heap.size W6 V → Calls Try.prog 30 #[.pointer (some ⟨p, 0, none⟩)] V fun e W' => ∃ ao c, e = .returned (.slice ao a6.l.hands.length c) ∧ Below V.heap.size V W') := fun V hb => (Ar.St.handles X (T6.out.on X hb)).mono fun _ _ k => by
            obtain ⟨ao, c, he, _, _, hb, _⟩ := k
            exact ⟨ao, c, he, hb⟩
          unfold FL.ptr at HS6
          obtain ⟨n2, hn2⟩ : ∃ z, a6.l.hands.length = z := ⟨_, rfl⟩
          obtain ⟨n1, hn1⟩ : ∃ z, a6.l.stk.length = z := ⟨_, rfl⟩
          obtain ⟨n3, hn3⟩ : ∃ z, (a6.l.those 2).length = z := ⟨_, rfl⟩
          obtain ⟨A, hA⟩ : ∃ z, a6.al = z := ⟨_, rfl⟩
          obtain ⟨F, hF'⟩ : ∃ z, a6.fr = z := ⟨_, rfl⟩
          rw [hn1, hn2, hn3, hA, hF'] at HS6
          rw [hn1, hn3] at HL6
          rw [hn2] at HH6
          rw [hn1, hn2, hn3, hA, hF'] at cnt
          obtain ⟨_, r1, r2, r3, r4⟩ := cnt
          have mm : ((N * G : Nat) : Int) = (1 + nz) * (1 + gz) := by rw [← hN, ← hG]; exact Int.natCast_mul _ _
          have hNG : N * G ≤ 36 := Nat.le_trans (Nat.mul_le_mul (show N ≤ 12 by omega) (show G ≤ 3 by omega)) (by decide)
          have u1 : IntKind.i64.wrap ((n1 : Int) + n2) = n1 + n2 := IntWalk.i64_in _ (by omega)
          have u2 : IntKind.i64.wrap ((n1 : Int) + n2 + n3) = 1 + nz := by rw [IntWalk.i64_in _ (by omega)]; omega
          have u3 : IntKind.i64.wrap ((A : Int) - F) = n2 := by rw [IntWalk.i64_in _ (by omega)]; omega
          have u4 : decide ((F : Int) < n3) = false := decide_eq_false (by omega)
          have u4' : decide (F < n3) = false := decide_eq_false (by omega)
          have u5 : IntKind.i64.wrap ((1 + nz) * (1 + gz)) = (1 + nz) * (1 + gz) := by rw [← mm]; exact IntWalk.i64_in _ (by omega)
          have u6 : decide ((1 + nz) * (1 + gz) < (A : Int)) = false := decide_eq_false (by rw [← mm]; omega)
          rw [hA, hF'] at C6
          clear e7 mm r1 r2 r3 r4 hNG hn1 hn2 hn3 hN hG
          go_wp2_with fail
          refine HS6.out.mono ?_
          rintro e w7 ⟨rfl, hb7⟩
          have B7 : Below W6.heap.size W6 (w7.alloc (.cells #[.int .i64 (1 + nz), .int .i64 (n1 : Int), .int .i64 (n2 : Int), .int .i64 (n3 : Int), .int .i64 (A : Int), .int .i64 (F : Int), .int .i64 (a6.st : Int)] 62)) := hb7.alloc hb7.size _
          have D7 := heap_alloc_new w7 (.cells #[.int .i64 (1 + nz), .int .i64 (n1 : Int), .int .i64 (n2 : Int), .int .i64 (n3 : Int), .int .i64 (A : Int), .int .i64 (F : Int), .int .i64 (a6.st : Int)] 62)
          have z7 : w7.heap.size < (w7.alloc (.cells #[.int .i64 (1 + nz), .int .i64 (n1 : Int), .int .i64 (n2 : Int), .int .i64 (n3 : Int), .int .i64 (A : Int), .int .i64 (F : Int), .int .i64 (a6.st : Int)] 62)).heap.size := by simp
          have z6 := hb7.size
          have HL7 := Lib.hid (HL6.out _ B7)
          clear HS6 HL6
          go_wp2_with fail
          refine HL7.out.mono ?_
          rintro e w8 ⟨_, _, _, _, rfl, hb8⟩
          have B8 := Ar.bt B7 hb8
          have HH8 := Lib.hid (HH6.out _ B8)
          clear HL7 HH6
          go_wp2_with fail
          refine HH8.out.mono ?_
          rintro e w9 ⟨_, _, rfl, hb9⟩
          have B9 : Below W6.heap.size W6 w9 := Ar.bt B8 hb9
          have D9 := (hb9.block _ (Nat.lt_of_lt_of_le z7 hb8.size)).trans ((hb8.block _ z7).trans D7)
          have lt6 := (Array.getElem?_eq_some_iff.1 C6).1
          have C9 := (B9.block _ lt6).trans C6
          have hne : w7.heap.size ≠ w1.heap.size := by omega
          have v0 := Lib.cell_of_heap C9 0
          have v1 := Lib.cell_of_heap C9 1
          have v2 := Lib.cell_of_heap C9 2
          have v3 := Lib.cell_of_heap C9 3
          have v4 := Lib.cell_of_heap C9 4
          have v5 := Lib.cell_of_heap C9 5
          have v6 := Lib.cell_of_heap C9 6
          have vf : ∀ j, w9.frozen? ⟨w1.heap.size, j, none⟩ = false := fun j => frozen_of_row _ _ _ _ _ C9
          have y0 := Lib.cell_of_heap D9 0
          have y1 := Lib.cell_of_heap D9 1
          have y2 := Lib.cell_of_heap D9 2
          have y3 := Lib.cell_of_heap D9 3
          have y4 := Lib.cell_of_heap D9 4
          have y5 := Lib.cell_of_heap D9 5
          have y6 := Lib.cell_of_heap D9 6
          have i1 : ∀ z : Int, (z == z) = true := fun z => by simp
          have T10 : Hid (Ar.St O w p a6 (.slice va all.length vc) all [] (fun k => k = w1.heap.size) (((w9.setCell ⟨w1.heap.size, 1, none⟩ (.int .i64 (n1 : Int))).setCell ⟨w1.heap.size, 3, none⟩ (.int .i64 (n3 : Int))).setCell ⟨w1.heap.size, 2, none⟩ (.int .i64 (n2 : Int)))) := (((T6.out.on X B9).put X rfl 1 _).put X rfl 3 _).put X rfl 2 _
          have C10 : Hid ((((w9.setCell ⟨w1.heap.size, 1, none⟩ (.int .i64 (n1 : Int))).setCell ⟨w1.heap.size, 3, none⟩ (.int .i64 (n3 : Int))).setCell ⟨w1.heap.size, 2, none⟩ (.int .i64 (n2 : Int))).heap[w1.heap.size]? = some (.cells #[.int .i64 (1 + nz), .int .i64 (n1 : Int), .int .i64 (n2 : Int), .int .i64 (n3 : Int), .int .i64 (a6.al : Int), .int .i64 (a6.fr : Int), .int .i64 (a6.st : Int)] 62 (0, 0))) := by
            show _ = _
            rw [FL.set_obj (FL.set_obj (FL.set_obj C9 1 _) 3 _) 2 _, hA, hF']; rfl
          clear HH8 B7 D7 B8 hb7 hb8 hb9 T6 C6 C9 D9 B9 hA hF'
          go_wp2
          go_roundw
          case rel => exact ⟨i + 1, a6, _, by omega, by omega, by omega, by omega, by rfl, F6, T10.out, _, _, _, C10.out⟩
          case measure => simp [intOf]; omega
      | not k e h o =>
        have e' : (d.opE all a == 0) = false := by simpa using e
        have e2 : decide (d.opE all a = 0) = false := decide_eq_false e
        rw [k]
        have T6 : Hid (Ar.St O w p (d.op all a) (.slice va all.length vc) all [] (fun k => k = w1.heap.size) (w3.alloc (.cells #[.int .i64 (d.opX all a).h, .string t, .slice xo (d.opX all a).ks.length xc] 37))) := S4.out.drop
        have C6 : (w3.alloc (.cells #[.int .i64 (d.opX all a).h, .string t, .slice xo (d.opX all a).ks.length xc] 37)).heap[w1.heap.size]? = some (.cells #[.int .i64 (1 + nz), .int .i64 x1, .int .i64 x2, .int .i64 x3, .int .i64 ((d.op all a).al : Int), .int .i64 ((d.op all a).fr : Int), .int .i64 ((d.op all a).st : Int)] 62 (0, 0)) := by rw [o]; exact C4
        obtain ⟨W6, hW6⟩ : ∃ V, (w3.alloc (.cells #[.int .i64 (d.opX all a).h, .string t, .slice xo (d.opX all a).ks.length xc] 37)) = V := ⟨_, rfl⟩
        rw [hW6] at T6 C6
        have st6 : (d.op all a).st ≤ i + 1 := by have := Ar.op_st d all a; omega
        generalize d.op all a = a6 at T6 C6 F6 st6
        clear S3 C3 S4 C4 BA hS3 hK3 hC hT HP cn hS c0 c1 c2 c3 c4 c5 c6
        have cnt := Ar.counts (T6.out.inv X) (T6.out.cnt X) F6.1 F6.2
        have HS6 := Ar.St.stats X T6.out
        have e7 : Ar.st7 a6 = .agg #[.int .i64 (1 + nz), .int .i64 (a6.l.stk.length : Int), .int .i64 (a6.l.hands.length : Int), .int .i64 ((a6.l.those 2).length : Int), .int .i64 (a6.al : Int), .int .i64 (a6.fr : Int), .int .i64 (a6.st : Int)] := by
          unfold Ar.st7
          rw [F6.1, hN, cnt.1]; rfl
        rw [e7] at HS6
        have HS6 := Lib.hid HS6
        have HL6 : Hid (∀ V, Below W6.heap.size W6 V → Calls Try.prog 29 #[.pointer (some ⟨p, 0, none⟩)] V fun e W' => ∃ ao c bo d, e = .returned (.tuple #[.slice ao a6.l.stk.length c, .slice bo (a6.l.those 2).length d]) ∧ Below V.heap.size V W') := fun V hb => (Ar.St.slots X (T6.out.on X hb)).mono fun _ _ k => by
          obtain ⟨ao, c, bo, d, he, _, _, _, hb⟩ := k
          exact ⟨ao, c, bo, d, he, hb⟩
        have HH6 : Hid (∀ V, Below W6.heap.size W6 V → Calls Try.prog 30 #[.pointer (some ⟨p, 0, none⟩)] V fun e W' => ∃ ao c, e = .returned (.slice ao a6.l.hands.length c) ∧ Below V.heap.size V W') := fun V hb => (Ar.St.handles X (T6.out.on X hb)).mono fun _ _ k => by
          obtain ⟨ao, c, he, _, _, hb, _⟩ := k
          exact ⟨ao, c, he, hb⟩
        unfold FL.ptr at HS6
        obtain ⟨n2, hn2⟩ : ∃ z, a6.l.hands.length = z := ⟨_, rfl⟩
        obtain ⟨n1, hn1⟩ : ∃ z, a6.l.stk.length = z := ⟨_, rfl⟩
        obtain ⟨n3, hn3⟩ : ∃ z, (a6.l.those 2).length = z := ⟨_, rfl⟩
        obtain ⟨A, hA⟩ : ∃ z, a6.al = z := ⟨_, rfl⟩
        obtain ⟨F, hF'⟩ : ∃ z, a6.fr = z := ⟨_, rfl⟩
        rw [hn1, hn2, hn3, hA, hF'] at HS6
        rw [hn1, hn3] at HL6
        rw [hn2] at HH6
        rw [hn1, hn2, hn3, hA, hF'] at cnt
        obtain ⟨_, r1, r2, r3, r4⟩ := cnt
        have mm : ((N * G : Nat) : Int) = (1 + nz) * (1 + gz) := by rw [← hN, ← hG]; exact Int.natCast_mul _ _
        have hNG : N * G ≤ 36 := Nat.le_trans (Nat.mul_le_mul (show N ≤ 12 by omega) (show G ≤ 3 by omega)) (by decide)
        have u1 : IntKind.i64.wrap ((n1 : Int) + n2) = n1 + n2 := IntWalk.i64_in _ (by omega)
        have u2 : IntKind.i64.wrap ((n1 : Int) + n2 + n3) = 1 + nz := by rw [IntWalk.i64_in _ (by omega)]; omega
        have u3 : IntKind.i64.wrap ((A : Int) - F) = n2 := by rw [IntWalk.i64_in _ (by omega)]; omega
        have u4 : decide ((F : Int) < n3) = false := decide_eq_false (by omega)
        have u4' : decide (F < n3) = false := decide_eq_false (by omega)
        have u5 : IntKind.i64.wrap ((1 + nz) * (1 + gz)) = (1 + nz) * (1 + gz) := by rw [← mm]; exact IntWalk.i64_in _ (by omega)
        have u6 : decide ((1 + nz) * (1 + gz) < (A : Int)) = false := decide_eq_false (by rw [← mm]; omega)
        rw [hA, hF'] at C6
        clear e7 mm r1 r2 r3 r4 hNG hn1 hn2 hn3 hN hG
        go_wp2_with fail
        refine HS6.out.mono ?_
        rintro e w7 ⟨rfl, hb7⟩
        have B7 : Below W6.heap.size W6 (w7.alloc (.cells #[.int .i64 (1 + nz), .int .i64 (n1 : Int), .int .i64 (n2 : Int), .int .i64 (n3 : Int), .int .i64 (A : Int), .int .i64 (F : Int), .int .i64 (a6.st : Int)] 62)) := hb7.alloc hb7.size _
        have D7 := heap_alloc_new w7 (.cells #[.int .i64 (1 + nz), .int .i64 (n1 : Int), .int .i64 (n2 : Int), .int .i64 (n3 : Int), .int .i64 (A : Int), .int .i64 (F : Int), .int .i64 (a6.st : Int)] 62)
        have z7 : w7.heap.size < (w7.alloc (.cells #[.int .i64 (1 + nz), .int .i64 (n1 : Int), .int .i64 (n2 : Int), .int .i64 (n3 : Int), .int .i64 (A : Int), .int .i64 (F : Int), .int .i64 (a6.st : Int)] 62)).heap.size := by simp
        have z6 := hb7.size
        have HL7 := Lib.hid (HL6.out _ B7)
        clear HS6 HL6
        go_wp2_with fail
        refine HL7.out.mono ?_
        rintro e w8 ⟨_, _, _, _, rfl, hb8⟩
        have B8 := Ar.bt B7 hb8
        have HH8 := Lib.hid (HH6.out _ B8)
        clear HL7 HH6
        go_wp2_with fail
        refine HH8.out.mono ?_
        rintro e w9 ⟨_, _, rfl, hb9⟩
        have B9 : Below W6.heap.size W6 w9 := Ar.bt B8 hb9
        have D9 := (hb9.block _ (Nat.lt_of_lt_of_le z7 hb8.size)).trans ((hb8.block _ z7).trans D7)
        have lt6 := (Array.getElem?_eq_some_iff.1 C6).1
        have C9 := (B9.block _ lt6).trans C6
        have hne : w7.heap.size ≠ w1.heap.size := by omega
        have v0 := Lib.cell_of_heap C9 0
        have v1 := Lib.cell_of_heap C9 1
        have v2 := Lib.cell_of_heap C9 2
        have v3 := Lib.cell_of_heap C9 3
        have v4 := Lib.cell_of_heap C9 4
        have v5 := Lib.cell_of_heap C9 5
        have v6 := Lib.cell_of_heap C9 6
        have vf : ∀ j, w9.frozen? ⟨w1.heap.size, j, none⟩ = false := fun j => frozen_of_row _ _ _ _ _ C9
        have y0 := Lib.cell_of_heap D9 0
        have y1 := Lib.cell_of_heap D9 1
        have y2 := Lib.cell_of_heap D9 2
        have y3 := Lib.cell_of_heap D9 3
        have y4 := Lib.cell_of_heap D9 4
        have y5 := Lib.cell_of_heap D9 5
        have y6 := Lib.cell_of_heap D9 6
        have i1 : ∀ z : Int, (z == z) = true := fun z => by simp
        have T10 : Hid (Ar.St O w p a6 (.slice va all.length vc) all [] (fun k => k = w1.heap.size) (((w9.setCell ⟨w1.heap.size, 1, none⟩ (.int .i64 (n1 : Int))).setCell ⟨w1.heap.size, 3, none⟩ (.int .i64 (n3 : Int))).setCell ⟨w1.heap.size, 2, none⟩ (.int .i64 (n2 : Int)))) := (((T6.out.on X B9).put X rfl 1 _).put X rfl 3 _).put X rfl 2 _
        have C10 : Hid ((((w9.setCell ⟨w1.heap.size, 1, none⟩ (.int .i64 (n1 : Int))).setCell ⟨w1.heap.size, 3, none⟩ (.int .i64 (n3 : Int))).setCell ⟨w1.heap.size, 2, none⟩ (.int .i64 (n2 : Int))).heap[w1.heap.size]? = some (.cells #[.int .i64 (1 + nz), .int .i64 (n1 : Int), .int .i64 (n2 : Int), .int .i64 (n3 : Int), .int .i64 (a6.al : Int), .int .i64 (a6.fr : Int), .int .i64 (a6.st : Int)] 62 (0, 0))) := by
          show _ = _
          rw [FL.set_obj (FL.set_obj (FL.set_obj C9 1 _) 3 _) 2 _, hA, hF']; rfl
        clear HH8 B7 D7 B8 hb7 hb8 hb9 T6 C6 C9 D9 B9 hA hF'
        go_wp2
        go_roundw
        case rel => exact ⟨i + 1, a6, _, by omega, by omega, by omega, by omega, by rfl, F6, T10.out, _, _, _, C10.out⟩
        case measure => simp [intOf]; omega
      | read k e h s o =>
        rw [k, e]
        have T6 : Hid (Ar.St O w p (d.op all a) (.slice va all.length vc) all [] (fun k => k = w1.heap.size) (w3.alloc (.cells #[.int .i64 (d.opX all a).h, .string t, .slice xo (d.opX all a).ks.length xc] 37))) := S4.out.drop
        have C6 : (w3.alloc (.cells #[.int .i64 (d.opX all a).h, .string t, .slice xo (d.opX all a).ks.length xc] 37)).heap[w1.heap.size]? = some (.cells #[.int .i64 (1 + nz), .int .i64 x1, .int .i64 x2, .int .i64 x3, .int .i64 ((d.op all a).al : Int), .int .i64 ((d.op all a).fr : Int), .int .i64 ((d.op all a).st : Int)] 62 (0, 0)) := by rw [o]; exact C4
        obtain ⟨W6, hW6⟩ : ∃ V, w3.alloc (.cells #[.int .i64 (d.opX all a).h, .string t, .slice xo (d.opX all a).ks.length xc] 37) = V := ⟨_, rfl⟩
        rw [hW6] at T6 C6
        obtain ⟨a6, ha6⟩ : ∃ b, d.op all a = b := ⟨_, rfl⟩
        have st6 : a6.st ≤ i + 1 := by rw [← ha6]; have := Ar.op_st d all a; omega
        rw [ha6] at T6 C6 F6
        clear S3 C3 S4 C4 BA hS3 hK3 hC hT HP cn hS c0 c1 c2 c3 c4 c5 c6
        have cnt := Ar.counts (T6.out.inv X) (T6.out.cnt X) F6.1 F6.2
        have HS6 := Ar.St.stats X T6.out
        have e7 : Ar.st7 a6 = .agg #[.int .i64 (1 + nz), .int .i64 (a6.l.stk.length : Int), .int .i64 (a6.l.hands.length : Int), .int .i64 ((a6.l.those 2).length : Int), .int .i64 (a6.al : Int), .int .i64 (a6.fr : Int), .int .i64 (a6.st : Int)] := by
          unfold Ar.st7
          rw [F6.1, hN, cnt.1]; rfl
        rw [e7] at HS6
        have HS6 := Lib.hid HS6
        have HL6 : Hid (∀ V, Below W6.heap.size W6 V → Calls Try.prog 29 #[.pointer (some ⟨p, 0, none⟩)] V fun e W' => ∃ ao c bo d, e = .returned (.tuple #[.slice ao a6.l.stk.length c, .slice bo (a6.l.those 2).length d]) ∧ Below V.heap.size V W') := fun V hb => (Ar.St.slots X (T6.out.on X hb)).mono fun _ _ k => by
          obtain ⟨ao, c, bo, d, he, _, _, _, hb⟩ := k
          exact ⟨ao, c, bo, d, he, hb⟩
        have HH6 : Hid (∀ V, Below W6.heap.size W6 V → Calls Try.prog 30 #[.pointer (some ⟨p, 0, none⟩)] V fun e W' => ∃ ao c, e = .returned (.slice ao a6.l.hands.length c) ∧ Below V.heap.size V W') := fun V hb => (Ar.St.handles X (T6.out.on X hb)).mono fun _ _ k => by
          obtain ⟨ao, c, he, _, _, hb, _⟩ := k
          exact ⟨ao, c, he, hb⟩
        unfold FL.ptr at HS6
        obtain ⟨n2, hn2⟩ : ∃ z, a6.l.hands.length = z := ⟨_, rfl⟩
        obtain ⟨n1, hn1⟩ : ∃ z, a6.l.stk.length = z := ⟨_, rfl⟩
        obtain ⟨n3, hn3⟩ : ∃ z, (a6.l.those 2).length = z := ⟨_, rfl⟩
        obtain ⟨A, hA⟩ : ∃ z, a6.al = z := ⟨_, rfl⟩
        obtain ⟨F, hF'⟩ : ∃ z, a6.fr = z := ⟨_, rfl⟩
        rw [hn1, hn2, hn3, hA, hF'] at HS6
        rw [hn1, hn3] at HL6
        rw [hn2] at HH6
        rw [hn1, hn2, hn3, hA, hF'] at cnt
        obtain ⟨_, r1, r2, r3, r4⟩ := cnt
        have mm : ((N * G : Nat) : Int) = (1 + nz) * (1 + gz) := by rw [← hN, ← hG]; exact Int.natCast_mul _ _
        have hNG : N * G ≤ 36 := Nat.le_trans (Nat.mul_le_mul (show N ≤ 12 by omega) (show G ≤ 3 by omega)) (by decide)
        have u1 : IntKind.i64.wrap ((n1 : Int) + n2) = n1 + n2 := IntWalk.i64_in _ (by omega)
        have u2 : IntKind.i64.wrap ((n1 : Int) + n2 + n3) = 1 + nz := by rw [IntWalk.i64_in _ (by omega)]; omega
        have u3 : IntKind.i64.wrap ((A : Int) - F) = n2 := by rw [IntWalk.i64_in _ (by omega)]; omega
        have u4 : decide ((F : Int) < n3) = false := decide_eq_false (by omega)
        have u4' : decide (F < n3) = false := decide_eq_false (by omega)
        have u5 : IntKind.i64.wrap ((1 + nz) * (1 + gz)) = (1 + nz) * (1 + gz) := by rw [← mm]; exact IntWalk.i64_in _ (by omega)
        have u6 : decide ((1 + nz) * (1 + gz) < (A : Int)) = false := decide_eq_false (by rw [← mm]; omega)
        rw [hA, hF'] at C6
        clear e7 mm r1 r2 r3 r4 hNG hn1 hn2 hn3 hN hG
        go_wp2_with fail
        refine HS6.out.mono ?_
        rintro e w7 ⟨rfl, hb7⟩
        have B7 : Below W6.heap.size W6 (w7.alloc (.cells #[.int .i64 (1 + nz), .int .i64 (n1 : Int), .int .i64 (n2 : Int), .int .i64 (n3 : Int), .int .i64 (A : Int), .int .i64 (F : Int), .int .i64 (a6.st : Int)] 62)) := hb7.alloc hb7.size _
        have D7 := heap_alloc_new w7 (.cells #[.int .i64 (1 + nz), .int .i64 (n1 : Int), .int .i64 (n2 : Int), .int .i64 (n3 : Int), .int .i64 (A : Int), .int .i64 (F : Int), .int .i64 (a6.st : Int)] 62)
        have z7 : w7.heap.size < (w7.alloc (.cells #[.int .i64 (1 + nz), .int .i64 (n1 : Int), .int .i64 (n2 : Int), .int .i64 (n3 : Int), .int .i64 (A : Int), .int .i64 (F : Int), .int .i64 (a6.st : Int)] 62)).heap.size := by simp
        have z6 := hb7.size
        have HL7 := Lib.hid (HL6.out _ B7)
        clear HS6 HL6
        go_wp2_with fail
        refine HL7.out.mono ?_
        rintro e w8 ⟨_, _, _, _, rfl, hb8⟩
        have B8 := Ar.bt B7 hb8
        have HH8 := Lib.hid (HH6.out _ B8)
        clear HL7 HH6
        go_wp2_with fail
        refine HH8.out.mono ?_
        rintro e w9 ⟨_, _, rfl, hb9⟩
        have B9 : Below W6.heap.size W6 w9 := Ar.bt B8 hb9
        have D9 := (hb9.block _ (Nat.lt_of_lt_of_le z7 hb8.size)).trans ((hb8.block _ z7).trans D7)
        have lt6 := (Array.getElem?_eq_some_iff.1 C6).1
        have C9 := (B9.block _ lt6).trans C6
        have hne : w7.heap.size ≠ w1.heap.size := by omega
        have v0 := Lib.cell_of_heap C9 0
        have v1 := Lib.cell_of_heap C9 1
        have v2 := Lib.cell_of_heap C9 2
        have v3 := Lib.cell_of_heap C9 3
        have v4 := Lib.cell_of_heap C9 4
        have v5 := Lib.cell_of_heap C9 5
        have v6 := Lib.cell_of_heap C9 6
        have vf : ∀ j, w9.frozen? ⟨w1.heap.size, j, none⟩ = false := fun j => frozen_of_row _ _ _ _ _ C9
        have y0 := Lib.cell_of_heap D9 0
        have y1 := Lib.cell_of_heap D9 1
        have y2 := Lib.cell_of_heap D9 2
        have y3 := Lib.cell_of_heap D9 3
        have y4 := Lib.cell_of_heap D9 4
        have y5 := Lib.cell_of_heap D9 5
        have y6 := Lib.cell_of_heap D9 6
        have i1 : ∀ z : Int, (z == z) = true := fun z => by simp
        have T10 : Hid (Ar.St O w p a6 (.slice va all.length vc) all [] (fun k => k = w1.heap.size) (((w9.setCell ⟨w1.heap.size, 1, none⟩ (.int .i64 (n1 : Int))).setCell ⟨w1.heap.size, 3, none⟩ (.int .i64 (n3 : Int))).setCell ⟨w1.heap.size, 2, none⟩ (.int .i64 (n2 : Int)))) := (((T6.out.on X B9).put X rfl 1 _).put X rfl 3 _).put X rfl 2 _
        have C10 : Hid ((((w9.setCell ⟨w1.heap.size, 1, none⟩ (.int .i64 (n1 : Int))).setCell ⟨w1.heap.size, 3, none⟩ (.int .i64 (n3 : Int))).setCell ⟨w1.heap.size, 2, none⟩ (.int .i64 (n2 : Int))).heap[w1.heap.size]? = some (.cells #[.int .i64 (1 + nz), .int .i64 (n1 : Int), .int .i64 (n2 : Int), .int .i64 (n3 : Int), .int .i64 (a6.al : Int), .int .i64 (a6.fr : Int), .int .i64 (a6.st : Int)] 62 (0, 0))) := by
          show _ = _
          rw [FL.set_obj (FL.set_obj (FL.set_obj C9 1 _) 3 _) 2 _, hA, hF']; rfl
        clear HH8 B7 D7 B8 hb7 hb8 hb9 T6 C6 C9 D9 B9 hA hF'
        go_wp2
        go_roundw
        case rel => exact ⟨i + 1, a6, _, by omega, by omega, by omega, by omega, by rfl, F6, T10.out, _, _, _, C10.out⟩
        case measure => simp [intOf]; omega
    · have q : decide ((i : Int) < (sx.length : Int)) = false ∨ (decide ((i : Int) < (sx.length : Int)) = true ∧ decide ((i : Int) < 60) = false) := by
        by_cases c : i < sx.length
        · exact .inr ⟨decide_eq_true (by omega), decide_eq_false (by omega)⟩
        · exact .inl (decide_eq_false (by omega))
      have BE := Lib.hid hT.out.1.below
      clear hT hlt
      rcases q with q1 | ⟨q1, q2⟩
      all_goals
        (try have z1 : decide (i < sx.length) = false := decide_eq_false (by simpa using q1))
        (try have z2 : decide (i < 60) = false := decide_eq_false (by simpa using q2))
        (try have z3 : decide (i < sx.length) = true := decide_eq_true (by simpa using q1))
        go_wp2_with fail
        refine (HK.out _ BE.out).mono ?_
        rintro e w3 ⟨rfl, hb⟩
        have B3 := Lib.hid hb
        clear hb
        go_wp2
        go_ret
        exact ⟨rfl, B3.out⟩
end
end Go.Proofs.Ytlhgakdplabnlaa
