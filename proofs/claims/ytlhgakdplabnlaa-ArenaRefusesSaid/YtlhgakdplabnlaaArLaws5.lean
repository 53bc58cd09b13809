/- The walk of ArenaRefuses, over whatever arena. -/
import Derived.Test.YtlhgakdplabnlaaArRefuM
import Derived.Test.YtlhgakdplabnlaaArArgs
import Derived.Test.YtlhgakdplabnlaaPeel
namespace Go.Proofs.Ytlhgakdplabnlaa
open Go.RowKit

/-- An arena, the law's own boxes and a row of handles. -/
structure Ar.Rf (O : World → Nat → A13.A → (Nat → Prop) → Prop) (w : World) (p : Nat) (a : A13.A) (v : Value) (all : List Ar.I) (L : Nat → Prop) (b7 b17 : Nat) (o7 o17 : Obj) (lo : Option Addr) (l : List Value) (W : World) : Prop where
  st : Ar.St O w p a v all [] L W
  y7 : W.heap[b7]? = some o7
  y17 : W.heap[b17]? = some o17
  row : V.Row W lo l
  l7 : L b7
  l17 : L b17
  ll : ∀ k o, lo = some ⟨k, o, none⟩ → L k
  ne : ∀ k o, lo = some ⟨k, o, none⟩ → k ≠ b17
section
variable {O : World → Nat → A13.A → (Nat → Prop) → Prop} {w W W' : World} {p : Nat} {a a' : A13.A} {v : Value} {all : List Ar.I} {L : Nat → Prop} {b7 b17 : Nat} {o7 o17 : Obj} {lo : Option Addr} {l : List Value}
theorem Ar.Rf.on (X : Ar.Pa O) (h : Ar.Rf O w p a v all L b7 b17 o7 o17 lo l W) (hb : Below W.heap.size W W') : Ar.Rf O w p a v all L b7 b17 o7 o17 lo l W' :=
  ⟨h.st.on X hb, (hb.block _ (Array.getElem?_eq_some_iff.1 h.y7).1).trans h.y7, (hb.block _ (Array.getElem?_eq_some_iff.1 h.y17).1).trans h.y17, h.row.below hb, h.l7, h.l17, h.ll, h.ne⟩
theorem Ar.Rf.turn (h : Ar.Rf O w p a v all L b7 b17 o7 o17 lo l W) (hs : Ar.St O w p a' v all [] L W') (hk : Ar.Kept L W W') (hz : W.heap.size ≤ W'.heap.size) : Ar.Rf O w p a' v all L b7 b17 o7 o17 lo l W' :=
  ⟨hs, (hk _ h.l7).2.trans h.y7, (hk _ h.l17).2.trans h.y17, Ar.kept_row h.row hk hz h.ll, h.l7, h.l17, h.ll, h.ne⟩
/-- A cell of the law's own second box is written. -/
theorem Ar.Rf.put (X : Ar.Pa O) {cs : Array Value} {T : TypeId} {fr : Nat × Nat} (h : Ar.Rf O w p a v all L b7 b17 o7 (.cells cs T fr) lo l W) (i : Nat) (u : Value) : Ar.St O w p a v all [] L (W.setCell ⟨b17, i, none⟩ u) ∧ (W.setCell ⟨b17, i, none⟩ u).heap[b17]? = some (.cells (cs.setIfInBounds i u) T fr) ∧ V.Row (W.setCell ⟨b17, i, none⟩ u) lo l := by
  have hs : FL.But (fun k => k = b17) W (W.setCell ⟨b17, i, none⟩ u) := FL.But.set W u rfl
  refine ⟨h.st.put X h.l17 i u, by simp [World.setCell, Array.getElem?_modify, h.y17], fun j x hx => ?_⟩
  obtain ⟨b, o, e, hb, hc⟩ := h.row j x hx
  refine ⟨b, o, e, Nat.lt_of_lt_of_le hb hs.size, ?_⟩
  unfold World.cell?
  rw [hs.block b hb (h.ne b o e)]
  exact hc
end
theorem Ar.kidsE_stt (a : A13.A) (n : Nat) (x : N.Nd) : ∀ l : List N.K, A13.kidsE Ar.ms (Ar.stt a n) x l = A13.kidsE Ar.ms a x l
  | [] => rfl
  | k :: r => by
    have ih := Ar.kidsE_stt a n x r
    show (if A13.kidE Ar.ms a x k = 0 then A13.kidsE Ar.ms (Ar.stt a n) x r else A13.kidE Ar.ms a x k) = if A13.kidE Ar.ms a x k = 0 then A13.kidsE Ar.ms a x r else A13.kidE Ar.ms a x k
    rw [ih]
theorem Ar.fits_stt (a : A13.A) (n : Nat) (x : N.Nd) : Ar.fits (Ar.stt a n) x = Ar.fits a x := by unfold Ar.fits; rw [Ar.kidsE_stt]
/-- Where the law's own check of the children stands. -/
def Ar.Fi (a : A13.A) (x : N.Nd) (ks : List N.K) (f : Bool) (i : Nat) : Prop := (f = true → N.chk x = 0 ∧ A13.kidsE Ar.ms a x ks = A13.kidsE Ar.ms a x (ks.drop i)) ∧ (f = false → Ar.fits a x = false)
theorem Ar.Fi.yes {a : A13.A} {x : N.Nd} {ks : List N.K} {i : Nat} (h : N.chk x = 0) (k : A13.kidsE Ar.ms a x ks = A13.kidsE Ar.ms a x (ks.drop i)) : Ar.Fi a x ks true i := ⟨fun _ => ⟨h, k⟩, (fun c => by cases c)⟩
theorem Ar.Fi.no {a : A13.A} {x : N.Nd} {ks : List N.K} {i : Nat} (h : Ar.fits a x = false) : Ar.Fi a x ks false i := ⟨(fun c => by cases c), fun _ => h⟩
section
variable {O : World → Nat → A13.A → (Nat → Prop) → Prop}
set_option maxRecDepth 100000 in
set_option maxHeartbeats 16000000 in
theorem arenaRefuses_walk (X : Ar.Pa O) (n : Int) (sr : Ar.Src) (la : Ar.Lst) (w : World) (_ : -9223372036854775808 ≤ n) (_ : n < 9223372036854775808) (hs : Ar.ArgOk w sr) (hla : Ar.LOk w la) :
    Calls Try.prog 9 #[.int .i64 n, .slice sr.a sr.x.length sr.c, la.v] w fun e w' => e = .returned (.bool true) ∧ Below w.heap.size w w' := by
  have HK : Hid (∀ W, Below w.heap.size w W → Calls Try.prog 27 #[] W (fun e w' => e = .returned (.bool true) ∧ Below w.heap.size w w')) := fun W hb => (awake13_any X W).mono fun _ _ k => ⟨k.1, Ar.bt hb k.2⟩
  obtain ⟨Nn, hN, N1, N2⟩ := Ar.nn_of n 12 (by omega) (by omega)
  have M12 := Lib.hid (fun W => mod11_any n 12 (by omega) (by omega) W)
  have H1 : Hid (∀ Z, Calls Try.prog 10 #[.int .i64 (Nn : Int), .int .u64 2] Z fun e w' => ∃ p, e = .returned (.tuple #[.pointer (some ⟨p, 0, none⟩), .int .i64 0]) ∧ O w' p (A13.new Nn 2) (Ar.ext (fun _ => False) Z.heap.size w'.heap.size) ∧ Below Z.heap.size Z w') := fun Z => X.new Nn 2 Z (by omega) (by omega) (by omega) (by omega)
  have b1 : 0 ≤ n % 12 ∧ n % 12 < 12 := by omega
  rw [hN] at H1
  have wn : IntKind.i64.wrap (1 + n % 12) = 1 + n % 12 := IntWalk.i64_in _ (by omega)
  generalize n % 12 = nz at *
  obtain ⟨sa, sc, sx⟩ := sr
  have HA : Hid (Ar.ArgOk w ⟨sa, sc, sx⟩) := hs
  have hl : sx.length ≤ 2000000000000 := hs.len
  obtain ⟨⟨qh, qt, ⟨qo, qc, qk⟩⟩, hn⟩ := la
  have HX : Hid (N.NOk w ⟨qh, qt, ⟨qo, qc, qk⟩⟩ ∧ ∀ g o, qo = some ⟨g, o, none⟩ → qk ≠ [] → g < w.heap.size) := ⟨hla.x, hla.at_⟩
  have hnb : hn ≤ 18446744073709551615 := hla.h
  unfold Ar.Lst.v
  dsimp only
  clear hs hla
  go_enter Try.func9, Try.ntmps9
  go_wp2
  have B0 : Below w.heap.size w ((w.alloc (.cells #[.int .i64 qh, .string qt, .slice qo qk.length qc, .int .u64 (hn : Int)] 80)).alloc (.cells #[.int .i64 qh, .string qt, .slice qo qk.length qc] 37)).drew := (((Below.refl _ _).alloc (Nat.le_refl _) _).alloc (by simp) _).drew
  have Y0 : ((w.alloc (.cells #[.int .i64 qh, .string qt, .slice qo qk.length qc, .int .u64 (hn : Int)] 80)).alloc (.cells #[.int .i64 qh, .string qt, .slice qo qk.length qc] 37)).drew.heap[w.heap.size + 1]? = some (.cells #[.int .i64 qh, .string qt, .slice qo qk.length qc] 37 (0, 0)) := by
    have := heap_alloc_new (w.alloc (.cells #[.int .i64 qh, .string qt, .slice qo qk.length qc, .int .u64 (hn : Int)] 80)) (.cells #[.int .i64 qh, .string qt, .slice qo qk.length qc] 37)
    rw [World.size_alloc] at this
    exact this
  go_region
  generalize ((w.alloc (.cells #[.int .i64 qh, .string qt, .slice qo qk.length qc, .int .u64 (hn : Int)] 80)).alloc (.cells #[.int .i64 qh, .string qt, .slice qo qk.length qc] 37)).drew = W0 at *
  have HS0 : Hid (∀ p w1, O w1 p (A13.new Nn 2) (Ar.ext (fun _ => False) W0.heap.size w1.heap.size) → Below W0.heap.size W0 w1 → Ar.St O w p (A13.new Nn 2) (.slice none 0 0) [] [] (fun k => k = w.heap.size + 1) w1 ∧ w1.heap[w.heap.size + 1]? = some (.cells #[.int .i64 qh, .string qt, .slice qo qk.length qc] 37 (0, 0))) := fun p w1 ho hb => by
    have z0 := (Array.getElem?_eq_some_iff.1 Y0).1
    exact ⟨Ar.St.make2 ho B0 hb (fun k c => c.elim False.elim (fun c => c.1)) (fun k c => by subst c; exact ⟨by omega, z0⟩), (hb.block _ z0).trans Y0⟩
  clear B0 Y0
  go_wp2_with fail
  refine (M12.out _).mono ?_
  rintro e w1 ⟨rfl, rfl⟩
  go_wp2_with fail
  refine (H1.out _).mono ?_
  rintro e w1 ⟨p, rfl, ho, hb⟩
  have S0 := Lib.hid (HS0.out p w1 ho hb)
  have F0 : (A13.new Nn 2).st = 0 := rfl
  clear ho hb H1 M12 wn hN b1 HS0
  go_wp2
  go_loopw [11, 12] (fun v j wr => ∃ (i : Nat) (a : A13.A) (all : List Ar.I), i ≤ sx.length ∧ i ≤ 30 ∧ all.length ≤ i ∧ a.st ≤ i ∧ j = .int .i64 i ∧ Hid (Ar.St O w p a v all [] (fun k => k = w.heap.size + 1) wr ∧ wr.heap[w.heap.size + 1]? = some (.cells #[.int .i64 qh, .string qt, .slice qo qk.length qc] 37 (0, 0)))) (fun _ j _ => 30 - (intOf j).toNat)
  case atStart => exact ⟨0, _, [], Nat.zero_le _, Nat.zero_le _, Nat.zero_le _, Nat.zero_le _, rfl, S0.out⟩
  case round =>
    obtain ⟨i, a, all, hi, hi3, hX, hst, rfl, hT⟩ := hrel
    clear S0 F0
    obtain ⟨go, hgo⟩ : ∃ b : Bool, Hid (decide (i < sx.length ∧ i < 30) = b) := ⟨_, rfl⟩
    go_upto_region 7 with (fail)
    go_cut [50] from 43 to 50 (fun c wx => c = .bool go ∧ wx = wr)
    case first =>
      by_cases c1 : i < sx.length
      · have q1 : decide ((i : Int) < (sx.length : Int)) = true := by simp; omega
        have q1' : decide (i < sx.length) = true := decide_eq_true c1
        by_cases c2 : i < 30
        · have q2 : decide ((i : Int) < 30) = true := by simp; omega
          have q2' : decide (i < 30) = true := decide_eq_true c2
          have m : go = true := by rw [← hgo.out]; exact decide_eq_true ⟨c1, c2⟩
          clear hT
          go_wp2
          go_meet
          exact ⟨by rw [m], rfl⟩
        · have q2 : decide ((i : Int) < 30) = false := by simp; omega
          have q2' : decide (i < 30) = false := decide_eq_false c2
          have m : go = false := by rw [← hgo.out]; exact decide_eq_false (fun c => c2 c.2)
          clear hT
          go_wp2
          go_meet
          exact ⟨by rw [m], rfl⟩
      · have q1 : decide ((i : Int) < (sx.length : Int)) = false := by simp; omega
        have q1' : decide (i < sx.length) = false := decide_eq_false c1
        have m : go = false := by rw [← hgo.out]; exact decide_eq_false (fun c => c1 c.1)
        clear hT
        go_wp2
        go_meet
        exact ⟨by rw [m], rfl⟩
    case rest =>
    obtain ⟨rfl, hwc⟩ := hcut
    have hwc := hwc.symm
    subst hwc
    cases go with
    | true =>
      obtain ⟨h1, h2⟩ := of_decide_eq_true hgo.out
      have q1' : (i : Int) < (sx.length : Int) := by omega
      obtain ⟨d, hd⟩ : ∃ d, sx[i]? = some d := ⟨_, List.getElem?_eq_getElem h1⟩
      obtain ⟨bb, oo, ea, _, c0, c1, c2, c3, c4, c5, c6⟩ := (HA.out.on hT.out.1.below).row i d hd
      dsimp only at ea
      subst ea
      have HAd := Lib.hid (HA.out.deed d (List.mem_of_getElem? hd))
      obtain ⟨va, vc, hv, _⟩ := hT.out.1.row
      subst hv
      have hinv := Lib.hid (hT.out.1.inv X)
      clear hd hgo
      have HP := Lib.hid (hT.out.1.play X (by omega) d (HAd.out.1.on hT.out.1.below) (by omega) (fun g o e n => HAd.out.2 g o e n))
      unfold Ar.Dd.v FL.ptr at HP
      have hOp := Ar.opH_le hinv.out HAd.out.1.h (fun i hi => (hT.out.1.hands i hi).2.2)
      have HT2 := Lib.hid hT.out.2
      clear hT
      go_wp2_with fail
      refine HP.out.mono ?_
      rintro e w3 ⟨t, xo, xc, ht, rfl, hS3, hK3⟩
      have S3 := hS3 hOp
      have BA : Below w3.heap.size w3 (w3.alloc (.cells #[.int .i64 (d.opX all a).h, .string t, .slice xo (d.opX all a).ks.length xc] 37)) := (Below.refl _ _).alloc (Nat.le_refl _) _
      have S4 := Lib.hid (S3.on X BA)
      have stp := Ar.op_st d all a
      have C3 := Ar.did3 d all a
      have N4 := heap_alloc_new w3 (.cells #[.int .i64 (d.opX all a).h, .string t, .slice xo (d.opX all a).ks.length xc] 37)
      have htc := Lib.hid (fun (c : N.chk (d.opX all a) = 0) => Ar.chk_of (xo := xo) (xc := xc) ht c)
      have Y4 := Lib.hid ((BA.block _ (Array.getElem?_eq_some_iff.1 ((hK3 _ rfl).2.trans HT2.out)).1).trans ((hK3 _ rfl).2.trans HT2.out))
      clear hS3 S3 hK3 HP BA c0 c1 c2 c3 c4 c5 c6 ht HAd HT2 hinv hOp
      generalize d.op all a = a6 at *
      generalize d.opK = K at *
      generalize d.opE all a = E at *
      generalize d.opH all a = hh at *
      generalize d.opX all a = x at *
      obtain ⟨W4, hW4⟩ : ∃ Z, w3.alloc (.cells #[.int .i64 x.h, .string t, .slice xo x.ks.length xc] 37) = Z := ⟨_, rfl⟩
      rw [hW4] at S4 N4 Y4
      go_upto_region 10 with (fail)
      obtain ⟨mk, hmk⟩ : ∃ b : Bool, Hid (decide (K = 0 ∧ E = 0) = b) := ⟨_, rfl⟩
      go_cut [70] from 65 to 70 (fun c wx => c = .bool mk ∧ wx = W4)
      case first =>
        by_cases k0 : K = 0
        · by_cases e0 : E = 0
          · have m : mk = true := by rw [← hmk.out]; exact decide_eq_true ⟨k0, e0⟩
            subst k0 e0
            clear C3 S4 htc
            go_wp2
            go_meet
            exact ⟨by rw [m], rfl⟩
          · have m : mk = false := by rw [← hmk.out]; exact decide_eq_false (fun c => e0 c.2)
            have e0' : (E == 0) = false := by simpa using e0
            subst k0
            clear C3 S4 htc
            go_wp2
            go_meet
            exact ⟨by rw [m], rfl⟩
        · have m : mk = false := by rw [← hmk.out]; exact decide_eq_false (fun c => k0 c.1)
          have k0' : (K == 0) = false := by simpa using k0
          clear C3 S4 htc
          go_wp2
          go_meet
          exact ⟨by rw [m], rfl⟩
      case rest =>
      obtain ⟨rfl, hwc⟩ := hcut
      have hwc := hwc.symm
      subst hwc
      all_goals
        by_cases m : mk = true
        · subst m
          have c : N.chk x = 0 := by
            have := of_decide_eq_true hmk.out
            rcases C3 with ⟨_, _, c, _⟩ | ⟨k, _⟩ | ⟨⟨_, k⟩ | k | ⟨k, _⟩, _⟩
            · exact c
            · omega
            · exact absurd this.2 k
            · omega
            · omega
          have cc := Lib.hid (htc.out c)
          have n0 := Lib.cell_of_heap N4 0
          have n1 := Lib.cell_of_heap N4 1
          have n2 := Lib.cell_of_heap N4 2
          clear C3 htc c hmk
          go_wp2_with (at_builtin; refine Ar.append_known rfl _ _ rfl w.heap.size (.slice va all.length vc) all ?s1 ?s2 ⟨hh, ⟨x.h, t, ⟨xo, xc, x.ks⟩⟩⟩ 1 ?s3 ?s4 ?s5 ?_)
          case s2 => exact S4.out.own
          case s4 => omega
          case s5 => exact S4.out.below.size
          intro v' w5 g1 g2 g3
          obtain ⟨S5, K5⟩ := S4.out.push X cc.out (by simpa using g1) g2 g3
          have S5 := Lib.hid (And.intro S5 ((K5 _ rfl).2.trans Y4.out))
          clear g1 g2 g3 K5 n0 n1 n2 S4 N4 Y4
          have hX' : (all ++ [(⟨hh, ⟨x.h, t, ⟨xo, xc, x.ks⟩⟩⟩ : Ar.I)]).length ≤ i + 1 := by rw [List.length_append]; simp; omega
          go_wp2
          go_roundw
          case rel => exact ⟨i + 1, a6, _, by omega, by omega, hX', by omega, by rfl, S5.out⟩
          case measure => simp [intOf]; omega
        · have m : mk = false := by simpa using m
          subst m
          have S5 := Lib.hid (And.intro S4.out.drop Y4.out)
          clear S4 N4 Y4 C3 htc hmk
          go_wp2
          go_roundw
          case rel => exact ⟨i + 1, a6, all, by omega, by omega, by omega, by omega, by rfl, S5.out⟩
          case measure => simp [intOf]; omega
    | false =>
      have hinv := Lib.hid (hT.out.1.inv X)
      obtain ⟨s0, s1, s2, s3, s4, s5, hs7⟩ : ∃ s0 s1 s2 s3 s4 s5 : Nat, Hid (a.l.st.length = s0 ∧ a.l.stk.length = s1 ∧ a.items.length = s2 ∧ a.l.gone = s3 ∧ a.al = s4 ∧ a.fr = s5) := ⟨_, _, _, _, _, _, rfl, rfl, rfl, rfl, rfl, rfl⟩
      have HSt : Hid (∀ (m : Nat) L Z, Ar.St O w p (Ar.stt a m) u11 all [] L Z → Calls Try.prog 28 #[.pointer (some ⟨p, 0, none⟩)] Z fun e W' => e = .returned (.agg #[.int .i64 (s0 : Int), .int .i64 (s1 : Int), .int .i64 (s2 : Int), .int .i64 (s3 : Int), .int .i64 (s4 : Int), .int .i64 (s5 : Int), .int .i64 (m : Int)]) ∧ Below Z.heap.size Z W') := fun m L Z hZ => by
        have := Ar.St.stats X hZ
        have e : Ar.st7 (Ar.stt a m) = .agg #[.int .i64 (s0 : Int), .int .i64 (s1 : Int), .int .i64 (s2 : Int), .int .i64 (s3 : Int), .int .i64 (s4 : Int), .int .i64 (s5 : Int), .int .i64 (m : Int)] := by
          obtain ⟨e0, e1, e2, e3, e4, e5⟩ := hs7.out
          rw [← e0, ← e1, ← e2, ← e3, ← e4, ← e5]; rfl
        rw [e] at this
        exact this
      have S9 : Hid (Ar.St O w p (Ar.stt a a.st) u11 all [] (fun k => k = w.heap.size + 1) wr ∧ wr.heap[w.heap.size + 1]? = some (.cells #[.int .i64 qh, .string qt, .slice qo qk.length qc] 37 (0, 0))) := hT.out
      have hs30 : a.st ≤ 30 := by omega
      obtain ⟨m0, hm0⟩ : ∃ m0, Hid (a.st = m0) := ⟨_, rfl⟩
      rw [hm0.out] at hs30 S9
      clear hT hgo hX hst hi hi3 hl hm0
      go_wp2_with fail
      refine (HSt.out m0 _ _ S9.out.1).mono ?_
      rintro e w1 ⟨rfl, hb1⟩
      have HL := Lib.hid ((S9.out.1.on X hb1).handles X)
      have Y1 := Lib.hid ((hb1.block _ (Array.getElem?_eq_some_iff.1 S9.out.2).1).trans S9.out.2)
      clear hb1 S9
      unfold FL.ptr at HL
      go_wp2_with fail
      refine HL.out.mono ?_
      rintro e w2 ⟨lo, lc, rfl, hS2, hr2, hb2, hfr⟩
      obtain ⟨W3, hW3⟩ : ∃ Z, w2.alloc (.cells #[.int .i64 (s0 : Int), .int .i64 (s1 : Int), .int .i64 (s2 : Int), .int .i64 (s3 : Int), .int .i64 (s4 : Int), .int .i64 (s5 : Int), .int .i64 (m0 : Int)] 62) = Z := ⟨_, rfl⟩
      have b3 : Below w2.heap.size w2 W3 := hW3 ▸ (Below.refl _ _).alloc (Nat.le_refl _) _
      have z3 : W3.heap.size = w2.heap.size + 1 := by rw [← hW3]; exact World.size_alloc _ _
      have Y3 := heap_alloc_new w2 (.cells #[.int .i64 (s0 : Int), .int .i64 (s1 : Int), .int .i64 (s2 : Int), .int .i64 (s3 : Int), .int .i64 (s4 : Int), .int .i64 (s5 : Int), .int .i64 (m0 : Int)] 62)
      rw [hW3] at Y3
      obtain ⟨L3, hL3⟩ : ∃ L3 : Nat → Prop, Hid (L3 = fun k => (k = w.heap.size + 1 ∨ ∃ o, lo = some ⟨k, o, none⟩ ∧ w1.heap.size ≤ k) ∨ k = w2.heap.size) := ⟨_, rfl⟩
      have RF3 : Hid (Ar.Rf O w p (Ar.stt a m0) u11 all L3 (w.heap.size + 1) w2.heap.size (.cells #[.int .i64 qh, .string qt, .slice qo qk.length qc] 37 (0, 0)) (.cells #[.int .i64 (s0 : Int), .int .i64 (s1 : Int), .int .i64 (s2 : Int), .int .i64 (s3 : Int), .int .i64 (s4 : Int), .int .i64 (s5 : Int), .int .i64 (m0 : Int)] 62 (0, 0)) lo (H.row a.l.hands) W3) := by
        have h1 := (Array.getElem?_eq_some_iff.1 Y1.out).1
        refine ⟨hS2.more X b3 (fun k c => ?_), ((hb2.trans (b3.mono hb2.size)).block _ h1).trans Y1.out, Y3, hr2.below b3, ?_, ?_, fun k o e => ?_, fun k o e => ?_⟩
        rotate_left 4
        · obtain ⟨_, _, _, _, _, _, _, q2, _⟩ := hS2.ex
          have := (q2 k (.inr (.inr ⟨o, e, hfr k o e⟩))).2.2
          omega
        · rw [hL3.out] at c
          rcases c with c | c
          · exact .inl c
          · exact .inr ⟨by omega, by omega⟩
        · rw [hL3.out]; exact .inl (.inl rfl)
        · rw [hL3.out]; exact .inr rfl
        · rw [hL3.out]; exact .inl (.inr ⟨o, e, hfr k o e⟩)
      have N3 := HX.out.1.on RF3.out.st.below
      have HCk := check12_any qh qt qo qc qk W3 N3.cd.ts N3.cd.len N3.s.row N3.s.fits
      unfold N.nv at HCk
      have HCk := Lib.hid HCk
      have x0 := Lib.cell_of_heap RF3.out.y7 0
      have x1 := Lib.cell_of_heap RF3.out.y7 1
      have x2 := Lib.cell_of_heap RF3.out.y7 2
      have hlh : (H.row a.l.hands).length = a.l.hands.length := H.row_len _
      have hlb := Lib.hid (Ar.lens hinv.out).2.1
      clear hS2 hr2 hb2 hfr b3 z3 Y3 N3 HL Y1 hL3 hlh
      go_wp2_with fail
      refine HCk.out.mono ?_
      rintro e w4 ⟨rfl, hb4⟩
      have RF4 := Lib.hid (RF3.out.on X hb4)
      obtain ⟨ck, hck⟩ : ∃ c, Hid (N.chk (N.nd qh qt qk) = c) := ⟨_, rfl⟩
      rw [hck.out]
      obtain ⟨f0, hf0⟩ : ∃ b : Bool, (ck == 0) = b := ⟨_, rfl⟩
      have hF0 : Hid ((f0 = true → N.chk (N.nd qh qt qk) = 0) ∧ (f0 = false → Ar.fits a (N.nd qh qt qk) = false)) := by
        refine ⟨fun c => ?_, fun c => ?_⟩
        · rw [hck.out]; rw [← hf0] at c; simpa using c
        · have : ck ≠ 0 := by rw [← hf0] at c; simpa using c
          unfold Ar.fits
          rw [hck.out, decide_eq_false this, Bool.false_and]
      clear hb4 RF3 HCk x0 x1 x2 hck
      go_wp2
      go_loopw [19, 20] (fun fv u wr => ∃ (f : Bool) (i2 : Nat), fv = .bool f ∧ u = .int .i64 i2 ∧ i2 ≤ qk.length ∧ Hid (Ar.Fi a (N.nd qh qt qk) qk f i2) ∧ Hid (Ar.Rf O w p (Ar.stt a m0) u11 all L3 (w.heap.size + 1) w2.heap.size (.cells #[.int .i64 qh, .string qt, .slice qo qk.length qc] 37 (0, 0)) (.cells #[.int .i64 (s0 : Int), .int .i64 (s1 : Int), .int .i64 (s2 : Int), .int .i64 (s3 : Int), .int .i64 (s4 : Int), .int .i64 (s5 : Int), .int .i64 (m0 : Int)] 62 (0, 0)) lo (H.row a.l.hands) wr)) (fun _ u _ => qk.length - (intOf u).toNat)
      case atStart => exact ⟨f0, 0, by first | rfl | simp, rfl, Nat.zero_le _, ⟨fun c => ⟨hF0.out.1 c, rfl⟩, hF0.out.2⟩, RF4.out⟩
      case round =>
        obtain ⟨f, i2, rfl, rfl, hi2, hF, hR⟩ := hrel
        clear RF4 hF0 hf0
        have x0 := Lib.cell_of_heap hR.out.y7 0
        have x2 := Lib.cell_of_heap hR.out.y7 2
        obtain ⟨g2, hg2⟩ : ∃ b : Bool, Hid ((f && decide (i2 < qk.length)) = b) := ⟨_, rfl⟩
        go_upto_region 15 with (fail)
        go_cut [91] from 84 to 91 (fun c wx => c = .bool g2 ∧ wx = wr)
        case first =>
          by_cases c1 : i2 < qk.length
          · have q1 : decide ((i2 : Int) < (qk.length : Int)) = true := by simp; omega
            have q1' : decide (i2 < qk.length) = true := decide_eq_true c1
            have m : g2 = f := by rw [← hg2.out, q1', Bool.and_true]
            clear hR hF hg2
            go_wp2
            go_meet
            exact ⟨by rw [m], rfl⟩
          · have q1 : decide ((i2 : Int) < (qk.length : Int)) = false := by simp; omega
            have q1' : decide (i2 < qk.length) = false := decide_eq_false c1
            have m : g2 = false := by rw [← hg2.out, q1', Bool.and_false]
            clear hR hF hg2
            go_wp2
            go_meet
            exact ⟨by rw [m], rfl⟩
        case rest =>
        obtain ⟨rfl, hwc⟩ := hcut
        have hwc := hwc.symm
        subst hwc
        cases g2 with
        | true =>
          have hft : f = true := by have := hg2.out; cases f with
            | true => rfl
            | false => simp at this
          have hlt : i2 < qk.length := by have := hg2.out; rw [hft, Bool.true_and] at this; exact of_decide_eq_true this
          subst hft
          obtain ⟨hc0, hk0⟩ := hF.out.1 rfl
          obtain ⟨q, hq, hqd⟩ := N.drop_cons hlt
          obtain ⟨kb, ko, e, _, d0, d1, d2, d3⟩ := (HX.out.1.on hR.out.st.below).s.row i2 q hq
          dsimp only at e
          subst e
          have hqa : q.at_ ≤ 18446744073709551615 := by have := (HX.out.1.s.fits q (List.mem_of_getElem? hq)).at_; omega
          have hlt' : (i2 : Int) < (qk.length : Int) := by omega
          have hyh : (0 ≤ qh ∧ qh ≤ 16) ∧ qk.length ≤ 4 := by
            rcases N.chk_cases hc0 with k | k
            · have e1 : qh = 0 := k.h
              have e2 : qk = [] := k.ks
              exact ⟨by omega, by rw [e2]; exact Nat.zero_le _⟩
            · have e1 : 0 < qh := k.h1
              have e2 : qh ≤ 16 := k.h2
              have e3 : qk.length ≤ 4 := k.k4
              exact ⟨by omega, e3⟩
          have hkn := hyh.2
          have wq : IntKind.i64.wrap (qh - 1) = qh - 1 := IntWalk.i64_in _ (by omega)
          have E1 : Hid (A13.kidsE Ar.ms a (N.nd qh qt qk) qk = if A13.kidE Ar.ms a (N.nd qh qt qk) q = 0 then A13.kidsE Ar.ms a (N.nd qh qt qk) (qk.drop (i2 + 1)) else A13.kidE Ar.ms a (N.nd qh qt qk) q) := by
            show _ = _
            rw [hk0, hqd]; rfl
          have EF : Hid (A13.kidE Ar.ms a (N.nd qh qt qk) q ≠ 0 → Ar.fits a (N.nd qh qt qk) = false) := fun c => by
            have : A13.kidsE Ar.ms a (N.nd qh qt qk) qk ≠ 0 := by rw [E1.out, if_neg c]; exact c
            unfold Ar.fits
            rw [show (N.nd qh qt qk).ks = qk from rfl, decide_eq_false this, Bool.and_false]
          have ET : Hid (A13.kidE Ar.ms a (N.nd qh qt qk) q = 0 → A13.kidsE Ar.ms a (N.nd qh qt qk) qk = A13.kidsE Ar.ms a (N.nd qh qt qk) (qk.drop (i2 + 1))) := fun c => by rw [E1.out, if_pos c]
          have hc0 := Lib.hid hc0
          have hq := Lib.hid hq
          have HLv := hR.out.st.live X q.at_ hqa
          unfold FL.ptr at HLv
          clear E1 hF hg2 hqd hk0 hyh
          by_cases hh : a.has q.at_ = true
          · rw [show (Ar.stt a m0).has q.at_ = true from hh] at HLv
            obtain ⟨y, hly⟩ := Ar.has_look13 hh
            have E2 : Hid (A13.kidE Ar.ms a (N.nd qh qt qk) q = if y.h = qh - 1 ∧ N.mB y = q.b ∧ N.mR y = q.r ∧ N.mL y = q.l then 0 else 23) := by
              show _ = _
              unfold A13.kidE
              rw [hly]
              have e : (y.h = (N.nd qh qt qk).h - 1 ∧ Ar.ms y = (q.b, q.r, q.l)) ↔ (y.h = qh - 1 ∧ N.mB y = q.b ∧ N.mR y = q.r ∧ N.mL y = q.l) := by
                unfold Ar.ms
                rw [Prod.mk.injEq, Prod.mk.injEq]
                exact Iff.rfl
              simp only [e]
            have HLv := Lib.hid HLv
            go_wp2_with fail
            refine HLv.out.mono ?_
            rintro e w5 ⟨rfl, hb5⟩
            have R5 := Lib.hid (hR.out.on X hb5)
            have hm0 : (Ar.stt a m0).st < 1000000000 := by show m0 < _; omega
            have HG := R5.out.st.get X hm0 q.at_ hqa
            rw [show Ar.got (Ar.stt a m0) q.at_ = y by unfold Ar.got; rw [show (Ar.stt a m0).look q.at_ = some y from hly]; rfl, show (Ar.stt a m0).gtE q.at_ = 0 by unfold A13.A.gtE; rw [if_pos (show (Ar.stt a m0).has q.at_ = true from hh)], A13.gt_yes (show (Ar.stt a m0).has q.at_ = true from hh)] at HG
            unfold FL.ptr at HG
            have HG := Lib.hid HG
            have x0 := Lib.cell_of_heap R5.out.y7 0
            have x2 := Lib.cell_of_heap R5.out.y7 2
            obtain ⟨_, _, e, _, d0, d1, d2, d3⟩ := (HX.out.1.on R5.out.st.below).s.row i2 q hq.out
            dsimp only at e
            cases e
            clear hb5 hR HLv hly hh hm0 hqa
            go_wp2_with fail
            refine HG.out.mono ?_
            rintro e w6 ⟨t6, zo, zc, ht6, rfl, hS6, hK6, hN6, hz6⟩
            obtain ⟨W7, hW7⟩ : ∃ Z, w6.alloc (.cells #[.int .i64 y.h, .string t6, .slice zo y.ks.length zc] 37) = Z := ⟨_, rfl⟩
            have b7 : Below w6.heap.size w6 W7 := hW7 ▸ (Below.refl _ _).alloc (Nat.le_refl _) _
            have Y7 := heap_alloc_new w6 (.cells #[.int .i64 y.h, .string t6, .slice zo y.ks.length zc] 37)
            rw [hW7] at Y7
            have R7 := Lib.hid ((R5.out.turn (hS6.less (fun _ c => .inl c)) hK6 hz6).on X b7)
            have N7 := hN6.on b7
            have HM := measure12_any y.h t6 zo zc y.ks W7 N7.cd.ts N7.cd.len N7.s.row N7.s.fits
            rw [Ar.nd_of13 ht6] at HM
            have HM : Hid (Calls Try.prog 37 #[.agg #[.int .i64 y.h, .string t6, .slice zo y.ks.length zc]] W7 fun e w' => e = .returned (.tuple #[.agg #[.int .i64 (N.mB y), .int .i64 (N.mR y), .int .i64 (N.mL y)], .int .i64 (N.chk y)]) ∧ Below W7.heap.size W7 w') := HM
            have v0 := Lib.cell_of_heap Y7 0
            have v1 := Lib.cell_of_heap Y7 1
            have v2 := Lib.cell_of_heap Y7 2
            have Y7 := Lib.hid Y7
            clear hS6 hK6 hN6 hz6 b7 N7 ht6 HG R5 x0 x2 d0 d1 d2 d3
            generalize N.mB y = mb at *
            generalize N.mR y = mr at *
            generalize N.mL y = ml at *
            generalize N.chk y = ck' at *
            generalize y.h = yh at *
            go_wp2_with fail
            refine HM.out.mono ?_
            rintro e w8 ⟨rfl, hb8⟩
            obtain ⟨W9, hW9⟩ : ∃ Z, w8.alloc (.cells #[.int .i64 mb, .int .i64 mr, .int .i64 ml] 48) = Z := ⟨_, rfl⟩
            have b9 : Below w8.heap.size w8 W9 := hW9 ▸ (Below.refl _ _).alloc (Nat.le_refl _) _
            have Y9 := heap_alloc_new w8 (.cells #[.int .i64 mb, .int .i64 mr, .int .i64 ml] 48)
            rw [hW9] at Y9
            have B9 := Ar.bt hb8 b9
            have R9 := Lib.hid (R7.out.on X B9)
            have v0 : W9.cell? ⟨w6.heap.size, 0, none⟩ = some (.int .i64 yh) := Lib.cell_of_heap ((B9.block _ (Array.getElem?_eq_some_iff.1 Y7.out).1).trans Y7.out) 0
            have x0 := Lib.cell_of_heap R9.out.y7 0
            have x2 := Lib.cell_of_heap R9.out.y7 2
            have m1 := Lib.cell_of_heap Y9 0
            have m2 := Lib.cell_of_heap Y9 1
            have m3 := Lib.cell_of_heap Y9 2
            obtain ⟨_, _, e, _, d0, d1, d2, d3⟩ := (HX.out.1.on R9.out.st.below).s.row i2 q hq.out
            dsimp only at e
            cases e
            have RN : Hid (∀ Z, Below W9.heap.size W9 Z → Ar.Rf O w p (Ar.stt a m0) u11 all L3 (w.heap.size + 1) w2.heap.size (.cells #[.int .i64 qh, .string qt, .slice (some ⟨kb, ko, none⟩) qk.length qc] 37 (0, 0)) (.cells #[.int .i64 (s0 : Int), .int .i64 (s1 : Int), .int .i64 (s2 : Int), .int .i64 (s3 : Int), .int .i64 (s4 : Int), .int .i64 (s5 : Int), .int .i64 (m0 : Int)] 62 (0, 0)) lo (H.row a.l.hands) Z) := fun Z hb => R9.out.on X hb
            have FT : Hid ((yh = qh - 1 ∧ mb = q.b ∧ mr = q.r ∧ ml = q.l) → Ar.Fi a (N.nd qh qt qk) qk true (i2 + 1)) := fun c => Ar.Fi.yes hc0.out (ET.out (by rw [E2.out]; exact if_pos c))
            have FF : Hid (¬ (yh = qh - 1 ∧ mb = q.b ∧ mr = q.r ∧ ml = q.l) → Ar.Fi a (N.nd qh qt qk) qk false (i2 + 1)) := fun c => Ar.Fi.no (EF.out (by rw [E2.out, if_neg c]; decide))
            clear hb8 b9 Y9 B9 R7 R9 HM Y7 v1 v2 hc0 E2 ET EF
            generalize q.b = zb at *
            generalize q.r = zr at *
            generalize q.l = zl at *
            have hDR := fun k => Go.Proofs.Ytlhgakdplabnlaa.H.drewN (Below.refl W9.heap.size W9) k
            have hDR := Lib.hid hDR
            by_cases hh : yh = qh - 1
            · have t1 : (yh == qh - 1) = true := by simpa using hh
              have hc : (mb = zb ∧ mr = zr ∧ ml = zl) ∨ mb ≠ zb ∨ (mb = zb ∧ mr ≠ zr) ∨ (mb = zb ∧ mr = zr ∧ ml ≠ zl) := by omega
              rcases hc with ⟨rfl, rfl, rfl⟩ | hc | ⟨rfl, hc⟩ | ⟨rfl, rfl, hc⟩
              · have F1 := Lib.hid (FT.out ⟨hh, rfl, rfl, rfl⟩)
                clear hh FT FF
                go_wp2
                go_quiet (fail)
                go_wp2
                go_roundw
                case rel => exact ⟨true, i2 + 1, by rfl, by first | rfl | go_num, by omega, F1.out, RN.out _ (hDR.out _)⟩
                case measure => simp [intOf]; omega
              · have F1 := Lib.hid (FF.out (fun c => hc c.2.1))
                clear hh FT FF
                go_wp2
                go_quiet (fail)
                go_wp2
                go_roundw
                case rel => exact ⟨false, i2 + 1, by rfl, by first | rfl | go_num, by omega, F1.out, RN.out _ (hDR.out _)⟩
                case measure => simp [intOf]; omega
              · have F1 := Lib.hid (FF.out (fun c => hc c.2.2.1))
                clear hh FT FF
                go_wp2
                go_quiet (fail)
                go_wp2
                go_roundw
                case rel => exact ⟨false, i2 + 1, by rfl, by first | rfl | go_num, by omega, F1.out, RN.out _ (hDR.out _)⟩
                case measure => simp [intOf]; omega
              · have F1 := Lib.hid (FF.out (fun c => hc c.2.2.2))
                clear hh FT FF
                go_wp2
                go_quiet (fail)
                go_wp2
                go_roundw
                case rel => exact ⟨false, i2 + 1, by rfl, by first | rfl | go_num, by omega, F1.out, RN.out _ (hDR.out _)⟩
                case measure => simp [intOf]; omega
            · have t1 : (yh == qh - 1) = false := by simpa using hh
              have F1 := Lib.hid (FF.out (fun c => hh c.1))
              clear hh FT FF
              go_wp2
              go_quiet (fail)
              go_wp2
              go_roundw
              case rel => exact ⟨false, i2 + 1, by rfl, by first | rfl | go_num, by omega, F1.out, RN.out _ (hDR.out _)⟩
              case measure => simp [intOf]; omega
          · have hh' : a.has q.at_ = false := by simpa using hh
            rw [show (Ar.stt a m0).has q.at_ = false from hh'] at HLv
            have F1 : Hid (Ar.Fi a (N.nd qh qt qk) qk false (i2 + 1)) := Ar.Fi.no (EF.out (by
              unfold A13.kidE
              have : a.look q.at_ = none := by
                unfold A13.A.has at hh'
                cases e : a.look q.at_ with
                | none => rfl
                | some y => rw [e] at hh'; cases hh'
              rw [this]
              show (10 : Int) ≠ 0
              decide))
            have HLv := Lib.hid HLv
            clear hc0 ET EF hh hh'
            go_wp2_with fail
            refine HLv.out.mono ?_
            rintro e w5 ⟨rfl, hb5⟩
            have R5 := Lib.hid (hR.out.on X hb5)
            clear hb5 hR HLv
            go_wp2
            go_roundw
            case rel => exact ⟨false, i2 + 1, by rfl, by first | rfl | go_num, by omega, F1.out, R5.out⟩
            case measure => simp [intOf]; omega
        | false =>
          have hfit : Hid (f = Ar.fits a (N.nd qh qt qk)) := by
            cases f with
            | false => exact (hF.out.2 rfl).symm
            | true =>
              have hge : ¬ i2 < qk.length := by have := hg2.out; rw [Bool.true_and] at this; exact of_decide_eq_false this
              obtain ⟨k1, k2⟩ := hF.out.1 rfl
              rw [List.drop_eq_nil_of_le (by omega)] at k2
              show true = _
              unfold Ar.fits
              rw [decide_eq_true k1, show (N.nd qh qt qk).ks = qk from rfl, decide_eq_true (show A13.kidsE Ar.ms a (N.nd qh qt qk) qk = 0 from k2)]; rfl
          have HAl := hR.out.st.alloc X ⟨qh, qt, ⟨qo, qc, qk⟩⟩ (HX.out.1.on hR.out.st.below) HX.out.2
          have hcs := Ar.alE_cases (Ar.stt a m0) (hR.out.st.inv X) (N.nd qh qt qk)
          have hx1 := Lib.cell_of_heap hR.out.y7 1
          obtain ⟨er, her⟩ : ∃ er, Hid (A13.alE Ar.ms (Ar.stt a m0) (N.nd qh qt qk) = er) := ⟨_, rfl⟩
          obtain ⟨ah, hah⟩ : ∃ ah, Hid (A13.alH Ar.ms (Ar.stt a m0) (N.nd qh qt qk) = ah) := ⟨_, rfl⟩
          have HAl : Hid (Calls Try.prog 16 #[.pointer (some ⟨p, 0, none⟩), .agg #[.int .i64 qh, .string qt, .slice qo qk.length qc]] wr fun E W' => E = .returned (.tuple #[.int .u64 (ah : Int), .int .i64 er]) ∧ Ar.St O w p (A13.al Ar.ms (Ar.stt a m0) (N.nd qh qt qk)) u11 all [] L3 W' ∧ Ar.Kept L3 wr W' ∧ wr.heap.size ≤ W'.heap.size) := by
            rw [← her.out, ← hah.out]; exact HAl
          have hcs : Hid ((er = 0 ∧ f = true ∧ 0 < s1) ∨ (er = 6 ∧ f = true ∧ s1 = 0) ∨ (er ≠ 0 ∧ er ≠ 6 ∧ f = false)) := by
            show _ ∨ _
            rw [her.out, show (Ar.stt a m0).l.stk.length = s1 from hs7.out.2.1, Ar.fits_stt a m0 (N.nd qh qt qk), ← hfit.out] at hcs
            exact hcs
          clear hg2 hfit hF
          go_wp2_with fail
          refine HAl.out.mono ?_
          rintro e w5 ⟨rfl, hS5, hK5, hz5⟩
          by_cases h0 : er = 0
          · obtain ⟨hf1, hs1⟩ : f = true ∧ 0 < s1 := by
              rcases hcs.out with ⟨_, k1, k2⟩ | ⟨k, _⟩ | ⟨k, _⟩
              · exact ⟨k1, k2⟩
              · omega
              · exact absurd h0 k
            obtain ⟨hlen, hhas⟩ := Ar.hands_al (hR.out.st.inv X) (her.out.trans h0)
            rw [hah.out] at hhas
            have hhb : ah ≤ 18446744073709551615 := by
              rw [← hah.out]
              unfold A13.alH
              split
              · exact FL.tkH_le13 (hR.out.st.inv X).l
              · exact Nat.zero_le _
            have hK17 := Lib.cell_of_heap ((hK5 _ hR.out.l17).2.trans hR.out.y17) 1
            have HLv := hS5.live X ah hhb
            rw [hhas] at HLv
            have HLv := Lib.hid HLv
            have hS5 := Lib.hid hS5
            subst h0 hf1
            have q1 : decide ((0 : Int) < (s1 : Int)) = true := by simp; omega
            have q1' : decide (0 < s1) = true := decide_eq_true hs1
            obtain ⟨nh, hnh⟩ : ∃ nh, Hid (a.l.hands.length = nh) := ⟨_, rfl⟩
            have hlen : Hid ((A13.al Ar.ms (Ar.stt a m0) (N.nd qh qt qk)).l.hands.length = nh + 1) := by show _ = _; rw [hlen]; exact congrArg (· + 1) hnh.out
            have hnb' : nh ≤ 16384 := by rw [← hnh.out]; exact hlb.out
            have wnh : IntKind.i64.wrap ((nh : Int) + 1) = (nh : Int) + 1 := IntWalk.i64_in _ (by omega)
            have HH : Hid (∀ Z, Ar.St O w p (A13.al Ar.ms (Ar.stt a m0) (N.nd qh qt qk)) u11 all [] L3 Z → Calls Try.prog 30 #[.pointer (some ⟨p, 0, none⟩)] Z fun e W' => ∃ ho hc, e = .returned (.slice ho (nh + 1) hc) ∧ Below Z.heap.size Z W') := fun Z hZ => (hZ.handles X).mono fun _ _ k => by
              obtain ⟨ho, hc, he, _, _, hb, _⟩ := k
              rw [hlen.out] at he
              exact ⟨ho, hc, he, hb⟩
            rw [show (Ar.stt a m0).l.hands.length = nh from hnh.out]
            clear hcs hlen hhas hR hK5 HAl hs7 HSt hnh her hah hlb
            have i1 : ∀ z : Int, (z == z) = true := fun z => by simp
            go_wp2_with fail
            refine HLv.out.mono ?_
            rintro e w6 ⟨rfl, hb6⟩
            have S6 := Lib.hid (hS5.out.on X hb6)
            clear HLv hS5 hK17 hb6
            go_wp2_with fail
            refine (HH.out _ S6.out).mono ?_
            rintro e w7 ⟨ho, hc, rfl, hb7⟩
            have B7 := Lib.hid (Ar.bt S6.out.below hb7)
            clear S6 hb7 HH
            go_wp2_with fail
            refine (HK.out _ B7.out).mono ?_
            rintro e w8 ⟨rfl, hb8⟩
            have B8 := Lib.hid hb8
            clear hb8 B7
            go_wp2
            go_ret
            exact ⟨rfl, B8.out⟩
          · have hal := A13.al_no (ms := Ar.ms) (a := Ar.stt a m0) (x := N.nd qh qt qk) (by rw [her.out]; exact h0)
            rw [hal.1] at hS5
            have hah0 : ah = 0 := hah.out.symm.trans hal.2
            have R5 := Lib.hid (hR.out.turn hS5 hK5 hz5)
            subst hah0
            have hcs := hcs.out.resolve_left (fun k => h0 k.1)
            have hcs := Lib.hid hcs
            have h0' : (er == 0) = false := by simpa using h0
            have i1 : ∀ z : Int, (z == z) = true := fun z => by simp
            clear hal hS5 hK5 hz5 HAl her hah hR hx1
            go_upto_region 25 with (fail)
            obtain ⟨W2, hW2⟩ : ∃ Z, Z = w5.drew := ⟨_, rfl⟩
            have R2 : Hid (Ar.Rf O w p (Ar.stt a m0) u11 all L3 (w.heap.size + 1) w2.heap.size (.cells #[.int .i64 qh, .string qt, .slice qo qk.length qc] 37 (0, 0)) (.cells #[.int .i64 (s0 : Int), .int .i64 (s1 : Int), .int .i64 (s2 : Int), .int .i64 (s3 : Int), .int .i64 (s4 : Int), .int .i64 (s5 : Int), .int .i64 (m0 : Int)] 62 (0, 0)) lo (H.row a.l.hands) W2) := hW2 ▸ R5.out.on X (Below.refl _ _).drew
            have HS : Hid (∀ Z, Below W2.heap.size W2 Z → (Z.cell? ⟨w2.heap.size, 0, none⟩ = some (.int .i64 (s0 : Int)) ∧ Z.cell? ⟨w2.heap.size, 1, none⟩ = some (.int .i64 (s1 : Int)) ∧ Z.cell? ⟨w2.heap.size, 2, none⟩ = some (.int .i64 (s2 : Int)) ∧ Z.cell? ⟨w2.heap.size, 3, none⟩ = some (.int .i64 (s3 : Int)) ∧ Z.cell? ⟨w2.heap.size, 4, none⟩ = some (.int .i64 (s4 : Int)) ∧ Z.cell? ⟨w2.heap.size, 5, none⟩ = some (.int .i64 (s5 : Int)) ∧ Z.cell? ⟨w2.heap.size, 6, none⟩ = some (.int .i64 (m0 : Int))) ∧ Below W2.heap.size W2 Z) := fun Z hb => by
              have y := (R2.out.on X hb).y17
              exact ⟨⟨Lib.cell_of_heap y 0, Lib.cell_of_heap y 1, Lib.cell_of_heap y 2, Lib.cell_of_heap y 3, Lib.cell_of_heap y 4, Lib.cell_of_heap y 5, Lib.cell_of_heap y 6⟩, hb⟩
            have HSs : Hid (∀ Z, Below W2.heap.size W2 Z → Calls Try.prog 28 #[.pointer (some ⟨p, 0, none⟩)] Z fun e W' => e = .returned (.agg #[.int .i64 (s0 : Int), .int .i64 (s1 : Int), .int .i64 (s2 : Int), .int .i64 (s3 : Int), .int .i64 (s4 : Int), .int .i64 (s5 : Int), .int .i64 (m0 : Int)]) ∧ Below Z.heap.size Z W') := fun Z hb => HSt.out m0 _ Z (R2.out.on X hb).st
            have HHn : Hid (∀ Z, Below W2.heap.size W2 Z → Calls Try.prog 30 #[.pointer (some ⟨p, 0, none⟩)] Z fun e W' => ∃ ho hc, e = .returned (.slice ho a.l.hands.length hc) ∧ V.Row W' ho (H.row a.l.hands) ∧ Below Z.heap.size Z W') := fun Z hb => ((R2.out.on X hb).st.handles X).mono fun _ _ k => by
              obtain ⟨ho, hc, he, _, hr, hb, _⟩ := k
              exact ⟨ho, hc, he, hr, hb⟩
            have HEq : Hid (∀ Z ho hc, V.Row Z ho (H.row a.l.hands) → Below W2.heap.size W2 Z → Calls Try.prog 38 #[.slice ho a.l.hands.length hc, .slice lo a.l.hands.length lc] Z fun e W' => e = .returned (.bool true) ∧ Below Z.heap.size Z W') := fun Z ho hc hr hb => by
              have := equalHandles_any ho lo hc lc a.l.hands a.l.hands Z hr (R2.out.on X hb).row (by have := hlb.out; unfold maxLen; omega)
              rwa [decide_eq_true rfl] at this
            go_cut [195] from 166 to 195 (fun c wx => c = .bool false ∧ Below W2.heap.size W2 wx)
            case first =>
              rcases hcs.out with ⟨rfl, rfl, hs1⟩ | ⟨_, h6, rfl⟩
              · have q1 : decide ((0 : Int) < (s1 : Int)) = false := by simp; omega
                have q1' : decide (0 < s1) = false := decide_eq_false (by omega)
                clear hcs R5 HSt hs7 h0 h0' hs1
                refine Pe.start (z := 29) (S := (fun Z => (Z.cell? ⟨w2.heap.size, 0, none⟩ = some (.int .i64 (s0 : Int)) ∧ Z.cell? ⟨w2.heap.size, 1, none⟩ = some (.int .i64 (s1 : Int)) ∧ Z.cell? ⟨w2.heap.size, 2, none⟩ = some (.int .i64 (s2 : Int)) ∧ Z.cell? ⟨w2.heap.size, 3, none⟩ = some (.int .i64 (s3 : Int)) ∧ Z.cell? ⟨w2.heap.size, 4, none⟩ = some (.int .i64 (s4 : Int)) ∧ Z.cell? ⟨w2.heap.size, 5, none⟩ = some (.int .i64 (s5 : Int)) ∧ Z.cell? ⟨w2.heap.size, 6, none⟩ = some (.int .i64 (m0 : Int))) ∧ Below W2.heap.size W2 Z)) (by kernel_rfl) (by kernel_rfl) W2 hW2 (HS.out _ (Below.refl _ _)) (fun hHeld => ?_)
                clear hW2
                refine Pe.Left.take (i := 0) (o := ?of0) (v := ?vf0) ?hif0 (by kernel_rfl) (by decide) (by kernel_rfl) (by kernel_rfl) ?hQf0 (Or.inl ⟨?waf0, ?hyf0⟩) hHeld ?restf0
                case hif0 => simp only [List.getElem?_toArray, List.getElem?_cons_zero]; rfl
                case hQf0 => exact fun _ _ _ h => h
                case waf0 => rfl
                case hyf0 => (intro w hSw; (try dsimp only at hSw); go_simp; (try with_reducible rfl))
                (try simp only [Act.put, List.setIfInBounds_toArray, List.set_cons_zero, List.set_cons_succ])
                refine Pe.Left.take (i := 1) (o := ?of1) (v := ?vf1) ?hif1 (by kernel_rfl) (by decide) (by kernel_rfl) (by kernel_rfl) ?hQf1 (Or.inl ⟨?waf1, ?hyf1⟩) hHeld ?restf1
                case hif1 => simp only [List.getElem?_toArray, List.getElem?_cons_succ, List.getElem?_cons_zero]; rfl
                case hQf1 => exact fun _ _ _ h => h
                case waf1 => rfl
                case hyf1 => (intro w hSw; (try dsimp only at hSw); go_simp; (try with_reducible rfl))
                (try simp only [Act.put, List.setIfInBounds_toArray, List.set_cons_zero, List.set_cons_succ])
                refine Pe.Left.take (i := 2) (o := ?of2) (v := ?vf2) ?hif2 (by kernel_rfl) (by decide) (by kernel_rfl) (by kernel_rfl) ?hQf2 (Or.inl ⟨?waf2, ?hyf2⟩) hHeld ?restf2
                case hif2 => simp only [List.getElem?_toArray, List.getElem?_cons_succ, List.getElem?_cons_zero]; rfl
                case hQf2 => exact fun _ _ _ h => h
                case waf2 => rfl
                case hyf2 => (intro w hSw; (try dsimp only at hSw); go_simp; (try with_reducible rfl))
                (try simp only [Act.put, List.setIfInBounds_toArray, List.set_cons_zero, List.set_cons_succ])
                refine Pe.Left.take (i := 3) (o := ?of3) (v := ?vf3) ?hif3 (by kernel_rfl) (by decide) (by kernel_rfl) (by kernel_rfl) ?hQf3 (Or.inl ⟨?waf3, ?hyf3⟩) hHeld ?restf3
                case hif3 => simp only [List.getElem?_toArray, List.getElem?_cons_succ, List.getElem?_cons_zero]; rfl
                case hQf3 => exact fun _ _ _ h => h
                case waf3 => rfl
                case hyf3 => (intro w hSw; (try dsimp only at hSw); go_simp; (try with_reducible rfl))
                (try simp only [Act.put, List.setIfInBounds_toArray, List.set_cons_zero, List.set_cons_succ])
                refine Pe.Left.take (i := 4) (o := ?of4) (v := ?vf4) ?hif4 (by kernel_rfl) (by decide) (by kernel_rfl) (by kernel_rfl) ?hQf4 (Or.inl ⟨?waf4, ?hyf4⟩) hHeld ?restf4
                case hif4 => simp only [List.getElem?_toArray, List.getElem?_cons_succ, List.getElem?_cons_zero]; rfl
                case hQf4 => exact fun _ _ _ h => h
                case waf4 => rfl
                case hyf4 => (intro w hSw; (try dsimp only at hSw); go_simp; (try with_reducible rfl))
                (try simp only [Act.put, List.setIfInBounds_toArray, List.set_cons_zero, List.set_cons_succ])
                refine Pe.Left.take (i := 5) (o := ?of5) (v := ?vf5) ?hif5 (by kernel_rfl) (by decide) (by kernel_rfl) (by kernel_rfl) ?hQf5 (Or.inl ⟨?waf5, ?hyf5⟩) hHeld ?restf5
                case hif5 => simp only [List.getElem?_toArray, List.getElem?_cons_succ, List.getElem?_cons_zero]; rfl
                case hQf5 => exact fun _ _ _ h => h
                case waf5 => rfl
                case hyf5 => (intro w hSw; (try dsimp only at hSw); go_simp; (try with_reducible rfl))
                (try simp only [Act.put, List.setIfInBounds_toArray, List.set_cons_zero, List.set_cons_succ])
                refine Pe.Left.take (i := 6) (o := ?of6) (v := ?vf6) ?hif6 (by kernel_rfl) (by decide) (by kernel_rfl) (by kernel_rfl) ?hQf6 (Or.inl ⟨?waf6, ?hyf6⟩) hHeld ?restf6
                case hif6 => simp only [List.getElem?_toArray, List.getElem?_cons_succ, List.getElem?_cons_zero]; rfl
                case hQf6 => exact fun _ _ _ h => h
                case waf6 => rfl
                case hyf6 => (intro w hSw; (try dsimp only at hSw); go_simp; (try with_reducible rfl))
                (try simp only [Act.put, List.setIfInBounds_toArray, List.set_cons_zero, List.set_cons_succ])
                refine Pe.Left.take (i := 7) (o := ?of7) (v := ?vf7) ?hif7 (by kernel_rfl) (by decide) (by kernel_rfl) (by kernel_rfl) ?hQf7 (Or.inl ⟨?waf7, ?hyf7⟩) hHeld ?restf7
                case hif7 => simp only [List.getElem?_toArray, List.getElem?_cons_succ, List.getElem?_cons_zero]; rfl
                case hQf7 => exact fun _ _ _ h => h
                case waf7 => rfl
                case hyf7 => (intro w hSw; (try dsimp only at hSw); go_simp; (try with_reducible rfl))
                (try simp only [Act.put, List.setIfInBounds_toArray, List.set_cons_zero, List.set_cons_succ])
                refine Pe.Left.take (i := 8) (o := ?of8) (v := ?vf8) ?hif8 (by kernel_rfl) (by decide) (by kernel_rfl) (by kernel_rfl) ?hQf8 (Or.inl ⟨?waf8, ?hyf8⟩) hHeld ?restf8
                case hif8 => simp only [List.getElem?_toArray, List.getElem?_cons_succ, List.getElem?_cons_zero]; rfl
                case hQf8 => exact fun _ _ _ h => h
                case waf8 => rfl
                case hyf8 => (intro w hSw; (try dsimp only at hSw); go_simp; (try with_reducible rfl))
                (try simp only [Act.put, List.setIfInBounds_toArray, List.set_cons_zero, List.set_cons_succ])
                refine Pe.Left.take (i := 9) (o := ?of9) (v := ?vf9) ?hif9 (by kernel_rfl) (by decide) (by kernel_rfl) (by kernel_rfl) ?hQf9 (Or.inl ⟨?waf9, ?hyf9⟩) hHeld ?restf9
                case hif9 => simp only [List.getElem?_toArray, List.getElem?_cons_succ, List.getElem?_cons_zero]; rfl
                case hQf9 => exact fun _ _ _ h => h
                case waf9 => rfl
                case hyf9 => (intro w hSw; (try dsimp only at hSw); go_simp; (try with_reducible rfl))
                (try simp only [Act.put, List.setIfInBounds_toArray, List.set_cons_zero, List.set_cons_succ])
                refine Pe.Left.take (i := 10) (o := ?of10) (v := ?vf10) ?hif10 (by kernel_rfl) (by decide) (by kernel_rfl) (by kernel_rfl) ?hQf10 (Or.inl ⟨?waf10, ?hyf10⟩) hHeld ?restf10
                case hif10 => simp only [List.getElem?_toArray, List.getElem?_cons_succ, List.getElem?_cons_zero]; rfl
                case hQf10 => exact fun _ _ _ h => h
                case waf10 => rfl
                case hyf10 => (intro w hSw; (try dsimp only at hSw); go_simp; (try with_reducible rfl))
                (try simp only [Act.put, List.setIfInBounds_toArray, List.set_cons_zero, List.set_cons_succ])
                refine Pe.Left.take (i := 11) (o := ?of11) (v := ?vf11) ?hif11 (by kernel_rfl) (by decide) (by kernel_rfl) (by kernel_rfl) ?hQf11 (Or.inl ⟨?waf11, ?hyf11⟩) hHeld ?restf11
                case hif11 => simp only [List.getElem?_toArray, List.getElem?_cons_succ, List.getElem?_cons_zero]; rfl
                case hQf11 => exact fun _ _ _ h => h
                case waf11 => rfl
                case hyf11 => (intro w hSw; (try dsimp only at hSw); go_simp; (try with_reducible rfl))
                (try simp only [Act.put, List.setIfInBounds_toArray, List.set_cons_zero, List.set_cons_succ])
                refine Pe.Left.take (i := 12) (o := ?of12) (v := ?vf12) ?hif12 (by kernel_rfl) (by decide) (by kernel_rfl) (by kernel_rfl) ?hQf12 (Or.inl ⟨?waf12, ?hyf12⟩) hHeld ?restf12
                case hif12 => simp only [List.getElem?_toArray, List.getElem?_cons_succ, List.getElem?_cons_zero]; rfl
                case hQf12 => exact fun _ _ _ h => h
                case waf12 => rfl
                case hyf12 => (intro w hSw; (try dsimp only at hSw); go_simp; (try with_reducible rfl))
                (try simp only [Act.put, List.setIfInBounds_toArray, List.set_cons_zero, List.set_cons_succ])
                refine Pe.Left.take (i := 13) (o := ?of13) (v := ?vf13) ?hif13 (by kernel_rfl) (by decide) (by kernel_rfl) (by kernel_rfl) ?hQf13 (Or.inl ⟨?waf13, ?hyf13⟩) hHeld ?restf13
                case hif13 => simp only [List.getElem?_toArray, List.getElem?_cons_succ, List.getElem?_cons_zero]; rfl
                case hQf13 => exact fun _ _ _ h => h
                case waf13 => rfl
                case hyf13 => (intro w hSw; (try dsimp only at hSw); go_simp; (try with_reducible rfl))
                (try simp only [Act.put, List.setIfInBounds_toArray, List.set_cons_zero, List.set_cons_succ])
                refine Pe.Left.take (i := 14) (o := ?of14) (v := ?vf14) ?hif14 (by kernel_rfl) (by decide) (by kernel_rfl) (by kernel_rfl) ?hQf14 (Or.inl ⟨?waf14, ?hyf14⟩) hHeld ?restf14
                case hif14 => simp only [List.getElem?_toArray, List.getElem?_cons_succ, List.getElem?_cons_zero]; rfl
                case hQf14 => exact fun _ _ _ h => h
                case waf14 => rfl
                case hyf14 => (intro w hSw; (try dsimp only at hSw); go_simp; (try with_reducible rfl))
                (try simp only [Act.put, List.setIfInBounds_toArray, List.set_cons_zero, List.set_cons_succ])
                refine Pe.Left.take (i := 15) (o := ?of15) (v := ?vf15) ?hif15 (by kernel_rfl) (by decide) (by kernel_rfl) (by kernel_rfl) ?hQf15 (Or.inl ⟨?waf15, ?hyf15⟩) hHeld ?restf15
                case hif15 => simp only [List.getElem?_toArray, List.getElem?_cons_succ, List.getElem?_cons_zero]; rfl
                case hQf15 => exact fun _ _ _ h => h
                case waf15 => rfl
                case hyf15 => (intro w hSw; (try dsimp only at hSw); go_simp; (try with_reducible rfl))
                (try simp only [Act.put, List.setIfInBounds_toArray, List.set_cons_zero, List.set_cons_succ])
                refine Pe.Left.take (i := 16) (o := ?of16) (v := ?vf16) ?hif16 (by kernel_rfl) (by decide) (by kernel_rfl) (by kernel_rfl) ?hQf16 (Or.inl ⟨?waf16, ?hyf16⟩) hHeld ?restf16
                case hif16 => simp only [List.getElem?_toArray, List.getElem?_cons_succ, List.getElem?_cons_zero]; rfl
                case hQf16 => exact fun _ _ _ h => h
                case waf16 => rfl
                case hyf16 => (intro w hSw; (try dsimp only at hSw); go_simp; (try with_reducible rfl))
                (try simp only [Act.put, List.setIfInBounds_toArray, List.set_cons_zero, List.set_cons_succ])
                refine Pe.Left.take (i := 17) (o := ?of17) (v := ?vf17) ?hif17 (by kernel_rfl) (by decide) (by kernel_rfl) (by kernel_rfl) ?hQf17 (Or.inl ⟨?waf17, ?hyf17⟩) hHeld ?restf17
                case hif17 => simp only [List.getElem?_toArray, List.getElem?_cons_succ, List.getElem?_cons_zero]; rfl
                case hQf17 => exact fun _ _ _ h => h
                case waf17 => rfl
                case hyf17 => (intro w hSw; (try dsimp only at hSw); go_simp; (try with_reducible rfl))
                (try simp only [Act.put, List.setIfInBounds_toArray, List.set_cons_zero, List.set_cons_succ])
                refine Pe.Left.take (i := 18) (o := ?of18) (v := ?vf18) ?hif18 (by kernel_rfl) (by decide) (by kernel_rfl) (by kernel_rfl) ?hQf18 (Or.inl ⟨?waf18, ?hyf18⟩) hHeld ?restf18
                case hif18 => simp only [List.getElem?_toArray, List.getElem?_cons_succ, List.getElem?_cons_zero]; rfl
                case hQf18 => exact fun _ _ _ h => h
                case waf18 => rfl
                case hyf18 => (intro w hSw; (try dsimp only at hSw); go_simp; (try with_reducible rfl))
                (try simp only [Act.put, List.setIfInBounds_toArray, List.set_cons_zero, List.set_cons_succ])
                refine Pe.Left.take (i := 20) (o := ?of20) (v := ?vf20) ?hif20 (by kernel_rfl) (by decide) (by kernel_rfl) (by kernel_rfl) ?hQf20 (Or.inl ⟨?waf20, ?hyf20⟩) hHeld ?restf20
                case hif20 => simp only [List.getElem?_toArray, List.getElem?_cons_succ, List.getElem?_cons_zero]; rfl
                case hQf20 => exact fun _ _ _ h => h
                case waf20 => rfl
                case hyf20 => (intro w hSw; (try dsimp only at hSw); go_simp; (try with_reducible rfl))
                (try simp only [Act.put, List.setIfInBounds_toArray, List.set_cons_zero, List.set_cons_succ])
                refine Pe.Left.one (i := 19) (o := ?of19) ?hif19 (by kernel_rfl) (by decide) (fun KK hK => ?restf19)
                case hif19 => simp only [List.getElem?_toArray, List.getElem?_cons_succ, List.getElem?_cons_zero]; rfl
                go_simp
                go_at_call 28
                refine (HSs.out _ hHeld.2).mono ?_
                rintro e w8 ⟨rfl, hb⟩
                have Bw8 := Ar.bt hHeld.2 hb
                have hSw8 := HS.out _ Bw8
                have Bw8 := Lib.hid Bw8
                clear hHeld hb
                (try go_wp2_with fail)
                refine hK.out _ _ ?_ (fun hHeld => ?_)
                · exact hSw8
                clear hK KK
                (try simp only [Act.put, List.setIfInBounds_toArray, List.set_cons_zero, List.set_cons_succ])
                refine Pe.Left.take (i := 21) (o := ?of21) (v := ?vf21) ?hif21 (by kernel_rfl) (by decide) (by kernel_rfl) (by kernel_rfl) ?hQf21 (Or.inl ⟨?waf21, ?hyf21⟩) hHeld ?restf21
                case hif21 => simp only [List.getElem?_toArray, List.getElem?_cons_succ, List.getElem?_cons_zero]; rfl
                case hQf21 => exact fun _ _ _ h => h
                case waf21 => rfl
                case hyf21 => (intro w hSw; (try dsimp only at hSw); go_simp; (try with_reducible rfl))
                (try simp only [Act.put, List.setIfInBounds_toArray, List.set_cons_zero, List.set_cons_succ])
                refine Pe.Left.take (i := 22) (o := ?of22) (v := ?vf22) ?hif22 (by kernel_rfl) (by decide) (by kernel_rfl) (by kernel_rfl) ?hQf22 (Or.inl ⟨?waf22, ?hyf22⟩) hHeld ?restf22
                case hif22 => simp only [List.getElem?_toArray, List.getElem?_cons_succ, List.getElem?_cons_zero]; rfl
                case hQf22 => exact fun _ _ _ h => h
                case waf22 => rfl
                case hyf22 => (intro w hSw; (try dsimp only at hSw); go_simp; (try with_reducible rfl))
                (try simp only [Act.put, List.setIfInBounds_toArray, List.set_cons_zero, List.set_cons_succ])
                refine Pe.Left.take (i := 23) (o := ?of23) (v := ?vf23) ?hif23 (by kernel_rfl) (by decide) (by kernel_rfl) (by kernel_rfl) ?hQf23 (Or.inl ⟨?waf23, ?hyf23⟩) hHeld ?restf23
                case hif23 => simp only [List.getElem?_toArray, List.getElem?_cons_succ, List.getElem?_cons_zero]; rfl
                case hQf23 => exact fun _ _ _ h => h
                case waf23 => rfl
                case hyf23 => (intro w hSw; (try dsimp only at hSw); go_simp; (try with_reducible rfl))
                (try simp only [Act.put, List.setIfInBounds_toArray, List.set_cons_zero, List.set_cons_succ])
                refine Pe.Left.take (i := 24) (o := ?of24) (v := ?vf24) ?hif24 (by kernel_rfl) (by decide) (by kernel_rfl) (by kernel_rfl) ?hQf24 (Or.inl ⟨?waf24, ?hyf24⟩) hHeld ?restf24
                case hif24 => simp only [List.getElem?_toArray, List.getElem?_cons_succ, List.getElem?_cons_zero]; rfl
                case hQf24 => exact fun _ _ _ h => h
                case waf24 => rfl
                case hyf24 => (intro w hSw; (try dsimp only at hSw); go_simp; (try with_reducible rfl))
                (try simp only [Act.put, List.setIfInBounds_toArray, List.set_cons_zero, List.set_cons_succ])
                refine Pe.Left.take (i := 26) (o := ?of26) (v := ?vf26) ?hif26 (by kernel_rfl) (by decide) (by kernel_rfl) (by kernel_rfl) ?hQf26 (Or.inl ⟨?waf26, ?hyf26⟩) hHeld ?restf26
                case hif26 => simp only [List.getElem?_toArray, List.getElem?_cons_succ, List.getElem?_cons_zero]; rfl
                case hQf26 => exact fun _ _ _ h => h
                case waf26 => rfl
                case hyf26 => (intro w hSw; (try dsimp only at hSw); go_simp; (try with_reducible rfl))
                (try simp only [Act.put, List.setIfInBounds_toArray, List.set_cons_zero, List.set_cons_succ])
                refine Pe.Left.one (i := 25) (o := ?of25) ?hif25 (by kernel_rfl) (by decide) (fun KK hK => ?restf25)
                case hif25 => simp only [List.getElem?_toArray, List.getElem?_cons_succ, List.getElem?_cons_zero]; rfl
                go_simp
                go_at_call 30
                refine (HHn.out _ hHeld.2).mono ?_
                rintro e w9 ⟨ho, hc, rfl, hrw, hb⟩
                have Bw9 := Ar.bt hHeld.2 hb
                have hSw9 := HS.out _ Bw9
                have Bw9 := Lib.hid Bw9
                have HRw := Lib.hid hrw
                clear hHeld hb hrw
                (try go_wp2_with fail)
                refine hK.out _ _ ?_ (fun hHeld => ?_)
                · exact hSw9
                clear hK KK
                (try simp only [Act.put, List.setIfInBounds_toArray, List.set_cons_zero, List.set_cons_succ])
                refine Pe.Left.one (i := 27) (o := ?of27) ?hif27 (by kernel_rfl) (by decide) (fun KK hK => ?restf27)
                case hif27 => simp only [List.getElem?_toArray, List.getElem?_cons_succ, List.getElem?_cons_zero]; rfl
                go_simp
                go_at_call 38
                refine (HEq.out _ ho hc HRw.out hHeld.2).mono ?_
                rintro e w10 ⟨rfl, hb⟩
                have Bw10 := Ar.bt hHeld.2 hb
                have hSw10 := HS.out _ Bw10
                have Bw10 := Lib.hid Bw10
                clear hHeld hb
                (try go_wp2_with fail)
                refine hK.out _ _ ?_ (fun hHeld => ?_)
                · exact hSw10
                clear hK KK
                (try simp only [Act.put, List.setIfInBounds_toArray, List.set_cons_zero, List.set_cons_succ])
                refine Pe.Left.take (i := 28) (o := ?of28) (v := ?vf28) ?hif28 (by kernel_rfl) (by decide) (by kernel_rfl) (by kernel_rfl) ?hQf28 (Or.inl ⟨?waf28, ?hyf28⟩) hHeld ?restf28
                case hif28 => simp only [List.getElem?_toArray, List.getElem?_cons_succ, List.getElem?_cons_zero]; rfl
                case hQf28 => exact fun _ _ _ h => h
                case waf28 => rfl
                case hyf28 => (intro w hSw; (try dsimp only at hSw); go_simp; (try with_reducible rfl))
                (try simp only [Act.put, List.setIfInBounds_toArray, List.set_cons_zero, List.set_cons_succ])
                refine Pe.Left.last (o := ?ofZ) ?hifZ (by kernel_rfl) (by kernel_rfl) (fun KK hK => ?restfZ)
                case hifZ => simp only [List.getElem?_toArray, List.getElem?_cons_succ, List.getElem?_cons_zero]; rfl
                go_simp
                refine hK.out _ _ ?_
                clear hK KK hHeld
                go_wp2
                go_meet
                exact ⟨by rfl, Bw10.out⟩
              · have h6' : (er == 6) = false := by simpa using h6
                clear hcs R5 HSt hs7 h0 h0' h6
                refine Pe.start (z := 29) (S := (fun Z => (Z.cell? ⟨w2.heap.size, 0, none⟩ = some (.int .i64 (s0 : Int)) ∧ Z.cell? ⟨w2.heap.size, 1, none⟩ = some (.int .i64 (s1 : Int)) ∧ Z.cell? ⟨w2.heap.size, 2, none⟩ = some (.int .i64 (s2 : Int)) ∧ Z.cell? ⟨w2.heap.size, 3, none⟩ = some (.int .i64 (s3 : Int)) ∧ Z.cell? ⟨w2.heap.size, 4, none⟩ = some (.int .i64 (s4 : Int)) ∧ Z.cell? ⟨w2.heap.size, 5, none⟩ = some (.int .i64 (s5 : Int)) ∧ Z.cell? ⟨w2.heap.size, 6, none⟩ = some (.int .i64 (m0 : Int))) ∧ Below W2.heap.size W2 Z)) (by kernel_rfl) (by kernel_rfl) W2 hW2 (HS.out _ (Below.refl _ _)) (fun hHeld => ?_)
                clear hW2
                refine Pe.Left.take (i := 0) (o := ?oo0) (v := ?vo0) ?hio0 (by kernel_rfl) (by decide) (by kernel_rfl) (by kernel_rfl) ?hQo0 (Or.inl ⟨?wao0, ?hyo0⟩) hHeld ?resto0
                case hio0 => simp only [List.getElem?_toArray, List.getElem?_cons_zero]; rfl
                case hQo0 => exact fun _ _ _ h => h
                case wao0 => rfl
                case hyo0 => (intro w hSw; (try dsimp only at hSw); go_simp; (try with_reducible rfl))
                (try simp only [Act.put, List.setIfInBounds_toArray, List.set_cons_zero, List.set_cons_succ])
                refine Pe.Left.take (i := 1) (o := ?oo1) (v := ?vo1) ?hio1 (by kernel_rfl) (by decide) (by kernel_rfl) (by kernel_rfl) ?hQo1 (Or.inl ⟨?wao1, ?hyo1⟩) hHeld ?resto1
                case hio1 => simp only [List.getElem?_toArray, List.getElem?_cons_succ, List.getElem?_cons_zero]; rfl
                case hQo1 => exact fun _ _ _ h => h
                case wao1 => rfl
                case hyo1 => (intro w hSw; (try dsimp only at hSw); go_simp; (try with_reducible rfl))
                (try simp only [Act.put, List.setIfInBounds_toArray, List.set_cons_zero, List.set_cons_succ])
                refine Pe.Left.take (i := 2) (o := ?oo2) (v := ?vo2) ?hio2 (by kernel_rfl) (by decide) (by kernel_rfl) (by kernel_rfl) ?hQo2 (Or.inl ⟨?wao2, ?hyo2⟩) hHeld ?resto2
                case hio2 => simp only [List.getElem?_toArray, List.getElem?_cons_succ, List.getElem?_cons_zero]; rfl
                case hQo2 => exact fun _ _ _ h => h
                case wao2 => rfl
                case hyo2 => (intro w hSw; (try dsimp only at hSw); go_simp; (try with_reducible rfl))
                (try simp only [Act.put, List.setIfInBounds_toArray, List.set_cons_zero, List.set_cons_succ])
                refine Pe.Left.take (i := 3) (o := ?oo3) (v := ?vo3) ?hio3 (by kernel_rfl) (by decide) (by kernel_rfl) (by kernel_rfl) ?hQo3 (Or.inl ⟨?wao3, ?hyo3⟩) hHeld ?resto3
                case hio3 => simp only [List.getElem?_toArray, List.getElem?_cons_succ, List.getElem?_cons_zero]; rfl
                case hQo3 => exact fun _ _ _ h => h
                case wao3 => rfl
                case hyo3 => (intro w hSw; (try dsimp only at hSw); go_simp; (try with_reducible rfl))
                (try simp only [Act.put, List.setIfInBounds_toArray, List.set_cons_zero, List.set_cons_succ])
                refine Pe.Left.take (i := 4) (o := ?oo4) (v := ?vo4) ?hio4 (by kernel_rfl) (by decide) (by kernel_rfl) (by kernel_rfl) ?hQo4 (Or.inl ⟨?wao4, ?hyo4⟩) hHeld ?resto4
                case hio4 => simp only [List.getElem?_toArray, List.getElem?_cons_succ, List.getElem?_cons_zero]; rfl
                case hQo4 => exact fun _ _ _ h => h
                case wao4 => rfl
                case hyo4 => (intro w hSw; (try dsimp only at hSw); go_simp; (try with_reducible rfl))
                (try simp only [Act.put, List.setIfInBounds_toArray, List.set_cons_zero, List.set_cons_succ])
                refine Pe.Left.take (i := 5) (o := ?oo5) (v := ?vo5) ?hio5 (by kernel_rfl) (by decide) (by kernel_rfl) (by kernel_rfl) ?hQo5 (Or.inl ⟨?wao5, ?hyo5⟩) hHeld ?resto5
                case hio5 => simp only [List.getElem?_toArray, List.getElem?_cons_succ, List.getElem?_cons_zero]; rfl
                case hQo5 => exact fun _ _ _ h => h
                case wao5 => rfl
                case hyo5 => (intro w hSw; (try dsimp only at hSw); go_simp; (try with_reducible rfl))
                (try simp only [Act.put, List.setIfInBounds_toArray, List.set_cons_zero, List.set_cons_succ])
                refine Pe.Left.take (i := 6) (o := ?oo6) (v := ?vo6) ?hio6 (by kernel_rfl) (by decide) (by kernel_rfl) (by kernel_rfl) ?hQo6 (Or.inl ⟨?wao6, ?hyo6⟩) hHeld ?resto6
                case hio6 => simp only [List.getElem?_toArray, List.getElem?_cons_succ, List.getElem?_cons_zero]; rfl
                case hQo6 => exact fun _ _ _ h => h
                case wao6 => rfl
                case hyo6 => (intro w hSw; (try dsimp only at hSw); go_simp; (try with_reducible rfl))
                (try simp only [Act.put, List.setIfInBounds_toArray, List.set_cons_zero, List.set_cons_succ])
                refine Pe.Left.take (i := 7) (o := ?oo7) (v := ?vo7) ?hio7 (by kernel_rfl) (by decide) (by kernel_rfl) (by kernel_rfl) ?hQo7 (Or.inl ⟨?wao7, ?hyo7⟩) hHeld ?resto7
                case hio7 => simp only [List.getElem?_toArray, List.getElem?_cons_succ, List.getElem?_cons_zero]; rfl
                case hQo7 => exact fun _ _ _ h => h
                case wao7 => rfl
                case hyo7 => (intro w hSw; (try dsimp only at hSw); go_simp; (try with_reducible rfl))
                (try simp only [Act.put, List.setIfInBounds_toArray, List.set_cons_zero, List.set_cons_succ])
                refine Pe.Left.take (i := 8) (o := ?oo8) (v := undef) ?hio8 (by kernel_rfl) (by decide) (by kernel_rfl) (by kernel_rfl) ?hQo8 (Or.inr ⟨?wao8, rfl⟩) hHeld ?resto8
                case hio8 => simp only [List.getElem?_toArray, List.getElem?_cons_succ, List.getElem?_cons_zero]; rfl
                case hQo8 => exact fun _ _ _ h => h
                case wao8 => rfl
                (try simp only [Act.put, List.setIfInBounds_toArray, List.set_cons_zero, List.set_cons_succ])
                refine Pe.Left.take (i := 9) (o := ?oo9) (v := undef) ?hio9 (by kernel_rfl) (by decide) (by kernel_rfl) (by kernel_rfl) ?hQo9 (Or.inr ⟨?wao9, rfl⟩) hHeld ?resto9
                case hio9 => simp only [List.getElem?_toArray, List.getElem?_cons_succ, List.getElem?_cons_zero]; rfl
                case hQo9 => exact fun _ _ _ h => h
                case wao9 => rfl
                (try simp only [Act.put, List.setIfInBounds_toArray, List.set_cons_zero, List.set_cons_succ])
                refine Pe.Left.take (i := 10) (o := ?oo10) (v := undef) ?hio10 (by kernel_rfl) (by decide) (by kernel_rfl) (by kernel_rfl) ?hQo10 (Or.inr ⟨?wao10, rfl⟩) hHeld ?resto10
                case hio10 => simp only [List.getElem?_toArray, List.getElem?_cons_succ, List.getElem?_cons_zero]; rfl
                case hQo10 => exact fun _ _ _ h => h
                case wao10 => rfl
                (try simp only [Act.put, List.setIfInBounds_toArray, List.set_cons_zero, List.set_cons_succ])
                refine Pe.Left.take (i := 11) (o := ?oo11) (v := ?vo11) ?hio11 (by kernel_rfl) (by decide) (by kernel_rfl) (by kernel_rfl) ?hQo11 (Or.inl ⟨?wao11, ?hyo11⟩) hHeld ?resto11
                case hio11 => simp only [List.getElem?_toArray, List.getElem?_cons_succ, List.getElem?_cons_zero]; rfl
                case hQo11 => exact fun _ _ _ h => h
                case wao11 => rfl
                case hyo11 => (intro w hSw; (try dsimp only at hSw); go_simp; (try with_reducible rfl))
                (try simp only [Act.put, List.setIfInBounds_toArray, List.set_cons_zero, List.set_cons_succ])
                refine Pe.Left.take (i := 12) (o := ?oo12) (v := ?vo12) ?hio12 (by kernel_rfl) (by decide) (by kernel_rfl) (by kernel_rfl) ?hQo12 (Or.inl ⟨?wao12, ?hyo12⟩) hHeld ?resto12
                case hio12 => simp only [List.getElem?_toArray, List.getElem?_cons_succ, List.getElem?_cons_zero]; rfl
                case hQo12 => exact fun _ _ _ h => h
                case wao12 => rfl
                case hyo12 => (intro w hSw; (try dsimp only at hSw); go_simp; (try with_reducible rfl))
                (try simp only [Act.put, List.setIfInBounds_toArray, List.set_cons_zero, List.set_cons_succ])
                refine Pe.Left.take (i := 13) (o := ?oo13) (v := ?vo13) ?hio13 (by kernel_rfl) (by decide) (by kernel_rfl) (by kernel_rfl) ?hQo13 (Or.inl ⟨?wao13, ?hyo13⟩) hHeld ?resto13
                case hio13 => simp only [List.getElem?_toArray, List.getElem?_cons_succ, List.getElem?_cons_zero]; rfl
                case hQo13 => exact fun _ _ _ h => h
                case wao13 => rfl
                case hyo13 => (intro w hSw; (try dsimp only at hSw); go_simp; (try with_reducible rfl))
                (try simp only [Act.put, List.setIfInBounds_toArray, List.set_cons_zero, List.set_cons_succ])
                refine Pe.Left.take (i := 14) (o := ?oo14) (v := ?vo14) ?hio14 (by kernel_rfl) (by decide) (by kernel_rfl) (by kernel_rfl) ?hQo14 (Or.inl ⟨?wao14, ?hyo14⟩) hHeld ?resto14
                case hio14 => simp only [List.getElem?_toArray, List.getElem?_cons_succ, List.getElem?_cons_zero]; rfl
                case hQo14 => exact fun _ _ _ h => h
                case wao14 => rfl
                case hyo14 => (intro w hSw; (try dsimp only at hSw); go_simp; (try with_reducible rfl))
                (try simp only [Act.put, List.setIfInBounds_toArray, List.set_cons_zero, List.set_cons_succ])
                refine Pe.Left.take (i := 15) (o := ?oo15) (v := ?vo15) ?hio15 (by kernel_rfl) (by decide) (by kernel_rfl) (by kernel_rfl) ?hQo15 (Or.inl ⟨?wao15, ?hyo15⟩) hHeld ?resto15
                case hio15 => simp only [List.getElem?_toArray, List.getElem?_cons_succ, List.getElem?_cons_zero]; rfl
                case hQo15 => exact fun _ _ _ h => h
                case wao15 => rfl
                case hyo15 => (intro w hSw; (try dsimp only at hSw); go_simp; (try with_reducible rfl))
                (try simp only [Act.put, List.setIfInBounds_toArray, List.set_cons_zero, List.set_cons_succ])
                refine Pe.Left.take (i := 16) (o := ?oo16) (v := ?vo16) ?hio16 (by kernel_rfl) (by decide) (by kernel_rfl) (by kernel_rfl) ?hQo16 (Or.inl ⟨?wao16, ?hyo16⟩) hHeld ?resto16
                case hio16 => simp only [List.getElem?_toArray, List.getElem?_cons_succ, List.getElem?_cons_zero]; rfl
                case hQo16 => exact fun _ _ _ h => h
                case wao16 => rfl
                case hyo16 => (intro w hSw; (try dsimp only at hSw); go_simp; (try with_reducible rfl))
                (try simp only [Act.put, List.setIfInBounds_toArray, List.set_cons_zero, List.set_cons_succ])
                refine Pe.Left.take (i := 17) (o := ?oo17) (v := ?vo17) ?hio17 (by kernel_rfl) (by decide) (by kernel_rfl) (by kernel_rfl) ?hQo17 (Or.inl ⟨?wao17, ?hyo17⟩) hHeld ?resto17
                case hio17 => simp only [List.getElem?_toArray, List.getElem?_cons_succ, List.getElem?_cons_zero]; rfl
                case hQo17 => exact fun _ _ _ h => h
                case wao17 => rfl
                case hyo17 => (intro w hSw; (try dsimp only at hSw); go_simp; (try with_reducible rfl))
                (try simp only [Act.put, List.setIfInBounds_toArray, List.set_cons_zero, List.set_cons_succ])
                refine Pe.Left.take (i := 18) (o := ?oo18) (v := ?vo18) ?hio18 (by kernel_rfl) (by decide) (by kernel_rfl) (by kernel_rfl) ?hQo18 (Or.inl ⟨?wao18, ?hyo18⟩) hHeld ?resto18
                case hio18 => simp only [List.getElem?_toArray, List.getElem?_cons_succ, List.getElem?_cons_zero]; rfl
                case hQo18 => exact fun _ _ _ h => h
                case wao18 => rfl
                case hyo18 => (intro w hSw; (try dsimp only at hSw); go_simp; (try with_reducible rfl))
                (try simp only [Act.put, List.setIfInBounds_toArray, List.set_cons_zero, List.set_cons_succ])
                refine Pe.Left.take (i := 20) (o := ?oo20) (v := ?vo20) ?hio20 (by kernel_rfl) (by decide) (by kernel_rfl) (by kernel_rfl) ?hQo20 (Or.inl ⟨?wao20, ?hyo20⟩) hHeld ?resto20
                case hio20 => simp only [List.getElem?_toArray, List.getElem?_cons_succ, List.getElem?_cons_zero]; rfl
                case hQo20 => exact fun _ _ _ h => h
                case wao20 => rfl
                case hyo20 => (intro w hSw; (try dsimp only at hSw); go_simp; (try with_reducible rfl))
                (try simp only [Act.put, List.setIfInBounds_toArray, List.set_cons_zero, List.set_cons_succ])
                refine Pe.Left.one (i := 19) (o := ?oo19) ?hio19 (by kernel_rfl) (by decide) (fun KK hK => ?resto19)
                case hio19 => simp only [List.getElem?_toArray, List.getElem?_cons_succ, List.getElem?_cons_zero]; rfl
                go_simp
                go_at_call 28
                refine (HSs.out _ hHeld.2).mono ?_
                rintro e w8 ⟨rfl, hb⟩
                have Bw8 := Ar.bt hHeld.2 hb
                have hSw8 := HS.out _ Bw8
                have Bw8 := Lib.hid Bw8
                clear hHeld hb
                (try go_wp2_with fail)
                refine hK.out _ _ ?_ (fun hHeld => ?_)
                · exact hSw8
                clear hK KK
                (try simp only [Act.put, List.setIfInBounds_toArray, List.set_cons_zero, List.set_cons_succ])
                refine Pe.Left.take (i := 21) (o := ?oo21) (v := ?vo21) ?hio21 (by kernel_rfl) (by decide) (by kernel_rfl) (by kernel_rfl) ?hQo21 (Or.inl ⟨?wao21, ?hyo21⟩) hHeld ?resto21
                case hio21 => simp only [List.getElem?_toArray, List.getElem?_cons_succ, List.getElem?_cons_zero]; rfl
                case hQo21 => exact fun _ _ _ h => h
                case wao21 => rfl
                case hyo21 => (intro w hSw; (try dsimp only at hSw); go_simp; (try with_reducible rfl))
                (try simp only [Act.put, List.setIfInBounds_toArray, List.set_cons_zero, List.set_cons_succ])
                refine Pe.Left.take (i := 22) (o := ?oo22) (v := ?vo22) ?hio22 (by kernel_rfl) (by decide) (by kernel_rfl) (by kernel_rfl) ?hQo22 (Or.inl ⟨?wao22, ?hyo22⟩) hHeld ?resto22
                case hio22 => simp only [List.getElem?_toArray, List.getElem?_cons_succ, List.getElem?_cons_zero]; rfl
                case hQo22 => exact fun _ _ _ h => h
                case wao22 => rfl
                case hyo22 => (intro w hSw; (try dsimp only at hSw); go_simp; (try with_reducible rfl))
                (try simp only [Act.put, List.setIfInBounds_toArray, List.set_cons_zero, List.set_cons_succ])
                refine Pe.Left.take (i := 23) (o := ?oo23) (v := ?vo23) ?hio23 (by kernel_rfl) (by decide) (by kernel_rfl) (by kernel_rfl) ?hQo23 (Or.inl ⟨?wao23, ?hyo23⟩) hHeld ?resto23
                case hio23 => simp only [List.getElem?_toArray, List.getElem?_cons_succ, List.getElem?_cons_zero]; rfl
                case hQo23 => exact fun _ _ _ h => h
                case wao23 => rfl
                case hyo23 => (intro w hSw; (try dsimp only at hSw); go_simp; (try with_reducible rfl))
                (try simp only [Act.put, List.setIfInBounds_toArray, List.set_cons_zero, List.set_cons_succ])
                refine Pe.Left.take (i := 24) (o := ?oo24) (v := ?vo24) ?hio24 (by kernel_rfl) (by decide) (by kernel_rfl) (by kernel_rfl) ?hQo24 (Or.inl ⟨?wao24, ?hyo24⟩) hHeld ?resto24
                case hio24 => simp only [List.getElem?_toArray, List.getElem?_cons_succ, List.getElem?_cons_zero]; rfl
                case hQo24 => exact fun _ _ _ h => h
                case wao24 => rfl
                case hyo24 => (intro w hSw; (try dsimp only at hSw); go_simp; (try with_reducible rfl))
                (try simp only [Act.put, List.setIfInBounds_toArray, List.set_cons_zero, List.set_cons_succ])
                refine Pe.Left.take (i := 26) (o := ?oo26) (v := ?vo26) ?hio26 (by kernel_rfl) (by decide) (by kernel_rfl) (by kernel_rfl) ?hQo26 (Or.inl ⟨?wao26, ?hyo26⟩) hHeld ?resto26
                case hio26 => simp only [List.getElem?_toArray, List.getElem?_cons_succ, List.getElem?_cons_zero]; rfl
                case hQo26 => exact fun _ _ _ h => h
                case wao26 => rfl
                case hyo26 => (intro w hSw; (try dsimp only at hSw); go_simp; (try with_reducible rfl))
                (try simp only [Act.put, List.setIfInBounds_toArray, List.set_cons_zero, List.set_cons_succ])
                refine Pe.Left.one (i := 25) (o := ?oo25) ?hio25 (by kernel_rfl) (by decide) (fun KK hK => ?resto25)
                case hio25 => simp only [List.getElem?_toArray, List.getElem?_cons_succ, List.getElem?_cons_zero]; rfl
                go_simp
                go_at_call 30
                refine (HHn.out _ hHeld.2).mono ?_
                rintro e w9 ⟨ho, hc, rfl, hrw, hb⟩
                have Bw9 := Ar.bt hHeld.2 hb
                have hSw9 := HS.out _ Bw9
                have Bw9 := Lib.hid Bw9
                have HRw := Lib.hid hrw
                clear hHeld hb hrw
                (try go_wp2_with fail)
                refine hK.out _ _ ?_ (fun hHeld => ?_)
                · exact hSw9
                clear hK KK
                (try simp only [Act.put, List.setIfInBounds_toArray, List.set_cons_zero, List.set_cons_succ])
                refine Pe.Left.one (i := 27) (o := ?oo27) ?hio27 (by kernel_rfl) (by decide) (fun KK hK => ?resto27)
                case hio27 => simp only [List.getElem?_toArray, List.getElem?_cons_succ, List.getElem?_cons_zero]; rfl
                go_simp
                go_at_call 38
                refine (HEq.out _ ho hc HRw.out hHeld.2).mono ?_
                rintro e w10 ⟨rfl, hb⟩
                have Bw10 := Ar.bt hHeld.2 hb
                have hSw10 := HS.out _ Bw10
                have Bw10 := Lib.hid Bw10
                clear hHeld hb
                (try go_wp2_with fail)
                refine hK.out _ _ ?_ (fun hHeld => ?_)
                · exact hSw10
                clear hK KK
                (try simp only [Act.put, List.setIfInBounds_toArray, List.set_cons_zero, List.set_cons_succ])
                refine Pe.Left.take (i := 28) (o := ?oo28) (v := ?vo28) ?hio28 (by kernel_rfl) (by decide) (by kernel_rfl) (by kernel_rfl) ?hQo28 (Or.inl ⟨?wao28, ?hyo28⟩) hHeld ?resto28
                case hio28 => simp only [List.getElem?_toArray, List.getElem?_cons_succ, List.getElem?_cons_zero]; rfl
                case hQo28 => exact fun _ _ _ h => h
                case wao28 => rfl
                case hyo28 => (intro w hSw; (try dsimp only at hSw); go_simp; (try with_reducible rfl))
                (try simp only [Act.put, List.setIfInBounds_toArray, List.set_cons_zero, List.set_cons_succ])
                refine Pe.Left.last (o := ?ooZ) ?hioZ (by kernel_rfl) (by kernel_rfl) (fun KK hK => ?restoZ)
                case hioZ => simp only [List.getElem?_toArray, List.getElem?_cons_succ, List.getElem?_cons_zero]; rfl
                go_simp
                refine hK.out _ _ ?_
                clear hK KK hHeld
                go_wp2
                go_meet
                exact ⟨by rfl, Bw10.out⟩
            case rest =>
            obtain ⟨rfl, hbc⟩ := hcut
            have R6 := Lib.hid (R2.out.on X hbc)
            have HLv := R6.out.st.live X hn hnb
            unfold FL.ptr at HLv
            have hm0 : (Ar.stt a m0).st < 1000000000 := by show m0 < _; omega
            clear R5 HS HSs HHn HEq R2 hbc hcs h0 h0' hW2
            obtain ⟨hv, hhv⟩ : ∃ b, Hid (a.has hn = b) := ⟨_, rfl⟩
            rw [show (Ar.stt a m0).has hn = hv from hhv.out] at HLv
            have HLv := Lib.hid HLv
            go_wp2_with fail
            refine HLv.out.mono ?_
            rintro e w6 ⟨rfl, hb6⟩
            have R7 := Lib.hid (R6.out.on X hb6)
            clear hb6 HLv R6
            cases hv with
            | true =>
              clear hm0 hhv HSt
              go_wp2_with fail
              refine (HK.out _ R7.out.st.below).mono ?_
              rintro e w8 ⟨rfl, hb8⟩
              have B8 := Lib.hid hb8
              clear hb8
              go_wp2
              go_ret
              exact ⟨rfl, B8.out⟩
            | false =>
              have HG := R7.out.st.get X hm0 hn hnb
              have h1 : (Ar.stt a m0).has hn = false := hhv.out
              have e2 : (Ar.stt a m0).gtE hn = 10 := by unfold A13.A.gtE; rw [if_neg (by rw [h1]; simp)]
              have e3 : (Ar.stt a m0).gt hn = Ar.stt a (m0 + 1) := by rw [A13.gt_no h1]; rfl
              rw [e2, e3] at HG
              unfold FL.ptr at HG
              generalize Ar.got (Ar.stt a m0) hn = y at HG
              have HG := Lib.hid HG
              have HFr : Hid (∀ Z, Ar.St O w p (Ar.stt a (m0 + 1)) u11 all [] L3 Z → Calls Try.prog 19 #[.pointer (some ⟨p, 0, none⟩), .int .u64 (hn : Int)] Z fun e W' => e = .returned (.int .i64 10) ∧ Ar.St O w p (Ar.stt a (m0 + 2)) u11 all [] L3 W' ∧ Ar.Kept L3 Z W' ∧ Z.heap.size ≤ W'.heap.size) := fun Z hZ => by
                have := hZ.free X (by show m0 + 1 < _; omega) hn hnb
                rw [show (Ar.stt a (m0 + 1)).gtE hn = 10 from e2, show (Ar.stt a (m0 + 1)).free hn = Ar.stt a (m0 + 2) by rw [A13.free_no (show (Ar.stt a (m0 + 1)).has hn = false from hhv.out)]; rfl] at this
                exact this
              clear h1 e2 e3 hm0 hhv
              go_wp2_with fail
              refine HG.out.mono ?_
              rintro e w7 ⟨t7, zo, zc, ht7, rfl, hS7, hK7, hN7, hz7⟩
              obtain ⟨W8, hW8⟩ : ∃ Z, w7.alloc (.cells #[.int .i64 y.h, .string t7, .slice zo y.ks.length zc] 37) = Z := ⟨_, rfl⟩
              have b8 : Below w7.heap.size w7 W8 := hW8 ▸ (Below.refl _ _).alloc (Nat.le_refl _) _
              have R8 := Lib.hid ((R7.out.turn (hS7.less (fun _ c => .inl c)) hK7 hz7).on X b8)
              clear hS7 hK7 hN7 hz7 b8 ht7 HG R7
              go_wp2_with fail
              refine (HFr.out _ R8.out.st).mono ?_
              rintro e w9 ⟨rfl, hS9, hK9, hz9⟩
              have R9 := Lib.hid (R8.out.turn hS9 hK9 hz9)
              have x6 := Lib.cell_of_heap R9.out.y17 6
              have y17 := Lib.hid R9.out.y17
              have z6 : w9.frozen? ⟨w2.heap.size, 6, none⟩ = false := by unfold World.frozen?; rw [R9.out.y17]; rfl
              have wm : IntKind.i64.wrap ((m0 : Int) + 2) = (m0 : Int) + 2 := IntWalk.i64_in _ (by omega)
              clear hS9 hK9 hz9 R8 HFr
              go_upto_region 32 with (fail)
              obtain ⟨W2, hW2⟩ : ∃ Z, Z = (w9.setCell ⟨w2.heap.size, 6, none⟩ (.int .i64 ((m0 : Int) + 2))).drew := ⟨_, rfl⟩
              have P2 : Hid (Ar.St O w p (Ar.stt a (m0 + 2)) u11 all [] L3 W2 ∧ W2.heap[w2.heap.size]? = some (.cells #[.int .i64 (s0 : Int), .int .i64 (s1 : Int), .int .i64 (s2 : Int), .int .i64 (s3 : Int), .int .i64 (s4 : Int), .int .i64 (s5 : Int), .int .i64 ((m0 : Int) + 2)] 62 (0, 0)) ∧ V.Row W2 lo (H.row a.l.hands)) := by
                obtain ⟨p1, p2, p3⟩ := R9.out.put X 6 (.int .i64 ((m0 : Int) + 2))
                have bd : Below (w9.setCell ⟨w2.heap.size, 6, none⟩ (.int .i64 ((m0 : Int) + 2))).heap.size (w9.setCell ⟨w2.heap.size, 6, none⟩ (.int .i64 ((m0 : Int) + 2))) (w9.setCell ⟨w2.heap.size, 6, none⟩ (.int .i64 ((m0 : Int) + 2))).drew := (Below.refl _ _).drew
                rw [hW2]
                exact ⟨p1.on X bd, (bd.block _ (Array.getElem?_eq_some_iff.1 p2).1).trans p2, p3.below bd⟩
              have HS : Hid (∀ Z, Below W2.heap.size W2 Z → (Z.cell? ⟨w2.heap.size, 0, none⟩ = some (.int .i64 (s0 : Int)) ∧ Z.cell? ⟨w2.heap.size, 1, none⟩ = some (.int .i64 (s1 : Int)) ∧ Z.cell? ⟨w2.heap.size, 2, none⟩ = some (.int .i64 (s2 : Int)) ∧ Z.cell? ⟨w2.heap.size, 3, none⟩ = some (.int .i64 (s3 : Int)) ∧ Z.cell? ⟨w2.heap.size, 4, none⟩ = some (.int .i64 (s4 : Int)) ∧ Z.cell? ⟨w2.heap.size, 5, none⟩ = some (.int .i64 (s5 : Int)) ∧ Z.cell? ⟨w2.heap.size, 6, none⟩ = some (.int .i64 ((m0 : Int) + 2))) ∧ Below W2.heap.size W2 Z) := fun Z hb => by
                have y := (hb.block _ (Array.getElem?_eq_some_iff.1 P2.out.2.1).1).trans P2.out.2.1
                exact ⟨⟨Lib.cell_of_heap y 0, Lib.cell_of_heap y 1, Lib.cell_of_heap y 2, Lib.cell_of_heap y 3, Lib.cell_of_heap y 4, Lib.cell_of_heap y 5, Lib.cell_of_heap y 6⟩, hb⟩
              have HSs : Hid (∀ Z, Below W2.heap.size W2 Z → Calls Try.prog 28 #[.pointer (some ⟨p, 0, none⟩)] Z fun e W' => e = .returned (.agg #[.int .i64 (s0 : Int), .int .i64 (s1 : Int), .int .i64 (s2 : Int), .int .i64 (s3 : Int), .int .i64 (s4 : Int), .int .i64 (s5 : Int), .int .i64 ((m0 : Int) + 2)]) ∧ Below Z.heap.size Z W') := fun Z hb => by
                have := HSt.out (m0 + 2) _ Z (P2.out.1.on X hb)
                rw [show ((m0 + 2 : Nat) : Int) = (m0 : Int) + 2 by omega] at this
                exact this
              have HHn : Hid (∀ Z, Below W2.heap.size W2 Z → Calls Try.prog 30 #[.pointer (some ⟨p, 0, none⟩)] Z fun e W' => ∃ ho hc, e = .returned (.slice ho a.l.hands.length hc) ∧ V.Row W' ho (H.row a.l.hands) ∧ Below Z.heap.size Z W') := fun Z hb => ((P2.out.1.on X hb).handles X).mono fun _ _ k => by
                obtain ⟨ho, hc, he, _, hr, hb, _⟩ := k
                exact ⟨ho, hc, he, hr, hb⟩
              have HEq : Hid (∀ Z ho hc, V.Row Z ho (H.row a.l.hands) → Below W2.heap.size W2 Z → Calls Try.prog 38 #[.slice ho a.l.hands.length hc, .slice lo a.l.hands.length lc] Z fun e W' => e = .returned (.bool true) ∧ Below Z.heap.size Z W') := fun Z ho hc hr hb => by
                have := equalHandles_any ho lo hc lc a.l.hands a.l.hands Z hr (P2.out.2.2.below hb) (by have := hlb.out; unfold maxLen; omega)
                rwa [decide_eq_true rfl] at this
              have HAw : Hid (∀ Z, Below W2.heap.size W2 Z → Calls Try.prog 27 #[] Z fun e W' => e = .returned (.bool true) ∧ Below Z.heap.size Z W') := fun Z _ => awake13_any X Z
              have BW := Lib.hid P2.out.1.below
              clear R9 x6 z6 y17 HSt P2
              refine Pe.start (z := 21) (S := (fun Z => (Z.cell? ⟨w2.heap.size, 0, none⟩ = some (.int .i64 (s0 : Int)) ∧ Z.cell? ⟨w2.heap.size, 1, none⟩ = some (.int .i64 (s1 : Int)) ∧ Z.cell? ⟨w2.heap.size, 2, none⟩ = some (.int .i64 (s2 : Int)) ∧ Z.cell? ⟨w2.heap.size, 3, none⟩ = some (.int .i64 (s3 : Int)) ∧ Z.cell? ⟨w2.heap.size, 4, none⟩ = some (.int .i64 (s4 : Int)) ∧ Z.cell? ⟨w2.heap.size, 5, none⟩ = some (.int .i64 (s5 : Int)) ∧ Z.cell? ⟨w2.heap.size, 6, none⟩ = some (.int .i64 ((m0 : Int) + 2))) ∧ Below W2.heap.size W2 Z)) (by kernel_rfl) (by kernel_rfl) W2 hW2 (HS.out _ (Below.refl _ _)) (fun hHeld => ?_)
              clear hW2
              refine Pe.Left.take (i := 0) (o := ?ol0) (v := ?vl0) ?hil0 (by kernel_rfl) (by decide) (by kernel_rfl) (by kernel_rfl) ?hQl0 (Or.inl ⟨?wal0, ?hyl0⟩) hHeld ?restl0
              case hil0 => simp only [List.getElem?_toArray, List.getElem?_cons_zero]; rfl
              case hQl0 => exact fun _ _ _ h => h
              case wal0 => rfl
              case hyl0 => (intro w hSw; (try dsimp only at hSw); go_simp; (try with_reducible rfl))
              (try simp only [Act.put, List.setIfInBounds_toArray, List.set_cons_zero, List.set_cons_succ])
              refine Pe.Left.take (i := 1) (o := ?ol1) (v := ?vl1) ?hil1 (by kernel_rfl) (by decide) (by kernel_rfl) (by kernel_rfl) ?hQl1 (Or.inl ⟨?wal1, ?hyl1⟩) hHeld ?restl1
              case hil1 => simp only [List.getElem?_toArray, List.getElem?_cons_succ, List.getElem?_cons_zero]; rfl
              case hQl1 => exact fun _ _ _ h => h
              case wal1 => rfl
              case hyl1 => (intro w hSw; (try dsimp only at hSw); go_simp; (try with_reducible rfl))
              (try simp only [Act.put, List.setIfInBounds_toArray, List.set_cons_zero, List.set_cons_succ])
              refine Pe.Left.take (i := 2) (o := ?ol2) (v := ?vl2) ?hil2 (by kernel_rfl) (by decide) (by kernel_rfl) (by kernel_rfl) ?hQl2 (Or.inl ⟨?wal2, ?hyl2⟩) hHeld ?restl2
              case hil2 => simp only [List.getElem?_toArray, List.getElem?_cons_succ, List.getElem?_cons_zero]; rfl
              case hQl2 => exact fun _ _ _ h => h
              case wal2 => rfl
              case hyl2 => (intro w hSw; (try dsimp only at hSw); go_simp; (try with_reducible rfl))
              (try simp only [Act.put, List.setIfInBounds_toArray, List.set_cons_zero, List.set_cons_succ])
              refine Pe.Left.take (i := 3) (o := ?ol3) (v := ?vl3) ?hil3 (by kernel_rfl) (by decide) (by kernel_rfl) (by kernel_rfl) ?hQl3 (Or.inl ⟨?wal3, ?hyl3⟩) hHeld ?restl3
              case hil3 => simp only [List.getElem?_toArray, List.getElem?_cons_succ, List.getElem?_cons_zero]; rfl
              case hQl3 => exact fun _ _ _ h => h
              case wal3 => rfl
              case hyl3 => (intro w hSw; (try dsimp only at hSw); go_simp; (try with_reducible rfl))
              (try simp only [Act.put, List.setIfInBounds_toArray, List.set_cons_zero, List.set_cons_succ])
              refine Pe.Left.take (i := 4) (o := ?ol4) (v := ?vl4) ?hil4 (by kernel_rfl) (by decide) (by kernel_rfl) (by kernel_rfl) ?hQl4 (Or.inl ⟨?wal4, ?hyl4⟩) hHeld ?restl4
              case hil4 => simp only [List.getElem?_toArray, List.getElem?_cons_succ, List.getElem?_cons_zero]; rfl
              case hQl4 => exact fun _ _ _ h => h
              case wal4 => rfl
              case hyl4 => (intro w hSw; (try dsimp only at hSw); go_simp; (try with_reducible rfl))
              (try simp only [Act.put, List.setIfInBounds_toArray, List.set_cons_zero, List.set_cons_succ])
              refine Pe.Left.take (i := 5) (o := ?ol5) (v := ?vl5) ?hil5 (by kernel_rfl) (by decide) (by kernel_rfl) (by kernel_rfl) ?hQl5 (Or.inl ⟨?wal5, ?hyl5⟩) hHeld ?restl5
              case hil5 => simp only [List.getElem?_toArray, List.getElem?_cons_succ, List.getElem?_cons_zero]; rfl
              case hQl5 => exact fun _ _ _ h => h
              case wal5 => rfl
              case hyl5 => (intro w hSw; (try dsimp only at hSw); go_simp; (try with_reducible rfl))
              (try simp only [Act.put, List.setIfInBounds_toArray, List.set_cons_zero, List.set_cons_succ])
              refine Pe.Left.take (i := 6) (o := ?ol6) (v := ?vl6) ?hil6 (by kernel_rfl) (by decide) (by kernel_rfl) (by kernel_rfl) ?hQl6 (Or.inl ⟨?wal6, ?hyl6⟩) hHeld ?restl6
              case hil6 => simp only [List.getElem?_toArray, List.getElem?_cons_succ, List.getElem?_cons_zero]; rfl
              case hQl6 => exact fun _ _ _ h => h
              case wal6 => rfl
              case hyl6 => (intro w hSw; (try dsimp only at hSw); go_simp; (try with_reducible rfl))
              (try simp only [Act.put, List.setIfInBounds_toArray, List.set_cons_zero, List.set_cons_succ])
              refine Pe.Left.take (i := 7) (o := ?ol7) (v := ?vl7) ?hil7 (by kernel_rfl) (by decide) (by kernel_rfl) (by kernel_rfl) ?hQl7 (Or.inl ⟨?wal7, ?hyl7⟩) hHeld ?restl7
              case hil7 => simp only [List.getElem?_toArray, List.getElem?_cons_succ, List.getElem?_cons_zero]; rfl
              case hQl7 => exact fun _ _ _ h => h
              case wal7 => rfl
              case hyl7 => (intro w hSw; (try dsimp only at hSw); go_simp; (try with_reducible rfl))
              (try simp only [Act.put, List.setIfInBounds_toArray, List.set_cons_zero, List.set_cons_succ])
              refine Pe.Left.take (i := 9) (o := ?ol9) (v := ?vl9) ?hil9 (by kernel_rfl) (by decide) (by kernel_rfl) (by kernel_rfl) ?hQl9 (Or.inl ⟨?wal9, ?hyl9⟩) hHeld ?restl9
              case hil9 => simp only [List.getElem?_toArray, List.getElem?_cons_succ, List.getElem?_cons_zero]; rfl
              case hQl9 => exact fun _ _ _ h => h
              case wal9 => rfl
              case hyl9 => (intro w hSw; (try dsimp only at hSw); go_simp; (try with_reducible rfl))
              (try simp only [Act.put, List.setIfInBounds_toArray, List.set_cons_zero, List.set_cons_succ])
              refine Pe.Left.one (i := 8) (o := ?ol8) ?hil8 (by kernel_rfl) (by decide) (fun KK hK => ?restl8)
              case hil8 => simp only [List.getElem?_toArray, List.getElem?_cons_succ, List.getElem?_cons_zero]; rfl
              go_simp
              go_at_call 28
              refine (HSs.out _ hHeld.2).mono ?_
              rintro e w8 ⟨rfl, hb⟩
              have Bw8 := Ar.bt hHeld.2 hb
              have hSw8 := HS.out _ Bw8
              have Bw8 := Lib.hid Bw8
              clear hHeld hb
              (try go_wp2_with fail)
              refine hK.out _ _ ?_ (fun hHeld => ?_)
              · exact hSw8
              clear hK KK
              (try simp only [Act.put, List.setIfInBounds_toArray, List.set_cons_zero, List.set_cons_succ])
              refine Pe.Left.take (i := 10) (o := ?ol10) (v := ?vl10) ?hil10 (by kernel_rfl) (by decide) (by kernel_rfl) (by kernel_rfl) ?hQl10 (Or.inl ⟨?wal10, ?hyl10⟩) hHeld ?restl10
              case hil10 => simp only [List.getElem?_toArray, List.getElem?_cons_succ, List.getElem?_cons_zero]; rfl
              case hQl10 => exact fun _ _ _ h => h
              case wal10 => rfl
              case hyl10 => (intro w hSw; (try dsimp only at hSw); go_simp; (try with_reducible rfl))
              (try simp only [Act.put, List.setIfInBounds_toArray, List.set_cons_zero, List.set_cons_succ])
              refine Pe.Left.take (i := 11) (o := ?ol11) (v := ?vl11) ?hil11 (by kernel_rfl) (by decide) (by kernel_rfl) (by kernel_rfl) ?hQl11 (Or.inl ⟨?wal11, ?hyl11⟩) hHeld ?restl11
              case hil11 => simp only [List.getElem?_toArray, List.getElem?_cons_succ, List.getElem?_cons_zero]; rfl
              case hQl11 => exact fun _ _ _ h => h
              case wal11 => rfl
              case hyl11 => (intro w hSw; (try dsimp only at hSw); go_simp; (try with_reducible rfl))
              (try simp only [Act.put, List.setIfInBounds_toArray, List.set_cons_zero, List.set_cons_succ])
              refine Pe.Left.take (i := 12) (o := ?ol12) (v := ?vl12) ?hil12 (by kernel_rfl) (by decide) (by kernel_rfl) (by kernel_rfl) ?hQl12 (Or.inl ⟨?wal12, ?hyl12⟩) hHeld ?restl12
              case hil12 => simp only [List.getElem?_toArray, List.getElem?_cons_succ, List.getElem?_cons_zero]; rfl
              case hQl12 => exact fun _ _ _ h => h
              case wal12 => rfl
              case hyl12 => (intro w hSw; (try dsimp only at hSw); go_simp; (try with_reducible rfl))
              (try simp only [Act.put, List.setIfInBounds_toArray, List.set_cons_zero, List.set_cons_succ])
              refine Pe.Left.take (i := 13) (o := ?ol13) (v := ?vl13) ?hil13 (by kernel_rfl) (by decide) (by kernel_rfl) (by kernel_rfl) ?hQl13 (Or.inl ⟨?wal13, ?hyl13⟩) hHeld ?restl13
              case hil13 => simp only [List.getElem?_toArray, List.getElem?_cons_succ, List.getElem?_cons_zero]; rfl
              case hQl13 => exact fun _ _ _ h => h
              case wal13 => rfl
              case hyl13 => (intro w hSw; (try dsimp only at hSw); go_simp; (try with_reducible rfl))
              (try simp only [Act.put, List.setIfInBounds_toArray, List.set_cons_zero, List.set_cons_succ])
              refine Pe.Left.take (i := 15) (o := ?ol15) (v := ?vl15) ?hil15 (by kernel_rfl) (by decide) (by kernel_rfl) (by kernel_rfl) ?hQl15 (Or.inl ⟨?wal15, ?hyl15⟩) hHeld ?restl15
              case hil15 => simp only [List.getElem?_toArray, List.getElem?_cons_succ, List.getElem?_cons_zero]; rfl
              case hQl15 => exact fun _ _ _ h => h
              case wal15 => rfl
              case hyl15 => (intro w hSw; (try dsimp only at hSw); go_simp; (try with_reducible rfl))
              (try simp only [Act.put, List.setIfInBounds_toArray, List.set_cons_zero, List.set_cons_succ])
              refine Pe.Left.one (i := 14) (o := ?ol14) ?hil14 (by kernel_rfl) (by decide) (fun KK hK => ?restl14)
              case hil14 => simp only [List.getElem?_toArray, List.getElem?_cons_succ, List.getElem?_cons_zero]; rfl
              go_simp
              go_at_call 30
              refine (HHn.out _ hHeld.2).mono ?_
              rintro e w9 ⟨ho, hc, rfl, hrw, hb⟩
              have Bw9 := Ar.bt hHeld.2 hb
              have hSw9 := HS.out _ Bw9
              have Bw9 := Lib.hid Bw9
              have HRw := Lib.hid hrw
              clear hHeld hb hrw
              (try go_wp2_with fail)
              refine hK.out _ _ ?_ (fun hHeld => ?_)
              · exact hSw9
              clear hK KK
              (try simp only [Act.put, List.setIfInBounds_toArray, List.set_cons_zero, List.set_cons_succ])
              refine Pe.Left.one (i := 16) (o := ?ol16) ?hil16 (by kernel_rfl) (by decide) (fun KK hK => ?restl16)
              case hil16 => simp only [List.getElem?_toArray, List.getElem?_cons_succ, List.getElem?_cons_zero]; rfl
              go_simp
              go_at_call 38
              refine (HEq.out _ ho hc HRw.out hHeld.2).mono ?_
              rintro e w10 ⟨rfl, hb⟩
              have Bw10 := Ar.bt hHeld.2 hb
              have hSw10 := HS.out _ Bw10
              have Bw10 := Lib.hid Bw10
              clear hHeld hb
              (try go_wp2_with fail)
              refine hK.out _ _ ?_ (fun hHeld => ?_)
              · exact hSw10
              clear hK KK
              (try simp only [Act.put, List.setIfInBounds_toArray, List.set_cons_zero, List.set_cons_succ])
              refine Pe.Left.take (i := 17) (o := ?ol17) (v := ?vl17) ?hil17 (by kernel_rfl) (by decide) (by kernel_rfl) (by kernel_rfl) ?hQl17 (Or.inl ⟨?wal17, ?hyl17⟩) hHeld ?restl17
              case hil17 => simp only [List.getElem?_toArray, List.getElem?_cons_succ, List.getElem?_cons_zero]; rfl
              case hQl17 => exact fun _ _ _ h => h
              case wal17 => rfl
              case hyl17 => (intro w hSw; (try dsimp only at hSw); go_simp; (try with_reducible rfl))
              (try simp only [Act.put, List.setIfInBounds_toArray, List.set_cons_zero, List.set_cons_succ])
              refine Pe.Left.take (i := 18) (o := ?ol18) (v := ?vl18) ?hil18 (by kernel_rfl) (by decide) (by kernel_rfl) (by kernel_rfl) ?hQl18 (Or.inl ⟨?wal18, ?hyl18⟩) hHeld ?restl18
              case hil18 => simp only [List.getElem?_toArray, List.getElem?_cons_succ, List.getElem?_cons_zero]; rfl
              case hQl18 => exact fun _ _ _ h => h
              case wal18 => rfl
              case hyl18 => (intro w hSw; (try dsimp only at hSw); go_simp; (try with_reducible rfl))
              (try simp only [Act.put, List.setIfInBounds_toArray, List.set_cons_zero, List.set_cons_succ])
              refine Pe.Left.one (i := 19) (o := ?ol19) ?hil19 (by kernel_rfl) (by decide) (fun KK hK => ?restl19)
              case hil19 => simp only [List.getElem?_toArray, List.getElem?_cons_succ, List.getElem?_cons_zero]; rfl
              go_simp
              go_at_call 27
              refine (HAw.out _ hHeld.2).mono ?_
              rintro e w11 ⟨rfl, hb⟩
              have Bw11 := Ar.bt hHeld.2 hb
              have hSw11 := HS.out _ Bw11
              have Bw11 := Lib.hid Bw11
              clear hHeld hb
              (try go_wp2_with fail)
              refine hK.out _ _ ?_ (fun hHeld => ?_)
              · exact hSw11
              clear hK KK
              (try simp only [Act.put, List.setIfInBounds_toArray, List.set_cons_zero, List.set_cons_succ])
              refine Pe.Left.take (i := 20) (o := ?ol20) (v := ?vl20) ?hil20 (by kernel_rfl) (by decide) (by kernel_rfl) (by kernel_rfl) ?hQl20 (Or.inl ⟨?wal20, ?hyl20⟩) hHeld ?restl20
              case hil20 => simp only [List.getElem?_toArray, List.getElem?_cons_succ, List.getElem?_cons_zero]; rfl
              case hQl20 => exact fun _ _ _ h => h
              case wal20 => rfl
              case hyl20 => (intro w hSw; (try dsimp only at hSw); go_simp; (try with_reducible rfl))
              (try simp only [Act.put, List.setIfInBounds_toArray, List.set_cons_zero, List.set_cons_succ])
              refine Pe.Left.last (o := ?olZ) ?hilZ (by kernel_rfl) (by kernel_rfl) (fun KK hK => ?restlZ)
              case hilZ => simp only [List.getElem?_toArray, List.getElem?_cons_succ, List.getElem?_cons_zero]; rfl
              go_simp
              refine hK.out _ _ ?_
              clear hK KK hHeld
              have BF := Lib.hid (Ar.bt BW.out Bw11.out)
              clear Bw8 Bw9 Bw10 Bw11 hSw8 hSw9 hSw10 hSw11 HS HSs HHn HEq HAw HRw
              go_wp2
              go_ret
              exact ⟨rfl, BF.out⟩
end
end Go.Proofs.Ytlhgakdplabnlaa
