/- The contract of package compose's follow: the walk over two deltas. -/
import Derived.Test.YtmljagkndnobdaaComposeMeet
import Derived.Test.YtmljagkndnobdaaPackCRaw
import Derived.WalkMore
import Derived.Deep.LoopGhost
import Derived.Deep.DeepCutAuto
import Derived.Deep.CutBlock
namespace Go.Proofs.Ytmljagkndnobdaa
open Go.RowKit

theorem D.pos_lt {q : D.Q} {n : Nat} (h : n < D.out1 q) : (∃ m, q = .R m ∧ n < m) ∨ ∃ t, q = .I t ∧ n < t.length := by
  cases q with
  | R m => exact .inl ⟨m, rfl, h⟩
  | I t => exact .inr ⟨t, rfl, h⟩
  | D m => simp only [D.out1] at h; omega
theorem C.hdQ_full (q : D.Q) (h : 0 < D.out1 q) : D.hdQ (D.out1 q) q = q := by
  cases q with
  | R m => rfl
  | I t => simp [D.hdQ, D.out1]
  | D m => simp only [D.out1] at h; omega
theorem C.hdQ_fullB (q : D.Q) (h : 0 < D.in1 q) : D.hdQ (D.in1 q) q = q := by
  cases q with
  | R m => rfl
  | I t => simp only [D.in1] at h; omega
  | D m => rfl
theorem ptake_any (w0 : World) (b : Nat) (q : D.Q) (r : List D.Q) (n : Nat) (W : World) (h : C.Rd 117 w0 b (D.raw q) r W) (hB : Below w0.heap.size w0 W) (hr : r.length ≤ 1000000) (hq : D.out1 q ≤ 1000000000) (h0 : 0 < n) (hn : n ≤ D.out1 q) :
    Calls Try.prog 86 #[.pointer (some ⟨b, 0, none⟩), .int .i64 n] W (C.TakeEnd 117 w0 b (D.raw (D.hdQ n q)) (C.hdP (D.rest (D.out1 q) n q r)) (D.rest (D.out1 q) n q r).tail W) := by
  by_cases e : n = D.out1 q
  · subst e
    rw [D.rest_eq, C.hdQ_full q h0]
    exact ptake_all w0 b q r W h hB hr hq
  · rw [D.rest_ne e]
    refine ptake_cut w0 b q r n (D.raw (D.hdQ n q)) (D.raw (D.tlQ n q)) W h hq e (fun V => ?_)
    rcases D.pos_lt (show n < D.out1 q by omega) with ⟨m, rfl, hm⟩ | ⟨t, rfl, hm⟩
    · simp only [D.out1] at hq
      have := pcut_n 1 m n ⟨#[]⟩ V (by decide) (by omega) (by omega)
      have e2 : ((m : Int) - (n : Int)) = ((m - n : Nat) : Int) := by omega
      rw [e2] at this
      exact this
    · have hs : (⟨t.toArray⟩ : ByteArray).size = t.length := D.size_l t
      have e1 : (⟨t.toArray⟩ : ByteArray).extract 0 n = ⟨(t.take n).toArray⟩ := by rw [← D.bytes_eq ((⟨t.toArray⟩ : ByteArray).extract 0 n)]; simp
      have e2 : (⟨t.toArray⟩ : ByteArray).extract n (⟨t.toArray⟩ : ByteArray).size = ⟨(t.drop n).toArray⟩ := by rw [← D.bytes_eq ((⟨t.toArray⟩ : ByteArray).extract n _)]; simp; exact List.take_of_length_le (by rw [hs, List.length_drop]; exact Nat.le_refl _)
      have := pcut_I ⟨t.toArray⟩ n V (by omega)
      rw [e1, e2] at this
      exact this
theorem ctake_any (w0 : World) (b : Nat) (q : D.Q) (r : List D.Q) (n : Nat) (W : World) (h : C.Rd 120 w0 b (D.raw q) r W) (hB : Below w0.heap.size w0 W) (hr : r.length ≤ 1000000) (hq : D.in1 q ≤ 1000000000) (h0 : 0 < n) (hn : n ≤ D.in1 q) :
    Calls Try.prog 87 #[.pointer (some ⟨b, 0, none⟩), .int .i64 n] W (C.TakeEnd 120 w0 b (D.raw (D.hdQ n q)) (C.hdP (D.rest (D.in1 q) n q r)) (D.rest (D.in1 q) n q r).tail W) := by
  by_cases e : n = D.in1 q
  · subst e
    rw [D.rest_eq, C.hdQ_fullB q h0]
    exact ctake_all w0 b q r W h hB hr hq
  · rw [D.rest_ne e]
    refine ctake_cut w0 b q r n (D.raw (D.hdQ n q)) (D.raw (D.tlQ n q)) W h hq e (fun V => ?_)
    have key : ∀ (k : Int) (m : Nat), k ≠ 2 → n ≤ m → m ≤ 1000000000 → Calls Try.prog 96 #[.agg #[.int .u8 k, .int .i64 m, .string ⟨#[]⟩], .int .i64 n] V fun e W' => e = .returned (.tuple #[.agg #[.int .u8 k, .int .i64 n, .string ⟨#[]⟩], .agg #[.int .u8 k, .int .i64 ((m - n : Nat) : Int), .string ⟨#[]⟩]]) ∧ Below V.heap.size V W' := fun k m hk h1 h2 => by
      have := ccut_n k m n ⟨#[]⟩ V hk (by omega) (by omega)
      have e2 : ((m : Int) - (n : Int)) = ((m - n : Nat) : Int) := by omega
      rwa [e2] at this
    cases q with
    | R m => exact key 1 m (by decide) hn hq
    | I t => simp only [D.in1] at hn; omega
    | D m => exact key 3 m (by decide) hn hq
/-- Between two rounds of the walk: both readers, and the row of what is out. -/
structure C.Fol (w : World) (bx bz : Nat) (la lb : List D.Q) (X : List D.P) (v : Value) (wr : World) : Prop where
  rx : C.Rd 117 w bx (C.hdP la) la.tail wr
  ry : C.Rd 120 w bz (C.hdP lb) lb.tail wr
  own : wr.ownsRow w.heap.size 31 3 v X.length (D.cellsL X)
  below : Below w.heap.size w wr
theorem C.Rd.nerow {T w0 b p r W base v n xs} (h : C.Rd T w0 b p r W) (ho : W.ownsRow base 31 3 v n xs) (hT : 31 ≠ T) : v.ownBlock ≠ some b := by
  obtain ⟨ao, c, hx, _⟩ := h.box
  exact D.block_ne ho hx hT
theorem C.Fol.ne {w bx bz la lb X v wr} (h : C.Fol w bx bz la lb X v wr) : bx ≠ bz := by
  obtain ⟨_, _, hx, _⟩ := h.rx.box
  obtain ⟨_, _, hy, _⟩ := h.ry.box
  intro e
  rw [e, hy] at hx
  simp at hx
theorem C.Fol.on {w bx bz la lb X v wr w'} (h : C.Fol w bx bz la lb X v wr) (hb : Below wr.heap.size wr w') : C.Fol w bx bz la lb X v w' :=
  ⟨h.rx.below hb, h.ry.below hb, D.own_below h.own hb, h.below.trans (hb.mono h.below.size)⟩
theorem C.below_of {w W V : World} {b : Nat} (h : Below w.heap.size w W) (hg : W.grownBy V (some b)) (hb : w.heap.size ≤ b) : Below w.heap.size w V :=
  h.grown hg h.size (fun k e => by cases e; exact hb)
theorem C.Fol.nextX {w bx bz la lb X v wr w'} {la' : List D.Q} (h : C.Fol w bx bz la lb X v wr) (hr : C.Rd 117 w bx (C.hdP la') la'.tail w') (hg : wr.grownBy w' (some bx)) : C.Fol w bx bz la' lb X v w' :=
  ⟨hr, h.ry.kept hg (by have := h.ne; simp; exact fun e => this e.symm), h.own.kept hg (.inr (h.rx.nerow h.own (by decide))), C.below_of h.below hg h.rx.ge⟩
theorem C.Fol.nextY {w bx bz la lb X v wr w'} {lb' : List D.Q} (h : C.Fol w bx bz la lb X v wr) (hr : C.Rd 120 w bz (C.hdP lb') lb'.tail w') (hg : wr.grownBy w' (some bz)) : C.Fol w bx bz la lb' X v w' :=
  ⟨h.rx.kept hg (by have := h.ne; simp; exact this), hr, h.own.kept hg (.inr (h.ry.nerow h.own (by decide))), C.below_of h.below hg h.ry.ge⟩
theorem C.Fol.app {w bx bz la lb X v wr w'} {Z : List D.P} {v' : Value} (h : C.Fol w bx bz la lb X v wr) (ho : w'.ownsRow w.heap.size 31 3 v' Z.length (D.cellsL Z)) (hg : wr.grownBy w' v.ownBlock) : C.Fol w bx bz la lb Z v' w' :=
  ⟨h.rx.kept hg (h.rx.nerow h.own (by decide)).symm, h.ry.kept hg (h.ry.nerow h.own (by decide)).symm, ho, h.below.grown hg h.below.size (fun k e => (h.own.lt k e).1)⟩
/-- How many pieces a reader still has. -/
def C.left (W : World) (b : Nat) : Nat := match W.heap[b]? with
  | some (Obj.cells cs _ _) => (match cs[0]?, cs[3]? with
    | some (Value.int _ k), some (Value.slice _ n _) => if k = 0 then 0 else n + 1
    | _, _ => 0)
  | _ => 0
theorem C.left_eq {T w0 b l W} (h : C.Rd T w0 b (C.hdP l) l.tail W) : C.left W b = l.length := by
  obtain ⟨ao, c, hx, _⟩ := h.box
  unfold C.left
  rw [hx]
  cases l with
  | nil => rfl
  | cons q r => cases q <;> simp [C.cells, C.hdP, D.raw]
def C.FolEnd (a b : List D.Q) (w : World) (e : Ending) (w' : World) : Prop := ∃ v X, e = .returned v ∧ D.Wk a b [] [] X ∧ D.Made (X.map D.raw) w v w'
theorem C.meet_raw (q p : D.Q) : C.meetP (D.raw q) (D.raw p) = (D.meetQ q p).map D.raw := by
  cases q <;> cases p <;> rfl
theorem C.size_keep {w W V : World} {bx bz : Nat} {q p : D.Q} {la lb : List D.Q} {P : List D.P} {v : Value} (F : C.Fol w bx bz (q :: la) (p :: lb) P v W) (h : Below W.heap.size W V) :
    V.cell? ⟨bx, 0, none⟩ = some (.int .u8 (D.raw q).k) ∧ V.cell? ⟨bx, 1, none⟩ = some (.int .i64 (D.raw q).n) ∧ V.cell? ⟨bx, 2, none⟩ = some (.string (D.raw q).t) ∧ V.cell? ⟨bz, 0, none⟩ = some (.int .u8 (D.raw p).k) ∧ V.cell? ⟨bz, 1, none⟩ = some (.int .i64 (D.raw p).n) ∧ V.cell? ⟨bz, 2, none⟩ = some (.string (D.raw p).t) ∧ Below W.heap.size W V := by
  have F' := F.on h
  obtain ⟨_, _, hx, _⟩ := F'.rx.box
  obtain ⟨_, _, hy, _⟩ := F'.ry.box
  obtain ⟨a0, a1, a2, _⟩ := C.cells_of hx
  obtain ⟨b0, b1, b2, _⟩ := C.cells_of hy
  exact ⟨a0, a1, a2, b0, b1, b2, h⟩
theorem C.trans_held {W V V' : World} (h : Below W.heap.size W V) (hb : Below V.heap.size V V') : Below W.heap.size W V' := h.trans (hb.mono h.size)
set_option maxRecDepth 100000 in
set_option maxHeartbeats 4000000 in
theorem follow_any (ao bo : Option Addr) (ca cb : Nat) (a b : List D.Q) (w : World) (ha : D.Row w ao (a.map D.raw)) (hb : D.Row w bo (b.map D.raw)) (la : a.length ≤ ca) (lb : b.length ≤ cb) (ma : a.length ≤ 4096) (mb : b.length ≤ 4096)
    (pa : D.allPos a = true) (pb : D.allPos b = true) (hf : D.outL a = D.inL b) (oa : D.outL a ≤ 1048576) :
    Calls Try.prog 56 #[.slice ao a.length ca, .slice bo b.length cb] w (C.FolEnd a b w) := by
  have HX := Lib.hid (pread_any w ao ca a w ha la (by omega) (Below.refl _ _))
  have HY : Hid (∀ V, Below w.heap.size w V → Calls Try.prog 76 #[.slice bo b.length cb] V (C.cReadEnd w b V)) := fun V h => cread_any w bo cb b V hb lb (by omega) h
  have H0 := Lib.hid (D.Wk.init hf pa pb)
  clear ha hb la lb pa pb hf
  go_enter Try.func56, Try.ntmps56
  go_wp2
  go_step3
  go_wp2_with fail
  refine HX.out.mono ?_
  rintro e w1 ⟨bx, rfl, rx, hb1⟩
  go_wp2_with fail
  refine (HY.out _ hb1).mono ?_
  rintro e w2 ⟨bz, rfl, ry, hb2⟩
  have F0 : Hid (C.Fol w bx bz a b [] (.slice none 0 0) w2) := ⟨rx.below hb2, ry, World.ownsRow_nil _ _ _ _, hb1.trans (hb2.mono hb1.size)⟩
  clear rx ry hb1 hb2 HX HY
  go_wp2
  go_step3
  go_wp2
  go_loopw [7] (fun v wr => ∃ (la lb X : List D.Q) (P : List D.P), Hid (D.Wk a b la lb X) ∧ Hid (P = X.map D.raw) ∧ Hid (C.Fol w bx bz la lb P v wr)) (fun _ wr => C.left wr bx + C.left wr bz)
  case atStart => exact ⟨a, b, [], [], H0, rfl, F0⟩
  case round =>
    clear H0 F0
    obtain ⟨la, lb, X, P, hw, hP, hx⟩ := hrel
    have hl := hw.out.len
    have hPl : P.length ≤ 900000 := by rw [hP.out, List.length_map]; omega
    have hoa := hw.out.oa
    have hfit := hw.out.fit
    obtain ⟨m, hm⟩ : ∃ m, Hid (C.left wr bx + C.left wr bz = m) := ⟨_, rfl⟩
    have hme : Hid (m = la.length + lb.length) := by show _ = _; rw [← hm.out, C.left_eq hx.out.rx, C.left_eq hx.out.ry]
    rw [hm.out]
    obtain ⟨va, vc, hv⟩ := D.slice_of_own hx.out.own
    subst hv
    by_cases hA : ∃ n r, la = .D n :: r
    · obtain ⟨n, r, rfl⟩ := hA
      have HA := Lib.hid (papart_cons w bx (.D n) r wr hx.out.rx (by simp [D.out1]))
      rw [show ((((D.out1 (.D n) : Nat) : Int)) == 0) = true from rfl] at HA
      go_wp2_with fail
      refine HA.out.mono ?_
      rintro e w3 ⟨rfl, hb3⟩
      have F1 := Lib.hid (hx.out.on hb3)
      have HN := Lib.hid (pnext_any w bx (D.raw (.D n)) r w3 F1.out.rx F1.out.below (by simp only [List.length_cons] at hl; omega))
      clear hb3
      go_wp2_with fail
      refine HN.out.mono ?_
      rintro e w4 ⟨rfl, hr4, hg4⟩
      have F2 := Lib.hid (F1.out.nextX hr4 hg4)
      clear hr4 hg4
      go_wp2_with (at_builtin; refine C.append_piece rfl _ _ rfl w.heap.size _ P rfl F2.out.own (D.raw (.D n)) 1 _ rfl rfl ?c1 ?c2 ?_)
      case c1 => omega
      case c2 => exact F2.out.below.size
      intro Z v' w5 hZ hO hg
      have F3 := Lib.hid (F2.out.app hO hg)
      have P3 : Hid (Z = (X ++ [D.Q.D n]).map D.raw) := by show _ = _; rw [hZ.out, hP.out, List.map_append]; rfl
      have W3 := Lib.hid hw.out.stepD
      clear hO hg hZ
      go_wp2
      go_roundw
      case rel => exact ⟨r, lb, _, Z, W3, P3, F3⟩
      case measure => rw [C.left_eq F3.out.rx, C.left_eq F3.out.ry, hme.out]; simp
    · have hhead : la = [] ∨ ∃ q r, la = q :: r ∧ 0 < D.out1 q := by
        cases la with
        | nil => exact .inl rfl
        | cons q r =>
          refine .inr ⟨q, r, rfl, ?_⟩
          have hp := (D.allPos_cons.1 hw.out.pa).1
          cases q with
          | R n => simpa [D.pos, D.out1] using hp
          | I t => cases t with
            | nil => simp [D.pos] at hp
            | cons => simp [D.out1]
          | D n => exact absurd ⟨n, r, rfl⟩ hA
      have HA : Hid (Calls Try.prog 77 #[.pointer (some ⟨bx, 0, none⟩)] wr fun e W' => e = .returned (.bool false) ∧ Below wr.heap.size wr W') := by
        have hrx := hx.out.rx
        rcases hhead with rfl | ⟨q, r, rfl, hq⟩
        · exact papart_nil w bx [] wr hrx
        · have hle : D.out1 q ≤ 1000000000 := by have e : D.outL (q :: r) = D.out1 q + D.outL r := rfl; omega
          have := papart_cons w bx q r wr hrx hle
          rwa [show ((((D.out1 q : Nat) : Int)) == 0) = false by simp; omega] at this
      clear hA
      go_wp2_with fail
      refine HA.out.mono ?_
      rintro e w3 ⟨rfl, hb3⟩
      have F1 := Lib.hid (hx.out.on hb3)
      clear hb3 hx HA
      by_cases hB : ∃ t r, lb = .I t :: r
      · obtain ⟨t, r, rfl⟩ := hB
        have HA := Lib.hid (capart_cons w bz (.I t) r w3 F1.out.ry (by simp [D.in1]))
        rw [show ((((D.in1 (.I t) : Nat) : Int)) == 0) = true from rfl] at HA
        clear hhead
        go_wp2_with fail
        refine HA.out.mono ?_
        rintro e w4 ⟨rfl, hb3⟩
        have F2 := Lib.hid (F1.out.on hb3)
        have HN := Lib.hid (cnext_any w bz (D.raw (.I t)) r w4 F2.out.ry F2.out.below (by simp only [List.length_cons] at hl; omega))
        clear hb3 F1
        go_wp2_with fail
        refine HN.out.mono ?_
        rintro e w5 ⟨rfl, hr4, hg4⟩
        have F3 := Lib.hid (F2.out.nextY hr4 hg4)
        clear hr4 hg4 F2
        go_wp2_with (at_builtin; refine C.append_piece rfl _ _ rfl w.heap.size _ P rfl F3.out.own (D.raw (.I t)) 1 _ rfl rfl ?c1 ?c2 ?_)
        case c1 => omega
        case c2 => exact F3.out.below.size
        intro Z v' w6 hZ hO hg
        have F4 := Lib.hid (F3.out.app hO hg)
        have P3 : Hid (Z = (X ++ [D.Q.I t]).map D.raw) := by show _ = _; rw [hZ.out, hP.out, List.map_append]; rfl
        have W3 := Lib.hid hw.out.stepI
        clear hO hg hZ
        go_wp2
        go_roundw
        case rel => exact ⟨la, r, _, Z, W3, P3, F4⟩
        case measure => rw [C.left_eq F4.out.rx, C.left_eq F4.out.ry, hme.out]; simp
      · have hheadB : lb = [] ∨ ∃ p s, lb = p :: s ∧ 0 < D.in1 p := by
          cases lb with
          | nil => exact .inl rfl
          | cons p s =>
            refine .inr ⟨p, s, rfl, ?_⟩
            have hp := (D.allPos_cons.1 hw.out.pb).1
            cases p with
            | R n => simpa [D.pos, D.in1] using hp
            | I t => exact absurd ⟨t, s, rfl⟩ hB
            | D n => simpa [D.pos, D.in1] using hp
        have HA : Hid (Calls Try.prog 79 #[.pointer (some ⟨bz, 0, none⟩)] w3 fun e W' => e = .returned (.bool false) ∧ Below w3.heap.size w3 W') := by
          have hry := F1.out.ry
          rcases hheadB with rfl | ⟨p, s, rfl, hq⟩
          · exact capart_nil w bz [] w3 hry
          · have hle : D.in1 p ≤ 1000000000 := by have e : D.inL (p :: s) = D.in1 p + D.inL s := rfl; omega
            have := capart_cons w bz p s w3 hry hle
            rwa [show ((((D.in1 p : Nat) : Int)) == 0) = false by simp; omega] at this
        clear hB
        go_wp2_with fail
        refine HA.out.mono ?_
        rintro e w4 ⟨rfl, hb3⟩
        have F2 := Lib.hid (F1.out.on hb3)
        clear hb3 F1 HA
        rcases hhead with rfl | ⟨q, r, rfl, hq⟩
        · obtain rfl : lb = [] := by
            rcases hheadB with h | ⟨p, s, rfl, hq⟩
            · exact h
            · have e : D.inL (p :: s) = D.in1 p + D.inL s := rfl
              have e2 : D.outL [] = 0 := rfl
              omega
          have HE := Lib.hid (pended_any w bx C.zero [] w4 F2.out.rx)
          rw [show (C.zero.k == 0) = true from rfl] at HE
          have R : Hid (C.FolEnd a b w (.returned (.slice va P.length vc)) w4) := ⟨_, X, rfl, hw.out, by rw [← hP.out]; exact ⟨F2.out.own, F2.out.below⟩⟩
          clear hheadB F2 hl hoa hfit hw
          go_wp2_with fail
          refine HE.out.mono ?_
          rintro e w5 ⟨rfl, rfl⟩
          go_wp2
          try rw [Exit.noGoto_ret]
          go_ret
          exact R.out
        · have e1 : D.outL (q :: r) = D.out1 q + D.outL r := rfl
          obtain ⟨p, s, rfl, hp⟩ : ∃ p s, lb = p :: s ∧ 0 < D.in1 p := by
            rcases hheadB with rfl | h
            · have e2 : D.inL [] = 0 := rfl
              omega
            · exact h
          clear hheadB
          have e2 : D.inL (p :: s) = D.in1 p + D.inL s := rfl
          have HE := Lib.hid (pended_any w bx (D.raw q) r w4 F2.out.rx)
          rw [show ((D.raw q).k == 0) = false by cases q <;> rfl] at HE
          have HE2 := Lib.hid (cended_any w bz (D.raw p) s w4 F2.out.ry)
          rw [show ((D.raw p).k == 0) = false by cases p <;> rfl] at HE2
          have hq9 : D.out1 q ≤ 1000000000 := by omega
          have hp9 : D.in1 p ≤ 1000000000 := by omega
          have HSx : Hid (∀ V, Calls Try.prog 83 #[.agg #[.int .u8 (D.raw q).k, .int .i64 (D.raw q).n, .string (D.raw q).t]] V fun e w' => e = .returned (.int .i64 (D.out1 q)) ∧ Below V.heap.size V w') := fun V => psize_any q V hq9
          have HSy : Hid (∀ V, Calls Try.prog 84 #[.agg #[.int .u8 (D.raw p).k, .int .i64 (D.raw p).n, .string (D.raw p).t]] V fun e w' => e = .returned (.int .i64 (D.in1 p)) ∧ Below V.heap.size V w') := fun V => csize_any p V hp9
          simp only [List.length_cons] at hl
          have Hl := Lib.hid hl
          clear hl hoa hfit e1 e2
          obtain ⟨n, hmin, hn0, hnq, hnp, Hm⟩ : ∃ n : Nat, Hid (min ((D.out1 q : Nat) : Int) ((D.in1 p : Nat) : Int) = (n : Int)) ∧ 0 < n ∧ n ≤ D.out1 q ∧ n ≤ D.in1 p ∧ Hid (n = D.out1 q ∨ n = D.in1 p) :=
            ⟨min (D.out1 q) (D.in1 p), by show _ = _; omega, by omega, by omega, by omega, by show _ ∨ _; omega⟩
          go_wp2_with fail
          refine HE.out.mono ?_
          rintro e w5 ⟨rfl, rfl⟩
          go_wp2_with fail
          refine HE2.out.mono ?_
          rintro e w5 ⟨rfl, rfl⟩
          clear HE HE2
          obtain ⟨c0, c1, c2, d0, d1, d2, _⟩ := C.size_keep F2.out (Below.refl _ _)
          go_wp2_with fail
          go_region_held3 (fun V => V.cell? ⟨bx, 0, none⟩ = some (.int .u8 (D.raw q).k) ∧ V.cell? ⟨bx, 1, none⟩ = some (.int .i64 (D.raw q).n) ∧ V.cell? ⟨bx, 2, none⟩ = some (.string (D.raw q).t) ∧ V.cell? ⟨bz, 0, none⟩ = some (.int .u8 (D.raw p).k) ∧ V.cell? ⟨bz, 1, none⟩ = some (.int .i64 (D.raw p).n) ∧ V.cell? ⟨bz, 2, none⟩ = some (.string (D.raw p).t) ∧ Below w4.heap.size w4 V)
            ((refine C.size_keep F2.out ?_; repeat' first
              | (with_reducible exact Below.refl _ _)
              | (with_reducible refine Below.drew ?_)
              | (with_reducible assumption)))
            ((first
              | (go_at_call 83; (with_reducible refine (HSx.out _).mono ?_); rintro e w1 ⟨rfl, hb1⟩; have hQ := C.trans_held (W := w4) (by go_split_ands; assumption) hb1)
              | (go_at_call 84; (with_reducible refine (HSy.out _).mono ?_); rintro e w1 ⟨rfl, hb1⟩; have hQ := C.trans_held (W := w4) (by go_split_ands; assumption) hb1)))
          all_goals
            rw [hmin.out]
            have F3 := Lib.hid (F2.out.on hQ)
            obtain ⟨w5, rfl⟩ : ∃ w5 : World, w5 = w1 := ⟨_, rfl⟩
            clear F2 HSx HSy hQ hb1 c0 c1 c2 d0 d1 d2
            have T1 := Lib.hid (ptake_any w bx q r n w5 F3.out.rx F3.out.below (by have := Hl.out; omega) hq9 hn0 hnq)
            go_wp2_with fail
            refine T1.out.mono ?_
            rintro e w6 ⟨rfl, hr6, hg6⟩
            have F4 := Lib.hid (F3.out.nextX hr6 hg6)
            clear hr6 hg6 T1 F3
            have T2 := Lib.hid (ctake_any w bz p s n w6 F4.out.ry F4.out.below (by have := Hl.out; omega) hp9 hn0 hnp)
            go_wp2_with fail
            refine T2.out.mono ?_
            rintro e w7 ⟨rfl, hr6, hg6⟩
            have F5 := Lib.hid (F4.out.nextY hr6 hg6)
            clear hr6 hg6 T2 F4
            have T3 := Lib.hid (meet_any w.heap.size P (.slice va P.length vc) (D.raw (D.hdQ n q)) (D.raw (D.hdQ n p)) w7 F5.out.own F5.out.below.size hPl)
            go_wp2_with fail
            refine T3.out.mono ?_
            rintro e w8 ⟨v', Z, rfl, hZ, hO, hg⟩
            have F6 := Lib.hid (F5.out.app hO hg)
            have P6 : Hid (Z = (X ++ D.meetQ (D.hdQ n q) (D.hdQ n p)).map D.raw) := by show _ = _; rw [hZ, C.meet_raw, hP.out, List.map_append]
            have W6 := Lib.hid (hw.out.meet hn0 hnq hnp Hm.out)
            clear hZ hO hg T3 F5
            go_wp2
            go_roundw
            case rel => exact ⟨_, _, _, Z, W6, P6, F6⟩
            case measure =>
              rw [C.left_eq F6.out.rx, C.left_eq F6.out.ry, hme.out, D.rest_len, D.rest_len]
              simp only [List.length_cons]
              rcases Hm.out with h | h <;> rw [if_pos h] <;> split <;> omega
end Go.Proofs.Ytmljagkndnobdaa
