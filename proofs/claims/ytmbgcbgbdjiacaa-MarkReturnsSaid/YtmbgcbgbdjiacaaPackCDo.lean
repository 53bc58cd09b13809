/- Texts joined: ComposeFollow ComposeIter ComposeDo -/
import Derived.Test.YtmbgcbgbdjiacaaComposeMeet
import Derived.Test.YtmbgcbgbdjiacaaPackCRaw
import Derived.WalkMore
import Derived.Deep.LoopGhost
import Derived.Deep.DeepCutAuto
import Derived.Deep.CutBlock
import Derived.RangeFuncNested
import Derived.RangeFuncBound
import Derived.RangeFuncCalls
import Derived.RangeFuncLeaves
import Derived.RangeFuncBox
import Derived.RangeFuncFrom
import Derived.Shelf.Abstract
import Derived.Shelf.RegionOpen
import Derived.WalkKit
import Derived.OwnWalkIn
import Derived.TacticsInMore
import Derived.LoopNIn
import Derived.LoopIn
import Derived.Maps.AppendAt
import Derived.Test.YtmbgcbgbdjiacaaDeltaJoinKit
import Derived.Lib.Hide
import Derived.Test.YtmbgcbgbdjiacaaPackEqv
/- ComposeFollow -/
namespace Go.Proofs.Ytmbgcbgbdjiacaa
open Go.RowKit

theorem D.pos_lt {q : D.Q} {n : Nat} (h : n < D.out1 q) : (∃ m, q = .R m ∧ n < m) ∨ ∃ t, q = .I t ∧ n < t.length := by
  cases q with
  | R m => exact .inl ⟨m, rfl, h⟩
  | I t => exact .inr ⟨t, rfl, h⟩
  | D m => simp only [D.out1] at h; omega
theorem C.hdQ_full (q : D.Q) (h : 0 < D.out1 q) : D.hdQ (D.out1 q) q = q := by
  cases q with
  | R m => rfl
  | I t => simp [D.hdQ, D.out1]
  | D m => simp only [D.out1] at h; omega
theorem C.hdQ_fullB (q : D.Q) (h : 0 < D.in1 q) : D.hdQ (D.in1 q) q = q := by
  cases q with
  | R m => rfl
  | I t => simp only [D.in1] at h; omega
  | D m => rfl
theorem ptake_any (w0 : World) (b : Nat) (q : D.Q) (r : List D.Q) (n : Nat) (W : World) (h : C.Rd 119 w0 b (D.raw q) r W) (hB : Below w0.heap.size w0 W) (hr : r.length ≤ 1000000) (hq : D.out1 q ≤ 1000000000) (h0 : 0 < n) (hn : n ≤ D.out1 q) :
    Calls Try.prog 89 #[.pointer (some ⟨b, 0, none⟩), .int .i64 n] W (C.TakeEnd 119 w0 b (D.raw (D.hdQ n q)) (C.hdP (D.rest (D.out1 q) n q r)) (D.rest (D.out1 q) n q r).tail W) := by
  by_cases e : n = D.out1 q
  · subst e
    rw [D.rest_eq, C.hdQ_full q h0]
    exact ptake_all w0 b q r W h hB hr hq
  · rw [D.rest_ne e]
    refine ptake_cut w0 b q r n (D.raw (D.hdQ n q)) (D.raw (D.tlQ n q)) W h hq e (fun V => ?_)
    rcases D.pos_lt (show n < D.out1 q by omega) with ⟨m, rfl, hm⟩ | ⟨t, rfl, hm⟩
    · simp only [D.out1] at hq
      have := pcut_n 1 m n ⟨#[]⟩ V (by decide) (by omega) (by omega)
      have e2 : ((m : Int) - (n : Int)) = ((m - n : Nat) : Int) := by omega
      rw [e2] at this
      exact this
    · have hs : (⟨t.toArray⟩ : ByteArray).size = t.length := D.size_l t
      have e1 : (⟨t.toArray⟩ : ByteArray).extract 0 n = ⟨(t.take n).toArray⟩ := by rw [← D.bytes_eq ((⟨t.toArray⟩ : ByteArray).extract 0 n)]; simp
      have e2 : (⟨t.toArray⟩ : ByteArray).extract n (⟨t.toArray⟩ : ByteArray).size = ⟨(t.drop n).toArray⟩ := by rw [← D.bytes_eq ((⟨t.toArray⟩ : ByteArray).extract n _)]; simp; exact List.take_of_length_le (by rw [hs, List.length_drop]; exact Nat.le_refl _)
      have := pcut_I ⟨t.toArray⟩ n V (by omega)
      rw [e1, e2] at this
      exact this
theorem ctake_any (w0 : World) (b : Nat) (q : D.Q) (r : List D.Q) (n : Nat) (W : World) (h : C.Rd 122 w0 b (D.raw q) r W) (hB : Below w0.heap.size w0 W) (hr : r.length ≤ 1000000) (hq : D.in1 q ≤ 1000000000) (h0 : 0 < n) (hn : n ≤ D.in1 q) :
    Calls Try.prog 90 #[.pointer (some ⟨b, 0, none⟩), .int .i64 n] W (C.TakeEnd 122 w0 b (D.raw (D.hdQ n q)) (C.hdP (D.rest (D.in1 q) n q r)) (D.rest (D.in1 q) n q r).tail W) := by
  by_cases e : n = D.in1 q
  · subst e
    rw [D.rest_eq, C.hdQ_fullB q h0]
    exact ctake_all w0 b q r W h hB hr hq
  · rw [D.rest_ne e]
    refine ctake_cut w0 b q r n (D.raw (D.hdQ n q)) (D.raw (D.tlQ n q)) W h hq e (fun V => ?_)
    have key : ∀ (k : Int) (m : Nat), k ≠ 2 → n ≤ m → m ≤ 1000000000 → Calls Try.prog 103 #[.agg #[.int .u8 k, .int .i64 m, .string ⟨#[]⟩], .int .i64 n] V fun e W' => e = .returned (.tuple #[.agg #[.int .u8 k, .int .i64 n, .string ⟨#[]⟩], .agg #[.int .u8 k, .int .i64 ((m - n : Nat) : Int), .string ⟨#[]⟩]]) ∧ Below V.heap.size V W' := fun k m hk h1 h2 => by
      have := ccut_n k m n ⟨#[]⟩ V hk (by omega) (by omega)
      have e2 : ((m : Int) - (n : Int)) = ((m - n : Nat) : Int) := by omega
      rwa [e2] at this
    cases q with
    | R m => exact key 1 m (by decide) hn hq
    | I t => simp only [D.in1] at hn; omega
    | D m => exact key 3 m (by decide) hn hq
/-- Between two rounds of the walk: both readers, and the row of what is out. -/
structure C.Fol (w : World) (bx bz : Nat) (la lb : List D.Q) (X : List D.P) (v : Value) (wr : World) : Prop where
  rx : C.Rd 119 w bx (C.hdP la) la.tail wr
  ry : C.Rd 122 w bz (C.hdP lb) lb.tail wr
  own : wr.ownsRow w.heap.size 53 3 v X.length (D.cellsL X)
  below : Below w.heap.size w wr
theorem C.Rd.nerow {T w0 b p r W base v n xs} (h : C.Rd T w0 b p r W) (ho : W.ownsRow base 53 3 v n xs) (hT : 53 ≠ T) : v.ownBlock ≠ some b := by
  obtain ⟨ao, c, hx, _⟩ := h.box
  exact D.block_ne ho hx hT
theorem C.Fol.ne {w bx bz la lb X v wr} (h : C.Fol w bx bz la lb X v wr) : bx ≠ bz := by
  obtain ⟨_, _, hx, _⟩ := h.rx.box
  obtain ⟨_, _, hy, _⟩ := h.ry.box
  intro e
  rw [e, hy] at hx
  simp at hx
theorem C.Fol.on {w bx bz la lb X v wr w'} (h : C.Fol w bx bz la lb X v wr) (hb : Below wr.heap.size wr w') : C.Fol w bx bz la lb X v w' :=
  ⟨h.rx.below hb, h.ry.below hb, D.own_below h.own hb, h.below.trans (hb.mono h.below.size)⟩
theorem C.below_of {w W V : World} {b : Nat} (h : Below w.heap.size w W) (hg : W.grownBy V (some b)) (hb : w.heap.size ≤ b) : Below w.heap.size w V :=
  h.grown hg h.size (fun k e => by cases e; exact hb)
theorem C.Fol.nextX {w bx bz la lb X v wr w'} {la' : List D.Q} (h : C.Fol w bx bz la lb X v wr) (hr : C.Rd 119 w bx (C.hdP la') la'.tail w') (hg : wr.grownBy w' (some bx)) : C.Fol w bx bz la' lb X v w' :=
  ⟨hr, h.ry.kept hg (by have := h.ne; simp; exact fun e => this e.symm), h.own.kept hg (.inr (h.rx.nerow h.own (by decide))), C.below_of h.below hg h.rx.ge⟩
theorem C.Fol.nextY {w bx bz la lb X v wr w'} {lb' : List D.Q} (h : C.Fol w bx bz la lb X v wr) (hr : C.Rd 122 w bz (C.hdP lb') lb'.tail w') (hg : wr.grownBy w' (some bz)) : C.Fol w bx bz la lb' X v w' :=
  ⟨h.rx.kept hg (by have := h.ne; simp; exact this), hr, h.own.kept hg (.inr (h.ry.nerow h.own (by decide))), C.below_of h.below hg h.ry.ge⟩
theorem C.Fol.app {w bx bz la lb X v wr w'} {Z : List D.P} {v' : Value} (h : C.Fol w bx bz la lb X v wr) (ho : w'.ownsRow w.heap.size 53 3 v' Z.length (D.cellsL Z)) (hg : wr.grownBy w' v.ownBlock) : C.Fol w bx bz la lb Z v' w' :=
  ⟨h.rx.kept hg (h.rx.nerow h.own (by decide)).symm, h.ry.kept hg (h.ry.nerow h.own (by decide)).symm, ho, h.below.grown hg h.below.size (fun k e => (h.own.lt k e).1)⟩
/-- How many pieces a reader still has. -/
def C.left (W : World) (b : Nat) : Nat := match W.heap[b]? with
  | some (Obj.cells cs _ _) => (match cs[0]?, cs[3]? with
    | some (Value.int _ k), some (Value.slice _ n _) => if k = 0 then 0 else n + 1
    | _, _ => 0)
  | _ => 0
theorem C.left_eq {T w0 b l W} (h : C.Rd T w0 b (C.hdP l) l.tail W) : C.left W b = l.length := by
  obtain ⟨ao, c, hx, _⟩ := h.box
  unfold C.left
  rw [hx]
  cases l with
  | nil => rfl
  | cons q r => cases q <;> simp [C.cells, C.hdP, D.raw]
def C.FolEnd (a b : List D.Q) (w : World) (e : Ending) (w' : World) : Prop := ∃ v X, e = .returned v ∧ D.Wk a b [] [] X ∧ D.Made (X.map D.raw) w v w'
theorem C.meet_raw (q p : D.Q) : C.meetP (D.raw q) (D.raw p) = (D.meetQ q p).map D.raw := by
  cases q <;> cases p <;> rfl
theorem C.size_keep {w W V : World} {bx bz : Nat} {q p : D.Q} {la lb : List D.Q} {P : List D.P} {v : Value} (F : C.Fol w bx bz (q :: la) (p :: lb) P v W) (h : Below W.heap.size W V) :
    V.cell? ⟨bx, 0, none⟩ = some (.int .u8 (D.raw q).k) ∧ V.cell? ⟨bx, 1, none⟩ = some (.int .i64 (D.raw q).n) ∧ V.cell? ⟨bx, 2, none⟩ = some (.string (D.raw q).t) ∧ V.cell? ⟨bz, 0, none⟩ = some (.int .u8 (D.raw p).k) ∧ V.cell? ⟨bz, 1, none⟩ = some (.int .i64 (D.raw p).n) ∧ V.cell? ⟨bz, 2, none⟩ = some (.string (D.raw p).t) ∧ Below W.heap.size W V := by
  have F' := F.on h
  obtain ⟨_, _, hx, _⟩ := F'.rx.box
  obtain ⟨_, _, hy, _⟩ := F'.ry.box
  obtain ⟨a0, a1, a2, _⟩ := C.cells_of hx
  obtain ⟨b0, b1, b2, _⟩ := C.cells_of hy
  exact ⟨a0, a1, a2, b0, b1, b2, h⟩
theorem C.trans_held {W V V' : World} (h : Below W.heap.size W V) (hb : Below V.heap.size V V') : Below W.heap.size W V' := h.trans (hb.mono h.size)
set_option maxRecDepth 100000 in
set_option maxHeartbeats 4000000 in
theorem follow_any (ao bo : Option Addr) (ca cb : Nat) (a b : List D.Q) (w : World) (ha : D.Row w ao (a.map D.raw)) (hb : D.Row w bo (b.map D.raw)) (la : a.length ≤ ca) (lb : b.length ≤ cb) (ma : a.length ≤ 4096) (mb : b.length ≤ 4096)
    (pa : D.allPos a = true) (pb : D.allPos b = true) (hf : D.outL a = D.inL b) (oa : D.outL a ≤ 1048576) :
    Calls Try.prog 58 #[.slice ao a.length ca, .slice bo b.length cb] w (C.FolEnd a b w) := by
  have HX := Lib.hid (pread_any w ao ca a w ha la (by omega) (Below.refl _ _))
  have HY : Hid (∀ V, Below w.heap.size w V → Calls Try.prog 79 #[.slice bo b.length cb] V (C.cReadEnd w b V)) := fun V h => cread_any w bo cb b V hb lb (by omega) h
  have H0 := Lib.hid (D.Wk.init hf pa pb)
  clear ha hb la lb pa pb hf
  go_enter Try.func58, Try.ntmps58
  go_wp2
  go_step3
  go_wp2_with fail
  refine HX.out.mono ?_
  rintro e w1 ⟨bx, rfl, rx, hb1⟩
  go_wp2_with fail
  refine (HY.out _ hb1).mono ?_
  rintro e w2 ⟨bz, rfl, ry, hb2⟩
  have F0 : Hid (C.Fol w bx bz a b [] (.slice none 0 0) w2) := ⟨rx.below hb2, ry, World.ownsRow_nil _ _ _ _, hb1.trans (hb2.mono hb1.size)⟩
  clear rx ry hb1 hb2 HX HY
  go_wp2
  go_step3
  go_wp2
  go_loopw [7] (fun v wr => ∃ (la lb X : List D.Q) (P : List D.P), Hid (D.Wk a b la lb X) ∧ Hid (P = X.map D.raw) ∧ Hid (C.Fol w bx bz la lb P v wr)) (fun _ wr => C.left wr bx + C.left wr bz)
  case atStart => exact ⟨a, b, [], [], H0, rfl, F0⟩
  case round =>
    clear H0 F0
    obtain ⟨la, lb, X, P, hw, hP, hx⟩ := hrel
    have hl := hw.out.len
    have hPl : P.length ≤ 900000 := by rw [hP.out, List.length_map]; omega
    have hoa := hw.out.oa
    have hfit := hw.out.fit
    obtain ⟨m, hm⟩ : ∃ m, Hid (C.left wr bx + C.left wr bz = m) := ⟨_, rfl⟩
    have hme : Hid (m = la.length + lb.length) := by show _ = _; rw [← hm.out, C.left_eq hx.out.rx, C.left_eq hx.out.ry]
    rw [hm.out]
    obtain ⟨va, vc, hv⟩ := D.slice_of_own hx.out.own
    subst hv
    by_cases hA : ∃ n r, la = .D n :: r
    · obtain ⟨n, r, rfl⟩ := hA
      have HA := Lib.hid (papart_cons w bx (.D n) r wr hx.out.rx (by simp [D.out1]))
      rw [show ((((D.out1 (.D n) : Nat) : Int)) == 0) = true from rfl] at HA
      go_wp2_with fail
      refine HA.out.mono ?_
      rintro e w3 ⟨rfl, hb3⟩
      have F1 := Lib.hid (hx.out.on hb3)
      have HN := Lib.hid (pnext_any w bx (D.raw (.D n)) r w3 F1.out.rx F1.out.below (by simp only [List.length_cons] at hl; omega))
      clear hb3
      go_wp2_with fail
      refine HN.out.mono ?_
      rintro e w4 ⟨rfl, hr4, hg4⟩
      have F2 := Lib.hid (F1.out.nextX hr4 hg4)
      clear hr4 hg4
      go_wp2_with (at_builtin; refine C.append_piece rfl _ _ rfl w.heap.size _ P rfl F2.out.own (D.raw (.D n)) 1 _ rfl rfl ?c1 ?c2 ?_)
      case c1 => omega
      case c2 => exact F2.out.below.size
      intro Z v' w5 hZ hO hg
      have F3 := Lib.hid (F2.out.app hO hg)
      have P3 : Hid (Z = (X ++ [D.Q.D n]).map D.raw) := by show _ = _; rw [hZ.out, hP.out, List.map_append]; rfl
      have W3 := Lib.hid hw.out.stepD
      clear hO hg hZ
      go_wp2
      go_roundw
      case rel => exact ⟨r, lb, _, Z, W3, P3, F3⟩
      case measure => rw [C.left_eq F3.out.rx, C.left_eq F3.out.ry, hme.out]; simp
    · have hhead : la = [] ∨ ∃ q r, la = q :: r ∧ 0 < D.out1 q := by
        cases la with
        | nil => exact .inl rfl
        | cons q r =>
          refine .inr ⟨q, r, rfl, ?_⟩
          have hp := (D.allPos_cons.1 hw.out.pa).1
          cases q with
          | R n => simpa [D.pos, D.out1] using hp
          | I t => cases t with
            | nil => simp [D.pos] at hp
            | cons => simp [D.out1]
          | D n => exact absurd ⟨n, r, rfl⟩ hA
      have HA : Hid (Calls Try.prog 80 #[.pointer (some ⟨bx, 0, none⟩)] wr fun e W' => e = .returned (.bool false) ∧ Below wr.heap.size wr W') := by
        have hrx := hx.out.rx
        rcases hhead with rfl | ⟨q, r, rfl, hq⟩
        · exact papart_nil w bx [] wr hrx
        · have hle : D.out1 q ≤ 1000000000 := by have e : D.outL (q :: r) = D.out1 q + D.outL r := rfl; omega
          have := papart_cons w bx q r wr hrx hle
          rwa [show ((((D.out1 q : Nat) : Int)) == 0) = false by simp; omega] at this
      clear hA
      go_wp2_with fail
      refine HA.out.mono ?_
      rintro e w3 ⟨rfl, hb3⟩
      have F1 := Lib.hid (hx.out.on hb3)
      clear hb3 hx HA
      by_cases hB : ∃ t r, lb = .I t :: r
      · obtain ⟨t, r, rfl⟩ := hB
        have HA := Lib.hid (capart_cons w bz (.I t) r w3 F1.out.ry (by simp [D.in1]))
        rw [show ((((D.in1 (.I t) : Nat) : Int)) == 0) = true from rfl] at HA
        clear hhead
        go_wp2_with fail
        refine HA.out.mono ?_
        rintro e w4 ⟨rfl, hb3⟩
        have F2 := Lib.hid (F1.out.on hb3)
        have HN := Lib.hid (cnext_any w bz (D.raw (.I t)) r w4 F2.out.ry F2.out.below (by simp only [List.length_cons] at hl; omega))
        clear hb3 F1
        go_wp2_with fail
        refine HN.out.mono ?_
        rintro e w5 ⟨rfl, hr4, hg4⟩
        have F3 := Lib.hid (F2.out.nextY hr4 hg4)
        clear hr4 hg4 F2
        go_wp2_with (at_builtin; refine C.append_piece rfl _ _ rfl w.heap.size _ P rfl F3.out.own (D.raw (.I t)) 1 _ rfl rfl ?c1 ?c2 ?_)
        case c1 => omega
        case c2 => exact F3.out.below.size
        intro Z v' w6 hZ hO hg
        have F4 := Lib.hid (F3.out.app hO hg)
        have P3 : Hid (Z = (X ++ [D.Q.I t]).map D.raw) := by show _ = _; rw [hZ.out, hP.out, List.map_append]; rfl
        have W3 := Lib.hid hw.out.stepI
        clear hO hg hZ
        go_wp2
        go_roundw
        case rel => exact ⟨la, r, _, Z, W3, P3, F4⟩
        case measure => rw [C.left_eq F4.out.rx, C.left_eq F4.out.ry, hme.out]; simp
      · have hheadB : lb = [] ∨ ∃ p s, lb = p :: s ∧ 0 < D.in1 p := by
          cases lb with
          | nil => exact .inl rfl
          | cons p s =>
            refine .inr ⟨p, s, rfl, ?_⟩
            have hp := (D.allPos_cons.1 hw.out.pb).1
            cases p with
            | R n => simpa [D.pos, D.in1] using hp
            | I t => exact absurd ⟨t, s, rfl⟩ hB
            | D n => simpa [D.pos, D.in1] using hp
        have HA : Hid (Calls Try.prog 82 #[.pointer (some ⟨bz, 0, none⟩)] w3 fun e W' => e = .returned (.bool false) ∧ Below w3.heap.size w3 W') := by
          have hry := F1.out.ry
          rcases hheadB with rfl | ⟨p, s, rfl, hq⟩
          · exact capart_nil w bz [] w3 hry
          · have hle : D.in1 p ≤ 1000000000 := by have e : D.inL (p :: s) = D.in1 p + D.inL s := rfl; omega
            have := capart_cons w bz p s w3 hry hle
            rwa [show ((((D.in1 p : Nat) : Int)) == 0) = false by simp; omega] at this
        clear hB
        go_wp2_with fail
        refine HA.out.mono ?_
        rintro e w4 ⟨rfl, hb3⟩
        have F2 := Lib.hid (F1.out.on hb3)
        clear hb3 F1 HA
        rcases hhead with rfl | ⟨q, r, rfl, hq⟩
        · obtain rfl : lb = [] := by
            rcases hheadB with h | ⟨p, s, rfl, hq⟩
            · exact h
            · have e : D.inL (p :: s) = D.in1 p + D.inL s := rfl
              have e2 : D.outL [] = 0 := rfl
              omega
          have HE := Lib.hid (pended_any w bx C.zero [] w4 F2.out.rx)
          rw [show (C.zero.k == 0) = true from rfl] at HE
          have R : Hid (C.FolEnd a b w (.returned (.slice va P.length vc)) w4) := ⟨_, X, rfl, hw.out, by rw [← hP.out]; exact ⟨F2.out.own, F2.out.below⟩⟩
          clear hheadB F2 hl hoa hfit hw
          go_wp2_with fail
          refine HE.out.mono ?_
          rintro e w5 ⟨rfl, rfl⟩
          go_wp2
          try rw [Exit.noGoto_ret]
          go_ret
          exact R.out
        · have e1 : D.outL (q :: r) = D.out1 q + D.outL r := rfl
          obtain ⟨p, s, rfl, hp⟩ : ∃ p s, lb = p :: s ∧ 0 < D.in1 p := by
            rcases hheadB with rfl | h
            · have e2 : D.inL [] = 0 := rfl
              omega
            · exact h
          clear hheadB
          have e2 : D.inL (p :: s) = D.in1 p + D.inL s := rfl
          have HE := Lib.hid (pended_any w bx (D.raw q) r w4 F2.out.rx)
          rw [show ((D.raw q).k == 0) = false by cases q <;> rfl] at HE
          have HE2 := Lib.hid (cended_any w bz (D.raw p) s w4 F2.out.ry)
          rw [show ((D.raw p).k == 0) = false by cases p <;> rfl] at HE2
          have hq9 : D.out1 q ≤ 1000000000 := by omega
          have hp9 : D.in1 p ≤ 1000000000 := by omega
          have HSx : Hid (∀ V, Calls Try.prog 86 #[.agg #[.int .u8 (D.raw q).k, .int .i64 (D.raw q).n, .string (D.raw q).t]] V fun e w' => e = .returned (.int .i64 (D.out1 q)) ∧ Below V.heap.size V w') := fun V => psize_any q V hq9
          have HSy : Hid (∀ V, Calls Try.prog 87 #[.agg #[.int .u8 (D.raw p).k, .int .i64 (D.raw p).n, .string (D.raw p).t]] V fun e w' => e = .returned (.int .i64 (D.in1 p)) ∧ Below V.heap.size V w') := fun V => csize_any p V hp9
          simp only [List.length_cons] at hl
          have Hl := Lib.hid hl
          clear hl hoa hfit e1 e2
          obtain ⟨n, hmin, hn0, hnq, hnp, Hm⟩ : ∃ n : Nat, Hid (min ((D.out1 q : Nat) : Int) ((D.in1 p : Nat) : Int) = (n : Int)) ∧ 0 < n ∧ n ≤ D.out1 q ∧ n ≤ D.in1 p ∧ Hid (n = D.out1 q ∨ n = D.in1 p) :=
            ⟨min (D.out1 q) (D.in1 p), by show _ = _; omega, by omega, by omega, by omega, by show _ ∨ _; omega⟩
          go_wp2_with fail
          refine HE.out.mono ?_
          rintro e w5 ⟨rfl, rfl⟩
          go_wp2_with fail
          refine HE2.out.mono ?_
          rintro e w5 ⟨rfl, rfl⟩
          clear HE HE2
          obtain ⟨c0, c1, c2, d0, d1, d2, _⟩ := C.size_keep F2.out (Below.refl _ _)
          go_wp2_with fail
          go_region_held3 (fun V => V.cell? ⟨bx, 0, none⟩ = some (.int .u8 (D.raw q).k) ∧ V.cell? ⟨bx, 1, none⟩ = some (.int .i64 (D.raw q).n) ∧ V.cell? ⟨bx, 2, none⟩ = some (.string (D.raw q).t) ∧ V.cell? ⟨bz, 0, none⟩ = some (.int .u8 (D.raw p).k) ∧ V.cell? ⟨bz, 1, none⟩ = some (.int .i64 (D.raw p).n) ∧ V.cell? ⟨bz, 2, none⟩ = some (.string (D.raw p).t) ∧ Below w4.heap.size w4 V)
            ((refine C.size_keep F2.out ?_; repeat' first
              | (with_reducible exact Below.refl _ _)
              | (with_reducible refine Below.drew ?_)
              | (with_reducible assumption)))
            ((first
              | (go_at_call 86; (with_reducible refine (HSx.out _).mono ?_); rintro e w1 ⟨rfl, hb1⟩; have hQ := C.trans_held (W := w4) (by go_split_ands; assumption) hb1)
              | (go_at_call 87; (with_reducible refine (HSy.out _).mono ?_); rintro e w1 ⟨rfl, hb1⟩; have hQ := C.trans_held (W := w4) (by go_split_ands; assumption) hb1)))
          all_goals
            rw [hmin.out]
            have F3 := Lib.hid (F2.out.on hQ)
            obtain ⟨w5, rfl⟩ : ∃ w5 : World, w5 = w1 := ⟨_, rfl⟩
            clear F2 HSx HSy hQ hb1 c0 c1 c2 d0 d1 d2
            have T1 := Lib.hid (ptake_any w bx q r n w5 F3.out.rx F3.out.below (by have := Hl.out; omega) hq9 hn0 hnq)
            go_wp2_with fail
            refine T1.out.mono ?_
            rintro e w6 ⟨rfl, hr6, hg6⟩
            have F4 := Lib.hid (F3.out.nextX hr6 hg6)
            clear hr6 hg6 T1 F3
            have T2 := Lib.hid (ctake_any w bz p s n w6 F4.out.ry F4.out.below (by have := Hl.out; omega) hp9 hn0 hnp)
            go_wp2_with fail
            refine T2.out.mono ?_
            rintro e w7 ⟨rfl, hr6, hg6⟩
            have F5 := Lib.hid (F4.out.nextY hr6 hg6)
            clear hr6 hg6 T2 F4
            have T3 := Lib.hid (meet_any w.heap.size P (.slice va P.length vc) (D.raw (D.hdQ n q)) (D.raw (D.hdQ n p)) w7 F5.out.own F5.out.below.size hPl)
            go_wp2_with fail
            refine T3.out.mono ?_
            rintro e w8 ⟨v', Z, rfl, hZ, hO, hg⟩
            have F6 := Lib.hid (F5.out.app hO hg)
            have P6 : Hid (Z = (X ++ D.meetQ (D.hdQ n q) (D.hdQ n p)).map D.raw) := by show _ = _; rw [hZ, C.meet_raw, hP.out, List.map_append]
            have W6 := Lib.hid (hw.out.meet hn0 hnq hnp Hm.out)
            clear hZ hO hg T3 F5
            go_wp2
            go_roundw
            case rel => exact ⟨_, _, _, Z, W6, P6, F6⟩
            case measure =>
              rw [C.left_eq F6.out.rx, C.left_eq F6.out.ry, hme.out, D.rest_len, D.rest_len]
              simp only [List.length_cons]
              rcases Hm.out with h | h <;> rw [if_pos h] <;> split <;> omega
end Go.Proofs.Ytmbgcbgbdjiacaa
/- ComposeIter -/
namespace Go.Proofs.Ytmbgcbgbdjiacaa
open Go.RowKit Go.Shelf
attribute [local go_sem] Oper.semAt_some

/-- A part of a row of pieces. -/
def C.part (b o : Nat) (L : List D.P) (k : Nat) : D.Src := ⟨some ⟨b, o + 4096 * k * 3, none⟩, min 4096 (L.length - 4096 * k), (L.drop (4096 * k)).take 4096⟩
def C.parts (b o : Nat) (L : List D.P) (k : Nat) : List D.Src := (List.range k).map (C.part b o L)
def C.num (L : List D.P) : Nat := (L.length + 4095) / 4096
theorem C.parts_succ (b o : Nat) (L : List D.P) (k : Nat) : C.parts b o L (k + 1) = C.parts b o L k ++ [C.part b o L k] := by
  unfold C.parts; rw [List.range_succ, List.map_append]; rfl
theorem C.part_len (b o : Nat) (L : List D.P) (k : Nat) : (C.part b o L k).x.length = min 4096 (L.length - 4096 * k) := by
  unfold C.part; simp
theorem C.srcV_part (b o : Nat) (L : List D.P) (k : Nat) : D.srcV (C.part b o L k) = .slice (some ⟨b, o + 4096 * k * 3, none⟩) (min 4096 (L.length - 4096 * k)) (min 4096 (L.length - 4096 * k)) := by
  unfold D.srcV; rw [C.part_len]; rfl
set_option maxRecDepth 100000 in
set_option maxHeartbeats 2000000 in
theorem chunk1 (n : Nat) (hn : 1 ≤ n) (l Bs Bn n₀ b o cap : Nat) (L : List D.P) (hL : L.length ≤ cap) (hl : L.length ≤ 1000000) (h1 : Bs < n₀) (h2 : Bn < n₀) (J Jx : List D.Src → World → Prop)
    (hY : ∀ pre x W, J pre W → pre.length < C.num L → YieldAt Fence.wide (n - 1) Try.prog l #[D.srcV x] W fun e W' =>
      (e = .returned (.bool true) ∧ J (pre ++ [x]) W' ∧ Below n₀ W W') ∨ (e = .returned (.bool false) ∧ Jx (pre ++ [x]) W'))
    (W : World) (hJa : AbidesFrom W.heap.size J) (hBs : W.cell? ⟨Bs, 0, none⟩ = some (.slice (some ⟨b, o, none⟩) L.length cap)) (hBn : W.cell? ⟨Bn, 0, none⟩ = some (.int .i64 4096)) (h0 : J [] W) :
    CallsIn Fence.wide n Try.prog 77 #[.func (.yield l) #[] #[], .pointer (some ⟨Bs, 0, none⟩), .pointer (some ⟨Bn, 0, none⟩)] W fun e W' => (∃ v, e = .returned v) ∧
      ((∃ ys, ys = C.parts b o L (C.num L) ∧ J ys W') ∨ (∃ pre, pre <+: C.parts b o L (C.num L) ∧ Jx pre W')) := by
  refine callsIn_of_wp Try.func77 rfl trivial ?_ rfl
  simp only [Try.ntmps77, List.size_toArray, List.length_cons, List.length_nil, Nat.reduceAdd, Nat.reduceSub, Array.replicate_succ, Array.replicate_zero, List.push_toArray, List.append_toArray, List.nil_append, List.cons_append]
  gi_wp2
  gi_loopw [4] (fun p wr => ∃ k : Nat, k ≤ C.num L ∧ p = .int .i64 ((4096 * k : Nat) : Int) ∧ J (C.parts b o L k) wr ∧ wr.cell? ⟨Bs, 0, none⟩ = some (.slice (some ⟨b, o, none⟩) L.length cap) ∧ wr.cell? ⟨Bn, 0, none⟩ = some (.int .i64 4096))
    (fun p wr => 4096 * C.num L - (intOf p).toNat)
  case atStart => exact ⟨0, Nat.zero_le _, rfl, h0, hBs, hBn⟩
  case round =>
    clear hBs hBn h0
    obtain ⟨k, hk, rfl, hJ, c0, c1⟩ := hrel
    by_cases hlt : 4096 * k < L.length
    · have hkn : k < C.num L := by unfold C.num; omega
      have hlen : (C.parts b o L k).length < C.num L := by unfold C.parts; simpa using hkn
      obtain ⟨Q, hQ⟩ : ∃ Q, Hid (C.parts b o L k = Q) := ⟨_, rfl⟩
      have hsuc := Lib.hid (C.parts_succ b o L k)
      have hsrc := Lib.hid (C.srcV_part b o L k)
      have hpre : Hid (C.parts b o L (k + 1) <+: C.parts b o L (C.num L)) := by
        show _ <+: _
        unfold C.parts
        refine ⟨((List.range (C.num L)).drop (k + 1)).map (C.part b o L), ?_⟩
        rw [← List.map_append]
        congr 1
        rw [show List.range (k + 1) = (List.range (C.num L)).take (k + 1) by rw [List.take_range]; congr 1; omega, List.take_append_drop]
      obtain ⟨s, hs⟩ : ∃ s, Hid (C.part b o L k = s) := ⟨_, rfl⟩
      have hj2 := hJa _ wr wr.drew none hJ ⟨rfl, rfl, rfl, Nat.le_refl _, fun _ _ _ => rfl⟩ (fun r e => by cases e)
      obtain ⟨fn, tmps, assign, body, hy, hR⟩ := hY _ (C.part b o L k) wr.drew hj2 hlen
      have hm' : Hid (4096 * C.num L - 4096 * (k + 1) < 4096 * C.num L - 4096 * k) := by show _ < _; omega
      have hkn := Lib.hid hkn
      rw [hsrc.out] at hy
      obtain ⟨i, hi⟩ : ∃ i, Hid (4096 * k = i) := ⟨_, rfl⟩
      obtain ⟨m, hm⟩ : ∃ m, Hid (L.length = m) := ⟨_, rfl⟩
      obtain ⟨N, hN⟩ : ∃ N, Hid (C.num L = N) := ⟨_, rfl⟩
      have hi2 : Hid (((4096 * (k + 1) : Nat) : Int) = (i : Int) + 4096) := by show _ = _; rw [← hi.out]; omega
      rw [hi.out, hm.out] at hy
      rw [hm.out] at c0 hL hl hlt
      rw [hi.out] at hlt ⊢
      rw [hN.out] at hk ⊢
      obtain ⟨z, hz, hz0, hz1, hz2⟩ : ∃ z : Nat, Hid (min 4096 (m - i) = z) ∧ Hid (min 4096 ((m - i : Nat) : Int) = (z : Int)) ∧ 0 < z ∧ z ≤ m - i := ⟨_, rfl, by show _ = _; omega, by omega, by omega⟩
      rw [hz.out] at hy
      clear hJ hlen hj2
      gi_wp2
      gi_region
      rw [hz0.out]
      gi_wp2
      refine hR.mono ?_
      rintro e W3 (⟨rfl, hJ3, hk3⟩ | ⟨rfl, hJx3⟩)
      · have e0 : W3.cell? ⟨Bs, 0, none⟩ = some (.slice (some ⟨b, o, none⟩) m cap) := (hk3.cell (p := ⟨Bs, 0, none⟩) h1).trans c0
        have e1 : W3.cell? ⟨Bn, 0, none⟩ = some (.int .i64 4096) := (hk3.cell (p := ⟨Bn, 0, none⟩) h2).trans c1
        have R : Hid (J (C.parts b o L (k + 1)) W3) := by show J _ _; rw [hsuc.out]; exact hJ3
        clear hk3 hJ3 c0 c1
        gi_wp2
        go_roundw
        case rel => exact ⟨k + 1, by have := hkn.out; have := hN.out; omega, by rw [hi2.out], R.out, by rw [hm.out]; exact e0, e1⟩
        case measure => have h := hm'.out; rw [hN.out, hi.out] at h; simp [intOf]; omega
      · have R : Hid (Jx (C.parts b o L (k + 1)) W3) := by show Jx _ _; rw [hsuc.out]; exact hJx3
        clear hJx3
        gi_wp2
        refine bodyPost_ret (results_none rfl _ _ _) rfl ?_
        exact ⟨⟨_, rfl⟩, .inr ⟨_, hpre.out, R.out⟩⟩
    · obtain rfl : k = C.num L := by unfold C.num at hk ⊢; omega
      have R : Hid (J (C.parts b o L (C.num L)) wr) := hJ
      obtain ⟨i, hi⟩ : ∃ i, Hid (4096 * C.num L = i) := ⟨_, rfl⟩
      rw [hi.out] at hlt ⊢
      clear hJ
      gi_wp2
      go_end0
      exact ⟨⟨_, rfl⟩, .inl ⟨_, rfl, R.out⟩⟩
set_option maxRecDepth 100000 in
set_option maxHeartbeats 1000000 in
theorem chunk0 (n : Nat) (_ : 1 ≤ n) (l Bs Bn : Nat) (ao : Option Addr) (cap : Nat) (J Jx : List D.Src → World → Prop)
    (W : World) (hBs : W.cell? ⟨Bs, 0, none⟩ = some (.slice ao 0 cap)) (h0 : J [] W) :
    CallsIn Fence.wide n Try.prog 77 #[.func (.yield l) #[] #[], .pointer (some ⟨Bs, 0, none⟩), .pointer (some ⟨Bn, 0, none⟩)] W fun e W' => (∃ v, e = .returned v) ∧
      ((∃ ys, ys = [] ∧ J ys W') ∨ (∃ pre, pre <+: [] ∧ Jx pre W')) := by
  refine callsIn_of_wp Try.func77 rfl trivial ?_ rfl
  simp only [Try.ntmps77, List.size_toArray, List.length_cons, List.length_nil, Nat.reduceAdd, Nat.reduceSub, Array.replicate_succ, Array.replicate_zero, List.push_toArray, List.append_toArray, List.nil_append, List.cons_append]
  gi_wp2
  gi_loopw [4] (fun p wr => p = .int .i64 0 ∧ wr = W) (fun _ _ => 0)
  case atStart => exact ⟨rfl, rfl⟩
  case round =>
    obtain ⟨rfl, rfl⟩ := hrel
    gi_wp2
    go_end0
    exact ⟨⟨_, rfl⟩, .inl ⟨_, rfl, h0⟩⟩
/-- The parts of a row that a call owns. -/
def C.ps (ao : Option Addr) (L : List D.P) : List D.Src := match ao with
  | some a => C.parts a.block a.off L (C.num L)
  | none => []
theorem chunk_stops (n : Nat) (hn : 1 ≤ n) (Bs Bn n₀ : Nat) (ao : Option Addr) (cap : Nat) (L : List D.P) (hao : (∃ b o, ao = some ⟨b, o, none⟩) ∨ (ao = none ∧ L = [])) (hL : L.length ≤ cap) (hl : L.length ≤ 1000000) (h1 : Bs < n₀) (h2 : Bn < n₀) (w : World) (hn₀ : n₀ ≤ w.heap.size)
    (hBs : w.cell? ⟨Bs, 0, none⟩ = some (.slice ao L.length cap)) (hBn : w.cell? ⟨Bn, 0, none⟩ = some (.int .i64 4096)) :
    SeqStopsK Fence.wide n Try.prog 77 #[.pointer (some ⟨Bs, 0, none⟩), .pointer (some ⟨Bn, 0, none⟩)] (fun s : D.Src => #[Value.slice s.a s.x.length s.c]) (Below n₀) (fun ys => ys = C.ps ao L) (fun pre => pre <+: C.ps ao L) (C.num L) w := fun l J Jx W hW hJ _ hY h0 => by
  have c0 := (hW.cell (p := ⟨Bs, 0, none⟩) (Nat.lt_of_lt_of_le h1 hn₀)).trans hBs
  have c1 := (hW.cell (p := ⟨Bn, 0, none⟩) (Nat.lt_of_lt_of_le h2 hn₀)).trans hBn
  rcases hao with ⟨b, o, rfl⟩ | ⟨rfl, rfl⟩
  · exact chunk1 n hn l Bs Bn n₀ b o cap L hL hl h1 h2 J Jx hY W hJ c0 c1 h0
  · exact chunk0 n hn l Bs Bn none cap J Jx W c0 h0
set_option maxHeartbeats 400000 in
theorem chunk_any (ao : Option Addr) (m cap : Nat) (w : World) :
    Calls Try.prog 57 #[.slice ao m cap, .int .i64 4096] w fun e w' => e = .returned (.func (.func 77) #[] #[.pointer (some ⟨w.heap.size, 0, none⟩), .pointer (some ⟨w.heap.size + 1, 0, none⟩)]) ∧
      (w.alloc (.cells #[.slice ao m cap] 39)).alloc (.cells #[.int .i64 4096] 3) = w' := by
  go_enter Try.func57, Try.ntmps57
  go_wp2
  go_ret
  exact ⟨rfl, rfl⟩
theorem Try.infoRow : (Try.prog.info? 39).map (fun i => (i.zero, i.size, i.bytes)) = some (some (.slice none 0 0), 1, 24) := by kernel_rfl
set_option maxRecDepth 100000 in
set_option maxHeartbeats 2000000 in
theorem appendSeq_in (n : Nat) (hn : 3 ≤ n) (gf : Nat) (lb : Array Value) (heg : ∀ args w, (callFunc gf args).run Try.prog w = .ok (.enter gf args) w) (L : List D.Src) (N : Nat) (hN : N ≤ 1000000) (w : World)
    (hseq : ∀ W, Below w.heap.size w W → SeqStopsK Fence.wide (n - 1) Try.prog gf lb (fun s : D.Src => #[Value.slice s.a s.x.length s.c]) (Below w.heap.size) (fun ys => ys = L) (fun pre => pre <+: L) N W) :
    CallsIn Fence.wide n Try.prog 76 #[.slice none 0 0, .func (.func gf) #[] lb] w fun e W' => ∃ v, e = .returned v ∧ W'.ownsRow w.heap.size 39 1 v L.length (L.map D.srcV) ∧ Below w.heap.size w W' := by
  have h1 : 1 ≤ n := by omega
  obtain ⟨i0, hi, hz0, hz1, hz2⟩ := info_parts Try.infoRow
  refine callsIn_of_wp_marks Try.func76 rfl trivial ?_ rfl
  simp only [Try.ntmps76, List.size_toArray, List.length_cons, List.length_nil, Nat.reduceAdd, Nat.reduceSub, Array.replicate_succ, Array.replicate_zero, List.push_toArray, List.append_toArray, List.nil_append, List.cons_append]
  gi_wp2
  have bO := Boxed.new w 83 (.slice none 0 0)
  have hB0 : Below w.heap.size w (w.alloc (.cells #[.slice none 0 0] 83)) := (Below.refl _ w).alloc (Nat.le_refl _) _
  have hK0 := hseq _ hB0
  refine wpIn_rangeFunc_ownG rfl h1 (gf := gf) (lb := lb) rfl trivial heg
    hK0 belowK_t (belowK_b (by simp)) (Below.refl _ _) (fun _ => rfl)
    (fun pre W => (∃ v, Boxed W w.heap.size 83 v ∧ W.ownsRow w.heap.size 39 1 v pre.length (pre.map D.srcV) ∧ True) ∧ Below w.heap.size w W)
    (fun _ _ _ => False)
    (OwnFrom.and (Own.from (holdsRow_own w.heap.size w.heap.size 83 39 1 (fun pre : List D.Src => pre.length) (fun pre => pre.map D.srcV) (fun _ _ => True)) _) (ownFrom_below (Nat.le_refl _) (by simp)))
    (fun _ _ _ _ _ hs _ _ => hs)
    ⟨⟨_, bO, World.ownsRow_nil _ _ _ _, trivial⟩, hB0⟩
    (fun s => { tmps := #[.slice none 0 0, .func (.func gf) #[] lb, .pointer (some ⟨w.heap.size, 0, none⟩), undef, .slice none 0 0, .slice s.a s.x.length s.c, .func (.func gf) #[] lb, .slice s.a s.x.length s.c, undef, undef, undef, undef, undef], defers := [] }) ?assign ?body ?done ?stop
  case assign =>
    intro l x W K hK
    gi_wp2
    exact hK
  case body =>
    rintro l pre x W ⟨⟨v, hv, hrow, _⟩, hB⟩ hlt
    have hc := hv.cell
    obtain ⟨va, vc, rfl⟩ := D.slice_of_own hrow
    gi_wp2_with (gi_at_builtin; refine wpListIn_append_own _ rfl _ _ 83 rfl w.heap.size 39 i0 (.slice none 0 0) 1 24 Try.underlying83 hi hz0 hz1 hz2 rfl (by decide) _ _ _ rfl (hrow.alloc _) ⟨W.heap.size, 0, none⟩ 1 1 [D.srcV x] rfl rfl (cell_one_new _ _ _) (by simp [Value.oneCell', D.srcV]) (by unfold maxLen; omega) (by omega) (by have := hB.size; simp; omega) ?_; intro v' w1 hown' hgrow _; obtain ⟨g', cap', rfl⟩ := ownsRow_succ hown'; obtain ⟨hv1, hv2, hr2, hk2, hb2⟩ := hv.appended (by decide) hrow hB.size (Nat.le_refl _) hown' hgrow; have hc1 := hv1.cell; have hf1 := hv1.frozen)
    exact ⟨hk2.from _, hb2, ⟨_, hv2, by simpa using hr2, trivial⟩, hB.trans hb2⟩
  case done =>
    rintro D ys W hD rfl ⟨⟨v, hv, hrow, _⟩, hB⟩ hK
    have hc := hv.cell
    gi_wp2
    refine ⟨by simp, .inl ⟨_, _, rfl, run_takeDeferred hK, ?_⟩⟩
    exact ⟨_, results_tmp rfl _ _ _, v, rfl, ownsRow_putObj hrow _ hK rfl, hB.trans (belowK_b (w := w) (Nat.le_refl _) W D _ _ (by simp at hD; omega) hK rfl rfl)⟩
  case stop =>
    rintro D c pre W _ _ h _
    exact h.elim
end Go.Proofs.Ytmbgcbgbdjiacaa
/- ComposeDo -/
namespace Go.Proofs.Ytmbgcbgbdjiacaa
open Go.RowKit

set_option maxRecDepth 100000 in
theorem collect_any (gf : Nat) (lb : Array Value) (heg : ∀ args w, (callFunc gf args).run Try.prog w = .ok (.enter gf args) w) (L : List D.Src) (N : Nat) (hN : N ≤ 1000000) (w : World)
    (hseq : ∀ W, Below w.heap.size w W → Go.SeqStopsK Fence.wide 2 Try.prog gf lb (fun s : D.Src => #[Value.slice s.a s.x.length s.c]) (Below w.heap.size) (fun ys => ys = L) (fun pre => pre <+: L) N W) :
    Calls Try.prog 56 #[.func (.func gf) #[] lb] w fun e W' => ∃ v, e = .returned v ∧ W'.ownsRow w.heap.size 39 1 v L.length (L.map D.srcV) ∧ Below w.heap.size w W' := by
  have H := Lib.hid (callsIn_wide.1 (appendSeq_in 3 (Nat.le_refl _) gf lb heg L N hN w hseq))
  clear hseq heg
  go_enter Try.func56, Try.ntmps56
  go_wp2_with fail
  refine H.out.mono ?_
  rintro e w1 ⟨v, rfl, ho, hb⟩
  have R := Lib.hid (And.intro ho hb)
  clear ho hb
  go_wp2
  go_ret
  exact ⟨v, rfl, R.out.1, R.out.2⟩
theorem C.take_parts (L : List D.P) (k : Nat) : (List.range k).flatMap (fun i => (L.drop (4096 * i)).take 4096) = L.take (4096 * k) := by
  induction k with
  | zero => simp
  | succ k ih => rw [List.range_succ, List.flatMap_append, ih, Nat.mul_succ, List.take_add]; simp
theorem C.flat_parts (b o : Nat) (L : List D.P) : D.flat (C.parts b o L (C.num L)) = L := by
  unfold D.flat C.parts
  rw [List.flatMap_map]
  have := C.take_parts L (C.num L)
  rw [List.take_of_length_le (by unfold C.num; omega)] at this
  exact this
theorem C.part_row {W : World} {b o : Nat} {L : List D.P} (h : D.Row W (some ⟨b, o, none⟩) L) (k : Nat) : D.Row W (C.part b o L k).a (C.part b o L k).x := fun i p hp => by
  have hp' : L[4096 * k + i]? = some p := by
    unfold C.part at hp
    rw [List.getElem?_take] at hp
    split at hp
    · rwa [List.getElem?_drop] at hp
    · cases hp
  obtain ⟨b', o', e, hl, h0, h1, h2⟩ := h _ p hp'
  cases e
  have e2 : o + 4096 * k * 3 + i * 3 = o + (4096 * k + i) * 3 := by omega
  exact ⟨b, o + 4096 * k * 3, rfl, hl, by rw [e2]; exact h0, by rw [e2]; exact h1, by rw [e2]; exact h2⟩
theorem C.drop_take_bd (a : List D.Q) (m n : Nat) : D.inL ((a.drop m).take n) ≤ D.inL a ∧ D.outL ((a.drop m).take n) ≤ D.outL a := by
  have e1 := D.inL_append (a.take m) (a.drop m)
  have e2 := D.outL_append (a.take m) (a.drop m)
  have e3 := D.inL_append ((a.drop m).take n) ((a.drop m).drop n)
  have e4 := D.outL_append ((a.drop m).take n) ((a.drop m).drop n)
  rw [List.take_append_drop] at e1 e2 e3 e4
  omega
theorem C.part_chk {a : List D.Q} (pa : D.allPos a = true) (hi : D.inL a ≤ 1048576) (ho : D.outL a ≤ 1048576) (b o k : Nat) : D.chk (C.part b o (a.map D.raw) k).x = 0 := by
  have e : (C.part b o (a.map D.raw) k).x = ((a.drop (4096 * k)).take 4096).map D.raw := by unfold C.part; simp
  have hb := C.drop_take_bd a (4096 * k) 4096
  rw [e]
  refine (D.chk_iff _).2 ⟨_, ?_, rfl, by rw [List.length_take]; omega, by omega, by omega⟩
  have h := D.allPos_drop pa (4096 * k)
  unfold D.allPos at h ⊢
  rw [← List.take_append_drop 4096 (a.drop (4096 * k)), List.all_append, Bool.and_eq_true] at h
  exact h.1
/-- The parts of a row make a join's argument. -/
theorem C.rows_of {W : World} {base b o : Nat} {a : List D.Q} {v : Value} {L : List D.P} (hL : L = a.map D.raw) (pa : D.allPos a = true) (hi : D.inL a ≤ 1048576) (ho : D.outL a ≤ 1048576) (hr : D.Row W (some ⟨b, o, none⟩) L)
    (h : W.ownsRow base 39 1 v (C.parts b o L (C.num L)).length ((C.parts b o L (C.num L)).map D.srcV)) :
    ∃ lo c, v = .slice lo (C.parts b o L (C.num L)).length c ∧ D.Rows W lo (C.parts b o L (C.num L)) := by
  have hok : ∀ s ∈ C.parts b o L (C.num L), D.SrcOk W s := fun s hs => by
    obtain ⟨k, _, rfl⟩ := List.mem_map.1 hs
    have hc := C.part_chk pa hi ho b o k
    rw [← hL] at hc
    exact ⟨C.part_row hr k, (D.bd_of hc).1, (D.bd_of hc).2, fun e => by cases e⟩
  generalize C.parts b o L (C.num L) = X at h hok
  obtain ⟨hl, ⟨rfl, h0⟩ | ⟨g, cap, cur, rfl, hb, hg, hnc, hcm, hcs, ht⟩⟩ := h
  · exact ⟨none, 0, by rw [h0], fun i s hs => by have := (List.getElem?_eq_some_iff.1 hs).1; omega⟩
  · have hlt := (Array.getElem?_eq_some_iff.1 hg).1
    refine ⟨some ⟨g, 0, none⟩, cap, rfl, fun i s hs => ⟨g, 0, rfl, hlt, ?_, hok s (List.mem_of_getElem? hs)⟩⟩
    have hi := (List.getElem?_eq_some_iff.1 hs).1
    have hu : (X.map D.srcV)[i]? = some (D.srcV s) := by rw [List.getElem?_map, hs]; rfl
    rw [← ht, List.getElem?_take, if_pos (by omega)] at hu
    rw [cell_of_row W g _ cur _ _ hg, Nat.zero_add]
    simpa [D.srcV] using hu
theorem C.join_parts {a : List D.Q} {L : List D.P} (hL : L = a.map D.raw) (pa : D.allPos a = true) (hi : D.inL a ≤ 1048576) (ho : D.outL a ≤ 1048576) (b o : Nat) : D.joinE (C.parts b o L (C.num L)) = (if D.chk ((D.nf a).map D.raw) = 0 then 0 else 5) ∧ D.joinP (C.parts b o L (C.num L)) = if D.chk ((D.nf a).map D.raw) = 0 then (D.nf a).map D.raw else [] := by
  have hc : D.chkAll (C.parts b o L (C.num L)) = 0 := D.chkAll_ok _ fun s hs => by
    obtain ⟨k, _, rfl⟩ := List.mem_map.1 hs
    rw [hL]; exact C.part_chk pa hi ho b o k
  have e : D.normP (D.flat (C.parts b o L (C.num L))) = (D.nf a).map D.raw := by rw [C.flat_parts, hL, D.normP_raw]
  have e1 : D.joinE (C.parts b o L (C.num L)) = if D.chk ((D.nf a).map D.raw) = 0 then 0 else 5 := by unfold D.joinE; rw [if_pos hc, e]
  refine ⟨e1, ?_⟩
  unfold D.joinP
  rw [e1, e]
  by_cases h : D.chk ((D.nf a).map D.raw) = 0
  · rw [if_pos h, if_pos rfl, if_pos h]
  · rw [if_neg h, if_neg (by decide), if_neg h]
theorem C.ps_rows {W : World} {base : Nat} {xo : Option Addr} {v : Value} {P : List D.P} {X : List D.Q} (hP : P = X.map D.raw) (pa : D.allPos X = true) (hi : D.inL X ≤ 1048576) (ho : D.outL X ≤ 1048576) (hl : P.length ≤ 8192) (hr : D.Row W xo P) (hao : (∃ b o, xo = some ⟨b, o, none⟩) ∨ (xo = none ∧ P = []))
    (h : W.ownsRow base 39 1 v (C.ps xo P).length ((C.ps xo P).map D.srcV)) :
    ∃ lo c, v = .slice lo (C.ps xo P).length c ∧ D.Rows W lo (C.ps xo P) ∧ (C.ps xo P).length ≤ 200 ∧ D.joinE (C.ps xo P) = (if D.chk ((D.nf X).map D.raw) = 0 then 0 else 5) ∧ D.joinP (C.ps xo P) = if D.chk ((D.nf X).map D.raw) = 0 then (D.nf X).map D.raw else [] := by
  rcases hao with ⟨b, o, rfl⟩ | ⟨rfl, rfl⟩
  · obtain ⟨lo, c, hv, hrows⟩ := C.rows_of hP pa hi ho hr h
    obtain ⟨j1, j2⟩ := C.join_parts hP pa hi ho b o
    refine ⟨lo, c, hv, hrows, ?_, j1, j2⟩
    show (C.parts b o P (C.num P)).length ≤ 200
    unfold C.parts C.num
    rw [List.length_map, List.length_range]; omega
  · have hX : X = [] := List.map_eq_nil_iff.1 hP.symm
    subst hX
    obtain ⟨lo, c, hv⟩ := D.slice_of_own h
    exact ⟨lo, c, hv, fun i s hs => by simp [C.ps] at hs, by simp [C.ps], rfl, rfl⟩
def C.FitEnd (x y : List D.P) (w : World) (e : Ending) (w' : World) : Prop := e = .returned (.int .i64 (D.fit2 x y)) ∧ Below w.heap.size w w'
set_option maxRecDepth 100000 in
set_option maxHeartbeats 1000000 in
theorem fit_any (ao bo : Option Addr) (ca cb : Nat) (x y : List D.P) (w : World) (ha : D.Row w ao x) (hb : D.Row w bo y) (bx : D.Bd x) (by_ : D.Bd y) :
    Calls Try.prog 55 #[.slice ao x.length ca, .slice bo y.length cb] w (C.FitEnd x y w) := by
  have H1 := Lib.hid (lengths_any ao ca x w bx.1 ha bx.2)
  have H2 : Hid (∀ V, Below w.heap.size w V → Calls Try.prog 28 #[.slice bo y.length cb] V (D.LenEnd y V)) := fun V h => lengths_any bo cb y V by_.1 (hb.below h) by_.2
  unfold D.LenEnd at H1 H2
  clear ha hb bx by_
  by_cases h0 : D.chk x = 0
  · rw [h0] at H1
    by_cases h1 : D.chk y = 0
    · rw [h1] at H2
      have e1 : D.lenO x = D.outP x := if_pos h0
      have e2 : D.lenI y = D.inP y := if_pos h1
      rw [e1] at H1
      rw [e2] at H2
      have hf : D.fit2 x y = if D.outP x = D.inP y then 0 else 21 := by unfold D.fit2; rw [if_pos h0, if_pos h1]
      by_cases h2 : D.outP x = D.inP y
      · have q : (D.outP x != D.inP y) = false := by simp [h2]
        have R : Hid (∀ w', Below w.heap.size w w' → C.FitEnd x y w (.returned (.int .i64 0)) w') := fun w' h => ⟨by rw [hf, if_pos h2], h⟩
        clear h0 h1 h2 e1 e2 hf
        generalize D.outP x = p1 at H1 q
        generalize D.inP y = p2 at H2 q
        generalize D.lenI x = p3 at H1
        generalize D.lenO y = p4 at H2
        go_enter Try.func55, Try.ntmps55
        go_wp2_with fail
        refine H1.out.mono ?_
        rintro e w1 ⟨rfl, hb1⟩
        have H2 := Lib.hid (H2.out w1 hb1)
        have hb1 := Lib.hid hb1
        go_wp2_with fail
        refine H2.out.mono ?_
        rintro e w2 ⟨rfl, hb2⟩
        have R := Lib.hid (R.out w2 (hb1.out.trans (hb2.mono hb1.out.size)))
        clear hb2
        go_wp2
        go_ret
        exact R.out
      · have q : (D.outP x != D.inP y) = true := by simp [h2]
        have R : Hid (∀ w', Below w.heap.size w w' → C.FitEnd x y w (.returned (.int .i64 21)) w') := fun w' h => ⟨by rw [hf, if_neg h2], h⟩
        clear h0 h1 h2 e1 e2 hf
        generalize D.outP x = p1 at H1 q
        generalize D.inP y = p2 at H2 q
        generalize D.lenI x = p3 at H1
        generalize D.lenO y = p4 at H2
        go_enter Try.func55, Try.ntmps55
        go_wp2_with fail
        refine H1.out.mono ?_
        rintro e w1 ⟨rfl, hb1⟩
        have H2 := Lib.hid (H2.out w1 hb1)
        have hb1 := Lib.hid hb1
        go_wp2_with fail
        refine H2.out.mono ?_
        rintro e w2 ⟨rfl, hb2⟩
        have R := Lib.hid (R.out w2 (hb1.out.trans (hb2.mono hb1.out.size)))
        clear hb2
        go_wp2
        go_ret
        exact R.out
    · have hf : D.fit2 x y = D.chk y := by unfold D.fit2; rw [if_pos h0, if_neg h1]
      have q : (D.chk y != 0) = true := by simpa using h1
      have R : Hid (∀ w', Below w.heap.size w w' → C.FitEnd x y w (.returned (.int .i64 (D.chk y))) w') := fun w' h => ⟨by rw [hf], h⟩
      clear h0 h1 hf
      generalize D.chk y = c at H2 q R
      generalize D.lenO x = p1 at H1
      generalize D.lenI y = p2 at H2
      generalize D.lenI x = p3 at H1
      generalize D.lenO y = p4 at H2
      go_enter Try.func55, Try.ntmps55
      go_wp2_with fail
      refine H1.out.mono ?_
      rintro e w1 ⟨rfl, hb1⟩
      have H2 := Lib.hid (H2.out w1 hb1)
      have hb1 := Lib.hid hb1
      go_wp2_with fail
      refine H2.out.mono ?_
      rintro e w2 ⟨rfl, hb2⟩
      have R := Lib.hid (R.out w2 (hb1.out.trans (hb2.mono hb1.out.size)))
      clear hb2
      go_wp2
      go_ret
      exact R.out
  · have hf : D.fit2 x y = D.chk x := by unfold D.fit2; rw [if_neg h0]
    have q : (D.chk x != 0) = true := by simpa using h0
    have R : Hid (∀ w', Below w.heap.size w w' → C.FitEnd x y w (.returned (.int .i64 (D.chk x))) w') := fun w' h => ⟨by rw [hf], h⟩
    clear h0 hf H2
    generalize D.chk x = c at H1 q R
    generalize D.lenO x = p1 at H1
    generalize D.lenI x = p3 at H1
    go_enter Try.func55, Try.ntmps55
    go_wp2_with fail
    refine H1.out.mono ?_
    rintro e w1 ⟨rfl, hb1⟩
    have R := Lib.hid (R.out w1 hb1)
    clear hb1
    go_wp2
    go_ret
    exact R.out
def C.CmpEnd (x y : List D.P) (w : World) (e : Ending) (w' : World) : Prop := ∃ v, e = .returned (.tuple #[v, .int .i64 (D.cmpE x y)]) ∧ D.Made (D.cmpP x y) w v w'
theorem C.made_src {l : List D.P} {w : World} {v : Value} {w' : World} (h : D.Made l w v w') : ∃ ao c, v = .slice ao l.length c ∧ D.Row w' ao l ∧ l.length ≤ c ∧ ((∃ b o, ao = some ⟨b, o, none⟩) ∨ (ao = none ∧ l = [])) := by
  obtain ⟨ao, c, hv, hr⟩ := h.form
  refine ⟨ao, c, hv, hr, ?_⟩
  obtain ⟨_, ⟨e', h0⟩ | ⟨g, cap, cur, e', _, _, hnc, _⟩⟩ := h.own
  · rw [hv] at e'
    simp only [Value.slice.injEq] at e'
    exact ⟨by omega, .inr ⟨e'.1, List.eq_nil_of_length_eq_zero h0⟩⟩
  · rw [hv] at e'
    simp only [Value.slice.injEq] at e'
    exact ⟨by omega, .inl ⟨g, 0, e'.1⟩⟩
set_option maxRecDepth 100000 in
set_option maxHeartbeats 2000000 in
theorem compose_any (ao bo : Option Addr) (ca cb : Nat) (x y : List D.P) (w : World) (ha : D.Row w ao x) (hb : D.Row w bo y) (bx : D.Bd x) (by_ : D.Bd y) (la : x.length ≤ ca) (lb : y.length ≤ cb) :
    Calls Try.prog 30 #[.slice ao x.length ca, .slice bo y.length cb] w (C.CmpEnd x y w) := by
  have H := Lib.hid (fit_any ao bo ca cb x y w ha hb bx by_)
  unfold C.FitEnd at H
  by_cases hf : D.fit2 x y = 0
  · have f := D.fit_of hf
    obtain ⟨ea, pa, l1, l2, i1, o1⟩ := D.valid_qs f.a
    obtain ⟨eb, pb, l3, l4, i2, o2⟩ := D.valid_qs f.b
    have HF : Hid (∀ V, Below w.heap.size w V → Calls Try.prog 58 #[.slice ao x.length ca, .slice bo y.length cb] V (C.FolEnd (D.qs x) (D.qs y) V)) := fun V h => by
      have := follow_any ao bo ca cb (D.qs x) (D.qs y) V (by rw [ea]; exact ha.below h) (by rw [eb]; exact hb.below h) (by omega) (by omega) (by omega) (by omega) pa pb f.m o1
      rwa [l1, l3] at this
    have hin : D.inL (D.cQ (D.qs x) (D.qs y)) ≤ 1048576 := by rw [f.cq.inn]; exact i1
    have hout : D.outL (D.cQ (D.qs x) (D.qs y)) ≤ 1048576 := by rw [f.cq.out]; exact o2
    have he : D.cmpE x y = if D.chk (D.cqP x y) = 0 then 0 else 5 := by
      rw [f.err, f.chk]
      split <;> simp
    have hp : D.cmpP x y = if D.chk (D.cqP x y) = 0 then D.cqP x y else [] := by
      unfold D.cmpP
      rw [f.err]
    have Hlen : Hid ((D.qs x).length + (D.qs y).length ≤ 8192) := by show _ ≤ _; omega
    rw [hf] at H
    have Hin := Lib.hid (And.intro hin (And.intro hout (And.intro he hp)))
    have hq0 : Hid (D.cqP x y = (D.cQ (D.qs x) (D.qs y)).map D.raw) := rfl
    clear ha hb bx by_ la lb f ea eb pa pb i1 i2 o1 o2 hin hout he hp l1 l2 l3 l4 hf
    go_enter Try.func30, Try.ntmps30
    go_wp2_with fail
    refine H.out.mono ?_
    rintro e w1 ⟨rfl, hb1⟩
    have HF := Lib.hid (HF.out w1 hb1)
    have HB1 := Lib.hid hb1
    clear hb1
    go_wp2_with fail
    refine HF.out.mono ?_
    rintro e w2 ⟨v, X, rfl, hw, hm⟩
    obtain ⟨xo, xc, hv, hrow, hcap, hao⟩ := C.made_src hm
    subst hv
    have HW := Lib.hid hw
    have HB2 := Lib.hid (HB1.out.trans (hm.below.mono HB1.out.size))
    have hXl : (X.map D.raw).length ≤ 8192 := by have := hw.len; have := Hlen.out; rw [List.length_map]; simp only [List.length_nil] at *; omega
    obtain ⟨P, hP⟩ : ∃ P, Hid (P = X.map D.raw) := ⟨_, rfl⟩
    rw [← hP.out] at hrow hcap hao hXl ⊢
    have HR := Lib.hid (And.intro hrow (And.intro hcap (And.intro hao hXl)))
    clear hm hw hrow hcap hao hXl HF H
    go_wp2_with fail
    refine (chunk_any xo P.length xc w2).mono ?_
    rintro e w3 ⟨rfl, rfl⟩
    have hB3 : Below w2.heap.size w2 ((w2.alloc (.cells #[.slice xo P.length xc] 39)).alloc (.cells #[.int .i64 4096] 3)) := ((Below.refl _ _).alloc (Nat.le_refl _) _).alloc (by simp) _
    have hs3 : ((w2.alloc (.cells #[.slice xo P.length xc] 39)).alloc (.cells #[.int .i64 4096] 3)).heap.size = w2.heap.size + 2 := by simp
    have k0 : ((w2.alloc (.cells #[.slice xo P.length xc] 39)).alloc (.cells #[.int .i64 4096] 3)).cell? ⟨w2.heap.size, 0, none⟩ = some (.slice xo P.length xc) := by
      rw [Lib.cell_of_heap ((heap_alloc_old _ _ (by simp)).trans (heap_alloc_new w2 _))]; rfl
    have k1 : ((w2.alloc (.cells #[.slice xo P.length xc] 39)).alloc (.cells #[.int .i64 4096] 3)).cell? ⟨w2.heap.size + 1, 0, none⟩ = some (.int .i64 4096) := by
      have h := heap_alloc_new (w2.alloc (.cells #[.slice xo P.length xc] 39)) (.cells #[.int .i64 4096] 3)
      rw [World.size_alloc] at h
      rw [Lib.cell_of_heap h]; rfl
    generalize ((w2.alloc (.cells #[.slice xo P.length xc] 39)).alloc (.cells #[.int .i64 4096] 3)) = W3 at hB3 hs3 k0 k1 ⊢
    have HC := Lib.hid (collect_any 77 #[.pointer (some ⟨w2.heap.size, 0, none⟩), .pointer (some ⟨w2.heap.size + 1, 0, none⟩)] (enters_of Try.func77 (by kernel_rfl) rfl) (C.ps xo P) (C.num P) (by unfold C.num; have := HR.out.2.2.2; omega) W3
      (fun V hV => chunk_stops 2 (by omega) w2.heap.size (w2.heap.size + 1) W3.heap.size xo xc P HR.out.2.2.1 HR.out.2.1 (Nat.le_trans HR.out.2.2.2 (by omega)) (by omega) (by omega) V hV.size ((hV.cell (p := ⟨w2.heap.size, 0, none⟩) (by simp only; omega)).trans k0) ((hV.cell (p := ⟨w2.heap.size + 1, 0, none⟩) (by simp only; omega)).trans k1)))
    have HB3 := Lib.hid (And.intro hB3 (HB2.out.trans (hB3.mono HB2.out.size)))
    clear hB3 hs3 k0 k1
    go_wp2_with fail
    refine HC.out.mono ?_
    rintro e w4 ⟨v, rfl, hO, hb4⟩
    obtain ⟨f1, f2, f3⟩ := HW.out.fin
    have hBB := HB3.out.1.trans (hb4.mono HB3.out.1.size)
    obtain ⟨lo, c, hv, hrows, hl2, hj, hjp⟩ := C.ps_rows hP.out HW.out.px (by rw [f2]; exact Hin.out.1) (by rw [f3]; exact Hin.out.2.1) HR.out.2.2.2 (HR.out.1.below hBB) HR.out.2.2.1 hO
    subst hv
    rw [f1, ← hq0.out, ← Hin.out.2.2.1] at hj
    rw [f1, ← hq0.out, ← Hin.out.2.2.2] at hjp
    have HJ := Lib.hid (join_any lo c (C.ps xo P) w4 hl2 hrows)
    unfold D.JoinEnd at HJ
    rw [hj, hjp] at HJ
    have HB4 := Lib.hid (HB3.out.2.trans (hb4.mono HB3.out.2.size))
    clear hO hb4 f1 f2 f3 hBB hrows hl2 hj hjp HC HB3 HR HW HB2 HB1
    generalize (C.ps xo P).length = m at HJ
    go_wp2_with fail
    refine HJ.out.mono ?_
    rintro e w5 ⟨v, rfl, hm⟩
    have R : Hid (C.CmpEnd x y w (.returned (.tuple #[v, .int .i64 (D.cmpE x y)])) w5) := ⟨v, rfl, D.own_mono hm.own HB4.out.size, HB4.out.trans (hm.below.mono HB4.out.size)⟩
    obtain ⟨va, vc, hv⟩ := D.slice_of_own hm.own
    subst hv
    clear hm HJ HB4
    go_wp2
    go_ret2
    exact R.out
  · obtain ⟨e1, e2⟩ := D.cmpE_not hf
    have q : (D.fit2 x y != 0) = true := by simpa using hf
    have R : Hid (∀ w', Below w.heap.size w w' → C.CmpEnd x y w (.returned (.tuple #[.slice none 0 0, .int .i64 (D.fit2 x y)])) w') := fun w' h => ⟨_, by rw [e1], by rw [e2]; exact D.Made.nil w h⟩
    clear ha hb bx by_ la lb hf e1 e2
    generalize D.fit2 x y = k at H q R
    go_enter Try.func30, Try.ntmps30
    go_wp2_with fail
    refine H.out.mono ?_
    rintro e w1 ⟨rfl, hb1⟩
    have R := Lib.hid (R.out w1 hb1)
    clear hb1
    go_wp2
    go_ret2
    exact R.out
end Go.Proofs.Ytmbgcbgbdjiacaa
