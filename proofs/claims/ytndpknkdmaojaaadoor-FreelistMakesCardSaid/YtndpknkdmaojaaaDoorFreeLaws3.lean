/- The walk of FreelistStack. -/
import Derived.Test.YtndpknkdmaojaaaDoorPackFLaw
import Derived.Test.YtndpknkdmaojaaaDoorFreeLaws1
namespace Go.Proofs.YtndpknkdmaojaaaDoor
open Go.RowKit

/-- A row of ints behind the list's blocks. -/
structure FL.Ri (B : Nat) (X : List Nat) (v : Value) (W : World) : Prop where
  own : W.ownsRow B 3 1 v (FL.ints X).length (FL.ints X)
theorem FL.Ri.on {B : Nat} {X : List Nat} {v : Value} {W W' : World} (h : FL.Ri B X v W) (hb : Below W.heap.size W W') : FL.Ri B X v W' := ⟨D.own_below h.own hb⟩
theorem FL.Ri.but {B : Nat} {X : List Nat} {v : Value} {W W' : World} (h : FL.Ri B X v W) (hb : FL.But (fun k => k < B) W W') : FL.Ri B X v W' := ⟨hb.row h.own (fun k e c => by have := (h.own.lt k e).1; omega)⟩
theorem FL.Ri.slice {B : Nat} {X : List Nat} {v : Value} {W : World} (h : FL.Ri B X v W) : ∃ ao c, v = .slice ao X.length c ∧ V.Row W ao (FL.ints X) := by
  obtain ⟨ao, c, e, r⟩ := V.row_of h.own
  rw [FL.ints_len] at e
  exact ⟨ao, c, e, r⟩
theorem FL.Ri.row {B : Nat} {X : List Nat} {ao : Option Addr} {n c : Nat} {W : World} (h : FL.Ri B X (.slice ao n c) W) : V.Row W ao (FL.ints X) := by
  obtain ⟨_, _, e, r⟩ := h.slice
  cases e
  exact r
theorem FL.One.freeM {w W : World} {p : Nat} {R : Nat → Prop} {s : FL.S} {B : Nat} (h : FL.One w p R s B W) : Calls Tryd.prog 21 #[FL.ptr p] W fun e w' => ∃ ao c, e = .returned (.slice ao s.stk.length c) ∧ FL.Ri B s.stk (.slice ao s.stk.length c) w' ∧ FL.One w p R s B w' ∧ Below W.heap.size W w' := by
  obtain ⟨b1, b2, b3, c1, c2, c3, hA, hR⟩ := h.x
  refine (free11_any p b1 b2 b3 c1 c2 c3 s W hA).mono fun _ _ k => ?_
  obtain ⟨v, rfl, m⟩ := k
  have hr : FL.Ri B s.stk v _ := ⟨D.own_mono m.own h.size⟩
  obtain ⟨ao, c, rfl, _⟩ := hr.slice
  exact ⟨ao, c, rfl, hr, h.on m.below, m.below⟩
set_option maxRecDepth 100000 in
set_option maxHeartbeats 8000000 in
theorem freelistStack_walk (n g : Int) (sr : FL.Src) (w : World) (_ : -9223372036854775808 ≤ n) (_ : n < 9223372036854775808) (_ : -9223372036854775808 ≤ g) (_ : g < 9223372036854775808) (hs : FL.ArgOk w sr) (hp : H.Pow w.heap.size w) :
    Calls Tryd.prog 9 #[.int .i64 n, .int .i64 g, .slice sr.a sr.x.length sr.c] w fun e w' => e = .returned (.bool true) ∧ Below w.heap.size w w' := by
  have HK : Hid (∀ W, Below w.heap.size w W → Calls Tryd.prog 19 #[] W (fun e w' => e = .returned (.bool true) ∧ Below W.heap.size W w')) := fun W hb => awake11_any W (H.Pow.go hp hb)
  have HR := Lib.hid (run11_any n g sr w hs)
  clear hp hs
  go_enter Tryd.func9, Tryd.ntmps9
  go_wp2_with fail
  refine HR.out.mono ?_
  rintro e w1 ⟨p, R, s, X, D, va, vc, B, rfl, t, _, _, _, _, _⟩
  have T0 := Lib.hid t
  clear t HR
  go_wp2_with fail
  refine T0.out.take.mono ?_
  rintro e w2 ⟨rfl, t, _⟩
  have T1 := Lib.hid t
  have hl1 : s.tk.stk.length ≤ 16384 := Nat.le_trans (FL.stk_len t.x.inv) t.x.inv.n2
  clear t
  cases e : s.stk with
  | nil =>
    obtain ⟨k1, k2, k3⟩ := FL.tk_nil e
    have hl : s.tk.stk.length = 0 := by rw [k1, e]; rfl
    rw [k2, k3]
    clear k1 k2 k3 e T0
    go_wp2_with fail
    refine T1.out.toOn.free.mono ?_
    rintro e w3 ⟨ao, c, rfl, hr, hb⟩
    have T2 := Lib.hid (T1.out.below.trans (hb.mono T1.out.below.size))
    rw [hl]
    clear hb hr T1
    go_wp2_with fail
    refine (HK.out _ T2.out).mono ?_
    rintro e w4 ⟨rfl, hb⟩
    have T3 := Lib.hid (T2.out.trans (hb.mono T2.out.size))
    clear hb
    go_wp2
    go_ret
    exact ⟨rfl, T3.out⟩
  | cons x r =>
    have HV := Lib.hid T0.out.x.inv
    have t := FL.tk_cons HV.out e
    obtain ⟨s1, s2, s3⟩ := FL.stack HV.out e
    have hzl := FL.tkH_le HV.out
    have hok : H.Ok s.tkH := by rw [t.hand]; exact t.ok
    rw [t.err]
    clear T0
    obtain ⟨z, hz⟩ : ∃ z, s.tkH = z := ⟨_, rfl⟩
    rw [hz] at s1 s2 s3 hzl hok ⊢
    have HN := Lib.hid (fun W => next10_any z hzl W)
    have GV := Lib.hid (fun (W : World) (T : FL.One w p R s.tk B W) => T.give z hzl)
    obtain ⟨zi, hzi⟩ : ∃ zi : Int, (z : Int) = zi := ⟨_, rfl⟩
    rw [hzi] at HN GV ⊢
    rw [s1] at GV
    go_wp2_with fail
    refine T1.out.freeM.mono ?_
    rintro e w3 ⟨ao, c, rfl, hr, t2, _⟩
    have T2 := Lib.hid t2
    have R2 := Lib.hid hr
    clear t2 hr T1
    go_wp2_with fail
    refine (GV.out _ T2.out).mono ?_
    rintro e w4 ⟨rfl, t4, hb⟩
    have T3 := Lib.hid t4
    have R3 := Lib.hid (R2.out.but hb)
    clear t4 hb T2 R2 GV
    cases e2 : s.tk.gvB z with
    | true =>
      have es := s2 e2
      clear s1 s2 s3 hok hzl hz t e2
      go_wp2_with fail
      refine T3.out.freeM.mono ?_
      rintro e w5 ⟨ao2, c2, rfl, hr, t5, hb⟩
      rw [es] at hr ⊢
      have T4 := Lib.hid t5.below
      have R4 := Lib.hid (R3.out.on hb).row
      have R5 := Lib.hid hr.row
      clear hb hr t5 T3 R3
      go_wp2_with fail
      refine (FL.eqI s.tk.stk hl1 R5.out R4.out).mono ?_
      rintro e w6 ⟨rfl, hb⟩
      have T6 := Lib.hid (T4.out.trans (hb.mono T4.out.size))
      clear hb T4 R4 R5
      go_wp2_with fail
      refine (HK.out _ T6.out).mono ?_
      rintro e w7 ⟨rfl, hb⟩
      have T7 := Lib.hid (T6.out.trans (hb.mono T6.out.size))
      clear hb
      go_wp2
      go_ret
      exact ⟨rfl, T7.out⟩
    | false =>
      obtain ⟨x1, x2, x3, x4⟩ := s3 e2
      have nx1 : H.nxE z = 0 := by unfold H.nxE; rw [if_pos hok, if_neg x3]
      have nx2 : H.nxV z = ((z + 65536 : Nat) : Int) := by unfold H.nxV; rw [if_pos nx1]
      have TK := Lib.hid (fun (W : World) (T : FL.One w p R (s.tk.gv z) B W) => T.take)
      rw [nx1, nx2] at HN
      rw [x1, x2] at TK
      obtain ⟨zn, hzn⟩ : ∃ zn : Int, ((z + 65536 : Nat) : Int) = zn := ⟨_, rfl⟩
      rw [hzn] at HN TK
      clear s1 s2 s3 hok hzl hz t e2 x1 x2 x3 nx1 nx2 hzn hzi e HV
      have q1 : (zn == zn) = true := by simp
      go_wp2_with fail
      refine (TK.out _ T3.out).mono ?_
      rintro e w5 ⟨rfl, t5, hb⟩
      have T5 := Lib.hid t5
      have R5 := Lib.hid (R3.out.but hb)
      clear t5 hb T3 R3 TK
      go_wp2_with fail
      refine (HN.out _).mono ?_
      rintro e w6 ⟨rfl, rfl⟩
      go_wp2_with fail
      refine T5.out.freeM.mono ?_
      rintro e w7 ⟨ao2, c2, rfl, hr, t7, hb⟩
      rw [x4] at hr ⊢
      have T4 := Lib.hid t7.below
      have R4 := Lib.hid (R5.out.on hb).row
      have R6 := Lib.hid hr.row
      clear hb hr t7 T5 R5
      go_wp2_with fail
      refine (FL.eqI s.tk.stk hl1 R6.out R4.out).mono ?_
      rintro e w8 ⟨rfl, hb⟩
      have T6 := Lib.hid (T4.out.trans (hb.mono T4.out.size))
      clear hb T4 R4 R6
      go_wp2_with fail
      refine (HK.out _ T6.out).mono ?_
      rintro e w9 ⟨rfl, hb⟩
      have T7 := Lib.hid (T6.out.trans (hb.mono T6.out.size))
      clear hb
      go_wp2
      go_ret
      exact ⟨rfl, T7.out⟩
end Go.Proofs.YtndpknkdmaojaaaDoor
