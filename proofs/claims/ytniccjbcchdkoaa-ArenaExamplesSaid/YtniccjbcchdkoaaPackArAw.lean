/- Texts joined: ArAwakeM ArAwake ArAwake2 ArLaws1 ArOps ArKn -/
import Derived.Test.YtniccjbcchdkoaaPackArPa
/- ArAwakeM -/
namespace Go.Proofs.Ytniccjbcchdkoaa
open Go.RowKit

def Ar.xa : N.Nd := ⟨0, [97], []⟩
def Ar.xb : N.Nd := ⟨0, [98], []⟩
def Ar.xz : N.Nd := ⟨0, [], []⟩
def Ar.s0 : A13.A := ⟨⟨1, [0, 0], [1, 1], [0, 1]⟩, [], 0, 0, 0⟩
def Ar.s1 : A13.A := ⟨⟨1, [1, 0], [1, 1], [1]⟩, [(65536, Ar.xa)], 1, 0, 0⟩
def Ar.s2 : A13.A := ⟨⟨1, [1, 1], [1, 1], []⟩, [(65536, Ar.xa), (65537, Ar.xb)], 2, 0, 0⟩
def Ar.s3 : A13.A := ⟨⟨1, [1, 1], [1, 1], []⟩, [(65536, Ar.xa), (65537, Ar.xb)], 2, 0, 1⟩
def Ar.s4 : A13.A := ⟨⟨1, [2, 1], [1, 1], []⟩, [(65537, Ar.xb)], 2, 1, 1⟩
def Ar.s5 : A13.A := ⟨⟨1, [2, 1], [1, 1], []⟩, [(65537, Ar.xb)], 2, 1, 2⟩
theorem Ar.ca : N.chk Ar.xa = 0 := N.chk_leaf ⟨rfl, by decide, by decide, rfl⟩
theorem Ar.cb : N.chk Ar.xb = 0 := N.chk_leaf ⟨rfl, by decide, by decide, rfl⟩
theorem Ar.cz : N.chk Ar.xz = 23 := by
  unfold N.chk
  simp [N.formed, Ar.xz]
theorem Ar.al_ok {a : A13.A} {x : N.Nd} {e : Int} (hc : N.chk x = 0) (hk : x.ks = []) (he : a.l.tkE = e) : A13.alE Ar.ms a x = e := by
  unfold A13.alE
  rw [if_pos hc, hk, if_pos (show A13.kidsE Ar.ms a x [] = 0 from rfl), he]
theorem Ar.w0 : A13.new 2 1 = Ar.s0 := rfl
theorem Ar.w1 : A13.alE Ar.ms Ar.s0 Ar.xa = 0 ∧ A13.alH Ar.ms Ar.s0 Ar.xa = 65536 ∧ A13.al Ar.ms Ar.s0 Ar.xa = Ar.s1 := by
  have e : A13.alE Ar.ms Ar.s0 Ar.xa = 0 := Ar.al_ok Ar.ca rfl rfl
  refine ⟨e, ?_, ?_⟩
  · unfold A13.alH; rw [if_pos e]; rfl
  · unfold A13.al; rw [if_pos e]; rfl
theorem Ar.w2 : A13.alE Ar.ms Ar.s1 Ar.xb = 0 ∧ A13.alH Ar.ms Ar.s1 Ar.xb = 65537 ∧ A13.al Ar.ms Ar.s1 Ar.xb = Ar.s2 := by
  have e : A13.alE Ar.ms Ar.s1 Ar.xb = 0 := Ar.al_ok Ar.cb rfl rfl
  refine ⟨e, ?_, ?_⟩
  · unfold A13.alH; rw [if_pos e]; rfl
  · unfold A13.al; rw [if_pos e]; rfl
theorem Ar.w3 : A13.alE Ar.ms Ar.s2 Ar.xa = 6 ∧ A13.alH Ar.ms Ar.s2 Ar.xa = 0 ∧ A13.al Ar.ms Ar.s2 Ar.xa = Ar.s2 := by
  have e : A13.alE Ar.ms Ar.s2 Ar.xa = 6 := Ar.al_ok Ar.ca rfl rfl
  have := A13.al_no (ms := Ar.ms) (a := Ar.s2) (x := Ar.xa) (by rw [e]; decide)
  exact ⟨e, this.2, this.1⟩
theorem Ar.w4 : Ar.got Ar.s2 65536 = Ar.xa ∧ Ar.s2.gtE 65536 = 0 ∧ Ar.s2.gt 65536 = Ar.s2 := ⟨rfl, rfl, rfl⟩
theorem Ar.w5 : Ar.s2.gtE 131073 = 10 ∧ Ar.s2.gt 131073 = Ar.s3 := ⟨rfl, rfl⟩
theorem Ar.w6 : Ar.s3.gtE 65536 = 0 ∧ Ar.s3.free 65536 = Ar.s4 := ⟨rfl, rfl⟩
theorem Ar.w7 : Ar.s4.gtE 65536 = 10 ∧ Ar.s4.gt 65536 = Ar.s5 := ⟨rfl, rfl⟩
theorem Ar.w8 : A13.alE Ar.ms Ar.s5 Ar.xa = 6 ∧ A13.alH Ar.ms Ar.s5 Ar.xa = 0 ∧ A13.al Ar.ms Ar.s5 Ar.xa = Ar.s5 := by
  have e : A13.alE Ar.ms Ar.s5 Ar.xa = 6 := Ar.al_ok Ar.ca rfl rfl
  have := A13.al_no (ms := Ar.ms) (a := Ar.s5) (x := Ar.xa) (by rw [e]; decide)
  exact ⟨e, this.2, this.1⟩
theorem Ar.w9 : A13.alE Ar.ms Ar.s5 Ar.xz = 23 ∧ A13.alH Ar.ms Ar.s5 Ar.xz = 0 ∧ A13.al Ar.ms Ar.s5 Ar.xz = Ar.s5 := by
  have e : A13.alE Ar.ms Ar.s5 Ar.xz = 23 := by unfold A13.alE; rw [if_neg (by rw [Ar.cz]; decide), Ar.cz]
  have := A13.al_no (ms := Ar.ms) (a := Ar.s5) (x := Ar.xz) (by rw [e]; decide)
  exact ⟨e, this.2, this.1⟩
theorem Ar.w10 : Ar.s5.l.stk = [] ∧ Ar.s5.l.those 2 = [0] ∧ Ar.s5.l.hands = [65537] := ⟨rfl, rfl, rfl⟩
theorem Ar.w11 : Ar.st7 Ar.s5 = .agg #[.int .i64 2, .int .i64 0, .int .i64 1, .int .i64 1, .int .i64 2, .int .i64 1, .int .i64 2] := rfl
end Go.Proofs.Ytniccjbcchdkoaa
/- ArAwake -/
namespace Go.Proofs.Ytniccjbcchdkoaa
open Go.RowKit

theorem Ar.eqIL (l : List Nat) (n : Nat) (h2 : l.length = n) (hn : n ≤ 1000) {W : World} {ao bo : Option Addr} {c c' : Nat} (ha : V.Row W ao (FL.ints l)) (hb : V.Row W bo (FL.ints l)) : Calls Try.prog 61 #[.slice ao n c, .slice bo n c'] W fun e w' => e = .returned (.bool true) ∧ Below W.heap.size W w' := by
  subst h2
  have := equalInts_any ao bo c c' l l W ha hb (by unfold maxLen; omega)
  rwa [decide_eq_true rfl] at this
theorem Ar.eqHL (l : List Nat) (n : Nat) (h2 : l.length = n) (hn : n ≤ 1000) {W : World} {ao bo : Option Addr} {c c' : Nat} (ha : V.Row W ao (H.row l)) (hb : V.Row W bo (H.row l)) : Calls Try.prog 62 #[.slice ao n c, .slice bo n c'] W fun e w' => e = .returned (.bool true) ∧ Below W.heap.size W w' := by
  subst h2
  have := equalHandles_any ao bo c c' l l W ha hb (by unfold maxLen; omega)
  rwa [decide_eq_true rfl] at this
theorem Ar.int_lit (w : World) (l : List Nat) : V.Row (w.alloc (.cells (FL.ints l).toArray 3)) (some ⟨w.heap.size, 0, none⟩) (FL.ints l) := fun i x hx => by
  refine ⟨w.heap.size, 0, rfl, by simp, ?_⟩
  rw [Nat.zero_add, Lib.cell_of_heap (heap_alloc_new w _)]; simpa using hx
theorem Ar.h_lit (w : World) (l : List Nat) : V.Row (w.alloc (.cells (H.row l).toArray 24)) (some ⟨w.heap.size, 0, none⟩) (H.row l) := fun i x hx => by
  refine ⟨w.heap.size, 0, rfl, by simp, ?_⟩
  rw [Nat.zero_add, Lib.cell_of_heap (heap_alloc_new w _)]; simpa using hx
/-- One arena and some blocks of the law's own. -/
def Ar.On (O : World → Nat → A13.A → (Nat → Prop) → Prop) (w : World) (p : Nat) (a : A13.A) (L : Nat → Prop) (W : World) : Prop := Ar.St O w p a (.slice none 0 0) [] [] L W
section
variable {O : World → Nat → A13.A → (Nat → Prop) → Prop} {w W : World} {p : Nat} {a a' : A13.A} {L : Nat → Prop}
theorem Ar.On.alloc (X : Ar.Pa O) (h : Ar.On O w p a L W) (t : ByteArray) (ht : t.size ≤ 1000) {x : N.Nd} (hx : x = ⟨0, t.data.toList, []⟩) {z e : Int} (f : A13.alE Ar.ms a x = e ∧ A13.alH Ar.ms a x = z.toNat ∧ A13.al Ar.ms a x = a') (hz : 0 ≤ z) :
    Calls Try.prog 12 #[.pointer (some ⟨p, 0, none⟩), .agg #[.int .i64 0, .string t, .slice none 0 0]] W fun E W' => E = .returned (.tuple #[.int .u64 z, .int .i64 e]) ∧ Ar.On O w p a' L W' ∧ Ar.Kept L W W' := by
  obtain ⟨R, K, hO, hR, hv, hk, h1, h2, h3⟩ := h.ex
  obtain ⟨rfl, f2, rfl⟩ := f
  subst hx
  refine (X.alloc p a R ⟨0, t, ⟨none, 0, []⟩⟩ W hO ⟨by show _ ≤ (0 : Int); omega, by show (0 : Int) < _; omega, by show t.size ≤ _; omega, N.row_nil _ _, (fun _ => rfl), (fun p hp => by cases hp), Nat.zero_le _, Nat.zero_le _⟩ (fun g o e _ => by cases e)).mono fun E W' k => ?_
  obtain ⟨k1, k2, k3⟩ := k
  obtain ⟨t1, t2, t3, t4, t5, t6, t7⟩ := Ar.turn_ex hv hR h.below hk h1 h2 (fun k c => c) k3
  refine ⟨?_, ⟨t1, h.chk, _, K, k2, t2, t3, t4, t5, t6, h3⟩, t7⟩
  rw [k1]
  show Ending.returned (.tuple #[.int .u64 ((A13.alH Ar.ms a ⟨0, t.data.toList, []⟩ : Nat) : Int), _]) = _
  rw [f2, Int.toNat_of_nonneg hz]; rfl
theorem Ar.On.get (X : Ar.Pa O) (h : Ar.On O w p a L W) (hst : a.st < 1000000000) {z : Int} (hz : 0 ≤ z) (hz1 : z ≤ 18446744073709551615) {x : N.Nd} {e : Int} (f : Ar.got a z.toNat = x ∧ a.gtE z.toNat = e ∧ a.gt z.toNat = a') :
    Calls Try.prog 13 #[.pointer (some ⟨p, 0, none⟩), .int .u64 z] W fun E W' => ∃ t xo xc, t.data.toList = x.t ∧ E = .returned (.tuple #[.agg #[.int .i64 x.h, .string t, .slice xo x.ks.length xc], .int .i64 e]) ∧ Ar.On O w p a' L W' ∧ Ar.Kept L W W' := by
  obtain ⟨rfl, rfl, rfl⟩ := f
  have := Ar.St.get X h hst z.toNat (by omega)
  rw [Int.toNat_of_nonneg hz] at this
  refine this.mono fun E W' k => ?_
  obtain ⟨t, xo, xc, ht, he, hS, hk, _, _⟩ := k
  exact ⟨t, xo, xc, ht, he, hS.less (fun _ c => .inl c), hk⟩
theorem Ar.On.free (X : Ar.Pa O) (h : Ar.On O w p a L W) (hst : a.st < 1000000000) {z : Int} (hz : 0 ≤ z) (hz1 : z ≤ 18446744073709551615) {e : Int} (f : a.gtE z.toNat = e ∧ a.free z.toNat = a') :
    Calls Try.prog 16 #[.pointer (some ⟨p, 0, none⟩), .int .u64 z] W fun E W' => E = .returned (.int .i64 e) ∧ Ar.On O w p a' L W' ∧ Ar.Kept L W W' := by
  obtain ⟨R, K, hO, hR, hv, hk, h1, h2, h3⟩ := h.ex
  obtain ⟨rfl, rfl⟩ := f
  have := X.free p a R z.toNat W hO (by omega) hst
  rw [Int.toNat_of_nonneg hz] at this
  refine this.mono fun E W' k => ?_
  obtain ⟨k1, k2, k3⟩ := k
  obtain ⟨t1, t2, t3, t4, t5, t6, t7⟩ := Ar.turn_ex hv hR h.below hk h1 h2 (fun k c => c) k3
  exact ⟨k1, ⟨t1, h.chk, _, K, k2, t2, t3, t4, t5, t6, h3⟩, t7⟩
/-- Slots: the second row is the law's own from now on. -/
theorem Ar.St.slots {v : Value} {all pend : List Ar.I} (X : Ar.Pa O) (h : Ar.St O w p a v all pend L W) :
    Calls Try.prog 14 #[.pointer (some ⟨p, 0, none⟩)] W fun e W' => ∃ ao c bo d, e = .returned (.tuple #[.slice ao a.l.stk.length c, .slice bo (a.l.those 2).length d]) ∧ V.Row W' ao (FL.ints a.l.stk) ∧ V.Row W' bo (FL.ints (a.l.those 2)) ∧
      Ar.St O w p a v all pend (fun k => L k ∨ (∃ o, ao = some ⟨k, o, none⟩) ∨ ∃ o, bo = some ⟨k, o, none⟩) W' ∧ Below W.heap.size W W' := by
  have hh := h
  obtain ⟨R, K, hO, hR, hv, hk, h1, h2, h3⟩ := h.ex
  refine (X.slots p a R W hO).mono fun e W' k => ?_
  obtain ⟨v1, v2, he, m1, m2, _⟩ := k
  have blk : ∀ {l : List Value} {v : Value}, V.Made 3 l W v W' → ∀ {ao : Option Addr} {n c : Nat}, v = .slice ao n c → ∀ k o, ao = some ⟨k, o, none⟩ → W.heap.size ≤ k ∧ k < W'.heap.size := fun {l v} m {ao n c} e k o e' => by
    obtain ⟨_, ⟨e2, _⟩ | ⟨g, cap, cur, e2, hg, hh, _⟩⟩ := m.own
    · rw [e, e'] at e2; cases e2
    · rw [e, e'] at e2
      have := (Array.getElem?_eq_some_iff.1 hh).1
      injection e2 with e2
      injection e2 with e2
      injection e2 with e2
      omega
  obtain ⟨ao, c, e1, r1⟩ := FL.MI.row m1
  obtain ⟨bo, d, e2, r2⟩ := FL.MI.row m2
  have hb1 := blk m1 e1
  have hb2 := blk m2 e2
  refine ⟨ao, c, bo, d, by rw [he, e1, e2], r1, r2, hh.more X m1.below (fun k c => ?_), m1.below⟩
  rcases c with c | ⟨o, c⟩ | ⟨o, c⟩
  · exact .inl c
  · exact .inr (hb1 k o c)
  · exact .inr (hb2 k o c)
end
end Go.Proofs.Ytniccjbcchdkoaa
/- ArAwake2 -/
namespace Go.Proofs.Ytniccjbcchdkoaa
open Go.RowKit

theorem Ar.bytes_of {t : ByteArray} {l : List UInt8} (h : t.data.toList = l) : t = ⟨l.toArray⟩ := by rw [← h]
theorem Ar.kept_row' {W W' : World} {L : Nat → Prop} {ao : Option Addr} {l : List Value} (h : V.Row W ao l) (hk : Ar.Kept L W W') (hL : ∀ k o, ao = some ⟨k, o, none⟩ → L k) : V.Row W' ao l := fun i x hx => by
  obtain ⟨b, o, e, hb, hc⟩ := h i x hx
  have h2 := (hk b (hL b o e)).2
  have h3 : W.heap[b]? = some W.heap[b] := Array.getElem?_eq_getElem hb
  refine ⟨b, o, e, (Array.getElem?_eq_some_iff.1 (h2.trans h3)).1, ?_⟩
  unfold World.cell?
  rw [h2]
  exact hc
section
variable {O : World → Nat → A13.A → (Nat → Prop) → Prop}
set_option maxRecDepth 100000 in
set_option maxHeartbeats 4000000 in
theorem awake13_any (X : Ar.Pa O) (w : World) : Calls Try.prog 25 #[] w fun e w' => e = .returned (.bool true) ∧ Below w.heap.size w w' := by
  have HN := Lib.hid (X.new 2 1 w (by decide) (by decide) (by decide) (by decide))
  go_enter Try.func25, Try.ntmps25
  go_wp2_with fail
  refine HN.out.mono ?_
  rintro e w1 ⟨p, rfl, ho, hb⟩
  have O0 : Hid (Ar.On O w p Ar.s0 (fun _ => False) w1) := Ar.St.make ho hb (fun k c => c.elim False.elim (fun c => c.1))
  clear ho hb HN
  unfold FL.ptr
  go_wp2_with fail
  refine (O0.out.alloc X ⟨#[97]⟩ (by decide) rfl (z := 65536) Ar.w1 (by decide)).mono ?_
  rintro e w2 ⟨rfl, o, _⟩
  have O1 := Lib.hid o
  clear o O0
  go_wp2_with fail
  refine (O1.out.alloc X ⟨#[98]⟩ (by decide) rfl (z := 65537) Ar.w2 (by decide)).mono ?_
  rintro e w3 ⟨rfl, o, _⟩
  have O2 := Lib.hid o
  clear o O1
  go_wp2_with fail
  refine (O2.out.alloc X ⟨#[97]⟩ (by decide) rfl (z := 0) Ar.w3 (by decide)).mono ?_
  rintro e w4 ⟨rfl, o, _⟩
  have O3 := Lib.hid o
  clear o O2
  go_wp2_with fail
  refine (O3.out.get X (by decide) (z := 65536) (by decide) (by decide) Ar.w4).mono ?_
  rintro e w5 ⟨t, xo, xc, ht, rfl, o, _⟩
  obtain rfl := Ar.bytes_of ht
  have O4 : Hid (Ar.On O w p Ar.s2 (fun k => k = w5.heap.size) (w5.alloc (.cells #[.int .i64 Ar.xa.h, .string ⟨Ar.xa.t.toArray⟩, .slice xo Ar.xa.ks.length xc] 30))) := Ar.St.more X o ((Below.refl _ _).alloc (Nat.le_refl _) _) (fun k c => .inr (by subst c; simp))
  have C4 := heap_alloc_new w5 (.cells #[.int .i64 Ar.xa.h, .string ⟨Ar.xa.t.toArray⟩, .slice xo Ar.xa.ks.length xc] 30)
  clear o O3 ht
  go_wp2_with fail
  refine (O4.out.get X (by decide) (z := 131073) (by decide) (by decide) (x := ⟨0, [], []⟩) ⟨rfl, Ar.w5⟩).mono ?_
  rintro e w6 ⟨t, yo, yc, ht, rfl, o, hk⟩
  obtain rfl := Ar.bytes_of ht
  have B6 : Below w6.heap.size w6 (w6.alloc (.cells #[.int .i64 0, .string ⟨#[]⟩, .slice yo 0 yc] 30)) := (Below.refl _ _).alloc (Nat.le_refl _) _
  have O5 : Hid (Ar.On O w p Ar.s3 (fun _ => False) (w6.alloc (.cells #[.int .i64 0, .string ⟨#[]⟩, .slice yo 0 yc] 30))) := (Ar.St.on X o B6).less (fun _ c => c.elim)
  have c1 : (w6.alloc (.cells #[.int .i64 0, .string ⟨#[]⟩, .slice yo 0 yc] 30)).cell? ⟨w5.heap.size, 1, none⟩ = some (.string ⟨#[97]⟩) := by
    have h6 : w6.heap[w5.heap.size]? = _ := (hk _ rfl).2.trans C4
    exact Lib.cell_of_heap ((B6.block _ (Array.getElem?_eq_some_iff.1 h6).1).trans h6) 1
  clear o O4 C4 hk ht
  go_wp2_with fail
  refine (O5.out.free X (by decide) (z := 65536) (by decide) (by decide) Ar.w6).mono ?_
  rintro e w7 ⟨rfl, o, _⟩
  have O6 := Lib.hid o
  clear o O5 c1 B6
  go_wp2_with fail
  refine (O6.out.get X (by decide) (z := 65536) (by decide) (by decide) (x := ⟨0, [], []⟩) ⟨rfl, Ar.w7⟩).mono ?_
  rintro e w8 ⟨t, zo, zc, ht, rfl, o, _⟩
  have O7 : Hid (∀ ob, Ar.On O w p Ar.s5 (fun _ => False) (w8.alloc ob)) := fun ob => Ar.St.on X o ((Below.refl _ _).alloc (Nat.le_refl _) _)
  clear o O6
  go_wp2_with fail
  refine ((O7.out _).alloc X ⟨#[97]⟩ (by decide) rfl (z := 0) Ar.w8 (by decide)).mono ?_
  rintro e w9 ⟨rfl, o, _⟩
  have O8 := Lib.hid o
  clear o O7
  go_wp2_with fail
  refine (Ar.St.slots X O8.out).mono ?_
  rintro e w10 ⟨ao, c, bo, d, rfl, _, hr, o, _⟩
  have O9 : Hid (Ar.On O w p Ar.s5 (fun k => ∃ o, bo = some ⟨k, o, none⟩) w10) := Ar.St.less o (fun _ c => .inr (.inr c))
  have R9 : Hid (V.Row w10 bo (FL.ints [0])) := hr
  clear o O8 hr
  go_wp2_with fail
  refine (O9.out.alloc X ⟨#[]⟩ (by decide) rfl (z := 0) Ar.w9 (by decide)).mono ?_
  rintro e w11 ⟨rfl, o, hk⟩
  have O10 := Lib.hid o
  have R10 : Hid (V.Row w11 bo (FL.ints [0])) := Ar.kept_row' R9.out hk (fun k o e => ⟨o, e⟩)
  clear o O9 hk R9
  go_wp2_with fail
  change Calls _ _ _ (w11.alloc (.cells (FL.ints [0]).toArray 3)) _
  have RL := Lib.hid (Ar.int_lit w11 [0])
  have BL : Below w11.heap.size w11 (w11.alloc (.cells (FL.ints [0]).toArray 3)) := (Below.refl _ _).alloc (Nat.le_refl _) _
  have RA := Lib.hid (R10.out.below BL)
  have O11 := Lib.hid (Ar.St.on X O10.out BL)
  generalize w11.alloc (.cells (FL.ints [0]).toArray 3) = wa at RL RA O11 BL ⊢
  clear BL O10 R10
  refine (Ar.eqIL [0] 1 rfl (by decide) RA.out RL.out).mono ?_
  rintro e w12 ⟨rfl, hb⟩
  have O12 := Lib.hid (Ar.St.on X O11.out hb)
  clear hb O11 RA RL
  go_wp2_with fail
  refine (Ar.St.handles X O12.out).mono ?_
  rintro e w13 ⟨ho, hc, rfl, o, hr, _, _⟩
  have O13 := Lib.hid (o.less (L' := fun _ => False) (fun _ c => c.elim))
  have R13 : Hid (V.Row w13 ho (H.row [65537])) := hr
  clear o hr O12
  go_wp2_with fail
  change Calls _ _ _ (w13.alloc (.cells (H.row [65537]).toArray 24)) _
  have RL := Lib.hid (Ar.h_lit w13 [65537])
  have BL : Below w13.heap.size w13 (w13.alloc (.cells (H.row [65537]).toArray 24)) := (Below.refl _ _).alloc (Nat.le_refl _) _
  have RA := Lib.hid (R13.out.below BL)
  have O14 := Lib.hid (Ar.St.on X O13.out BL)
  generalize w13.alloc (.cells (H.row [65537]).toArray 24) = wb at RL RA O14 BL ⊢
  clear BL O13 R13
  refine (Ar.eqHL [65537] 1 rfl (by decide) RA.out RL.out).mono ?_
  rintro e w14 ⟨rfl, hb⟩
  have O15 := Lib.hid (Ar.St.on X O14.out hb)
  clear hb O14 RA RL
  have HS := Ar.St.stats X O15.out
  rw [Ar.w11] at HS
  have HS := Lib.hid HS
  unfold FL.ptr at HS
  go_wp2_with fail
  refine HS.out.mono ?_
  rintro e w15 ⟨rfl, hb⟩
  have O16 := Lib.hid (Ar.St.on X O15.out hb)
  clear hb O15 HS
  go_wp2
  go_ret
  exact ⟨rfl, O16.out.below⟩
end
end Go.Proofs.Ytniccjbcchdkoaa
/- ArLaws1 -/
namespace Go.Proofs.Ytniccjbcchdkoaa
open Go.RowKit

/-- The first node of a new arena. -/
theorem Ar.first (n g : Nat) (h1 : 1 ≤ n) (h2 : n ≤ 16384) (h3 : 1 ≤ g) (h4 : g ≤ 4294967295) : A13.alE Ar.ms (A13.new n g) Ar.xa = 0 ∧ A13.alH Ar.ms (A13.new n g) Ar.xa = 65536 ∧
    Ar.st7 (A13.al Ar.ms (A13.new n g) Ar.xa) = .agg #[.int .i64 (n : Int), .int .i64 ((n : Int) - 1), .int .i64 1, .int .i64 0, .int .i64 1, .int .i64 0, .int .i64 0] := by
  have v := A13.inv_new h1 h2 h3 h4
  obtain ⟨m, rfl⟩ : ∃ m, n = m + 1 := ⟨n - 1, by omega⟩
  have hs : (A13.new (m + 1) g).l.stk = 0 :: (List.range m).map (· + 1) := by
    show List.range (m + 1) = _
    rw [List.range_succ_eq_map]
  have t := FL.tk_cons v.l hs
  have e : A13.alE Ar.ms (A13.new (m + 1) g) Ar.xa = 0 := Ar.al_ok Ar.ca rfl t.err
  have v' := A13.inv_al (ms := Ar.ms) v Ar.xa
  have ss := (Ar.sums v').1
  have ea : A13.al Ar.ms (A13.new (m + 1) g) Ar.xa = { A13.new (m + 1) g with l := (A13.new (m + 1) g).l.tk, items := (A13.new (m + 1) g).items ++ [((A13.new (m + 1) g).l.tkH, Ar.xa)], al := (A13.new (m + 1) g).al + 1 } := by
    unfold A13.al; rw [if_pos e]
  have l1 : (A13.al Ar.ms (A13.new (m + 1) g) Ar.xa).l.st.length = m + 1 := by
    rw [ea]; show (A13.new (m + 1) g).l.tk.st.length = _; rw [t.len]; show (List.replicate (m + 1) 0).length = _; rw [List.length_replicate]
  have l2 : (A13.al Ar.ms (A13.new (m + 1) g) Ar.xa).l.stk.length = m := by
    rw [ea]; show (A13.new (m + 1) g).l.tk.stk.length = _; rw [t.rest, List.length_map, List.length_range]
  have l3 : (A13.al Ar.ms (A13.new (m + 1) g) Ar.xa).items.length = 1 := by rw [ea]; rfl
  have l4 : (A13.al Ar.ms (A13.new (m + 1) g) Ar.xa).l.gone = 0 := by omega
  have l5 : (A13.al Ar.ms (A13.new (m + 1) g) Ar.xa).al = 1 ∧ (A13.al Ar.ms (A13.new (m + 1) g) Ar.xa).fr = 0 ∧ (A13.al Ar.ms (A13.new (m + 1) g) Ar.xa).st = 0 := by rw [ea]; exact ⟨rfl, rfl, rfl⟩
  refine ⟨e, ?_, ?_⟩
  · unfold A13.alH; rw [if_pos e, t.hand, show (A13.new (m + 1) g).l.gn 0 = 1 from rfl]; decide
  · unfold Ar.st7
    rw [l1, l2, l3, l4, l5.1, l5.2.1, l5.2.2, show ((m + 1 : Nat) : Int) - 1 = (m : Int) by omega]; rfl
section
variable {O : World → Nat → A13.A → (Nat → Prop) → Prop}
set_option maxRecDepth 100000 in
set_option maxHeartbeats 4000000 in
theorem arenaMakes_walk (X : Ar.Pa O) (n g : Int) (w : World) (n0 : -9223372036854775808 ≤ n) (n1 : n < 9223372036854775808) (g0 : 0 ≤ g) (g1 : g ≤ 18446744073709551615) :
    Calls Try.prog 20 #[.int .i64 n, .int .u64 g] w fun e w' => e = .returned (.bool true) ∧ Below w.heap.size w w' := by
  have HK : Hid (∀ W, Below w.heap.size w W → Calls Try.prog 25 #[] W (fun e w' => e = .returned (.bool true) ∧ Below w.heap.size w w')) := fun W hb => (awake13_any X W).mono fun _ _ k => ⟨k.1, Ar.bt hb k.2⟩
  by_cases h : n < 1 ∨ 16384 < n ∨ g < 1 ∨ 4294967295 < g
  · have H1 := Lib.hid (X.bad n g w h n0 (by omega) g0 g1)
    have H2 : Hid (∀ W, Calls Try.prog 50 #[.int .i64 n, .int .u64 g] W fun e w' => e = .returned (.tuple #[.pointer none, .int .i64 3]) ∧ W = w') := fun W => refNew13_bad n g h W
    clear h
    go_enter Try.func20, Try.ntmps20
    go_wp2_with fail
    refine H1.out.mono ?_
    rintro e w1 ⟨rfl, hb⟩
    have B1 := Lib.hid hb
    clear hb H1
    go_wp2_with fail
    refine (H2.out _).mono ?_
    rintro e w2 ⟨rfl, rfl⟩
    go_wp2_with fail
    refine (HK.out _ B1.out).mono ?_
    rintro e w3 ⟨rfl, hb⟩
    have B2 := Lib.hid hb
    clear hb
    go_wp2
    go_ret
    exact ⟨rfl, B2.out⟩
  · obtain ⟨m, rfl⟩ := Int.eq_ofNat_of_zero_le (show 0 ≤ n by omega)
    obtain ⟨k, rfl⟩ := Int.eq_ofNat_of_zero_le g0
    have H1 := Lib.hid (X.new m k w (by omega) (by omega) (by omega) (by omega))
    have H2 : Hid (∀ W, Calls Try.prog 50 #[.int .i64 (m : Int), .int .u64 (k : Int)] W fun e w' => ∃ p, e = .returned (.tuple #[FL.ptr p, .int .i64 0]) ∧ Below W.heap.size W w') := fun W => (refNew13_ok m k (by omega) (by omega) (by omega) (by omega) W).mono fun _ _ q => by
      obtain ⟨p, h1, _, h2⟩ := q
      exact ⟨p, h1, h2⟩
    unfold FL.ptr at H1 H2
    obtain ⟨f1, f2, f3⟩ := Ar.first m k (by omega) (by omega) (by omega) (by omega)
    have wr : IntKind.i64.wrap ((m : Int) - 1) = (m : Int) - 1 := IntWalk.i64_in _ (by omega)
    obtain ⟨mi, hmi⟩ : ∃ mi : Int, (m : Int) = mi := ⟨_, rfl⟩
    obtain ⟨ki, hki⟩ : ∃ ki : Int, (k : Int) = ki := ⟨_, rfl⟩
    rw [hmi] at H1 H2 f3 wr ⊢
    rw [hki] at H1 H2 ⊢
    clear h n0 n1 g0 g1 hmi hki
    generalize A13.new m k = a0 at *
    go_enter Try.func20, Try.ntmps20
    go_wp2_with fail
    refine H1.out.mono ?_
    rintro e w1 ⟨p, rfl, ho, hb⟩
    have O1 : Hid (Ar.On O w p a0 (fun _ => False) w1) := Ar.St.make ho hb (fun k c => c.elim False.elim (fun c => c.1))
    clear ho hb H1
    go_wp2_with fail
    refine (H2.out _).mono ?_
    rintro e w2 ⟨q, rfl, hb⟩
    have O2 : Hid (Ar.On O w p a0 (fun _ => False) w2) := Ar.St.on X O1.out hb
    clear hb O1 H2
    go_wp2_with fail
    refine (O2.out.alloc X ⟨#[97]⟩ (by decide) rfl (z := 65536) (a' := A13.al Ar.ms a0 Ar.xa) ⟨f1, f2, rfl⟩ (by decide)).mono ?_
    rintro e w3 ⟨rfl, o, _⟩
    have O3 := Lib.hid o
    clear o O2
    have HS := Ar.St.stats X O3.out
    rw [f3] at HS
    have HS := Lib.hid HS
    unfold FL.ptr at HS
    clear f1 f2 f3
    go_wp2_with fail
    refine HS.out.mono ?_
    rintro e w4 ⟨rfl, hb⟩
    have O4 := Lib.hid (Ar.St.on X O3.out hb)
    clear hb O3 HS
    have i1 : ∀ z : Int, (z == z) = true := fun z => by simp
    go_wp2_with fail
    refine (HK.out _ O4.out.below).mono ?_
    rintro e w5 ⟨rfl, hb⟩
    have B5 := Lib.hid hb
    clear hb O4
    go_wp2
    go_ret
    exact ⟨rfl, B5.out⟩
end
end Go.Proofs.Ytniccjbcchdkoaa
/- ArOps -/
namespace Go.Proofs.Ytniccjbcchdkoaa
open Go.RowKit

/-- What a deed does, by its kind and its error. -/
inductive Ar.Did (d : Ar.Dd) (all : List Ar.I) (a : A13.A) : Prop
  | made (k : d.opK = 0) (e : d.opE all a = 0) (c : N.chk (d.opX all a) = 0) (h : d.opH all a = A13.alH Ar.ms a (d.opX all a)) (o : d.op all a = A13.al Ar.ms a (d.opX all a)) (z : A13.alE Ar.ms a (d.opX all a) = 0) : Ar.Did d all a
  | not (k : d.opK = 0) (e : d.opE all a ≠ 0) (h : d.opH all a = 0) (o : d.op all a = a) : Ar.Did d all a
  | freed (k : d.opK = 2) (e : d.opE all a = 0) (h : d.opH all a = d.hand all) (s : a.has (d.hand all) = true) (o : d.op all a = a.free (d.hand all)) : Ar.Did d all a
  | read (k : d.opK = 1) (e : d.opE all a = 0) (h : d.opH all a = d.hand all) (s : a.has (d.hand all) = true) (o : d.op all a = a) : Ar.Did d all a
  | stale (k : d.opK = 1 ∨ d.opK = 2) (e : d.opE all a = 10) (h : d.opH all a = d.hand all) (s : a.has (d.hand all) = false) (o : d.op all a = { a with st := a.st + 1 }) : Ar.Did d all a
theorem Ar.alE_chk {a : A13.A} {x : N.Nd} (h : A13.alE Ar.ms a x = 0) : N.chk x = 0 := by
  unfold A13.alE at h
  split at h
  · assumption
  · exact h
theorem Ar.did (d : Ar.Dd) (all : List Ar.I) (a : A13.A) : Ar.Did d all a := by
  by_cases his : d.is = true
  · have eX : d.opX all a = d.nd all := by unfold Ar.Dd.opX; rw [if_pos his]
    have eK : d.opK = 0 := by unfold Ar.Dd.opK; rw [if_pos his]
    have eE : d.opE all a = A13.alE Ar.ms a (d.nd all) := by unfold Ar.Dd.opE; rw [if_pos his]
    have eH : d.opH all a = A13.alH Ar.ms a (d.nd all) := by unfold Ar.Dd.opH; rw [if_pos his]
    have eO : d.op all a = A13.al Ar.ms a (d.nd all) := by unfold Ar.Dd.op; rw [if_pos his]
    by_cases h : A13.alE Ar.ms a (d.nd all) = 0
    · exact .made eK (eE.trans h) (by rw [eX]; exact Ar.alE_chk h) (by rw [eX]; exact eH) (by rw [eX]; exact eO) (by rw [eX]; exact h)
    · have n := A13.al_no h
      exact .not eK (by rw [eE]; exact h) (eH.trans n.2) (eO.trans n.1)
  · have eE : d.opE all a = a.gtE (d.hand all) := by unfold Ar.Dd.opE; rw [if_neg his]
    have eH : d.opH all a = d.hand all := by unfold Ar.Dd.opH; rw [if_neg his]
    by_cases h6 : d.kind % 8 = 6
    · have eK : d.opK = 2 := by unfold Ar.Dd.opK; rw [if_neg his, if_pos h6]
      have eO : d.op all a = a.free (d.hand all) := by unfold Ar.Dd.op; rw [if_neg his, if_pos h6]
      by_cases h : a.has (d.hand all) = true
      · exact .freed eK (by rw [eE]; unfold A13.A.gtE; rw [if_pos h]) eH h eO
      · exact .stale (.inr eK) (by rw [eE]; unfold A13.A.gtE; rw [if_neg h]) eH (by simpa using h) (eO.trans (A13.free_no (by simpa using h)))
    · have eK : d.opK = 1 := by unfold Ar.Dd.opK; rw [if_neg his, if_neg h6]
      have eO : d.op all a = a.gt (d.hand all) := by unfold Ar.Dd.op; rw [if_neg his, if_neg h6]
      by_cases h : a.has (d.hand all) = true
      · exact .read eK (by rw [eE]; unfold A13.A.gtE; rw [if_pos h]) eH h (eO.trans (A13.gt_yes h))
      · exact .stale (.inl eK) (by rw [eE]; unfold A13.A.gtE; rw [if_neg h]) eH (by simpa using h) (eO.trans (A13.gt_no (by simpa using h)))
/-- A slice of deeds. -/
structure Ar.Src where
  a : Option Addr
  c : Nat
  x : List Ar.Dd
def Ar.DRow (W : World) (ao : Option Addr) (l : List Ar.Dd) : Prop := ∀ (i : Nat) (d : Ar.Dd), l[i]? = some d → ∃ b o, ao = some ⟨b, o, none⟩ ∧ b < W.heap.size ∧
  W.cell? ⟨b, o + i * 7, none⟩ = some (.int .i64 d.kind) ∧ W.cell? ⟨b, o + i * 7 + 1, none⟩ = some (.string d.text) ∧ W.cell? ⟨b, o + i * 7 + 2, none⟩ = some (.slice d.lo d.l.length d.lc) ∧ W.cell? ⟨b, o + i * 7 + 3, none⟩ = some (.int .i64 d.x.h) ∧ W.cell? ⟨b, o + i * 7 + 4, none⟩ = some (.string d.x.t) ∧ W.cell? ⟨b, o + i * 7 + 5, none⟩ = some (.slice d.x.s.a d.x.s.x.length d.x.s.c) ∧ W.cell? ⟨b, o + i * 7 + 6, none⟩ = some (.int .u64 (d.h : Int))
structure Ar.ArgOk (W : World) (s : Ar.Src) : Prop where
  row : Ar.DRow W s.a s.x
  deed : ∀ d ∈ s.x, Ar.DOk W d ∧ ∀ g o, d.x.s.a = some ⟨g, o, none⟩ → d.x.s.x ≠ [] → g < W.heap.size
  nil : s.a = none → s.c = 0
  len : s.x.length ≤ 2000000000000
  cap : s.x.length ≤ s.c
theorem Ar.DRow.below {W W' : World} {ao : Option Addr} {l : List Ar.Dd} (h : Ar.DRow W ao l) (hb : Below W.heap.size W W') : Ar.DRow W' ao l := fun i d hd => by
  obtain ⟨b, o, e, hlt, h0, h1, h2, h3, h4, h5, h6⟩ := h i d hd
  have k := fun j : Nat => (D.bcell hb).1 b j hlt
  exact ⟨b, o, e, Nat.lt_of_lt_of_le hlt hb.size, (k _).trans h0, (k _).trans h1, (k _).trans h2, (k _).trans h3, (k _).trans h4, (k _).trans h5, (k _).trans h6⟩
theorem Ar.ArgOk.on {W W' : World} {s : Ar.Src} (h : Ar.ArgOk W s) (hb : Below W.heap.size W W') : Ar.ArgOk W' s :=
  ⟨h.row.below hb, fun d hd => ⟨(h.deed d hd).1.on hb, fun g o e n => Nat.lt_of_lt_of_le ((h.deed d hd).2 g o e n) hb.size⟩, h.nil, h.len, h.cap⟩
end Go.Proofs.Ytniccjbcchdkoaa
/- ArKn -/
namespace Go.Proofs.Ytniccjbcchdkoaa
open Go.RowKit

theorem Try.infoKnown : (Try.prog.info? 103).map (fun i => (i.zero, i.size, i.bytes)) = some (some (.agg #[.int .u64 0, .int .i64 0, .string ⟨#[]⟩, .slice none 0 0]), 4, 56) := by kernel_rfl
theorem Ar.append_known {W : World} {ops : Array Oper} {rest : List Oper} {o : Oper} {a : Act} {Q : Exit → Act → World → Prop} (hgd : o.guard = none) (s x : Operand)
    (ho : o.op = .call { callee := .builtin .append, args := #[s, x], argTypes := #[99, 99] })
    (base : Nat) (v : Value) (Y : List Ar.I) (hs : a.eval s = v) (hown : W.ownsRow base 103 4 v Y.length (Ar.cells Y)) (i : Ar.I) (cc : Nat) (hx : a.eval x = .slice (some ⟨W.heap.size, 0, none⟩) 1 cc) (hn : Y.length ≤ 1000000) (hbase : base ≤ W.heap.size)
    (h : ∀ v' w', w'.ownsRow base 103 4 v' (Y ++ [i]).length (Ar.cells (Y ++ [i])) → W.grownBy w' v.ownBlock → (v'.ownBlock = v.ownBlock ∨ ∃ g, v'.ownBlock = some g ∧ W.heap.size ≤ g) → wpList Try.prog ops Q rest (a.put o.dst v') w') :
    wpList Try.prog ops Q (o :: rest) a (W.alloc (.cells #[.int .u64 (i.h : Int), .int .i64 i.x.h, .string i.x.t, .slice i.x.s.a i.x.s.x.length i.x.s.c] 103)) := by
  obtain ⟨ip, hp, hp0, hp1, hp2⟩ := info_parts Try.infoKnown
  refine wpList_append_own_at _ hgd s x _ ho base 103 ip (.agg #[.int .u64 0, .int .i64 0, .string ⟨#[]⟩, .slice none 0 0]) 4 56 Try.underlying99 hp hp0 hp1 hp2 rfl (by decide) v Y.length (Ar.cells Y) hs (hown.alloc _) ⟨W.heap.size, 0, none⟩ 1 cc (Ar.cells [i]) hx rfl ?_ (Ar.one_cells) (by unfold maxLen; omega) (by omega) (by simp only [World.size_alloc]; omega) ?_
  · rw [Ar.cells_one]
    exact D.news W [.int .u64 (i.h : Int), .int .i64 i.x.h, .string i.x.t, .slice i.x.s.a i.x.s.x.length i.x.s.c] 103
  · intro v' w' h1 h2 _ h4
    refine h v' w' ?_ ⟨h2.os, h2.tape, h2.output, Nat.le_trans (by simp only [World.size_alloc]; omega) h2.size, fun k hk hne => (h2.block k (by simp only [World.size_alloc]; omega) hne).trans (Lib.alloc_old W _ k hk)⟩ ?_
    · rw [List.length_append, Ar.cells_append]; exact h1
    · rcases h4 with h4 | h4
      · exact .inl h4
      · exact .inr ⟨_, h4, by simp only [World.size_alloc]; omega⟩
end Go.Proofs.Ytniccjbcchdkoaa
