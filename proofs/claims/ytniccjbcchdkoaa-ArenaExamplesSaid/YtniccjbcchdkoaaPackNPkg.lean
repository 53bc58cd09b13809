/- Texts joined: NodePkg1 NodePkg2 NodePkg3 NodePkg4 NodePkg5 NodePkg6 NodePkg7 -/
import Derived.Test.YtniccjbcchdkoaaPackNRefA
import Derived.Test.YtniccjbcchdkoaaPackHand
import Derived.BigQuiet
import Derived.Outline
import Derived.Test.YtniccjbcchdkoaaPackMeas
/- NodePkg1 -/
namespace Go.Proofs.Ytniccjbcchdkoaa
open Go.RowKit

def N.wi (n a b : Int) : Bool := decide (a ≤ n ∧ n ≤ b)
theorem within12_any (n a b : Int) (w : World) : Calls Try.prog 109 #[.int .i64 n, .int .i64 a, .int .i64 b] w fun e w' => e = .returned (.bool (N.wi n a b)) ∧ w = w' := by
  by_cases h1 : a ≤ n
  · by_cases h2 : n ≤ b
    · have e : N.wi n a b = true := by unfold N.wi; rw [decide_eq_true_eq]; exact ⟨h1, h2⟩
      rw [e]
      go_enter Try.func109, Try.ntmps109
      go_wp2
      go_ret
      exact ⟨rfl, rfl⟩
    · have e : N.wi n a b = false := by unfold N.wi; rw [decide_eq_false_iff_not]; exact fun h => h2 h.2
      rw [e]
      go_enter Try.func109, Try.ntmps109
      go_wp2
      go_ret
      exact ⟨rfl, rfl⟩
  · have e : N.wi n a b = false := by unfold N.wi; rw [decide_eq_false_iff_not]; exact fun h => h1 h.1
    rw [e]
    go_enter Try.func109, Try.ntmps109
    go_wp2
    go_ret
    exact ⟨rfl, rfl⟩
/-- A measure as the program holds it. -/
def N.mv (b r l : Int) : Value := .agg #[.int .i64 b, .int .i64 r, .int .i64 l]
/-- A function value that picks a component of a measure. -/
def N.Comp (gf : Nat) (f : N.K → Int) : Prop := ∀ (k : N.K) (W : World), Calls Try.prog gf #[.agg #[.int .i64 k.b, .int .i64 k.r, .int .i64 k.l]] W fun e W' => e = .returned (.int .i64 (f k)) ∧ Below W.heap.size W W'
theorem bytesOf_comp : N.Comp 119 N.K.b := fun k W => by
  go_enter Try.func119, Try.ntmps119
  go_wp2
  go_ret
  exact ⟨rfl, (Below.refl _ _).alloc (Nat.le_refl _) _⟩
theorem runesOf_comp : N.Comp 120 N.K.r := fun k W => by
  go_enter Try.func120, Try.ntmps120
  go_wp2
  go_ret
  exact ⟨rfl, (Below.refl _ _).alloc (Nat.le_refl _) _⟩
theorem linesOf_comp : N.Comp 121 N.K.l := fun k W => by
  go_enter Try.func121, Try.ntmps121
  go_wp2
  go_ret
  exact ⟨rfl, (Below.refl _ _).alloc (Nat.le_refl _) _⟩
set_option maxHeartbeats 1000000 in
theorem isLeaf12_any (h : Int) (t : ByteArray) (ao : Option Addr) (ca : Nat) (l : List N.K) (w : World) (ht : t.size ≤ maxLen) :
    Calls Try.prog 91 #[N.nv h t (.slice ao l.length ca)] w fun e w' => e = .returned (.bool (decide (h = 0 ∧ 1 ≤ t.size ∧ t.size ≤ 16 ∧ l.length = 0))) ∧ Below w.heap.size w w' := by
  unfold maxLen at ht
  unfold N.nv
  by_cases h0 : h = 0
  · subst h0
    by_cases h1 : 1 ≤ t.size ∧ t.size ≤ 16
    · have hd : decide ((0 : Int) = 0 ∧ 1 ≤ t.size ∧ t.size ≤ 16 ∧ l.length = 0) = decide ((l.length : Int) = 0) := by congr 1; apply propext; omega
      rw [hd]
      have W1 : Hid (∀ W, Calls Try.prog 109 #[.int .i64 (t.size : Int), .int .i64 1, .int .i64 16] W fun e w' => e = .returned (.bool true) ∧ W = w') := fun W => by
        have := within12_any (t.size : Int) 1 16 W
        rwa [show N.wi (t.size : Int) 1 16 = true by unfold N.wi; rw [decide_eq_true_eq]; omega] at this
      clear hd
      go_enter Try.func91, Try.ntmps91
      go_wp2_with (go_at_call 109; refine (W1.out _).mono ?_; rintro e w' ⟨rfl, rfl⟩)
      go_ret
      exact ⟨rfl, (Below.refl _ _).alloc (Nat.le_refl _) _⟩
    · have hd : decide ((0 : Int) = 0 ∧ 1 ≤ t.size ∧ t.size ≤ 16 ∧ l.length = 0) = false := by rw [decide_eq_false_iff_not]; omega
      rw [hd]
      have W1 : Hid (∀ W, Calls Try.prog 109 #[.int .i64 (t.size : Int), .int .i64 1, .int .i64 16] W fun e w' => e = .returned (.bool false) ∧ W = w') := fun W => by
        have := within12_any (t.size : Int) 1 16 W
        rwa [show N.wi (t.size : Int) 1 16 = false by unfold N.wi; rw [decide_eq_false_iff_not]; omega] at this
      clear hd
      go_enter Try.func91, Try.ntmps91
      go_wp2_with (go_at_call 109; refine (W1.out _).mono ?_; rintro e w' ⟨rfl, rfl⟩)
      go_ret
      exact ⟨rfl, (Below.refl _ _).alloc (Nat.le_refl _) _⟩
  · have hd : decide (h = 0 ∧ 1 ≤ t.size ∧ t.size ≤ 16 ∧ l.length = 0) = false := by rw [decide_eq_false_iff_not]; omega
    rw [hd]
    have h0' : (h == 0) = false := by simpa using h0
    clear hd h0
    go_enter Try.func91, Try.ntmps91
    go_wp2
    go_ret
    exact ⟨rfl, (Below.refl _ _).alloc (Nat.le_refl _) _⟩
end Go.Proofs.Ytniccjbcchdkoaa
/- NodePkg2 -/
namespace Go.Proofs.Ytniccjbcchdkoaa
open Go.RowKit

theorem N.wi_t {n a b : Int} (h : a ≤ n ∧ n ≤ b) : N.wi n a b = true := by unfold N.wi; rw [decide_eq_true_eq]; exact h
theorem N.wi_f {n a b : Int} (h : ¬ (a ≤ n ∧ n ≤ b)) : N.wi n a b = false := by unfold N.wi; rw [decide_eq_false_iff_not]; exact h
set_option maxRecDepth 100000 in
set_option maxHeartbeats 1000000 in
theorem isKid12_any (h : Nat) (h1 : 1 ≤ h) (h2 : h ≤ 16) (k : N.K) (f : N.Fit k) (w : World) :
    Calls Try.prog 117 #[N.kv k, .int .i64 (h : Int)] w fun e w' => e = .returned (.bool (decide (N.KOk h k))) ∧ Below w.heap.size w w' := by
  have HC : Hid (∀ W, Calls Try.prog 96 #[.int .u64 (k.at_ : Int)] W fun e w' => e = .returned (.int .i64 (H.ckE k.at_)) ∧ W = w') := fun W => check10_any k.at_ (by have := f.at_; omega) W
  have HK : Hid (N.KOk h k ↔ H.ckE k.at_ = 0 ∧ ((N.lo h : Int) ≤ k.b ∧ k.b ≤ (N.hi h : Int)) ∧ (0 ≤ k.r ∧ k.r ≤ k.b) ∧ 0 ≤ k.l ∧ k.l ≤ k.r) := by
    have e : H.ckE k.at_ = 0 ↔ H.Ok k.at_ := by unfold H.ckE; split <;> simp_all
    show _ ↔ _
    rw [e]
    exact ⟨fun x => ⟨x.1, ⟨x.2, x.3⟩, ⟨x.4, x.5⟩, x.6, x.7⟩, fun x => ⟨x.1, x.2.1.1, x.2.1.2, x.2.2.1.1, x.2.2.1.2, x.2.2.2.1, x.2.2.2.2⟩⟩
  have WI : ∀ n a b : Int, ∀ u : Bool, N.wi n a b = u → Hid (∀ W, Calls Try.prog 109 #[.int .i64 n, .int .i64 a, .int .i64 b] W fun e w' => e = .returned (.bool u) ∧ W = w') := fun n a b u hu W => by
    have := within12_any n a b W
    rwa [hu] at this
  have WI := Lib.hid WI
  unfold N.kv
  generalize H.ckE k.at_ = ce at *
  generalize (k.at_ : Int) = ka at *
  generalize k.b = kb at *
  generalize k.r = kr at *
  generalize k.l = kl at *
  clear f
  go_enter Try.func117, Try.ntmps117
  go_wp2
  go_loopw [5, 6, 10] (fun x y j wr => ∃ i : Nat, i + 1 ≤ h ∧ j = .int .i64 i ∧ x = .int .i64 (N.lo (i + 1) : Int) ∧ y = .int .i64 (N.hi (i + 1) : Int) ∧ wr = w.alloc (.cells #[.int .u64 ka, .int .i64 kb, .int .i64 kr, .int .i64 kl] 50)) (fun _ _ j _ => h - (intOf j).toNat)
  case atStart => exact ⟨0, h1, rfl, rfl, rfl, rfl⟩
  case round =>
    obtain ⟨i, i2, rfl, rfl, rfl, rfl⟩ := hrel
    have l1 := N.lo_bd (h := i + 1) (by omega)
    have l2 := N.hi_bd (i + 1)
    by_cases hlt : (i : Int) < (h : Int) - 1
    · have e1 := N.lo_step (i + 1) (by omega)
      have e2 := N.hi_step (i + 1) (by omega)
      have n1 : (((N.lo (i + 1 + 1) : Nat) : Int)) = (N.lo (i + 1) : Int) * 2 := by omega
      have n2 : (((N.hi (i + 1 + 1) : Nat) : Int)) = min ((N.hi (i + 1) : Int) * 4) 65536 := by omega
      have hltn : i + 1 < h := by omega
      go_wp2
      go_roundw
      case rel => exact ⟨i + 1, by omega, by go_num, by rw [n1], by rw [n2], trivial⟩
      case measure => simp [intOf]; omega
    · obtain rfl : i + 1 = h := by omega
      have hS : ∀ x y z : Value, Below w.heap.size w (((((w.alloc (.cells #[.int .u64 ka, .int .i64 kb, .int .i64 kr, .int .i64 kl] 50)).alloc (.cells #[.int .i64 0, .int .i64 0, .int .i64 0] 48)).setCell ⟨w.heap.size + 1, 0, none⟩ x).setCell ⟨w.heap.size + 1, 1, none⟩ y).setCell ⟨w.heap.size + 1, 2, none⟩ z) := fun x y z =>
        ((((((Below.refl _ _).alloc (Nat.le_refl _) _).alloc (by simp) _).setCell (p := ⟨w.heap.size + 1, 0, none⟩) (by simp) _).setCell (p := ⟨w.heap.size + 1, 1, none⟩) (by simp) _).setCell (p := ⟨w.heap.size + 1, 2, none⟩) (by simp) _)
      generalize ((N.lo (i + 1) : Nat) : Int) = lo at *
      generalize ((N.hi (i + 1) : Nat) : Int) = hi at *
      have hlt' : decide ((i : Int) < ((i + 1 : Nat) : Int) - 1) = false := decide_eq_false hlt
      by_cases c0 : ce = 0
      · subst c0
        by_cases c1 : lo ≤ kb ∧ kb ≤ hi
        · by_cases c2 : 0 ≤ kr ∧ kr ≤ kb
          · by_cases c3 : 0 ≤ kl ∧ kl ≤ kr
            · have hd : Hid (decide (N.KOk (i + 1) k) = true) := by show _ = _; rw [decide_eq_true_iff, HK.out]; exact ⟨rfl, c1, c2, c3⟩
              have V1 := WI.out kb lo hi true (N.wi_t c1)
              have V2 := WI.out kr 0 kb true (N.wi_t c2)
              have V3 := WI.out kl 0 kr true (N.wi_t c3)
              clear HK WI
              go_wp2_with (first | (go_at_call 96; refine (HC.out _).mono ?_; rintro e w1 ⟨rfl, rfl⟩) | (go_at_call 109; (with_reducible refine (V1.out _).mono ?_); rintro e w1 ⟨rfl, rfl⟩) | (go_at_call 109; (with_reducible refine (V2.out _).mono ?_); rintro e w1 ⟨rfl, rfl⟩) | (go_at_call 109; (with_reducible refine (V3.out _).mono ?_); rintro e w1 ⟨rfl, rfl⟩))
              go_ret
              refine ⟨by rw [hd.out]; rfl, ?_⟩
              first
                | exact (((Below.refl _ _).alloc (Nat.le_refl _) _).alloc (by simp) _)
                | exact hS _ _ _
            · have hd : Hid (decide (N.KOk (i + 1) k) = false) := by show _ = _; rw [decide_eq_false_iff_not, HK.out]; exact fun h => c3 h.2.2.2
              have V1 := WI.out kb lo hi true (N.wi_t c1)
              have V2 := WI.out kr 0 kb true (N.wi_t c2)
              have V3 := WI.out kl 0 kr false (N.wi_f c3)
              clear HK WI
              go_wp2_with (first | (go_at_call 96; refine (HC.out _).mono ?_; rintro e w1 ⟨rfl, rfl⟩) | (go_at_call 109; (with_reducible refine (V1.out _).mono ?_); rintro e w1 ⟨rfl, rfl⟩) | (go_at_call 109; (with_reducible refine (V2.out _).mono ?_); rintro e w1 ⟨rfl, rfl⟩) | (go_at_call 109; (with_reducible refine (V3.out _).mono ?_); rintro e w1 ⟨rfl, rfl⟩))
              go_ret
              refine ⟨by rw [hd.out]; rfl, ?_⟩
              first
                | exact (((Below.refl _ _).alloc (Nat.le_refl _) _).alloc (by simp) _)
                | exact hS _ _ _
          · have hd : Hid (decide (N.KOk (i + 1) k) = false) := by show _ = _; rw [decide_eq_false_iff_not, HK.out]; exact fun h => c2 h.2.2.1
            have V1 := WI.out kb lo hi true (N.wi_t c1)
            have V2 := WI.out kr 0 kb false (N.wi_f c2)
            clear HK WI
            go_wp2_with (first | (go_at_call 96; refine (HC.out _).mono ?_; rintro e w1 ⟨rfl, rfl⟩) | (go_at_call 109; (with_reducible refine (V1.out _).mono ?_); rintro e w1 ⟨rfl, rfl⟩) | (go_at_call 109; (with_reducible refine (V2.out _).mono ?_); rintro e w1 ⟨rfl, rfl⟩))
            go_ret
            refine ⟨by rw [hd.out]; rfl, ?_⟩
            first
              | exact (((Below.refl _ _).alloc (Nat.le_refl _) _).alloc (by simp) _)
              | exact hS _ _ _
        · have hd : Hid (decide (N.KOk (i + 1) k) = false) := by show _ = _; rw [decide_eq_false_iff_not, HK.out]; exact fun h => c1 h.2.1
          have V1 := WI.out kb lo hi false (N.wi_f c1)
          clear HK WI
          go_wp2_with (first | (go_at_call 96; refine (HC.out _).mono ?_; rintro e w1 ⟨rfl, rfl⟩) | (go_at_call 109; (with_reducible refine (V1.out _).mono ?_); rintro e w1 ⟨rfl, rfl⟩))
          go_ret
          refine ⟨by rw [hd.out]; rfl, ?_⟩
          first
            | exact (((Below.refl _ _).alloc (Nat.le_refl _) _).alloc (by simp) _)
            | exact hS _ _ _
      · have hd : Hid (decide (N.KOk (i + 1) k) = false) := by show _ = _; rw [decide_eq_false_iff_not, HK.out]; exact fun h => c0 h.1
        have q2 : (ce == 0) = false := by simpa using c0
        clear HK WI
        go_wp2_with (first | (go_at_call 96; refine (HC.out _).mono ?_; rintro e w1 ⟨rfl, rfl⟩))
        go_ret
        refine ⟨by rw [hd.out]; rfl, ?_⟩
        first
          | exact (((Below.refl _ _).alloc (Nat.le_refl _) _).alloc (by simp) _)
          | exact hS _ _ _
end Go.Proofs.Ytniccjbcchdkoaa
/- NodePkg3 -/
namespace Go.Proofs.Ytniccjbcchdkoaa
open Go.RowKit

/-- A box holds a height. -/
structure N.Hb (W : World) (b : Nat) (h : Int) : Prop where
  lt : b < W.heap.size
  c0 : W.cell? ⟨b, 0, none⟩ = some (.int .i64 h)
theorem N.Hb.below {W W' : World} {b : Nat} {h : Int} (x : N.Hb W b h) (hb : Below W.heap.size W W') : N.Hb W' b h := ⟨Nat.lt_of_lt_of_le x.lt hb.size, ((D.bcell hb).1 _ _ x.lt).trans x.c0⟩
theorem badKid_any (h : Nat) (h1 : 1 ≤ h) (h2 : h ≤ 16) (k : N.K) (f : N.Fit k) (b : Nat) (w : World) (hb : N.Hb w b (h : Int)) :
    Calls Try.prog 116 #[N.kv k, .pointer (some ⟨b, 0, none⟩)] w fun e w' => e = .returned (.bool (!decide (N.KOk h k))) ∧ Below w.heap.size w w' := by
  have HK : Hid (∀ W, Calls Try.prog 117 #[.agg #[.int .u64 (k.at_ : Int), .int .i64 k.b, .int .i64 k.r, .int .i64 k.l], .int .i64 (h : Int)] W fun e w' => e = .returned (.bool (decide (N.KOk h k))) ∧ Below W.heap.size W w') := fun W => isKid12_any h h1 h2 k f W
  have b1 := (Below.refl w.heap.size w).alloc (Nat.le_refl _) (.cells #[.int .u64 (k.at_ : Int), .int .i64 k.b, .int .i64 k.r, .int .i64 k.l] 50)
  obtain ⟨lt, c0⟩ := hb.below b1
  unfold N.kv
  generalize decide (N.KOk h k) = u at *
  have B1 := Lib.hid b1
  clear b1 f h1 h2 hb
  go_enter Try.func116, Try.ntmps116
  go_wp2_with (go_at_call 117; refine (HK.out _).mono ?_; rintro e w1 ⟨rfl, hb⟩; have B2 := Lib.hid (B1.out.trans (hb.mono B1.out.size)); clear hb)
  go_ret
  exact ⟨rfl, B2.out⟩
/-- Where the first child stands that a node of that height can't have. -/
def N.bad (h : Nat) : List N.K → Nat → Int
  | [], _ => -1
  | p :: r, k => if N.KOk h p then N.bad h r (k + 1) else (k : Int)
theorem N.bad_spec (h : Nat) : ∀ (l : List N.K) (k : Nat), (N.bad h l k = -1 ∧ ∀ p ∈ l, N.KOk h p) ∨ (0 ≤ N.bad h l k ∧ ¬ ∀ p ∈ l, N.KOk h p)
  | [], _ => .inl ⟨rfl, fun p hp => by cases hp⟩
  | p :: r, k => by
    rw [N.bad]
    by_cases c : N.KOk h p
    · rw [if_pos c]
      rcases N.bad_spec h r (k + 1) with ⟨e, x⟩ | ⟨e, x⟩
      · exact .inl ⟨e, fun q hq => by rcases List.mem_cons.1 hq with rfl | hq; exact c; exact x q hq⟩
      · exact .inr ⟨e, fun y => x fun q hq => y q (List.mem_cons_of_mem _ hq)⟩
    · rw [if_neg c]
      exact .inr ⟨by omega, fun y => c (y p List.mem_cons_self)⟩
set_option maxHeartbeats 2000000 in
theorem indexKid_any (ao : Option Addr) (cap b : Nat) (l : List N.K) (h : Nat) (h1 : 1 ≤ h) (h2 : h ≤ 16) (w : World) (hn : l.length ≤ maxLen) (hr : N.Row w ao l) (hf : ∀ p ∈ l, N.Fit p) (hb : N.Hb w b (h : Int)) :
    Calls Try.prog 127 #[.slice ao l.length cap, .func (.func 116) #[] #[.pointer (some ⟨b, 0, none⟩)]] w fun e w' => e = .returned (.int .i64 (N.bad h l 0)) ∧ Below w.heap.size w w' := by
  have Hr := Lib.hid hr
  have Hb := Lib.hid hb
  have Hf := Lib.hid hf
  have Hh : Hid (1 ≤ h ∧ h ≤ 16) := ⟨h1, h2⟩
  unfold maxLen at hn
  clear hr hb hf h1 h2
  go_enter Try.func127, Try.ntmps127
  go_wp2
  go_loopw [8] (fun v wr => ∃ k : Nat, k ≤ l.length ∧ v = .int .i64 k ∧ Hid (N.bad h (l.drop k) k = N.bad h l 0) ∧ Hid (Below w.heap.size w wr)) (fun v _ => l.length - (intOf v).toNat)
  case atStart => exact ⟨0, Nat.zero_le _, rfl, rfl, Below.refl _ _⟩
  case round =>
    obtain ⟨k, hk, rfl, hi, hw⟩ := hrel
    by_cases hlt : k < l.length
    · obtain ⟨p, hp, hpd⟩ := N.drop_cons hlt
      obtain ⟨b1, o, e, hbl, hc⟩ := Hr.out k p hp
      subst e
      obtain ⟨c0, c1, c2, c3⟩ := N.cell4 hw.out hbl hc
      have HE := Lib.hid (badKid_any h Hh.out.1 Hh.out.2 p (Hf.out p (List.mem_of_getElem? hp)) b wr (Hb.out.below hw.out))
      have e1 : Hid (N.bad h l 0 = if N.KOk h p then N.bad h (l.drop (k + 1)) (k + 1) else (k : Int)) := by show _ = _; rw [← hi.out, hpd]; rfl
      clear hc hp hpd
      unfold N.kv at HE
      by_cases hv : N.KOk h p
      · have R : Hid (N.bad h (l.drop (k + 1)) (k + 1) = N.bad h l 0) := by show _ = _; rw [e1.out, if_pos hv]
        rw [show (!decide (N.KOk h p)) = false by simpa using hv] at HE
        clear hv e1
        go_wp2_with (go_at_call 116; refine HE.out.mono ?_; rintro e w1 ⟨rfl, hb1⟩; have R2 := Lib.hid (hw.out.trans (hb1.mono hw.out.size)); clear hb1)
        go_roundw
        case rel => exact ⟨k + 1, by omega, by go_num, R, R2⟩
        case measure => simp [intOf]; omega
      · have R : Hid (N.bad h l 0 = (k : Int)) := by show _ = _; rw [e1.out, if_neg hv]
        rw [show (!decide (N.KOk h p)) = true by simpa using hv] at HE
        clear hv e1
        go_wp2_with (go_at_call 116; refine HE.out.mono ?_; rintro e w1 ⟨rfl, hb1⟩; have R2 := Lib.hid (hw.out.trans (hb1.mono hw.out.size)); clear hb1)
        go_ret
        exact ⟨by rw [R.out]; rfl, R2.out⟩
    · obtain rfl : k = l.length := by omega
      have R : Hid (N.bad h l 0 = -1) := by show _ = _; rw [← hi.out, List.drop_length]; rfl
      go_wp2
      go_ret
      exact ⟨by rw [R.out]; rfl, hw.out⟩
def N.allB (h : Nat) (l : List N.K) : Bool := decide (∀ p ∈ l, N.KOk h p)
set_option maxHeartbeats 1000000 in
theorem containsKid_any (ao : Option Addr) (cap b : Nat) (l : List N.K) (h : Nat) (h1 : 1 ≤ h) (h2 : h ≤ 16) (w : World) (hn : l.length ≤ maxLen) (hr : N.Row w ao l) (hf : ∀ p ∈ l, N.Fit p) (hb : N.Hb w b (h : Int)) :
    Calls Try.prog 115 #[.slice ao l.length cap, .func (.func 116) #[] #[.pointer (some ⟨b, 0, none⟩)]] w fun e w' => e = .returned (.bool (!N.allB h l)) ∧ Below w.heap.size w w' := by
  have HC := Lib.hid (indexKid_any ao cap b l h h1 h2 w hn hr hf hb)
  have hs := N.bad_spec h l 0
  generalize N.bad h l 0 = ix at HC hs
  clear hn hr hf hb h1 h2
  rcases hs with ⟨rfl, hx⟩ | ⟨h0, hx⟩
  · have e : N.allB h l = true := decide_eq_true hx
    rw [e]
    clear hx e
    go_enter Try.func115, Try.ntmps115
    go_wp2_with (go_at_call 127; refine HC.out.mono ?_; rintro e w1 ⟨rfl, hb1⟩; have R2 := Lib.hid hb1; clear hb1)
    go_ret
    exact ⟨rfl, R2.out⟩
  · have e : N.allB h l = false := decide_eq_false hx
    rw [e]
    clear hx e
    go_enter Try.func115, Try.ntmps115
    go_wp2_with (go_at_call 127; refine HC.out.mono ?_; rintro e w1 ⟨rfl, hb1⟩; have R2 := Lib.hid hb1; clear hb1)
    go_ret
    exact ⟨rfl, R2.out⟩
end Go.Proofs.Ytniccjbcchdkoaa
/- NodePkg4 -/
namespace Go.Proofs.Ytniccjbcchdkoaa
open Go.RowKit

def N.inP (h : Int) (t : ByteArray) (l : List N.K) : Prop := 1 ≤ h ∧ h ≤ 16 ∧ t.size = 0 ∧ 2 ≤ l.length ∧ l.length ≤ 4 ∧ ∀ p ∈ l, N.KOk h.toNat p
instance (h : Int) (t : ByteArray) (l : List N.K) : Decidable (N.inP h t l) := by unfold N.inP; infer_instance
def N.inB (h : Int) (t : ByteArray) (l : List N.K) : Bool := decide (N.inP h t l)
theorem N.inB_f {h : Int} {t : ByteArray} {l : List N.K} (x : ¬ N.inP h t l) : N.inB h t l = false := decide_eq_false x
theorem N.wiAt (n a b : Int) (u : Bool) (hu : N.wi n a b = u) : Hid (∀ W, Calls Try.prog 109 #[.int .i64 n, .int .i64 a, .int .i64 b] W fun e w' => e = .returned (.bool u) ∧ W = w') := fun W => by
  have := within12_any n a b W
  rwa [hu] at this
theorem N.size0 {t : ByteArray} (h : t.size = 0) : t = ⟨#[]⟩ := by
  obtain ⟨⟨l⟩⟩ := t
  have : l = [] := List.eq_nil_of_length_eq_zero h
  rw [this]
theorem N.size1 {t : ByteArray} (h : t.size ≠ 0) : t.toList.isEmpty = false ∧ ¬ t.toList = [] := by
  have e : t.toList.isEmpty = false := by rw [D.isEmpty_eq]; exact decide_eq_false h
  exact ⟨e, fun x => by rw [x] at e; cases e⟩
set_option maxRecDepth 100000 in
set_option maxHeartbeats 1000000 in
theorem isInner12_any (h : Int) (t : ByteArray) (ao : Option Addr) (ca : Nat) (l : List N.K) (w : World) (hn : l.length ≤ maxLen) (hr : N.Row w ao l) (hf : ∀ p ∈ l, N.Fit p) :
    Calls Try.prog 93 #[N.nv h t (.slice ao l.length ca)] w fun e w' => e = .returned (.bool (N.inB h t l)) ∧ Below w.heap.size w w' := by
  have B1 : Hid (Below w.heap.size w (w.alloc (.cells #[.int .i64 h, .string t, .slice ao l.length ca] 30))) := (Below.refl _ _).alloc (Nat.le_refl _) _
  unfold N.nv
  by_cases c1 : 1 ≤ h ∧ h ≤ 16
  · have V1 := N.wiAt h 1 16 true (N.wi_t c1)
    by_cases c2 : t.size = 0
    · obtain rfl := N.size0 c2
      by_cases c3 : 2 ≤ l.length ∧ l.length ≤ 4
      · have V2 := N.wiAt (l.length : Int) 2 4 true (N.wi_t (by omega))
        obtain ⟨n, rfl⟩ : ∃ n : Nat, h = n := ⟨h.toNat, by omega⟩
        have hb : N.Hb (w.alloc (.cells #[.int .i64 (n : Int), .string ⟨#[]⟩, .slice ao l.length ca] 30)) w.heap.size (n : Int) := ⟨by simp, by simp [go_sem]⟩
        have HC := Lib.hid (containsKid_any ao ca w.heap.size l n (by omega) (by omega) _ hn (hr.below B1.out) hf hb)
        have hd : N.inB (n : Int) ⟨#[]⟩ l = N.allB n l := by
          unfold N.inB N.allB N.inP
          apply decide_eq_decide.2
          exact ⟨fun x => x.2.2.2.2.2, fun x => ⟨by omega, by omega, rfl, c3.1, c3.2, x⟩⟩
        rw [hd]
        generalize N.allB n l = u at *
        clear hd c2 hn hr hf hb
        go_enter Try.func93, Try.ntmps93
        go_wp2_with (first | (go_at_call 109; (with_reducible refine (V1.out _).mono ?_); rintro e w1 ⟨rfl, rfl⟩) | (go_at_call 109; (with_reducible refine (V2.out _).mono ?_); rintro e w1 ⟨rfl, rfl⟩) | (go_at_call 115; refine HC.out.mono ?_; rintro e w1 ⟨rfl, hb⟩; have B2 := Lib.hid (B1.out.trans (hb.mono B1.out.size)); clear hb))
        go_ret
        exact ⟨rfl, B2.out⟩
      · have V2 := N.wiAt (l.length : Int) 2 4 false (N.wi_f (by omega))
        have hd := Lib.hid (N.inB_f (h := h) (t := ⟨#[]⟩) (l := l) fun x => c3 ⟨x.2.2.2.1, x.2.2.2.2.1⟩)
        clear c1 c2 c3 hn hr hf
        go_enter Try.func93, Try.ntmps93
        go_wp2_with (first | (go_at_call 109; (with_reducible refine (V1.out _).mono ?_); rintro e w1 ⟨rfl, rfl⟩) | (go_at_call 109; (with_reducible refine (V2.out _).mono ?_); rintro e w1 ⟨rfl, rfl⟩))
        go_ret
        exact ⟨by rw [hd.out]; rfl, B1.out⟩
    · obtain ⟨e1, e2⟩ := N.size1 c2
      have hd := Lib.hid (N.inB_f (h := h) (t := t) (l := l) fun x => c2 x.2.2.1)
      clear c1 c2 hn hr hf
      go_enter Try.func93, Try.ntmps93
      go_wp2_with (go_at_call 109; (with_reducible refine (V1.out _).mono ?_); rintro e w1 ⟨rfl, rfl⟩)
      go_ret
      exact ⟨by rw [hd.out]; rfl, B1.out⟩
  · have V1 := N.wiAt h 1 16 false (N.wi_f c1)
    have hd := Lib.hid (N.inB_f (h := h) (t := t) (l := l) fun x => c1 ⟨x.1, x.2.1⟩)
    clear c1 hn hr hf
    go_enter Try.func93, Try.ntmps93
    go_wp2_with (go_at_call 109; (with_reducible refine (V1.out _).mono ?_); rintro e w1 ⟨rfl, rfl⟩)
    go_ret
    exact ⟨by rw [hd.out]; rfl, B1.out⟩
end Go.Proofs.Ytniccjbcchdkoaa
/- NodePkg5 -/
namespace Go.Proofs.Ytniccjbcchdkoaa
open Go.RowKit

/-- A box holds a slice of children. -/
structure N.Sb (W : World) (b : Nat) (v : Value) : Prop where
  lt : b < W.heap.size
  c0 : W.cell? ⟨b, 0, none⟩ = some v
theorem N.Sb.below {W W' : World} {b : Nat} {v : Value} (x : N.Sb W b v) (hb : Below W.heap.size W W') : N.Sb W' b v := ⟨Nat.lt_of_lt_of_le x.lt hb.size, ((D.bcell hb).1 _ _ x.lt).trans x.c0⟩
def N.SmEnd (f : N.K → Int) (l : List N.K) (w : World) (e : Ending) (w' : World) : Prop := e = .returned (.int .i64 (N.sum f l)) ∧ Below w.heap.size w w'
set_option maxHeartbeats 1000000 in
theorem sumOf12_any (gf : Nat) (f : N.K → Int) (heg : Enters Try.prog gf) (hf : N.Comp gf f) (b : Nat) (ao : Option Addr) (ca : Nat) (l : List N.K) (w : World) (hl : l.length ≤ 4) (hs : ∀ k ∈ l, 0 ≤ f k ∧ f k ≤ 65536) (hr : N.Row w ao l) (hb : N.Sb w b (.slice ao l.length ca)) :
    Calls Try.prog 118 #[.func (.func gf) #[] #[], .pointer (some ⟨b, 0, none⟩)] w (N.SmEnd f l w) := by
  have Hr := Lib.hid hr
  have Hb := Lib.hid hb
  have Hf := Lib.hid hf
  have Hs := Lib.hid hs
  have c0 := hb.c0
  unfold Enters at heg
  clear hr hb hf hs
  go_enter Try.func118, Try.ntmps118
  go_wp2
  clear c0
  go_loopw [4, 9] (fun n j wr => ∃ k : Nat, k ≤ l.length ∧ j = .int .i64 k ∧ n = .int .i64 (N.sum f (l.take k)) ∧ Hid (Below w.heap.size w wr)) (fun _ j _ => l.length - (intOf j).toNat)
  case atStart => exact ⟨0, Nat.zero_le _, rfl, by simp [N.sum], Below.refl _ _⟩
  case round =>
    obtain ⟨k, hk, rfl, rfl, hw⟩ := hrel
    by_cases hlt : k < l.length
    · obtain ⟨p, hp, hpd⟩ := N.drop_cons hlt
      obtain ⟨b1, o, e, hbl, hc⟩ := Hr.out k p hp
      subst e
      obtain ⟨c0, c1, c2, c3⟩ := N.cell4 hw.out hbl hc
      have hst : Hid (N.sum f (l.take (k + 1)) = N.sum f (l.take k) + f p) := N.sum_take hp
      have bs := N.sum_bd (f := f) (l := l.take k) fun y hy => Hs.out y (List.mem_of_mem_take hy)
      have hlt4 : (l.take k).length ≤ 4 := by rw [List.length_take]; omega
      have pb := Hs.out p (List.mem_of_getElem? hp)
      have HE : Hid (∀ W, Calls Try.prog gf #[.agg #[.int .i64 p.b, .int .i64 p.r, .int .i64 p.l]] W fun e W' => e = .returned (.int .i64 (f p)) ∧ Below W.heap.size W W') := Hf.out p
      have HB : Hid (Below w.heap.size w (wr.alloc (.cells #[.int .u64 (p.at_ : Int), .int .i64 p.b, .int .i64 p.r, .int .i64 p.l] 50))) := hw.out.alloc hw.out.size _
      obtain ⟨bs1, bs2⟩ := bs
      obtain ⟨pb1, pb2⟩ := pb
      clear hc hp hpd hw
      generalize N.sum f (l.take k) = sb at *
      generalize (l.take k).length = lt at *
      generalize f p = fp at *
      go_wp2_with fail
      refine (HE.out _).mono ?_
      rintro e w1 ⟨rfl, hb1⟩
      have R2 := Lib.hid (HB.out.trans (hb1.mono HB.out.size))
      clear hb1
      go_wp2
      go_roundw
      case rel => exact ⟨k + 1, by omega, by go_num, by rw [hst.out], R2⟩
      case measure => simp [intOf]; omega
    · obtain rfl : k = l.length := by omega
      have R : Hid (N.SmEnd f l w (.returned (.int .i64 (N.sum f (l.take l.length)))) wr) := by show N.SmEnd _ _ _ _ _; rw [List.take_length]; exact ⟨rfl, hw.out⟩
      go_wp2
      go_ret
      exact R.out
theorem N.enters_b : Enters Try.prog 119 := enters_of Try.func119 (by kernel_rfl) rfl
theorem N.enters_r : Enters Try.prog 120 := enters_of Try.func120 (by kernel_rfl) rfl
theorem N.enters_l : Enters Try.prog 121 := enters_of Try.func121 (by kernel_rfl) rfl
set_option maxHeartbeats 1000000 in
theorem sums12_any (ao : Option Addr) (ca : Nat) (l : List N.K) (s : N.Sml l) (w : World) (hr : N.Row w ao l) :
    Calls Try.prog 94 #[.slice ao l.length ca] w fun e w' => e = .returned (N.mv (N.sum N.K.b l) (N.sum N.K.r l) (N.sum N.K.l l)) ∧ Below w.heap.size w w' := by
  have B1 : Hid (Below w.heap.size w ((w.alloc (.cells #[.slice ao l.length ca] 28)).alloc (.cells #[.int .i64 0, .int .i64 0, .int .i64 0] 48))) := ((Below.refl _ _).alloc (Nat.le_refl _) _).alloc (by simp) _
  have hb : N.Sb ((w.alloc (.cells #[.slice ao l.length ca] 28)).alloc (.cells #[.int .i64 0, .int .i64 0, .int .i64 0] 48)) w.heap.size (.slice ao l.length ca) := ⟨by simp; omega, by simp [go_sem]⟩
  have H1 : Hid (∀ W, Below w.heap.size w W → N.Sb W w.heap.size (.slice ao l.length ca) → Calls Try.prog 118 #[.func (.func 119) #[] #[], .pointer (some ⟨w.heap.size, 0, none⟩)] W (N.SmEnd N.K.b l W)) := fun W hW hB => sumOf12_any _ _ N.enters_b bytesOf_comp _ ao ca l W s.len s.b (hr.below hW) hB
  have H2 : Hid (∀ W, Below w.heap.size w W → N.Sb W w.heap.size (.slice ao l.length ca) → Calls Try.prog 118 #[.func (.func 120) #[] #[], .pointer (some ⟨w.heap.size, 0, none⟩)] W (N.SmEnd N.K.r l W)) := fun W hW hB => sumOf12_any _ _ N.enters_r runesOf_comp _ ao ca l W s.len s.r (hr.below hW) hB
  have H3 : Hid (∀ W, Below w.heap.size w W → N.Sb W w.heap.size (.slice ao l.length ca) → Calls Try.prog 118 #[.func (.func 121) #[] #[], .pointer (some ⟨w.heap.size, 0, none⟩)] W (N.SmEnd N.K.l l W)) := fun W hW hB => sumOf12_any _ _ N.enters_l linesOf_comp _ ao ca l W s.len s.l (hr.below hW) hB
  have O1 := M.Own.new (w.alloc (.cells #[.slice ao l.length ca] 28)) 0 0 0 48
  rw [World.size_alloc] at O1
  have Hb := Lib.hid hb
  have O1 := Lib.hid O1
  clear hb hr s
  unfold N.SmEnd at H1 H2 H3
  unfold N.mv
  generalize N.sum N.K.b l = sb at *
  generalize N.sum N.K.r l = sr at *
  generalize N.sum N.K.l l = sl at *
  go_enter Try.func94, Try.ntmps94
  go_wp2_with fail
  refine (H1.out _ B1.out Hb.out).mono ?_
  rintro e w1 ⟨rfl, hb⟩
  have B2 := Lib.hid (B1.out.trans (hb.mono B1.out.size))
  have Hb2 := Lib.hid (Hb.out.below hb)
  have O2 := Lib.hid (O1.out.below hb)
  clear hb B1 Hb O1
  go_wp2_with fail
  refine (H2.out _ B2.out Hb2.out).mono ?_
  rintro e w2 ⟨rfl, hb⟩
  have B3 := Lib.hid (B2.out.trans (hb.mono B2.out.size))
  have Hb3 := Lib.hid (Hb2.out.below hb)
  have O3 := Lib.hid (O2.out.below hb)
  clear hb B2 Hb2 O2
  go_wp2_with fail
  refine (H3.out _ B3.out Hb3.out).mono ?_
  rintro e w3 ⟨rfl, hb⟩
  have B4 := Lib.hid (B3.out.trans (hb.mono B3.out.size))
  have O4 := Lib.hid (O3.out.below hb)
  clear hb B3 Hb3 O3
  have r0 := O4.out.c0
  have r1 := O4.out.c1
  have r2 := O4.out.c2
  have s0 := O4.out.f0
  have s1 := O4.out.f1
  have s2 := O4.out.f2
  have hP := O4.out.put sb sr sl
  have hBw := Lib.hid (M.put3_below B4.out (b := w.heap.size + 1) (by omega) sb sr sl)
  go_wp2
  have p0 := hP.c0
  have p1 := hP.c1
  have p2 := hP.c2
  refine bodyPost_ret (v := .agg #[.int .i64 sb, .int .i64 sr, .int .i64 sl]) ?_ rfl ⟨rfl, hBw.out⟩
  unfold M.put3 at p0 p1 p2
  simp [results, Try.results94, go_sem, p0, p1, p2]
end Go.Proofs.Ytniccjbcchdkoaa
/- NodePkg6 -/
namespace Go.Proofs.Ytniccjbcchdkoaa
open Go.RowKit

/-- A node, read as a value of plain mathematics. -/
def N.nd (h : Int) (t : ByteArray) (l : List N.K) : N.Nd := ⟨h, t.data.toList, l⟩
def N.mB (x : N.Nd) : Int := if N.chk x = 0 then (if x.h = 0 then (x.t.length : Int) else N.sum N.K.b x.ks) else 0
def N.mR (x : N.Nd) : Int := if N.chk x = 0 then (if x.h = 0 then (U.cnt x.t : Int) else N.sum N.K.r x.ks) else 0
def N.mL (x : N.Nd) : Int := if N.chk x = 0 then (if x.h = 0 then (M.lf x.t : Int) else N.sum N.K.l x.ks) else 0
def N.leafP (h : Int) (t : ByteArray) (l : List N.K) : Prop := h = 0 ∧ 1 ≤ t.size ∧ t.size ≤ 16 ∧ l.length = 0
instance (h : Int) (t : ByteArray) (l : List N.K) : Decidable (N.leafP h t l) := by unfold N.leafP; infer_instance
theorem N.len_data (t : ByteArray) : t.data.toList.length = t.size := by rw [Array.length_toList]; rfl
theorem N.formed_iff (h : Int) (t : ByteArray) (l : List N.K) : N.formed (N.nd h t l) ↔ N.leafP h t l ∨ N.inP h t l := by
  unfold N.formed N.leafP N.inP N.nd
  dsimp only
  rw [N.len_data]
  constructor
  · intro x
    split at x
    · exact .inl ⟨by assumption, x.1, x.2.1, by rw [x.2.2]; rfl⟩
    · exact .inr ⟨by omega, x.2.1, by have := congrArg List.length x.2.2.1; rw [N.len_data] at this; simpa using this, x.2.2.2.1, x.2.2.2.2.1, x.2.2.2.2.2⟩
  · rintro (⟨h0, h1, h2, h3⟩ | ⟨h0, h1, h2, h3, h4, h5⟩)
    · rw [if_pos h0]; exact ⟨h1, h2, List.eq_nil_of_length_eq_zero h3⟩
    · rw [if_neg (by omega)]; exact ⟨by omega, h1, List.eq_nil_of_length_eq_zero (by rw [N.len_data]; exact h2), h3, h4, h5⟩
theorem N.sml_of {h : Int} {t : ByteArray} {l : List N.K} (x : N.inP h t l) : N.Sml l := by
  obtain ⟨h0, h1, h2, h3, h4, h5⟩ := x
  have hb : ∀ k ∈ l, 0 ≤ k.b ∧ k.b ≤ 65536 := fun k hk => by
    have := (h5 k hk).r0; have := (h5 k hk).r1; have := (h5 k hk).hi; have := N.hi_bd h.toNat; omega
  have hr : ∀ k ∈ l, 0 ≤ k.r ∧ k.r ≤ 65536 := fun k hk => by have := (h5 k hk).r0; have := (h5 k hk).r1; have := hb k hk; omega
  exact ⟨h4, hb, hr, fun k hk => by have := (h5 k hk).l0; have := (h5 k hk).l1; have := hr k hk; omega⟩
def N.MsEnd (x : N.Nd) (w : World) (e : Ending) (w' : World) : Prop := e = .returned (.tuple #[N.mv (N.mB x) (N.mR x) (N.mL x), .int .i64 (N.chk x)]) ∧ Below w.heap.size w w'
theorem N.leaf_chk {h : Int} {t : ByteArray} {l : List N.K} (x : N.leafP h t l) : N.chk (N.nd h t l) = 0 := by
  obtain rfl : l = [] := List.eq_nil_of_length_eq_zero x.2.2.2
  exact N.chk_leaf ⟨x.1, by show 1 ≤ t.data.toList.length; rw [N.len_data]; exact x.2.1, by show t.data.toList.length ≤ 16; rw [N.len_data]; exact x.2.2.1, rfl⟩
set_option maxRecDepth 100000 in
set_option maxHeartbeats 1000000 in
theorem measure12_any (h : Int) (t : ByteArray) (ao : Option Addr) (ca : Nat) (l : List N.K) (w : World) (ht : t.size ≤ maxLen) (hn : l.length ≤ maxLen) (hr : N.Row w ao l) (hf : ∀ p ∈ l, N.Fit p) :
    Calls Try.prog 70 #[N.nv h t (.slice ao l.length ca)] w (N.MsEnd (N.nd h t l) w) := by
  have B1 : Hid (Below w.heap.size w ((w.alloc (.cells #[.int .i64 h, .string t, .slice ao l.length ca] 30)).alloc (.cells #[.int .i64 0, .int .i64 0, .int .i64 0] 48))) := ((Below.refl _ _).alloc (Nat.le_refl _) _).alloc (by simp) _
  have O1 := M.Own.new (w.alloc (.cells #[.int .i64 h, .string t, .slice ao l.length ca] 30)) 0 0 0 48
  rw [World.size_alloc] at O1
  have O1 := Lib.hid O1
  have N1 : Hid (∀ W, Below w.heap.size w W → W.heap.size = W.heap.size) := fun _ _ => rfl
  clear N1
  unfold N.nv
  have HL : Hid (∀ W, Calls Try.prog 91 #[.agg #[.int .i64 h, .string t, .slice ao l.length ca]] W fun e w' => e = .returned (.bool (decide (N.leafP h t l))) ∧ Below W.heap.size W w') := fun W => isLeaf12_any h t ao ca l W ht
  have HI : Hid (∀ W, Below w.heap.size w W → Calls Try.prog 93 #[.agg #[.int .i64 h, .string t, .slice ao l.length ca]] W fun e w' => e = .returned (.bool (N.inB h t l)) ∧ Below W.heap.size W w') := fun W hW => isInner12_any h t ao ca l W hn (hr.below hW) hf
  have C0 : Hid ((((w.alloc (.cells #[.int .i64 h, .string t, .slice ao l.length ca] 30)).alloc (.cells #[.int .i64 0, .int .i64 0, .int .i64 0] 48))).cell? ⟨w.heap.size, 0, none⟩ = some (.int .i64 h) ∧ (((w.alloc (.cells #[.int .i64 h, .string t, .slice ao l.length ca] 30)).alloc (.cells #[.int .i64 0, .int .i64 0, .int .i64 0] 48))).cell? ⟨w.heap.size, 1, none⟩ = some (.string t) ∧ (((w.alloc (.cells #[.int .i64 h, .string t, .slice ao l.length ca] 30)).alloc (.cells #[.int .i64 0, .int .i64 0, .int .i64 0] 48))).cell? ⟨w.heap.size, 2, none⟩ = some (.slice ao l.length ca)) := by
    exact ⟨by simp [go_sem], by simp [go_sem], by simp [go_sem]⟩
  have L1 : Hid (w.heap.size < ((w.alloc (.cells #[.int .i64 h, .string t, .slice ao l.length ca] 30)).alloc (.cells #[.int .i64 0, .int .i64 0, .int .i64 0] 48)).heap.size) := by show _ < _; simp; omega
  by_cases c1 : N.leafP h t l
  · rw [decide_eq_true c1] at HL
    have HO : Hid (∀ W, Calls Try.prog 92 #[.string t] W fun e w' => e = .returned (.agg #[.int .i64 (t.size : Int), .int .i64 (U.cnt t.data.toList : Int), .int .i64 (M.lf t.data.toList : Int)]) ∧ Below W.heap.size W w') := fun W => of_any t W (by have := c1.2.2.1; omega)
    have R : Hid (N.chk (N.nd h t l) = 0 ∧ N.mB (N.nd h t l) = (t.size : Int) ∧ N.mR (N.nd h t l) = (U.cnt t.data.toList : Int) ∧ N.mL (N.nd h t l) = (M.lf t.data.toList : Int)) := by
      have e := N.leaf_chk c1
      have e0 : (N.nd h t l).h = 0 := c1.1
      refine ⟨e, ?_, ?_, ?_⟩
      · rw [N.mB, if_pos e, if_pos e0]; show ((t.data.toList.length : Nat) : Int) = _; rw [N.len_data]
      · rw [N.mR, if_pos e, if_pos e0]; rfl
      · rw [N.mL, if_pos e, if_pos e0]; rfl
    generalize (U.cnt t.data.toList : Int) = tr at *
    generalize (M.lf t.data.toList : Int) = tl at *
    generalize (t.size : Int) = tb at HO R
    clear hr hf ht hn HI c1
    go_enter Try.func70, Try.ntmps70
    go_wp2_with fail
    refine (HL.out _).mono ?_
    rintro e w1 ⟨rfl, hb⟩
    have B2 := Lib.hid (B1.out.trans (hb.mono B1.out.size))
    have O2 := Lib.hid (O1.out.below hb)
    obtain ⟨c0, c1, c2⟩ := C0.out
    have d0 := ((D.bcell hb).1 _ 0 L1.out).trans c0
    have d1 := ((D.bcell hb).1 _ 1 L1.out).trans c1
    clear c0 c1 c2 hb O1
    go_wp2_with fail
    refine (HO.out _).mono ?_
    rintro e w2 ⟨rfl, hb⟩
    have B3 := Lib.hid (B2.out.trans (hb.mono B2.out.size))
    have O3 := Lib.hid (O2.out.below hb)
    clear hb O2 d0 d1
    have r0 := O3.out.c0
    have r1 := O3.out.c1
    have r2 := O3.out.c2
    have s0 := O3.out.f0
    have s1 := O3.out.f1
    have s2 := O3.out.f2
    have hP := O3.out.put tb tr tl
    have hBw := Lib.hid (M.put3_below B3.out (b := w.heap.size + 1) (by omega) tb tr tl)
    go_wp2
    have p0 := hP.c0
    have p1 := hP.c1
    have p2 := hP.c2
    refine bodyPost_ret (v := .tuple #[.agg #[.int .i64 tb, .int .i64 tr, .int .i64 tl], .int .i64 0]) ?_ rfl ⟨by rw [R.out.1, R.out.2.1, R.out.2.2.1, R.out.2.2.2]; rfl, hBw.out⟩
    unfold M.put3 at p0 p1 p2
    simp [results, Try.results70, go_sem, p0, p1, p2]
  · rw [decide_eq_false c1] at HL
    by_cases c2 : N.inP h t l
    · have hsm := N.sml_of c2
      have e2 : N.inB h t l = true := decide_eq_true c2
      rw [e2] at HI
      have HS : Hid (∀ W, Below w.heap.size w W → Calls Try.prog 94 #[.slice ao l.length ca] W fun e w' => e = .returned (.agg #[.int .i64 (N.sum N.K.b l), .int .i64 (N.sum N.K.r l), .int .i64 (N.sum N.K.l l)]) ∧ Below W.heap.size W w') := fun W hW => sums12_any ao ca l hsm W (hr.below hW)
      have R : Hid ((N.chk (N.nd h t l) = if 65536 < N.sum N.K.b l then 5 else 0) ∧ (N.mB (N.nd h t l) = if 65536 < N.sum N.K.b l then 0 else N.sum N.K.b l) ∧ (N.mR (N.nd h t l) = if 65536 < N.sum N.K.b l then 0 else N.sum N.K.r l) ∧ (N.mL (N.nd h t l) = if 65536 < N.sum N.K.b l then 0 else N.sum N.K.l l)) := by
        have e : N.chk (N.nd h t l) = if 65536 < N.sum N.K.b l then 5 else 0 := by
          rw [N.chk, if_pos ((N.formed_iff h t l).2 (.inr c2))]; rfl
        have e0 : ¬ (N.nd h t l).h = 0 := by have := c2.1; show ¬ h = 0; omega
        show _ ∧ _ ∧ _ ∧ _
        unfold N.mB N.mR N.mL
        rw [e, if_neg e0, if_neg e0, if_neg e0]
        by_cases c3 : 65536 < N.sum N.K.b l
        · simp [c3]
        · simp [c3]; exact ⟨rfl, rfl, rfl⟩
      have hsb := N.sum_bd (f := N.K.b) (l := l) hsm.b
      have hl4 := hsm.len
      generalize N.sum N.K.b l = sb at *
      generalize N.sum N.K.r l = sr at *
      generalize N.sum N.K.l l = sl at *
      have hsb1 := hsb.1
      have hsb2 := hsb.2
      clear hr hf ht hn c1 c2 e2 hsm hsb
      go_enter Try.func70, Try.ntmps70
      go_wp2_with fail
      refine (HL.out _).mono ?_
      rintro e w1 ⟨rfl, hb⟩
      have B2 := Lib.hid (B1.out.trans (hb.mono B1.out.size))
      have O2 := Lib.hid (O1.out.below hb)
      obtain ⟨c0, c1, c2⟩ := C0.out
      have d0 := ((D.bcell hb).1 _ 0 L1.out).trans c0
      have d1 := ((D.bcell hb).1 _ 1 L1.out).trans c1
      have d2 := ((D.bcell hb).1 _ 2 L1.out).trans c2
      have L2 := Lib.hid (Nat.lt_of_lt_of_le L1.out hb.size)
      clear c0 c1 c2 hb O1
      go_wp2_with fail
      refine (HI.out _ B2.out).mono ?_
      rintro e w2 ⟨rfl, hb⟩
      have B3 := Lib.hid (B2.out.trans (hb.mono B2.out.size))
      have O3 := Lib.hid (O2.out.below hb)
      have f2 := ((D.bcell hb).1 _ 2 L2.out).trans d2
      clear hb O2 d0 d1 d2
      go_wp2_with fail
      refine (HS.out _ B3.out).mono ?_
      rintro e w3 ⟨rfl, hb⟩
      have B4 := Lib.hid (B3.out.trans (hb.mono B3.out.size))
      have O4 := Lib.hid (O3.out.below hb)
      clear hb O3 f2
      have O5 := O4.out.alloc (.cells #[.int .i64 sb, .int .i64 sr, .int .i64 sl] 48)
      have B5 := Lib.hid (B4.out.alloc B4.out.size (.cells #[.int .i64 sb, .int .i64 sr, .int .i64 sl] 48))
      have r0 := O5.c0
      have r1 := O5.c1
      have r2 := O5.c2
      have s0 := O5.f0
      have s1 := O5.f1
      have s2 := O5.f2
      by_cases c3 : 65536 < sb
      · have hP := O5.put 0 0 0
        have hBw := Lib.hid (M.put3_below B5.out (b := w.heap.size + 1) (by omega) 0 0 0)
        clear O5
        have R2 : Hid (N.chk (N.nd h t l) = 5 ∧ N.mB (N.nd h t l) = 0 ∧ N.mR (N.nd h t l) = 0 ∧ N.mL (N.nd h t l) = 0) := by
          have := R.out; simp only [if_pos c3] at this; exact this
        go_wp2
        have p0 := hP.c0
        have p1 := hP.c1
        have p2 := hP.c2
        refine bodyPost_ret (v := .tuple #[.agg #[.int .i64 0, .int .i64 0, .int .i64 0], .int .i64 5]) ?_ rfl ⟨by rw [R2.out.1, R2.out.2.1, R2.out.2.2.1, R2.out.2.2.2]; rfl, hBw.out⟩
        unfold M.put3 at p0 p1 p2
        simp [results, Try.results70, go_sem, p0, p1, p2]
      · have hP := O5.put sb sr sl
        have hBw := Lib.hid (M.put3_below B5.out (b := w.heap.size + 1) (by omega) sb sr sl)
        clear O5
        have R2 : Hid (N.chk (N.nd h t l) = 0 ∧ N.mB (N.nd h t l) = sb ∧ N.mR (N.nd h t l) = sr ∧ N.mL (N.nd h t l) = sl) := by
          have := R.out; simp only [if_neg c3] at this; exact this
        go_wp2
        have p0 := hP.c0
        have p1 := hP.c1
        have p2 := hP.c2
        refine bodyPost_ret (v := .tuple #[.agg #[.int .i64 sb, .int .i64 sr, .int .i64 sl], .int .i64 0]) ?_ rfl ⟨by rw [R2.out.1, R2.out.2.1, R2.out.2.2.1, R2.out.2.2.2]; rfl, hBw.out⟩
        unfold M.put3 at p0 p1 p2
        simp [results, Try.results70, go_sem, p0, p1, p2]
    · have R : Hid (N.chk (N.nd h t l) = 23 ∧ N.mB (N.nd h t l) = 0 ∧ N.mR (N.nd h t l) = 0 ∧ N.mL (N.nd h t l) = 0) := by
        have e : N.chk (N.nd h t l) = 23 := by
          rw [N.chk, if_neg (fun x => ((N.formed_iff h t l).1 x).elim c1 c2)]
        have e0 : ¬ N.chk (N.nd h t l) = 0 := by rw [e]; decide
        exact ⟨e, by rw [N.mB, if_neg e0], by rw [N.mR, if_neg e0], by rw [N.mL, if_neg e0]⟩
      have e2 : N.inB h t l = false := decide_eq_false c2
      rw [e2] at HI
      clear hr hf ht hn c1 c2 e2
      go_enter Try.func70, Try.ntmps70
      go_wp2_with fail
      refine (HL.out _).mono ?_
      rintro e w1 ⟨rfl, hb⟩
      have B2 := Lib.hid (B1.out.trans (hb.mono B1.out.size))
      have O2 := Lib.hid (O1.out.below hb)
      obtain ⟨c0, c1, c2⟩ := C0.out
      have d0 := ((D.bcell hb).1 _ 0 L1.out).trans c0
      have d1 := ((D.bcell hb).1 _ 1 L1.out).trans c1
      have d2 := ((D.bcell hb).1 _ 2 L1.out).trans c2
      clear c0 c1 c2 hb O1
      go_wp2_with fail
      refine (HI.out _ B2.out).mono ?_
      rintro e w2 ⟨rfl, hb⟩
      have B3 := Lib.hid (B2.out.trans (hb.mono B2.out.size))
      have O3 := Lib.hid (O2.out.below hb)
      clear hb O2 d0 d1 d2
      have r0 := O3.out.c0
      have r1 := O3.out.c1
      have r2 := O3.out.c2
      have s0 := O3.out.f0
      have s1 := O3.out.f1
      have s2 := O3.out.f2
      have hP := O3.out.put 0 0 0
      have hBw := Lib.hid (M.put3_below B3.out (b := w.heap.size + 1) (by omega) 0 0 0)
      go_wp2
      have p0 := hP.c0
      have p1 := hP.c1
      have p2 := hP.c2
      refine bodyPost_ret (v := .tuple #[.agg #[.int .i64 0, .int .i64 0, .int .i64 0], .int .i64 23]) ?_ rfl ⟨by rw [R.out.1, R.out.2.1, R.out.2.2.1, R.out.2.2.2]; rfl, hBw.out⟩
      unfold M.put3 at p0 p1 p2
      simp [results, Try.results70, go_sem, p0, p1, p2]
theorem check12_any (h : Int) (t : ByteArray) (ao : Option Addr) (ca : Nat) (l : List N.K) (w : World) (ht : t.size ≤ maxLen) (hn : l.length ≤ maxLen) (hr : N.Row w ao l) (hf : ∀ p ∈ l, N.Fit p) :
    Calls Try.prog 39 #[N.nv h t (.slice ao l.length ca)] w fun e w' => e = .returned (.int .i64 (N.chk (N.nd h t l))) ∧ Below w.heap.size w w' := by
  have B1 : Hid (Below w.heap.size w (w.alloc (.cells #[.int .i64 h, .string t, .slice ao l.length ca] 30))) := (Below.refl _ _).alloc (Nat.le_refl _) _
  have HM : Hid (∀ W, Below w.heap.size w W → Calls Try.prog 70 #[.agg #[.int .i64 h, .string t, .slice ao l.length ca]] W fun e w' => e = .returned (.tuple #[.agg #[.int .i64 (N.mB (N.nd h t l)), .int .i64 (N.mR (N.nd h t l)), .int .i64 (N.mL (N.nd h t l))], .int .i64 (N.chk (N.nd h t l))]) ∧ Below W.heap.size W w') := fun W hW => measure12_any h t ao ca l W ht hn (hr.below hW) hf
  unfold N.nv
  generalize N.mB (N.nd h t l) = a at *
  generalize N.mR (N.nd h t l) = b at *
  generalize N.mL (N.nd h t l) = c at *
  generalize N.chk (N.nd h t l) = d at *
  clear ht hn hr hf
  go_enter Try.func39, Try.ntmps39
  go_wp2_with (go_at_call 70; refine (HM.out _ B1.out).mono ?_; rintro e w1 ⟨rfl, hb⟩; have B2 := Lib.hid ((B1.out.trans (hb.mono B1.out.size)).alloc (B1.out.trans (hb.mono B1.out.size)).size (.cells #[.int .i64 a, .int .i64 b, .int .i64 c] 48)); clear hb)
  go_ret
  exact ⟨rfl, B2.out⟩
end Go.Proofs.Ytniccjbcchdkoaa
/- NodePkg7 -/
namespace Go.Proofs.Ytniccjbcchdkoaa
open Go.RowKit

/-- A box holds a node. -/
structure N.Nb (W : World) (b : Nat) (h : Int) (t : ByteArray) (v : Value) : Prop where
  lt : b < W.heap.size
  c0 : W.cell? ⟨b, 0, none⟩ = some (.int .i64 h)
  c1 : W.cell? ⟨b, 1, none⟩ = some (.string t)
  c2 : W.cell? ⟨b, 2, none⟩ = some v
theorem N.Nb.below {W W' : World} {b : Nat} {h : Int} {t : ByteArray} {v : Value} (x : N.Nb W b h t v) (hb : Below W.heap.size W W') : N.Nb W' b h t v := by
  have hc := (D.bcell hb).1
  exact ⟨Nat.lt_of_lt_of_le x.lt hb.size, (hc _ _ x.lt).trans x.c0, (hc _ _ x.lt).trans x.c1, (hc _ _ x.lt).trans x.c2⟩
theorem N.Nb.new (W : World) (h : Int) (t : ByteArray) (v : Value) (T : TypeId) : N.Nb (W.alloc (.cells #[.int .i64 h, .string t, v] T)) W.heap.size h t v := ⟨by simp, by simp [go_sem], by simp [go_sem], by simp [go_sem]⟩
theorem N.Nb.alloc {W : World} {b : Nat} {h : Int} {t : ByteArray} {v : Value} (x : N.Nb W b h t v) (o : Obj) : N.Nb (W.alloc o) b h t v := x.below ((Below.refl _ _).alloc (Nat.le_refl _) o)
def N.fdE (f : N.K → Int) (first : Int) (x : N.Nd) (n : Int) : Int := if N.chk x = 0 then (if x.h = 0 then 8 else if first ≤ n ∧ n < first + N.sum f x.ks then 0 else 3) else N.chk x
def N.fdI (f : N.K → Int) (first : Int) (x : N.Nd) (n : Int) : Int := if N.fdE f first x n = 0 then ((N.fnd f x.ks (n - first)).1 : Int) else 0
def N.fdR (f : N.K → Int) (first : Int) (x : N.Nd) (n : Int) : Int := if N.fdE f first x n = 0 then (N.fnd f x.ks (n - first)).2 + first else 0
def N.FdEnd (f : N.K → Int) (first : Int) (x : N.Nd) (n : Int) (w : World) (e : Ending) (w' : World) : Prop := e = .returned (.tuple #[.int .i64 (N.fdI f first x n), .int .i64 (N.fdR f first x n), .int .i64 (N.fdE f first x n)]) ∧ Below w.heap.size w w'
theorem N.FdEnd.bad {f : N.K → Int} {first : Int} {x : N.Nd} {n : Int} {w w' : World} {c : Int} (h : N.fdE f first x n = c) (h0 : c ≠ 0) (hb : Below w.heap.size w w') : N.FdEnd f first x n w (.returned (.tuple #[.int .i64 0, .int .i64 0, .int .i64 c])) w' := by
  refine ⟨?_, hb⟩
  rw [N.fdI, N.fdR, h, if_neg h0, if_neg h0]
/-- What holds at the head of a round of find's loop. -/
structure N.Fr (f : N.K → Int) (l : List N.K) (n : Int) (k : Nat) (r : Int) : Prop where
  e : N.fnd f l n = ((N.fnd f (l.drop k) r).1 + k, (N.fnd f (l.drop k) r).2)
  r0 : 0 ≤ r
  lt : r < N.sum f (l.drop k)
theorem N.Fr.in_ {f : N.K → Int} {l : List N.K} {n r : Int} {k : Nat} (h : N.Fr f l n k r) : k < l.length := by
  refine Nat.lt_of_not_le fun c => ?_
  have h2 := h.lt
  have := h.r0
  rw [List.drop_eq_nil_of_le c] at h2
  simp [N.sum] at h2; omega
theorem N.Fr.next {f : N.K → Int} {l : List N.K} {n r : Int} {k : Nat} {p : N.K} (h : N.Fr f l n k r) (hd : l.drop k = p :: l.drop (k + 1)) (hp : ¬ r < f p) : N.Fr f l n (k + 1) (r - f p) := by
  have e := h.e
  have lt := h.lt
  rw [hd, N.fnd, if_neg hp] at e
  rw [hd, N.sum_cons] at lt
  exact ⟨by rw [e]; simp only [Prod.mk.injEq, and_true]; omega, by omega, by omega⟩
theorem N.Fr.last {f : N.K → Int} {l : List N.K} {n r : Int} {k : Nat} {p : N.K} (h : N.Fr f l n k r) (hd : l.drop k = p :: l.drop (k + 1)) (hp : r < f p) : N.fnd f l n = (k, r) := by
  have e := h.e
  rw [hd, N.fnd, if_pos hp] at e
  rw [e]; simp
theorem N.inP_of {h : Int} {t : ByteArray} {l : List N.K} (hc : N.chk (N.nd h t l) = 0) (h0 : ¬ h = 0) : N.inP h t l ∧ N.sum N.K.b l ≤ 65536 := by
  obtain ⟨h1, h2⟩ := (N.chk_iff _).1 hc
  exact ⟨((N.formed_iff h t l).1 h1).resolve_left fun x => h0 x.1, h2⟩
/-- The three calls, by the component and the first number. -/
def N.fdC (f : N.K → Int) (first : Int) (h : Int) (t : ByteArray) (l : List N.K) (n : Int) (w : World) : Ending → World → Prop := N.FdEnd f first (N.nd h t l) n w
end Go.Proofs.Ytniccjbcchdkoaa
