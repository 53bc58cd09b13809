/- The contracts of diff's tooLong, longest and Common, and of the reference's Common. -/
import Derived.Deep.QuietTactic
import Derived.BigQuiet
import Derived.Test.YtdilkoogjkabfaaDoorRunesLeaf
import Derived.Test.YtdilkoogjkabfaaDoorPackDMath
import Derived.Test.YtdilkoogjkabfaaDoorDeltaRef1
import Derived.IntWalk
import Derived.Shelf.Abstract
namespace Go.Proofs.YtdilkoogjkabfaaDoor
open Go.RowKit

theorem F.ret_bool {a b : Bool} (h : a = b) : Ending.returned (.bool a) = .returned (.bool b) := by rw [h]
/-- Is one of two strings too long? -/
def F.tooB (a b : ByteArray) : Bool := decide (1048576 < a.size) || decide (1048576 < b.size)
set_option maxHeartbeats 1000000 in
theorem tooLong_any (a b : ByteArray) (w : World) (ha : a.size ≤ 140737488351232) (hb : b.size ≤ 140737488351232) :
    Calls Tryd.prog 7 #[.string a, .string b] w fun e w' => e = .returned (.bool (F.tooB a b)) ∧ w = w' := by
  have R : Hid (F.tooB a b = decide ((1048576 : Int) < max (a.size : Int) (b.size : Int))) := by
    show _ = _
    unfold F.tooB
    rw [Bool.eq_iff_iff]; simp only [Bool.or_eq_true, decide_eq_true_eq]; omega
  go_enter Tryd.func7, Tryd.ntmps7
  go_wp2
  all_goals (go_ret; exact ⟨F.ret_bool (by rw [R.out, decide_eq_decide]; omega), rfl⟩)

/-! ### The function values of Common -/
theorem F.at_str (s : ByteArray) (k : Nat) (h : k < s.size) (w : World) : (Instr.index 9 (.string s) (.int .i64 (k : Int))).run Tryd.prog w = .ok (.int .u8 ((s.data.toList.getD k 0).toNat : Nat)) w := by
  rw [run_index_string w 9 s .i64 (k : Int) Tryd.underlying9, dif_pos ⟨by omega, by omega⟩, U.at_lt s k h]
  rfl
/-- Are two bytes the same? -/
def F.sB (a b : ByteArray) (j k : Nat) : Bool := (((a.data.toList.getD j 0).toNat : Nat) : Int) == (((b.data.toList.getD k 0).toNat : Nat) : Int)
theorem F.sB_iff {a b : ByteArray} {j k : Nat} (hj : j < a.size) (hk : k < b.size) : F.sB a b j k = true ↔ a.data.toList[j]? = b.data.toList[k]? := by
  unfold F.sB
  rw [beq_iff_eq, List.getD_eq_getElem?_getD, List.getD_eq_getElem?_getD, List.getElem?_eq_getElem (by rw [U.len]; exact hj), List.getElem?_eq_getElem (by rw [U.len]; exact hk)]
  simp only [Option.getD_some, Option.some.injEq]
  constructor
  · intro h; exact UInt8.toNat_inj.1 (by omega)
  · intro h; rw [h]
set_option maxHeartbeats 1000000 in
theorem common1_any (a b : ByteArray) (p q : Addr) (n k : Nat) (w : World) (hn : k + 1 = n) (ha : k < a.size) (hb : k < b.size) (za : a.size ≤ 140737488351232) (cp : w.cell? p = some (.string a)) (cq : w.cell? q = some (.string b)) :
    Calls Tryd.prog 16 #[.int .i64 n, .pointer (some p), .pointer (some q)] w fun e w' => e = .returned (.bool (F.sB a b k k)) ∧ Below w.heap.size w w' := by
  have e1 : ((n : Nat) : Int) - 1 = (k : Int) := by omega
  have h1 := F.at_str a k ha
  have h2 := F.at_str b k hb
  have R : Hid (F.sB a b k k = ((((a.data.toList.getD k 0).toNat : Nat) : Int) == (((b.data.toList.getD k 0).toNat : Nat) : Int))) := rfl
  generalize (a.data.toList.getD k 0).toNat = x at h1 R
  generalize (b.data.toList.getD k 0).toNat = y at h2 R
  have hn1 : 1 ≤ n := by omega
  have hn2 : n ≤ 140737488351232 := by omega
  clear hn
  go_enter Tryd.func16, Tryd.ntmps16
  go_wp2
  go_quiet (fail)
  go_wp2
  go_ret
  exact ⟨F.ret_bool (by rw [R.out]), below_drewN (Below.refl _ _) _⟩
set_option maxHeartbeats 1000000 in
theorem common3_any (a b : ByteArray) (p q : Addr) (n j k : Nat) (w : World) (hj : j + n = a.size) (hk : k + n = b.size) (hn : 1 ≤ n) (za : a.size ≤ 140737488351232) (zb : b.size ≤ 140737488351232) (cp : w.cell? p = some (.string a)) (cq : w.cell? q = some (.string b)) :
    Calls Tryd.prog 19 #[.int .i64 n, .pointer (some p), .pointer (some q)] w fun e w' => e = .returned (.bool (F.sB a b j k)) ∧ Below w.heap.size w w' := by
  have e1 : ((a.size : Nat) : Int) - (n : Int) = (j : Int) := by omega
  have e2 : ((b.size : Nat) : Int) - (n : Int) = (k : Int) := by omega
  have h1 := F.at_str a j (by omega)
  have h2 := F.at_str b k (by omega)
  have R : Hid (F.sB a b j k = ((((a.data.toList.getD j 0).toNat : Nat) : Int) == (((b.data.toList.getD k 0).toNat : Nat) : Int))) := rfl
  generalize (a.data.toList.getD j 0).toNat = x at h1 R
  generalize (b.data.toList.getD k 0).toNat = y at h2 R
  have hn2 : n ≤ 140737488351232 := by omega
  clear hj hk
  go_enter Tryd.func19, Tryd.ntmps19
  go_wp2
  go_quiet (fail)
  go_wp2
  go_ret
  exact ⟨F.ret_bool (by rw [R.out]), below_drewN (Below.refl _ _) _⟩
set_option maxHeartbeats 1000000 in
theorem common2_any (a b : ByteArray) (p q : Addr) (n : Nat) (w : World) (cp : w.cell? p = some (.string a)) (cq : w.cell? q = some (.string b)) :
    Calls Tryd.prog 17 #[.int .i64 n, .pointer (some p), .pointer (some q)] w fun e w' => e = .returned (.bool (U.bndN a.data.toList n && U.bndN b.data.toList n)) ∧ Below w.heap.size w w' := by
  have h1 := boundary_any a n w
  have h2 := boundary_any b n w
  rw [U.bnd_natCast] at h1 h2
  generalize U.bndN a.data.toList n = x at h1 ⊢
  generalize U.bndN b.data.toList n = y at h2 ⊢
  cases x with
  | true =>
    go_enter Tryd.func17, Tryd.ntmps17
    go_wp2_with (go_at_call 18; first | (with_reducible refine h1.mono ?_; rintro e w' ⟨rfl, rfl⟩) | (with_reducible refine h2.mono ?_; rintro e w' ⟨rfl, rfl⟩))
    go_ret
    exact ⟨rfl, Below.refl _ _⟩
  | false =>
    go_enter Tryd.func17, Tryd.ntmps17
    go_wp2_with (go_at_call 18; with_reducible refine h1.mono ?_; rintro e w' ⟨rfl, rfl⟩)
    go_ret
    exact ⟨rfl, Below.refl _ _⟩
set_option maxHeartbeats 1000000 in
theorem common4_any (a b : ByteArray) (p q : Addr) (n j k : Nat) (w : World) (hj : j + n = a.size) (hk : k + n = b.size) (za : a.size ≤ 140737488351232) (zb : b.size ≤ 140737488351232) (cp : w.cell? p = some (.string a)) (cq : w.cell? q = some (.string b)) :
    Calls Tryd.prog 20 #[.int .i64 n, .pointer (some p), .pointer (some q)] w fun e w' => e = .returned (.bool (U.bndN a.data.toList j && U.bndN b.data.toList k)) ∧ Below w.heap.size w w' := by
  have e1 : ((a.size : Nat) : Int) - (n : Int) = (j : Int) := by omega
  have e2 : ((b.size : Nat) : Int) - (n : Int) = (k : Int) := by omega
  have hn2 : n ≤ 140737488351232 := by omega
  have h1 := boundary_any a j w
  have h2 := boundary_any b k w
  rw [U.bnd_natCast] at h1 h2
  generalize U.bndN a.data.toList j = x at h1 ⊢
  generalize U.bndN b.data.toList k = y at h2 ⊢
  clear hj hk
  cases x with
  | true =>
    go_enter Tryd.func20, Tryd.ntmps20
    go_wp2_with (go_at_call 18; first | (with_reducible refine h1.mono ?_; rintro e w' ⟨rfl, rfl⟩) | (with_reducible refine h2.mono ?_; rintro e w' ⟨rfl, rfl⟩))
    go_ret
    exact ⟨rfl, Below.refl _ _⟩
  | false =>
    go_enter Tryd.func20, Tryd.ntmps20
    go_wp2_with (go_at_call 18; with_reducible refine h1.mono ?_; rintro e w' ⟨rfl, rfl⟩)
    go_ret
    exact ⟨rfl, Below.refl _ _⟩
/-! ### longest -/
def F.Enters (gf : Nat) : Prop := ∀ args w, (callFunc gf args).run Tryd.prog w = .ok (.enter gf args) w
/-- What longest answers. -/
def F.LgEnd (S C : Nat → Bool) (most : Nat) (w : World) (e : Ending) (w' : World) : Prop :=
  ∃ k : Nat, e = .returned (.int .i64 ((F.gr C k : Nat) : Int)) ∧ k ≤ most ∧ (∀ j, 0 < j → j ≤ k → S j = true) ∧ (k = most ∨ S (k + 1) = false) ∧ Below w.heap.size w w'
set_option maxHeartbeats 2000000 in
theorem longest_any (most : Nat) (gs gc : Nat) (ls lc : Array Value) (S C : Nat → Bool) (w : World) (hm : most ≤ 140737488351232) (es : F.Enters gs) (ec : F.Enters gc)
    (hs : ∀ n W, 1 ≤ n → n ≤ most → Below w.heap.size w W → Calls Tryd.prog gs (#[.int .i64 (n : Int)] ++ ls) W fun e w' => e = .returned (.bool (S n)) ∧ Below W.heap.size W w')
    (hc : ∀ n W, 1 ≤ n → n ≤ most → Below w.heap.size w W → Calls Tryd.prog gc (#[.int .i64 (n : Int)] ++ lc) W fun e w' => e = .returned (.bool (C n)) ∧ Below W.heap.size W w') :
    Calls Tryd.prog 15 #[.int .i64 most, .func (.func gs) #[] ls, .func (.func gc) #[] lc] w (F.LgEnd S C most w) := by
  have HS := Lib.hid hs
  have HC := Lib.hid hc
  clear hs hc
  unfold F.Enters at es ec
  go_enter Tryd.func15, Tryd.ntmps15
  go_wp2
  go_loopw [7, 8] (fun g i wr => ∃ k n : Nat, k ≤ most ∧ Hid (n = k + 1) ∧ i = .int .i64 n ∧ g = .int .i64 ((F.gr C k : Nat) : Int) ∧ Hid (∀ j, 0 < j → j ≤ k → S j = true) ∧ Hid (Below w.heap.size w wr)) (fun _ i _ => most + 1 - (intOf i).toNat)
  case atStart => exact ⟨0, 1, Nat.zero_le _, rfl, rfl, rfl, fun j h1 h2 => by omega, Below.refl _ _⟩
  case round =>
    obtain ⟨k, n, hk, hn, rfl, rfl, ha, hb⟩ := hrel
    have gl := F.gr_le C k
    have gs' : Hid (F.gr C (k + 1) = if C n = true then n else F.gr C k) := by show _ = _; rw [F.gr_succ, hn.out]
    obtain ⟨g, hg⟩ : ∃ g, F.gr C k = g := ⟨_, rfl⟩
    rw [hg] at gl gs' ⊢
    have Hg := Lib.hid hg
    clear hg
    have hn1 : n = k + 1 := hn.out
    by_cases hlt : n ≤ most
    · have H1 := Lib.hid (HS.out n wr (by omega) hlt hb.out)
      have n1 : 1 ≤ n := by omega
      cases h : S n with
      | true =>
        rw [h] at H1
        have h2 : Hid (∀ j, 0 < j → j ≤ k + 1 → S j = true) := fun j j1 j2 => by
          by_cases e : j = n
          · rw [e]; exact h
          · exact ha.out j j1 (by omega)
        clear h ha hn1
        go_wp2_with fail
        refine H1.out.mono ?_
        rintro e w1 ⟨rfl, hb1⟩
        have HB1 := Lib.hid (hb.out.trans (hb1.mono hb.out.size))
        have H2 := Lib.hid (HC.out n w1 n1 hlt HB1.out)
        clear hb hb1 H1
        cases h : C n with
        | true =>
          rw [h] at H2 gs'
          clear h
          go_wp2_with fail
          refine H2.out.mono ?_
          rintro e w2 ⟨rfl, hb2⟩
          have HB2 := Lib.hid (HB1.out.trans (hb2.mono HB1.out.size))
          clear hb2 HB1 H2
          go_wp2
          go_roundw
          case rel => exact ⟨k + 1, n + 1, by have := hn.out; omega, by show _ = _; rw [hn.out], by go_num, by rw [gs'.out]; rfl, h2, HB2⟩
          case measure => simp [intOf]; omega
        | false =>
          rw [h] at H2 gs'
          clear h
          go_wp2_with fail
          refine H2.out.mono ?_
          rintro e w2 ⟨rfl, hb2⟩
          have HB2 := Lib.hid (HB1.out.trans (hb2.mono HB1.out.size))
          clear hb2 HB1 H2
          go_wp2
          go_roundw
          case rel => exact ⟨k + 1, n + 1, by have := hn.out; omega, by show _ = _; rw [hn.out], by go_num, by rw [gs'.out]; rfl, h2, HB2⟩
          case measure => simp [intOf]; omega
      | false =>
        rw [h] at H1
        have R : Hid (∀ w', Below w.heap.size w w' → F.LgEnd S C most w (.returned (.int .i64 (g : Int))) w') := fun w' hb' => ⟨k, by rw [Hg.out], by omega, ha.out, .inr (by rw [← hn.out]; exact h), hb'⟩
        clear h ha hn1
        go_wp2_with fail
        refine H1.out.mono ?_
        rintro e w1 ⟨rfl, hb1⟩
        have HB1 := Lib.hid (hb.out.trans (hb1.mono hb.out.size))
        clear hb hb1 H1
        go_wp2
        go_ret
        exact R.out _ HB1.out
    · have R : F.LgEnd S C most w (.returned (.int .i64 (g : Int))) wr := ⟨k, by rw [Hg.out], hk, ha.out, .inl (by omega), hb.out⟩
      have R := Lib.hid R
      clear ha hb hn1 gs'
      go_wp2
      go_ret
      exact R.out
/-! ### Common -/
theorem F.lg_is {a b : List UInt8} {S : Nat → Bool} {m k : Nat} (hS : ∀ j, 0 < j → j ≤ m → (S j = true ↔ a[j - 1]? = b[j - 1]?)) (ma : m ≤ a.length) (mb : m ≤ b.length) (hm : m = a.length ∨ m = b.length)
    (h0 : k ≤ m) (h1 : ∀ j, 0 < j → j ≤ k → S j = true) (h2 : k = m ∨ S (k + 1) = false) : F.sm a b = k := by
  refine F.sm_eq a b k (by omega) (by omega) (fun i hi => ?_) ?_
  · have := (hS (i + 1) (by omega) (by omega)).1 (h1 (i + 1) (by omega) (by omega))
    simpa using this
  · by_cases e : k = m
    · omega
    · right; right
      rcases h2 with h2 | h2
      · exact absurd h2 e
      · intro c
        have := (hS (k + 1) (by omega) (by omega)).2 (by simpa using c)
        rw [this] at h2; exact absurd h2 (by decide)
theorem F.enters1 : F.Enters 16 := enters_of Tryd.func16 (by kernel_rfl) rfl
theorem F.enters2 : F.Enters 17 := enters_of Tryd.func17 (by kernel_rfl) rfl
theorem F.enters3 : F.Enters 19 := enters_of Tryd.func19 (by kernel_rfl) rfl
theorem F.enters4 : F.Enters 20 := enters_of Tryd.func20 (by kernel_rfl) rfl
theorem F.sm_ge : ∀ (x y : List UInt8) (k : Nat), k ≤ x.length → k ≤ y.length → (∀ i, i < k → x[i]? = y[i]?) → k ≤ F.sm x y
  | _, _, 0, _, _, _ => Nat.zero_le _
  | [], _, k + 1, h, _, _ => by simp at h
  | _ :: _, [], k + 1, _, h, _ => by simp at h
  | c :: x, d :: y, k + 1, h1, h2, h => by
    have e : c = d := by have := h 0 (by omega); simpa using this
    have ih := F.sm_ge x y k (by simpa using h1) (by simpa using h2) (fun i hi => by have := h (i + 1) (by omega); simpa using this)
    subst e
    unfold F.sm
    rw [if_pos rfl]; omega
theorem F.sme_is {a b : List UInt8} {S : Nat → Bool} {m k : Nat} (hm : m = min a.length b.length) (hS : ∀ j, 0 < j → j ≤ m → (S j = true ↔ a[a.length - j]? = b[b.length - j]?))
    (h0 : k ≤ m - F.pre a b) (h1 : ∀ j, 0 < j → j ≤ k → S j = true) (h2 : k = m - F.pre a b ∨ S (k + 1) = false) : F.sme a b = k := by
  have ht : ∀ i, i < k → a.reverse[i]? = b.reverse[i]? := fun i hi => by
    rw [F.rev_at a i (by omega), F.rev_at b i (by omega)]
    exact (hS (i + 1) (by omega) (by omega)).1 (h1 (i + 1) (by omega) (by omega))
  have hge := F.sm_ge a.reverse b.reverse k (by rw [List.length_reverse]; omega) (by rw [List.length_reverse]; omega) ht
  unfold F.sme
  rw [← hm]
  by_cases e : k = m - F.pre a b
  · omega
  · have h3 : S (k + 1) = false := by rcases h2 with h2 | h2; exact absurd h2 e; exact h2
    have : F.sm a.reverse b.reverse = k := F.sm_eq _ _ k (by rw [List.length_reverse]; omega) (by rw [List.length_reverse]; omega) ht (.inr (.inr (fun c => by
      rw [F.rev_at a k (by omega), F.rev_at b k (by omega)] at c
      rw [(hS (k + 1) (by omega) (by omega)).2 c] at h3
      exact absurd h3 (by decide))))
    omega
/-- What Common answers. -/
def F.ComEnd (a b : List UInt8) (w : World) (e : Ending) (w' : World) : Prop := e = .returned (.tuple #[.int .i64 (F.pre a b : Nat), .int .i64 (F.suf a b : Nat)]) ∧ Below w.heap.size w w'
theorem F.box2 (a b : ByteArray) (w W : World) (h : Below ((w.alloc (.cells #[.string a] 9)).alloc (.cells #[.string b] 9)).heap.size ((w.alloc (.cells #[.string a] 9)).alloc (.cells #[.string b] 9)) W) :
    W.cell? ⟨w.heap.size, 0, none⟩ = some (.string a) ∧ W.cell? ⟨w.heap.size + 1, 0, none⟩ = some (.string b) := by
  refine ⟨(h.cell (p := ⟨w.heap.size, 0, none⟩) (by simp; omega)).trans ?_, (h.cell (p := ⟨w.heap.size + 1, 0, none⟩) (by simp)).trans ?_⟩
  · exact (((Below.refl _ (w.alloc (.cells #[.string a] 9))).alloc (Nat.le_refl _) (.cells #[.string b] 9)).cell (p := ⟨w.heap.size, 0, none⟩) (by simp)).trans (cell_one_new w (.string a) 9 0 _ rfl)
  · have := cell_one_new (w.alloc (.cells #[.string a] 9)) (.string b) 9 0 _ rfl
    rwa [World.size_alloc] at this
set_option maxHeartbeats 2000000 in
theorem common_any (a b : ByteArray) (w : World) (za : a.size ≤ 140737488351232) (zb : b.size ≤ 140737488351232) :
    Calls Tryd.prog 8 #[.string a, .string b] w (F.ComEnd a.data.toList b.data.toList w) := by
  have key : ∀ m : Nat, m = min a.size b.size → Hid (∀ W, W = (w.alloc (.cells #[.string a] 9)).alloc (.cells #[.string b] 9) → Calls Tryd.prog 15 #[.int .i64 m, .func (.func 16) #[] #[.pointer (some ⟨w.heap.size, 0, none⟩), .pointer (some ⟨w.heap.size + 1, 0, none⟩)], .func (.func 17) #[] #[.pointer (some ⟨w.heap.size, 0, none⟩), .pointer (some ⟨w.heap.size + 1, 0, none⟩)]] W
      fun e w' => e = .returned (.int .i64 (F.pre a.data.toList b.data.toList : Nat)) ∧ Below W.heap.size W w') := fun m hm W hW => by
    subst hW
    refine (longest_any m _ _ _ _ (fun n => F.sB a b (n - 1) (n - 1)) (fun n => U.bndN a.data.toList n && U.bndN b.data.toList n) _ (by omega) F.enters1 F.enters2
      (fun n W h1 h2 hb => by obtain ⟨c1, c2⟩ := F.box2 a b w W hb; exact common1_any a b _ _ n (n - 1) W (by omega) (by omega) (by omega) za c1 c2)
      (fun n W h1 h2 hb => by obtain ⟨c1, c2⟩ := F.box2 a b w W hb; exact common2_any a b _ _ n W c1 c2)).mono ?_
    rintro e w' ⟨k, rfl, hk, h1, h2, hb⟩
    have := F.lg_is (a := a.data.toList) (b := b.data.toList) (m := m) (fun j j1 j2 => F.sB_iff (by omega) (by omega)) (by rw [U.len]; omega) (by rw [U.len]; omega) (by rw [U.len, U.len]; omega) hk h1 h2
    exact ⟨by unfold F.pre; rw [this]; rfl, hb⟩
  have key2 : ∀ m r : Nat, m = min a.size b.size → r = m - F.pre a.data.toList b.data.toList → Hid (∀ V, Below ((w.alloc (.cells #[.string a] 9)).alloc (.cells #[.string b] 9)).heap.size ((w.alloc (.cells #[.string a] 9)).alloc (.cells #[.string b] 9)) V → Calls Tryd.prog 15 #[.int .i64 r, .func (.func 19) #[] #[.pointer (some ⟨w.heap.size, 0, none⟩), .pointer (some ⟨w.heap.size + 1, 0, none⟩)], .func (.func 20) #[] #[.pointer (some ⟨w.heap.size, 0, none⟩), .pointer (some ⟨w.heap.size + 1, 0, none⟩)]] V
      fun e w' => e = .returned (.int .i64 (F.suf a.data.toList b.data.toList : Nat)) ∧ Below V.heap.size V w') := fun m r hm hr V hV => by
    have rm : r ≤ m := by omega
    refine (longest_any r _ _ _ _ (fun n => F.sB a b (a.size - n) (b.size - n)) (fun n => U.bndN a.data.toList (a.size - n) && U.bndN b.data.toList (b.size - n)) _ (by omega) F.enters3 F.enters4
      (fun n W h1 h2 hb => by obtain ⟨c1, c2⟩ := F.box2 a b w W (hV.trans (hb.mono hV.size)); exact common3_any a b _ _ n (a.size - n) (b.size - n) W (by omega) (by omega) (by omega) za zb c1 c2)
      (fun n W h1 h2 hb => by obtain ⟨c1, c2⟩ := F.box2 a b w W (hV.trans (hb.mono hV.size)); exact common4_any a b _ _ n (a.size - n) (b.size - n) W (by omega) (by omega) za zb c1 c2)).mono ?_
    rintro e w' ⟨k, rfl, hk, h1, h2, hb⟩
    have := F.sme_is (a := a.data.toList) (b := b.data.toList) (S := fun n => F.sB a b (a.size - n) (b.size - n)) (m := m) (k := k) (by rw [U.len, U.len]; exact hm) (fun j j1 j2 => by rw [U.len, U.len]; exact F.sB_iff (by omega) (by omega)) (by omega) h1 (by rw [← hr]; exact h2)
    refine ⟨?_, hb⟩
    have e2 : F.be a.data.toList b.data.toList = fun n => U.bndN a.data.toList (a.size - n) && U.bndN b.data.toList (b.size - n) := by funext n; unfold F.be; rw [U.len, U.len]
    unfold F.suf
    rw [this, e2]
  have ple := F.pre_le a.data.toList b.data.toList
  rw [U.len, U.len] at ple
  unfold F.ComEnd
  obtain ⟨m, hm⟩ : ∃ m, m = min a.size b.size := ⟨_, rfl⟩
  obtain ⟨r, hr⟩ : ∃ r, r = m - F.pre a.data.toList b.data.toList := ⟨_, rfl⟩
  have K1 := key m hm
  have K2 := key2 m r hm hr
  clear key key2
  generalize F.pre a.data.toList b.data.toList = p at *
  generalize F.suf a.data.toList b.data.toList = q at *
  have hr2 : ((m : Nat) : Int) - (p : Int) = (r : Int) := by omega
  have hp0 : p ≤ m := by omega
  clear hr ple
  rcases Nat.lt_or_ge b.size a.size with c | c
  · obtain rfl : m = b.size := by omega
    clear hm
    go_enter Tryd.func8, Tryd.ntmps8
    go_wp2_with fail
    refine (K1.out _ rfl).mono ?_
    rintro e w1 ⟨rfl, hb1⟩
    have HB := Lib.hid hb1
    clear hb1 K1
    go_wp2_with fail
    refine (K2.out _ HB.out).mono ?_
    rintro e w2 ⟨rfl, hb2⟩
    have HB2 := Lib.hid (HB.out.trans (hb2.mono HB.out.size))
    clear hb2 HB K2
    go_wp2
    go_ret2
    exact ⟨rfl, (((Below.refl _ w).alloc (Nat.le_refl _) _).alloc (by simp) _).trans (HB2.out.mono (by simp; omega))⟩
  · have c2 : ¬ b.size < a.size := by omega
    obtain rfl : m = a.size := by omega
    clear hm
    go_enter Tryd.func8, Tryd.ntmps8
    go_wp2_with fail
    refine (K1.out _ rfl).mono ?_
    rintro e w1 ⟨rfl, hb1⟩
    have HB := Lib.hid hb1
    clear hb1 K1
    go_wp2_with fail
    refine (K2.out _ HB.out).mono ?_
    rintro e w2 ⟨rfl, hb2⟩
    have HB2 := Lib.hid (HB.out.trans (hb2.mono HB.out.size))
    clear hb2 HB K2
    go_wp2
    go_ret2
    exact ⟨rfl, (((Below.refl _ w).alloc (Nat.le_refl _) _).alloc (by simp) _).trans (HB2.out.mono (by simp; omega))⟩
end Go.Proofs.YtdilkoogjkabfaaDoor
