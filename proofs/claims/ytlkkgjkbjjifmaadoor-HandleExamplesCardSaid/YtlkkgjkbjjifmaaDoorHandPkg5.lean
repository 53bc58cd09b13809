/- The contract of the function literal that package handle's Sort hands to the library; copies of rows of handles; Compact of at most one. -/
import Derived.Test.YtlkkgjkbjjifmaaDoorHandPkg1
import Derived.Test.YtlkkgjkbjjifmaaDoorHandOwnE
namespace Go.Proofs.YtlkkgjkbjjifmaaDoor
open Go.RowKit

theorem isNaN10_any (x : Int) (w : World) : Calls Tryd.prog 55 #[.int .u64 x] w fun e w' => e = .returned (.bool false) ∧ w = w' := by
  go_enter Tryd.func55, Tryd.ntmps55
  go_wp2
  go_ret
  exact ⟨by simp, rfl⟩
def H.cmpI (x y : Int) : Int := if x < y then -1 else if y < x then 1 else 0
theorem compare10_any (x y : Int) (w : World) : Calls Tryd.prog 44 #[.int .u64 x, .int .u64 y] w fun e w' => e = .returned (.int .i64 (H.cmpI x y)) ∧ w = w' := by
  by_cases h1 : x < y
  · have e : Hid (H.cmpI x y = -1) := if_pos h1
    go_enter Tryd.func44, Tryd.ntmps44
    go_wp2_with (go_at_call 55; refine (isNaN10_any _ _).mono ?_; rintro e w' ⟨rfl, rfl⟩)
    go_ret
    exact ⟨by rw [e.out]; rfl, rfl⟩
  · by_cases h2 : y < x
    · have e : Hid (H.cmpI x y = 1) := by show _ = _; unfold H.cmpI; rw [if_neg h1, if_pos h2]
      go_enter Tryd.func44, Tryd.ntmps44
      go_wp2_with (go_at_call 55; refine (isNaN10_any _ _).mono ?_; rintro e w' ⟨rfl, rfl⟩)
      go_ret
      exact ⟨by rw [e.out]; rfl, rfl⟩
    · have e : Hid (H.cmpI x y = 0) := by show _ = _; unfold H.cmpI; rw [if_neg h1, if_neg h2]
      go_enter Tryd.func44, Tryd.ntmps44
      go_wp2_with (go_at_call 55; refine (isNaN10_any _ _).mono ?_; rintro e w' ⟨rfl, rfl⟩)
      go_ret
      exact ⟨by rw [e.out]; rfl, rfl⟩
def H.orI (p q : Int) : Int := if p = 0 then q else p
set_option maxRecDepth 100000 in
set_option maxHeartbeats 1000000 in
theorem or10_any (p q : Int) (b : Nat) (w : World) (hp : w.cell? ⟨b, 0, none⟩ = some (.int .i64 p)) (hq : w.cell? ⟨b, 1, none⟩ = some (.int .i64 q)) : Calls Tryd.prog 43 #[.slice (some ⟨b, 0, none⟩) 2 2] w fun e w' => e = .returned (.int .i64 (H.orI p q)) ∧ w = w' := by
  have Hp := Lib.hid hp
  have Hq := Lib.hid hq
  clear hp hq
  go_enter Tryd.func43, Tryd.ntmps43
  go_wp2
  go_loopw [8] (fun i wr => ∃ k : Nat, i = .int .i64 k ∧ k ≤ 2 ∧ Hid (1 ≤ k → p = 0) ∧ Hid (2 ≤ k → q = 0) ∧ wr = w) (fun i _ => 2 - (intOf i).toNat)
  case atStart => exact ⟨0, rfl, by omega, (fun h => by omega), (fun h => by omega), rfl⟩
  case round =>
    obtain ⟨k, rfl, hk, z1, z2, hw⟩ := hrel
    subst hw
    have hk3 : k = 0 ∨ k = 1 ∨ k = 2 := by omega
    rcases hk3 with rfl | rfl | rfl
    · have c0 := Hp.out
      by_cases h : p = 0
      · have Z : Hid (p = 0) := h
        have q1 : (p != 0) = false := by simpa using h
        clear h
        go_wp2
        go_roundw
        case rel => exact ⟨1, by rfl, by omega, (fun _ => Z.out), (fun h => by omega), by first | trivial | rfl⟩
        case measure => simp [intOf]
      · have q1 : (p != 0) = true := by simpa using h
        have R : Hid (H.orI p q = p) := if_neg h
        go_wp2
        go_ret
        exact ⟨by rw [R.out]; rfl, rfl⟩
    · have c0 := Hq.out
      have Z := Lib.hid (z1.out (by omega))
      by_cases h : q = 0
      · have Y : Hid (q = 0) := h
        have q1 : (q != 0) = false := by simpa using h
        clear h
        go_wp2
        go_roundw
        case rel => exact ⟨2, by rfl, by omega, (fun _ => Z.out), (fun _ => Y.out), by first | trivial | rfl⟩
        case measure => simp [intOf]
      · have q1 : (q != 0) = true := by simpa using h
        have R : Hid (H.orI p q = q) := if_pos Z.out
        clear Z
        go_wp2
        go_ret
        exact ⟨by rw [R.out]; rfl, rfl⟩
    · have R : Hid (H.orI p q = 0) := by show _ = _; unfold H.orI; rw [if_pos (z1.out (by omega)), z2.out (by omega)]
      go_wp2
      go_ret
      exact ⟨by rw [R.out]; rfl, rfl⟩
theorem H.or_cmp (a b : Nat) : H.orI (H.cmpI (H.slot a : Nat) (H.slot b : Nat)) (H.cmpI (a : Int) (b : Int)) = H.cmpN a b := by
  unfold H.orI H.cmpI H.cmpN
  repeat' split
  all_goals first | rfl | omega
set_option maxRecDepth 100000 in
set_option maxHeartbeats 1000000 in
theorem sortFn10_any (a b : Nat) (ha : a ≤ 18446744073709551615) (hb : b ≤ 18446744073709551615) (w : World) : Calls Tryd.prog 42 #[.int .u64 (a : Int), .int .u64 (b : Int)] w fun e w' => e = .returned (.int .i64 (H.cmpN a b)) ∧ ∃ q os', w' = Go.Sort.grow (w.drewN q) os' := by
  have m1 := H.mask a ha
  have m2 := H.mask b hb
  have R : Hid (∀ p q, p = H.cmpI (H.slot a : Nat) (H.slot b : Nat) → q = H.cmpI (a : Int) (b : Int) → H.orI p q = H.cmpN a b) := fun p q h1 h2 => by rw [h1, h2]; exact H.or_cmp a b
  obtain ⟨ai, hai⟩ : ∃ ai : Int, (a : Int) = ai := ⟨_, rfl⟩
  obtain ⟨bi, hbi⟩ : ∃ bi : Int, (b : Int) = bi := ⟨_, rfl⟩
  rw [hai] at m1 R ⊢
  rw [hbi] at m2 R ⊢
  clear hai hbi ha hb
  have C1 : Hid (∀ W, Calls Tryd.prog 44 #[.int .u64 (H.slot a : Nat), .int .u64 (H.slot b : Nat)] W fun e w' => e = .returned (.int .i64 (H.cmpI (H.slot a : Nat) (H.slot b : Nat))) ∧ W = w') := fun W => compare10_any _ _ W
  have C2 : Hid (∀ W, Calls Tryd.prog 44 #[.int .u64 ai, .int .u64 bi] W fun e w' => e = .returned (.int .i64 (H.cmpI ai bi)) ∧ W = w') := fun W => compare10_any _ _ W
  have R := Lib.hid (R.out _ _ rfl rfl)
  generalize H.slot a = sa at *
  generalize H.slot b = sb at *
  generalize H.cmpI ai bi = q at *
  generalize H.cmpI (sa : Int) (sb : Int) = p at *
  generalize H.cmpN a b = r at *
  go_enter Tryd.func42, Tryd.ntmps42
  go_wp2_with fail
  refine (C1.out _).mono ?_
  rintro e w1 ⟨rfl, rfl⟩
  go_wp2_with fail
  refine (C2.out _).mono ?_
  rintro e w1 ⟨rfl, rfl⟩
  go_wp2_with fail
  have O := Lib.hid (or10_any p q w.heap.size (w.alloc (.cells #[.int .i64 p, .int .i64 q] 3)) (World.cell?_alloc_new _ _ _ _) (World.cell?_alloc_new _ _ _ _))
  refine O.out.mono ?_
  rintro e w1 ⟨rfl, rfl⟩
  have F : Hid (∃ q' os', w.alloc (.cells #[.int .i64 p, .int .i64 q] 3) = Go.Sort.grow (w.drewN q') os') := ⟨0, _, by rw [Go.Sort.alloc_eq_grow]; rfl⟩
  clear O
  generalize w.alloc (.cells #[.int .i64 p, .int .i64 q] 3) = W1 at *
  rw [R.out]
  go_wp2
  go_ret
  exact ⟨rfl, F.out⟩
/-! ### Clone, and Compact of at most one -/
def H.OwnEnd (l : List Nat) (w : World) (e : Ending) (w' : World) : Prop := ∃ v, e = .returned v ∧ H.Made l w v w'
set_option maxRecDepth 100000 in
theorem clone10_any (ao : Option Addr) (ca : Nat) (l : List Nat) (w : World) (hr : V.Row w ao (H.row l)) (hc : ao = none → ca = 0) (hn : l.length ≤ 1000000) :
    Calls Tryd.prog 40 #[.slice ao l.length ca] w (H.OwnEnd l w) := by
  have hr1 := Lib.hid (hr.below ((Below.refl w.heap.size w).alloc (Nat.le_refl _) (.cells #[] 23)))
  have ho : Hid (H.Made [] w (.slice (some ⟨w.heap.size, 0, none⟩) 0 0) (w.alloc (.cells #[] 23))) := ⟨World.ownsRow_made (w := w) (base := w.heap.size) (e := 23) (size := 1) #[] 0 (Nat.le_refl _) (Nat.zero_le _) rfl, (Below.refl w.heap.size w).alloc (Nat.le_refl _) (.cells #[] 23)⟩
  have q22 : ∀ (w : World) (a : Option Addr) (n c n' c' : Nat), (binOp .eql 44 (.slice a n c) (.slice none n' c')).run Tryd.prog w = .ok (.bool a.isNone) w := fun w a n c n' c' => Lib.run_eql_slice_nil w 44 23 a n c n' c' Tryd.underlying44
  cases ao with
  | none =>
    have hl : l = [] := by
      cases l with
      | nil => rfl
      | cons p r => obtain ⟨_, _, e, _⟩ := H.row_at hr (i := 0) (x := p) rfl; cases e
    obtain rfl := hc rfl
    subst hl
    clear hr hr1 ho hc hn
    go_enter Tryd.func40, Tryd.ntmps40
    go_wp2
    go_ret
    exact ⟨_, rfl, H.Made.nil _ (Below.refl _ _)⟩
  | some ad =>
    clear hr hc
    have R : Hid (∀ v w3, H.Made ([] ++ l) w v w3 → H.OwnEnd l w (.returned v) w3) := fun v w3 h => ⟨v, rfl, h⟩
    go_enter Tryd.func40, Tryd.ntmps40
    go_wp2_with (at_builtin; refine H.append_src (w0 := w) rfl _ _ rfl (.slice (some ⟨w.heap.size, 0, none⟩) 0 0) [] ?hs ho.out (some ad) ca l ?hx ?hc2 hr1.out ?q1 ?_)
    case hs => rfl
    case hx => rfl
    case hc2 => exact fun h => nomatch h
    case q1 => simp; omega
    intro v' w3 hm
    have R := Lib.hid (R.out v' w3 hm)
    clear hm
    go_wp2
    go_ret
    exact R.out
theorem compact10_short (p : Option Addr) (n c : Nat) (hn : n < 2) (w : World) : Calls Tryd.prog 45 #[.slice p n c] w fun e w' => e = .returned (.slice p n c) ∧ w = w' := by
  go_enter Tryd.func45, Tryd.ntmps45
  go_wp2
  go_ret
  exact ⟨rfl, rfl⟩
end Go.Proofs.YtlkkgjkbjjifmaaDoor
