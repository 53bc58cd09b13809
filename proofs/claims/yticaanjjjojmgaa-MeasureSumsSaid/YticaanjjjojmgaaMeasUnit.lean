/- Contracts of package measure's functions over a unit that is handed over as a function value: count, find, before; and of the exported ones on runes and lines. -/
import Derived.Test.YticaanjjjojmgaaMeasLeaf
import Derived.Shelf.Abstract
namespace Go.Proofs.Yticaanjjjojmgaa
open Go.RowKit Go.Shelf

/-- A function value that answers whether an offset has p, and does nothing else. -/
def M.Asks (gf : Nat) (s : ByteArray) (p : Nat → Bool) : Prop :=
  ∀ (k : Nat) (W : World), k ≤ s.size → Calls Try.prog gf #[.string s, .int .i64 (k : Int)] W fun e W' => e = .returned (.bool (p k)) ∧ W = W'
def M.Enters (gf : Nat) : Prop := ∀ args w, (callFunc gf args).run Try.prog w = .ok (.enter gf args) w
theorem M.asks_any (s : ByteArray) : M.Asks 27 s M.any_ := fun _ W _ => anywhere_any s _ W
theorem M.asks_bnd (s : ByteArray) : M.Asks 28 s (U.bndN s.data.toList) := fun k W _ => (boundary_any s k W).mono fun _ _ h => by rw [U.bnd_natCast] at h; exact h
theorem M.asks_lb (s : ByteArray) (hs : s.size < 4611686018427387904) : M.Asks 29 s (M.lb s.data.toList) := fun k W hk => lineBegins_any s k W hk hs
theorem M.enters_any : M.Enters 27 := enters_of Try.func27 (by kernel_rfl) rfl
theorem M.enters_bnd : M.Enters 28 := enters_of Try.func28 (by kernel_rfl) rfl
theorem M.enters_lb : M.Enters 29 := enters_of Try.func29 (by kernel_rfl) rfl

set_option maxHeartbeats 1000000 in
theorem count_any (gf : Nat) (s : ByteArray) (p : Nat → Bool) (w : World) (hs : s.size < 4611686018427387904) (heg : M.Enters gf) (hp : M.Asks gf s p) :
    Calls Try.prog 26 #[.string s, .func (.func gf) #[] #[]] w fun e w' => e = .returned (.int .i64 ((M.num p (s.size + 1) : Int) - 1)) ∧ w = w' := by
  have Hp := Lib.hid hp
  clear hp
  unfold M.Enters at heg
  go_enter Try.func26, Try.ntmps26
  go_wp2
  go_loop [5, 10] (fun n i => ∃ k : Nat, k ≤ s.size + 1 ∧ i = .int .i64 k ∧ n = .int .i64 ((M.num p k : Int) - 1)) (fun _ i => s.size + 1 - (intOf i).toNat)
  case atStart => exact ⟨0, Nat.zero_le _, rfl, rfl⟩
  case round =>
    obtain ⟨k, hk, rfl, rfl⟩ := hrel
    have hle := M.num_le p k
    by_cases hlt : k ≤ s.size
    · cases hb : p k with
      | true =>
        have hc := Hp.out k w hlt
        rw [hb] at hc
        have Hn := Lib.hid (M.num_t hb)
        clear hb
        go_wp2_with fail
        refine hc.mono ?_
        rintro e w' ⟨rfl, rfl⟩
        go_wp2
        go_round
        case rel => exact ⟨k + 1, by omega, by go_num, by rw [Hn.out]; go_num⟩
        case measure => simp [intOf]; omega
      | false =>
        have hc := Hp.out k w hlt
        rw [hb] at hc
        have Hn := Lib.hid (M.num_f hb)
        clear hb
        go_wp2_with fail
        refine hc.mono ?_
        rintro e w' ⟨rfl, rfl⟩
        go_wp2
        go_round
        case rel => exact ⟨k + 1, by omega, by go_num, by rw [Hn.out]⟩
        case measure => simp [intOf]; omega
    · obtain rfl : k = s.size + 1 := by omega
      go_wp2
      go_ret
      exact ⟨rfl, rfl⟩

/-- The error beside what find answers. -/
def M.errOf (o : Option Nat) : Int := if o.isSome then 0 else 3
theorem M.ret_nth {o : Option Nat} {a e : Int} (h : o = if e = 0 then some a.toNat else none) (h0 : 0 ≤ a) (h1 : e ≠ 0 → a = 0 ∧ e = 3) :
    Ending.returned (.tuple #[.int .i64 a, .int .i64 e]) = .returned (.tuple #[.int .i64 (o.getD 0 : Nat), .int .i64 (M.errOf o)]) := by
  by_cases he : e = 0
  · subst he
    rw [if_pos rfl] at h
    subst h
    obtain ⟨n, rfl⟩ := Int.eq_ofNat_of_zero_le h0
    rfl
  · obtain ⟨rfl, rfl⟩ := h1 he
    rw [if_neg he] at h
    subst h; rfl
/-- What find answers. -/
def M.found (o : Option Nat) : Ending := .returned (.tuple #[.int .i64 (o.getD 0 : Nat), .int .i64 (M.errOf o)])
set_option maxHeartbeats 1000000 in
theorem find_any (gf : Nat) (s : ByteArray) (n : Int) (p : Nat → Bool) (w : World) (hs : s.size < 4611686018427387904) (heg : M.Enters gf) (hp : M.Asks gf s p) :
    Calls Try.prog 37 #[.string s, .int .i64 n, .func (.func gf) #[] #[]] w fun e w' => e = M.found (M.nth p n (s.size + 1)) ∧ w = w' := by
  have Hp := Lib.hid hp
  clear hp
  unfold M.Enters at heg
  go_enter Try.func37, Try.ntmps37
  go_wp2
  go_loop [8, 13] (fun x i => ∃ k : Nat, k ≤ s.size + 1 ∧ i = .int .i64 k ∧ x = .int .i64 (M.num p k) ∧ Hid (M.nth p n k = none)) (fun _ i => s.size + 1 - (intOf i).toNat)
  case atStart => exact ⟨0, Nat.zero_le _, rfl, rfl, rfl⟩
  case round =>
    obtain ⟨k, hk, rfl, rfl, hno⟩ := hrel
    have hle := M.num_le p k
    by_cases hlt : k ≤ s.size
    · cases hb : p k with
      | true =>
        have hc := Hp.out k w hlt
        rw [hb] at hc
        have Hb := Lib.hid hb
        clear hb
        by_cases hn : (M.num p k : Int) = n
        · have hq : (((M.num p k : Nat) : Int) == n) = true := by simpa using hn
          have HR := Lib.hid (M.nth_eq (N := s.size + 1) (by omega) Hb.out hn)
          clear hn
          go_wp2_with fail
          refine hc.mono ?_
          rintro e w' ⟨rfl, rfl⟩
          go_wp2
          go_ret2
          exact ⟨M.ret_nth (by rw [HR.out]; rfl) (by omega) (by simp), rfl⟩
        · have hq : (((M.num p k : Nat) : Int) == n) = false := by simpa using hn
          have Hs := Lib.hid (M.nth_step hno.out (.inr hn))
          have Hn := Lib.hid (M.num_t Hb.out)
          clear hn
          go_wp2_with fail
          refine hc.mono ?_
          rintro e w' ⟨rfl, rfl⟩
          go_wp2
          go_round
          case rel => exact ⟨k + 1, by omega, by go_num, by rw [Hn.out]; go_num, Hs⟩
          case measure => simp [intOf]; omega
      | false =>
        have hc := Hp.out k w hlt
        rw [hb] at hc
        have Hs := Lib.hid (M.nth_step hno.out (.inl hb))
        have Hn := Lib.hid (M.num_f hb)
        clear hb
        go_wp2_with fail
        refine hc.mono ?_
        rintro e w' ⟨rfl, rfl⟩
        go_wp2
        go_round
        case rel => exact ⟨k + 1, by omega, by go_num, by rw [Hn.out], Hs⟩
        case measure => simp [intOf]; omega
    · obtain rfl : k = s.size + 1 := by omega
      go_wp2
      go_ret2
      exact ⟨M.ret_nth (by rw [hno.out]; rfl) (by omega) (by simp), rfl⟩
/-- What before answers, c being the number of units before the offset. -/
def M.told (s : ByteArray) (i : Int) (c : Nat → Nat) : Ending :=
  if 0 ≤ i ∧ i ≤ s.size then .returned (.tuple #[.int .i64 (c i.toNat : Nat), .int .i64 0]) else .returned (.tuple #[.int .i64 0, .int .i64 3])
theorem M.told_in {s : ByteArray} {k : Nat} (h : k ≤ s.size) (c : Nat → Nat) : M.told s (k : Int) c = .returned (.tuple #[.int .i64 (c k : Nat), .int .i64 0]) := by
  unfold M.told; rw [if_pos (by omega)]; rfl
theorem M.told_out {s : ByteArray} {i : Int} (h : ¬ (0 ≤ i ∧ i ≤ s.size)) (c : Nat → Nat) : M.told s i c = .returned (.tuple #[.int .i64 0, .int .i64 3]) := by
  unfold M.told; rw [if_neg h]
theorem M.size_take (s : ByteArray) (k : Nat) (h : k ≤ s.size) : (s.extract 0 k).size = k := by simp; omega
theorem M.data_take (s : ByteArray) (k : Nat) : (s.extract 0 k).data.toList = s.data.toList.take k := by
  simp
set_option maxHeartbeats 1000000 in
theorem before_any (gf : Nat) (s : ByteArray) (i : Int) (P : ByteArray → Nat → Bool) (c : Nat → Nat) (w : World) (hs : s.size < 4611686018427387904) (heg : M.Enters gf) (hp : ∀ t, t.size ≤ s.size → M.Asks gf t (P t))
    (hc : ∀ k, k ≤ s.size → M.num (P (s.extract 0 k)) (k + 1) = c k + 1) :
    Calls Try.prog 39 #[.string s, .int .i64 i, .func (.func gf) #[] #[]] w fun e w' => e = M.told s i c ∧ w = w' := by
  by_cases hi : 0 ≤ i ∧ i ≤ s.size
  · obtain ⟨k, rfl⟩ := Int.eq_ofNat_of_zero_le hi.1
    have hk : k ≤ s.size := by omega
    have hz := M.size_take s k hk
    have Hc := count_any gf (s.extract 0 k) _ w (by rw [hz]; omega) heg (hp _ (by rw [hz]; exact hk))
    rw [hz, hc k hk] at Hc
    have e1 : (((c k + 1 : Nat) : Int) - 1) = (c k : Int) := by omega
    rw [e1] at Hc
    rw [M.told_in hk]
    clear hz hc hp e1 heg hi
    go_enter Try.func39, Try.ntmps39
    go_wp2_with (go_at_call 26; refine Hc.mono ?_; rintro e w' ⟨rfl, rfl⟩)
    go_ret2
    exact ⟨rfl, rfl⟩
  · rw [M.told_out hi]
    clear hc hp heg
    rcases (show i < 0 ∨ (0 ≤ i ∧ (s.size : Int) < i) by omega) with h | ⟨h, h'⟩
    · go_enter Try.func39, Try.ntmps39
      go_wp2
      go_ret2
      exact ⟨rfl, rfl⟩
    · go_enter Try.func39, Try.ntmps39
      go_wp2
      go_ret2
      exact ⟨rfl, rfl⟩
theorem rune_any (s : ByteArray) (n : Int) (w : World) (hs : s.size < 4611686018427387904) :
    Calls Try.prog 18 #[.string s, .int .i64 n] w fun e w' => e = M.found (M.nth (U.bndN s.data.toList) n (s.size + 1)) ∧ w = w' := by
  have H := find_any 28 s n _ w hs M.enters_bnd (M.asks_bnd s)
  unfold M.found at *
  go_enter Try.func18, Try.ntmps18
  go_wp2_with (go_at_call 37; refine H.mono ?_; rintro e w' ⟨rfl, rfl⟩)
  go_ret2
  exact ⟨rfl, rfl⟩
theorem line_any (s : ByteArray) (n : Int) (w : World) (hs : s.size < 4611686018427387904) :
    Calls Try.prog 22 #[.string s, .int .i64 n] w fun e w' => e = M.found (M.nth (M.lb s.data.toList) n (s.size + 1)) ∧ w = w' := by
  have H := find_any 29 s n _ w hs M.enters_lb (M.asks_lb s hs)
  unfold M.found at *
  go_enter Try.func22, Try.ntmps22
  go_wp2_with (go_at_call 37; refine H.mono ?_; rintro e w' ⟨rfl, rfl⟩)
  go_ret2
  exact ⟨rfl, rfl⟩
end Go.Proofs.Yticaanjjjojmgaa
