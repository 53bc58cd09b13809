/- Contracts of package measure's functions over a unit that is handed over as a function value: count, find, before; and of the exported ones on runes and lines. -/
import Derived.Test.YtdpaleldalplfaaMeasLeaf
import Derived.Shelf.Abstract
namespace Go.Proofs.Ytdpaleldalplfaa
open Go.RowKit Go.Shelf

/-- A function value that answers whether an offset has p, and does nothing else. -/
def M.Asks (gf : Nat) (s : ByteArray) (p : Nat → Bool) : Prop :=
  ∀ (k : Nat) (W : World), k ≤ s.size → Calls Try.prog gf #[.string s, .int .i64 (k : Int)] W fun e W' => e = .returned (.bool (p k)) ∧ W = W'
def M.Enters (gf : Nat) : Prop := ∀ args w, (callFunc gf args).run Try.prog w = .ok (.enter gf args) w
theorem M.asks_any (s : ByteArray) : M.Asks 65 s M.any_ := fun _ W _ => anywhere_any s _ W
theorem M.asks_bnd (s : ByteArray) : M.Asks 66 s (U.bndN s.data.toList) := fun k W _ => (boundary_any s k W).mono fun _ _ h => by rw [U.bnd_natCast] at h; exact h
theorem M.asks_lb (s : ByteArray) (hs : s.size < 4611686018427387904) : M.Asks 67 s (M.lb s.data.toList) := fun k W hk => lineBegins_any s k W hk hs
theorem M.enters_any : M.Enters 65 := enters_of Try.func65 (by kernel_rfl) rfl
theorem M.enters_bnd : M.Enters 66 := enters_of Try.func66 (by kernel_rfl) rfl
theorem M.enters_lb : M.Enters 67 := enters_of Try.func67 (by kernel_rfl) rfl

set_option maxHeartbeats 1000000 in
theorem count_any (gf : Nat) (s : ByteArray) (p : Nat → Bool) (w : World) (hs : s.size < 4611686018427387904) (heg : M.Enters gf) (hp : M.Asks gf s p) :
    Calls Try.prog 64 #[.string s, .func (.func gf) #[] #[]] w fun e w' => e = .returned (.int .i64 ((M.num p (s.size + 1) : Int) - 1)) ∧ w = w' := by
  have Hp := Lib.hid hp
  clear hp
  unfold M.Enters at heg
  go_enter Try.func64, Try.ntmps64
  go_wp2
  go_loop [5, 10] (fun n i => ∃ k : Nat, k ≤ s.size + 1 ∧ i = .int .i64 k ∧ n = .int .i64 ((M.num p k : Int) - 1)) (fun _ i => s.size + 1 - (intOf i).toNat)
  case atStart => exact ⟨0, Nat.zero_le _, rfl, rfl⟩
  case round =>
    obtain ⟨k, hk, rfl, rfl⟩ := hrel
    have hle := M.num_le p k
    by_cases hlt : k ≤ s.size
    · cases hb : p k with
      | true =>
        have hc := Hp.out k w hlt
        rw [hb] at hc
        have Hn := Lib.hid (M.num_t hb)
        clear hb
        go_wp2_with fail
        refine hc.mono ?_
        rintro e w' ⟨rfl, rfl⟩
        go_wp2
        go_round
        case rel => exact ⟨k + 1, by omega, by go_num, by rw [Hn.out]; go_num⟩
        case measure => simp [intOf]; omega
      | false =>
        have hc := Hp.out k w hlt
        rw [hb] at hc
        have Hn := Lib.hid (M.num_f hb)
        clear hb
        go_wp2_with fail
        refine hc.mono ?_
        rintro e w' ⟨rfl, rfl⟩
        go_wp2
        go_round
        case rel => exact ⟨k + 1, by omega, by go_num, by rw [Hn.out]⟩
        case measure => simp [intOf]; omega
    · obtain rfl : k = s.size + 1 := by omega
      go_wp2
      go_ret
      exact ⟨rfl, rfl⟩

/-- The error beside what find answers. -/
def M.errOf (o : Option Nat) : Int := if o.isSome then 0 else 3
theorem M.ret_nth {o : Option Nat} {a e : Int} (h : o = if e = 0 then some a.toNat else none) (h0 : 0 ≤ a) (h1 : e ≠ 0 → a = 0 ∧ e = 3) :
    Ending.returned (.tuple #[.int .i64 a, .int .i64 e]) = .returned (.tuple #[.int .i64 (o.getD 0 : Nat), .int .i64 (M.errOf o)]) := by
  by_cases he : e = 0
  · subst he
    rw [if_pos rfl] at h
    subst h
    obtain ⟨n, rfl⟩ := Int.eq_ofNat_of_zero_le h0
    rfl
  · obtain ⟨rfl, rfl⟩ := h1 he
    rw [if_neg he] at h
    subst h; rfl
/-- What find answers. -/
def M.found (o : Option Nat) : Ending := .returned (.tuple #[.int .i64 (o.getD 0 : Nat), .int .i64 (M.errOf o)])
/-- What before answers, c being the number of units before the offset. -/
def M.told (s : ByteArray) (i : Int) (c : Nat → Nat) : Ending :=
  if 0 ≤ i ∧ i ≤ s.size then .returned (.tuple #[.int .i64 (c i.toNat : Nat), .int .i64 0]) else .returned (.tuple #[.int .i64 0, .int .i64 3])
theorem M.told_in {s : ByteArray} {k : Nat} (h : k ≤ s.size) (c : Nat → Nat) : M.told s (k : Int) c = .returned (.tuple #[.int .i64 (c k : Nat), .int .i64 0]) := by
  unfold M.told; rw [if_pos (by omega)]; rfl
theorem M.told_out {s : ByteArray} {i : Int} (h : ¬ (0 ≤ i ∧ i ≤ s.size)) (c : Nat → Nat) : M.told s i c = .returned (.tuple #[.int .i64 0, .int .i64 3]) := by
  unfold M.told; rw [if_neg h]
theorem M.size_take (s : ByteArray) (k : Nat) (h : k ≤ s.size) : (s.extract 0 k).size = k := by simp; omega
theorem M.data_take (s : ByteArray) (k : Nat) : (s.extract 0 k).data.toList = s.data.toList.take k := by
  simp
end Go.Proofs.Ytdpaleldalplfaa
