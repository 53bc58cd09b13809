/- The contract of package handle's Parse. -/
import Derived.Test.YtlkkgjkbjjifmaaDoorHandPkg2
namespace Go.Proofs.YtlkkgjkbjjifmaaDoor
open Go.RowKit

theorem H.numM_le {m : Nat} {l : List UInt8} {x : Nat} (hm : m ≤ 576460752303423488) (h : H.numM m l = some x) : x ≤ m := by
  rw [H.numM_num _ hm] at h
  obtain ⟨y, _, rfl⟩ := Option.map_eq_some_iff.1 h
  omega
def H.ParsEnd (t : List UInt8) (w : World) (e : Ending) (w' : World) : Prop := e = .returned (.tuple #[.int .u64 (H.parse t).1, .int .i64 (H.parse t).2]) ∧ Below w.heap.size w w'
theorem H.pars_end {t : List UInt8} {w w' : World} {a b : Int} (h : H.parse t = (a, b)) (hb : Below w.heap.size w w') : H.ParsEnd t w (.returned (.tuple #[.int .u64 a, .int .i64 b])) w' := ⟨by rw [h], hb⟩
set_option maxRecDepth 100000 in
set_option maxHeartbeats 4000000 in
theorem parse10_any (t : List UInt8) (hl : t.length ≤ 140737488351232) (w : World) : Calls Tryd.prog 22 #[.string ⟨t.toArray⟩] w fun e w' => e = .returned (.tuple #[.int .u64 (H.parse t).1, .int .i64 (H.parse t).2]) ∧ Below w.heap.size w w' := by
  show Calls _ _ _ _ (H.ParsEnd t w)
  have HC := Lib.hid (cut10_any t w hl)
  have hp := Lib.hid (H.parse_cut t)
  obtain ⟨l1, l2⟩ := H.cutP_len t
  unfold H.CutEnd at HC
  generalize (H.cutP t).1 = x at *
  generalize (H.cutP t).2.1 = y at *
  generalize (H.cutP t).2.2 = b at *
  have N1 : Hid (∀ W, Calls Tryd.prog 34 #[.string ⟨x.toArray⟩, .int .u64 16384] W (H.NumMEnd 16384 x W)) := fun W => number10_any x 16384 16384 rfl (by omega) (by omega) W (by omega)
  have N2 : Hid (∀ W, Calls Tryd.prog 34 #[.string ⟨y.toArray⟩, .int .u64 4294967296] W (H.NumMEnd 4294967296 y W)) := fun W => number10_any y 4294967296 4294967296 rfl (by omega) (by omega) W (by omega)
  unfold H.NumMEnd at N1 N2
  have H1 := Lib.hid (H.two_no x y)
  have H2 := Lib.hid (H.two_ok x y)
  clear hl l1 l2
  have two : H.numM 16384 x = none ∨ H.numM 4294967296 y = none ∨ ∃ s g, H.numM 16384 x = some s ∧ H.numM 4294967296 y = some g := by
    cases hx : H.numM 16384 x with
    | none => exact .inl rfl
    | some s =>
      cases hy : H.numM 4294967296 y with
      | none => exact .inr (.inl rfl)
      | some g => exact .inr (.inr ⟨s, g, rfl, rfl⟩)
  rcases two with hx | hy | ⟨s, g, hx, hy⟩
  · have R : Hid (∀ w', Below w.heap.size w w' → H.ParsEnd t w (.returned (.tuple #[.int .u64 0, .int .i64 4])) w') := fun w' hb => H.pars_end (by rw [hp.out, H1.out (.inl hx)]) hb
    rw [hx] at N1
    generalize ((H.numM 4294967296 y).getD 0 : Nat) = gy at N2
    generalize (H.numM 4294967296 y).isSome = sy at N2
    obtain ⟨gi, hgi⟩ : ∃ gi : Int, (gy : Int) = gi := ⟨_, rfl⟩
    rw [hgi] at N2
    simp only [Option.getD_none, Option.isSome_none] at N1
    clear H1 H2 hp hx hgi
    go_enter Tryd.func22, Tryd.ntmps22
    go_wp2_with fail
    refine HC.out.mono ?_
    rintro e w1 ⟨rfl, hb⟩
    have R := Lib.hid (R.out w1 hb)
    clear hb
    go_wp2_with fail
    refine (N1.out _).mono ?_
    rintro e w2 ⟨rfl, rfl⟩
    go_wp2_with fail
    refine (N2.out _).mono ?_
    rintro e w2 ⟨rfl, rfl⟩
    go_wp2
    go_ret2
    exact R.out
  · have R : Hid (∀ w', Below w.heap.size w w' → H.ParsEnd t w (.returned (.tuple #[.int .u64 0, .int .i64 4])) w') := fun w' hb => H.pars_end (by rw [hp.out, H1.out (.inr hy)]) hb
    rw [hy] at N2
    generalize ((H.numM 16384 x).getD 0 : Nat) = gx at N1
    generalize (H.numM 16384 x).isSome = sx at N1
    obtain ⟨gi, hgi⟩ : ∃ gi : Int, (gx : Int) = gi := ⟨_, rfl⟩
    rw [hgi] at N1
    simp only [Option.getD_none, Option.isSome_none] at N2
    clear H1 H2 hp hy hgi
    cases sx
    all_goals
      go_enter Tryd.func22, Tryd.ntmps22
      go_wp2_with fail
      refine HC.out.mono ?_
      rintro e w1 ⟨rfl, hb⟩
      have R := Lib.hid (R.out w1 hb)
      clear hb
      go_wp2_with fail
      refine (N1.out _).mono ?_
      rintro e w2 ⟨rfl, rfl⟩
      go_wp2_with fail
      refine (N2.out _).mono ?_
      rintro e w2 ⟨rfl, rfl⟩
      go_wp2
      go_ret2
      exact R.out
  · obtain ⟨e2, ls, lg⟩ := H2.out s g hx hy
    rw [hx] at N1
    rw [hy] at N2
    simp only [Option.getD_some, Option.isSome_some] at N1 N2
    obtain ⟨si, hsi⟩ : ∃ si : Int, (s : Int) = si := ⟨_, rfl⟩
    obtain ⟨gi, hgi⟩ : ∃ gi : Int, (g : Int) = gi := ⟨_, rfl⟩
    have s0 : 0 ≤ si := by omega
    have s1 : si ≤ 16384 := by omega
    have g0 : 0 ≤ gi := by omega
    have g1 : gi ≤ 4294967296 := by omega
    rw [hsi, hgi] at e2
    rw [hsi] at N1
    rw [hgi] at N2
    have R : Hid (∀ w', Below w.heap.size w w' → H.ParsEnd t w (.returned (.tuple #[.int .u64 (H.mkV si gi), .int .i64 (H.mkE si gi)])) w') := fun w' hb => H.pars_end (by rw [hp.out, e2]) hb
    have HM : Hid (∀ W, Calls Tryd.prog 9 #[.int .i64 si, .int .u64 gi] W fun e w' => e = .returned (.tuple #[.int .u64 (H.mkV si gi), .int .i64 (H.mkE si gi)]) ∧ W = w') := fun W => make10_any si gi (by omega) (by omega) g0 (by omega) W
    clear H1 H2 hp hx hy e2 ls lg hsi hgi
    generalize H.mkV si gi = mv at *
    generalize H.mkE si gi = me at *
    go_enter Tryd.func22, Tryd.ntmps22
    go_wp2_with fail
    refine HC.out.mono ?_
    rintro e w1 ⟨rfl, hb⟩
    have R := Lib.hid (R.out w1 hb)
    clear hb
    go_wp2_with fail
    refine (N1.out _).mono ?_
    rintro e w2 ⟨rfl, rfl⟩
    go_wp2_with fail
    refine (N2.out _).mono ?_
    rintro e w2 ⟨rfl, rfl⟩
    go_wp2_with fail
    refine (HM.out _).mono ?_
    rintro e w2 ⟨rfl, rfl⟩
    go_wp2
    go_ret2
    exact R.out
end Go.Proofs.YtlkkgjkbjjifmaaDoor
