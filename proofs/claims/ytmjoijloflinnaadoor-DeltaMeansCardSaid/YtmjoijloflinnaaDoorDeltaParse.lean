/- The contract of package delta's Parse. -/
import Derived.Test.YtmjoijloflinnaaDoorDeltaRead
import Derived.Test.YtmjoijloflinnaaDoorDeltaLen
namespace Go.Proofs.YtmjoijloflinnaaDoor
open Go.RowKit

theorem D.form_mem {r : List D.Q} {q : D.Q} (h : q ∈ r) : (D.form1 q).length ≤ (D.joinT r).length := by
  induction r with
  | nil => cases h
  | cons p r ih =>
    rw [D.joinT, List.length_cons, List.length_append]
    rcases List.mem_cons.1 h with rfl | h
    · omega
    · have := ih h; omega
theorem D.text_mem {a : List D.Q} {q : D.Q} (h : q ∈ a) : (D.form1 q).length ≤ (D.text a).length := by
  cases a with
  | nil => cases h
  | cons p r =>
    rw [D.text_cons, List.length_append]
    rcases List.mem_cons.1 h with rfl | h
    · omega
    · have := D.form_mem h; omega
theorem D.joinT_len (r : List D.Q) : r.length ≤ (D.joinT r).length := by
  induction r with
  | nil => exact Nat.le_refl _
  | cons p r ih => rw [D.joinT, List.length_cons, List.length_cons, List.length_append]; omega
theorem D.text_ge (a : List D.Q) : a.length ≤ (D.text a).length := by
  cases a with
  | nil => exact Nat.le_refl _
  | cons p r =>
    rw [D.text_cons, List.length_append, List.length_cons]
    have h1 := D.joinT_len r
    have h2 : 0 < (D.form1 p).length := List.length_pos_iff.2 (D.form1_ne p)
    omega
theorem D.raw_size (q : D.Q) : (D.raw q).t.size ≤ (D.form1 q).length := by
  cases q with
  | R n => simp [D.raw, D.size_e]
  | D n => simp [D.raw, D.size_e]
  | I t => have := D.size_l t; have := D.hexL_len t; simp only [D.raw, D.form1, List.length_cons]; omega
/-- What is parsed is not longer than the text. -/
theorem D.parse_bd {t : List UInt8} {a : List D.Q} (h : D.parse t = some a) : (a.map D.raw).length ≤ t.length ∧ ∀ p ∈ a.map D.raw, p.t.size ≤ t.length := by
  obtain ⟨e, _⟩ := D.text_parse t a h
  refine ⟨by rw [List.length_map, ← e]; exact D.text_ge a, fun p hp => ?_⟩
  obtain ⟨q, hq, rfl⟩ := List.mem_map.1 hp
  have h1 := D.raw_size q
  have h2 := D.text_mem hq
  rw [e] at h2
  omega
def D.parseE (t : List UInt8) : Int := match D.parse t with
  | none => 4
  | some a => D.chk (a.map D.raw)
def D.parseP (t : List UInt8) : List D.P := match D.parse t with
  | none => []
  | some a => if D.chk (a.map D.raw) = 0 then a.map D.raw else []
def D.ParEnd (t : List UInt8) (w : World) (e : Ending) (w' : World) : Prop := ∃ v, e = .returned (.tuple #[v, .int .i64 (D.parseE t)]) ∧ D.Made (D.parseP t) w v w'
set_option maxHeartbeats 1000000 in
theorem parse_any (t : List UInt8) (w : World) (hl : t.length ≤ 1000000000) : Calls Tryd.prog 33 #[.string ⟨t.toArray⟩] w (D.ParEnd t w) := by
  have HR := read_any t w hl
  unfold D.RdEnd D.parE D.parP at HR
  cases hp : D.parse t with
  | none =>
    rw [hp] at HR
    have HR := Lib.hid HR
    have R : Hid (∀ w', Below w.heap.size w w' → D.ParEnd t w (.returned (.tuple #[.slice none 0 0, .int .i64 4])) w') := fun w' hb => by
      refine ⟨_, by unfold D.parseE; rw [hp], ?_⟩
      unfold D.parseP; rw [hp]; exact D.Made.nil w hb
    clear hp
    go_enter Tryd.func33, Tryd.ntmps33
    go_wp2_with fail
    refine HR.out.mono ?_
    rintro e w1 ⟨v, rfl, hm⟩
    obtain ⟨bo, bc, hv, _⟩ := hm.form
    subst hv
    have R := Lib.hid (R.out w1 hm.below)
    clear hm
    go_wp2
    go_ret2
    exact R.out
  | some a =>
    rw [hp] at HR
    dsimp only at HR
    obtain ⟨h1, h2⟩ := D.parse_bd hp
    have HC : Hid (∀ bo bc V, D.Row V bo (a.map D.raw) → Calls Tryd.prog 17 #[.slice bo (a.map D.raw).length bc] V fun e w' => e = .returned (.int .i64 (D.chk (a.map D.raw))) ∧ Below V.heap.size V w') := fun bo bc V h => check_any bo bc _ V (by unfold maxLen; omega) h (fun p hp => by have := h2 p hp; omega)
    by_cases h0 : D.chk (a.map D.raw) = 0
    · have R : Hid (∀ v w', D.Made (a.map D.raw) w v w' → D.ParEnd t w (.returned (.tuple #[v, .int .i64 0])) w') := fun v w' hm => by
        refine ⟨_, by unfold D.parseE; rw [hp]; dsimp only; rw [h0], ?_⟩
        unfold D.parseP; rw [hp]; dsimp only; rw [if_pos h0]; exact hm
      rw [h0] at HC
      generalize a.map D.raw = l at HR HC R
      have HR := Lib.hid HR
      clear hp h0 h1 h2
      go_enter Tryd.func33, Tryd.ntmps33
      go_wp2_with fail
      refine HR.out.mono ?_
      rintro e w1 ⟨v, rfl, hm⟩
      obtain ⟨bo, bc, hv, hr⟩ := hm.form
      subst hv
      have HC := Lib.hid (HC.out bo bc w1 hr)
      have Hm := Lib.hid hm
      clear hm hr
      go_wp2_with fail
      refine HC.out.mono ?_
      rintro e w2 ⟨rfl, hb2⟩
      have R := Lib.hid (R.out _ w2 ⟨D.own_below Hm.out.own hb2, Hm.out.below.trans (hb2.mono Hm.out.below.size)⟩)
      clear hb2
      go_wp2
      go_ret2
      exact R.out
    · have h' : (D.chk (a.map D.raw) != 0) = true := by simpa using h0
      have R : Hid (∀ w', Below w.heap.size w w' → D.ParEnd t w (.returned (.tuple #[.slice none 0 0, .int .i64 (D.chk (a.map D.raw))])) w') := fun w' hb => by
        refine ⟨_, by unfold D.parseE; rw [hp], ?_⟩
        unfold D.parseP; rw [hp]; dsimp only; rw [if_neg h0]; exact D.Made.nil w hb
      generalize D.chk (a.map D.raw) = c at HC h' R
      generalize a.map D.raw = l at HR HC
      have HR := Lib.hid HR
      clear hp h0 h1 h2
      go_enter Tryd.func33, Tryd.ntmps33
      go_wp2_with fail
      refine HR.out.mono ?_
      rintro e w1 ⟨v, rfl, hm⟩
      obtain ⟨bo, bc, hv, hr⟩ := hm.form
      subst hv
      have HC := Lib.hid (HC.out bo bc w1 hr)
      have Hm := Lib.hid hm
      clear hm hr
      go_wp2_with fail
      refine HC.out.mono ?_
      rintro e w2 ⟨rfl, hb2⟩
      have R := Lib.hid (R.out w2 (Hm.out.below.trans (hb2.mono Hm.out.below.size)))
      clear hb2
      go_wp2
      go_ret2
      exact R.out
end Go.Proofs.YtmjoijloflinnaaDoor
