/- Texts joined: DeltaRef3 DeltaRef4 DeltaKn -/
import Derived.Test.YtdilkoogjkabfaaDeltaRefForm
/- DeltaRef3 -/
namespace Go.Proofs.Ytdilkoogjkabfaa
open Go.RowKit

/-- A row of the call's own with these pieces. -/
structure D.Made (x : List D.P) (w : World) (v : Value) (wr : World) : Prop where
  own : wr.ownsRow w.heap.size 47 3 v x.length (D.cellsL x)
  below : Below w.heap.size w wr
theorem D.Made.form {x : List D.P} {w : World} {v : Value} {wr : World} (h : D.Made x w v wr) : ∃ ao cap, v = .slice ao x.length cap ∧ D.Row wr ao x := D.row_of_own h.own
theorem D.Made.nil (w : World) {wr : World} (h : Below w.heap.size w wr) : D.Made [] w (.slice none 0 0) wr := ⟨World.ownsRow_nil _ _ _ _, h⟩
def D.NormEnd (l : List D.P) (w : World) (e : Ending) (w' : World) : Prop :=
  ∃ v, e = .returned (.tuple #[v, .int .i64 (D.chk l)]) ∧ D.Made (if D.chk l = 0 then D.normP l else []) w v w'
/-- Form of a valid delta. -/
theorem refForm_valid (ao : Option Addr) (cap : Nat) (l : List D.P) (w : World) (h : D.chk l = 0) (hr : D.Row w ao l) :
    Calls Try.prog 44 #[.slice ao l.length cap] w (fun e w' => ∃ v, e = .returned v ∧ D.Made (D.normP l) w v w') := by
  obtain ⟨e, pa, h0, h1, h2, h3⟩ := D.valid_qs h
  have H := refForm_any ao cap (D.qs l) w pa (by omega) (by omega) (by omega) (by rw [e]; exact hr)
  rw [h0] at H
  refine H.mono fun e w' hh => ?_
  obtain ⟨v, he, ho, hb⟩ := hh
  exact ⟨v, he, by unfold D.normP; rw [List.length_map]; exact ho, hb⟩
theorem D.txt_le {l : List D.P} (h : ∀ p ∈ l, p.t.size ≤ 140737488351232) : Hid (∀ p ∈ l, p.t.size ≤ 140737488351232) := h
end Go.Proofs.Ytdilkoogjkabfaa
/- DeltaRef4 -/
namespace Go.Proofs.Ytdilkoogjkabfaa
open Go.RowKit

def D.normal (l : List D.P) : Bool := decide (D.chk l = 0) && D.same l (D.normP l)
theorem D.Made.row {x : List D.P} {w : World} {v : Value} {wr : World} (h : D.Made x w v wr) : ∃ ao cap, Hid (v = .slice ao x.length cap) ∧ Hid (D.Row wr ao x) := D.row_of_own h.own
theorem D.normP_len (l : List D.P) : (D.normP l).length ≤ l.length := by
  unfold D.normP
  rw [List.length_map]
  refine Nat.le_trans (D.nf_length _) ?_
  unfold D.qs
  rw [List.length_map]
  exact Nat.le_refl _
set_option maxHeartbeats 1000000 in
theorem refNormal_any (ao : Option Addr) (cap : Nat) (l : List D.P) (w : World) (hn : l.length ≤ maxLen) (hr : D.Row w ao l) (ht : ∀ p ∈ l, p.t.size ≤ 140737488351232) :
    Calls Try.prog 18 #[.slice ao l.length cap] w (fun e w' => e = .returned (.bool (D.normal l)) ∧ Below w.heap.size w w') := by
  have Hc := Lib.hid (refCheck_any ao cap l w hn hr ht)
  by_cases h : D.chk l = 0
  · have hF : Hid (∀ V, Below w.heap.size w V → Calls Try.prog 44 #[.slice ao l.length cap] V (fun e w' => ∃ v, e = .returned v ∧ D.Made (D.normP l) V v w')) := fun V hb => refForm_valid ao cap l V h (hr.below hb)
    have hS : Hid (∀ bo cb V, Below w.heap.size w V → D.Row V bo (D.normP l) → Calls Try.prog 15 #[.slice ao l.length cap, .slice bo (D.normP l).length cb] V fun e w' => e = .returned (.bool (D.normal l)) ∧ Below V.heap.size V w') := fun bo cb V hb hr2 => by
      have := refSame_any ao bo cap cb l (D.normP l) V (hr.below hb) hr2 hn (Nat.le_trans (D.normP_len l) hn)
      have e : D.normal l = D.same l (D.normP l) := by unfold D.normal; rw [h]; rfl
      rw [e]; exact this
    rw [h] at Hc
    clear h hr ht hn
    go_enter Try.func18, Try.ntmps18
    go_wp2_with fail
    refine Hc.out.mono ?_
    rintro e w1 ⟨rfl, hb⟩
    have hb := Lib.hid hb
    go_wp2_with fail
    refine (hF.out _ hb.out).mono ?_
    rintro e w2 ⟨v, rfl, hm⟩
    obtain ⟨bo, cb, hv, hr2⟩ := hm.row
    have hb2 : Hid (Below w.heap.size w w2) := hb.out.trans (hm.below.mono hb.out.size)
    cases hv.out
    have H2 := Lib.hid (hS.out bo cb w2 hb2.out hr2.out)
    clear hm hv hr2
    go_wp2_with (go_at_call 15; refine H2.out.mono ?_; rintro e w3 ⟨rfl, hb3⟩; have R : Hid (Below w.heap.size w w3) := hb2.out.trans (hb3.mono hb2.out.size); clear hb3)
    go_ret
    exact ⟨rfl, R.out⟩
  · have e : D.normal l = false := by unfold D.normal; rw [decide_eq_false h]; rfl
    have h' : (D.chk l == 0) = false := by simpa using h
    rw [e]
    generalize D.chk l = c at Hc h'
    clear e h hr ht hn
    go_enter Try.func18, Try.ntmps18
    go_wp2_with fail
    refine Hc.out.mono ?_
    rintro e w1 ⟨rfl, hb⟩
    go_wp2
    go_ret
    exact ⟨rfl, hb⟩
def D.eqv (a b : List D.P) : Bool := decide (D.chk a = 0) && (decide (D.chk b = 0) && D.same (D.normP a) (D.normP b))
def D.eqvE (a b : List D.P) : Int := if D.chk a = 0 then D.chk b else D.chk a
def D.idE (n : Int) : Int := if n < 0 then 2 else if 1048576 < n then 5 else 0
def D.idP (n : Int) : List D.P := if 0 < n ∧ n ≤ 1048576 then [⟨1, n, ⟨#[]⟩⟩] else []
def D.IdEnd (n : Int) (w : World) (e : Ending) (w' : World) : Prop := ∃ v, e = .returned (.tuple #[v, .int .i64 (D.idE n)]) ∧ D.Made (D.idP n) w v w'
end Go.Proofs.Ytdilkoogjkabfaa
/- DeltaKn -/
namespace Go.Proofs.Ytdilkoogjkabfaa
open Go.RowKit

/-- Rows of pieces that outlive what is made behind them. -/
structure D.Kn (w wr : World) (L : List (Option Addr × List D.P)) : Prop where
  below : Below w.heap.size w wr
  rows : ∀ x ∈ L, D.Row wr x.1 x.2
theorem D.Kn.on {w wr w' : World} {L : List (Option Addr × List D.P)} (h : D.Kn w wr L) (hb : Below wr.heap.size wr w') : D.Kn w w' L := ⟨h.below.trans (hb.mono h.below.size), fun x hx => (h.rows x hx).below hb⟩
theorem D.Kn.add {w wr : World} {L : List (Option Addr × List D.P)} (h : D.Kn w wr L) (ao : Option Addr) (l : List D.P) (hr : D.Row wr ao l) : D.Kn w wr ((ao, l) :: L) := ⟨h.below, fun x hx => by
  rcases List.mem_cons.1 hx with rfl | hx
  · exact hr
  · exact h.rows x hx⟩
theorem D.Kn.r0 {w wr : World} {L : List (Option Addr × List D.P)} {ao : Option Addr} {l : List D.P} (h : D.Kn w wr ((ao, l) :: L)) : D.Row wr ao l := h.rows (ao, l) (by simp)
theorem D.Kn.tl {w wr : World} {L : List (Option Addr × List D.P)} {x : Option Addr × List D.P} (h : D.Kn w wr (x :: L)) : D.Kn w wr L := ⟨h.below, fun y hy => h.rows y (List.mem_cons_of_mem _ hy)⟩
theorem D.Kn.made {w wr w' : World} {L : List (Option Addr × List D.P)} (h : D.Kn w wr L) {l : List D.P} {v : Value} (hm : D.Made l wr v w') : ∃ ao c, v = .slice ao l.length c ∧ Hid (D.Kn w w' ((ao, l) :: L)) := by
  obtain ⟨ao, c, hv, hr⟩ := hm.form
  exact ⟨ao, c, hv, (h.on hm.below).add ao l hr⟩
theorem D.row_lit (w : World) (l : List D.P) : D.Row (w.alloc (.cells (D.cellsL l).toArray 47)) (some ⟨w.heap.size, 0, none⟩) l := fun i p hp => by
  obtain ⟨h0, h1, h2⟩ := D.cellsL_at l i p hp
  have key : ∀ j u, (D.cellsL l)[j]? = some u → (w.alloc (.cells (D.cellsL l).toArray 47)).cell? ⟨w.heap.size, j, none⟩ = some u := fun j u hu => by
    rw [World.cell?_alloc_new]
    simpa using hu
  refine ⟨w.heap.size, 0, rfl, by simp, ?_⟩
  rw [Nat.zero_add]
  exact ⟨key _ _ h0, key _ _ h1, key _ _ h2⟩
end Go.Proofs.Ytdilkoogjkabfaa
