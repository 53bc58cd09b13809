/- The contract of package compose's All. -/
import Derived.Test.YteondigaklonpaaComposeDo
import Derived.Test.YteondigaklonpaaDeltaNorm
namespace Go.Proofs.Yteondigaklonpaa
open Go.RowKit

def C.AllEnd (n : Int) (xs : List (List D.P)) (w : World) (e : Ending) (w' : World) : Prop := ∃ v, e = .returned (.tuple #[v, .int .i64 (D.allS n xs).1]) ∧ D.Made (D.allS n xs).2 w v w'
/-- Lists of pieces that may be cut: no row is longer than its capacity. -/
def C.Caps (L : List D.Src) : Prop := ∀ s ∈ L, s.x.length ≤ s.c
theorem C.made_bd {n : Int} {xs : List (List D.P)} : D.Bd (D.allS n xs).2 := by
  by_cases h : (D.allS n xs).1 = 0
  · obtain ⟨_, _, _, _, o, _⟩ := D.all_ok h
    exact D.bd_of o.ok
  · rw [D.allS_nil n xs h]
    exact ⟨Nat.zero_le _, fun p hp => by cases hp⟩
theorem C.made_trans {x : List D.P} {w V w' : World} {v : Value} (hb : Below w.heap.size w V) (h : D.Made x V v w') : D.Made x w v w' := ⟨D.own_mono h.own hb.size, hb.trans (h.below.mono hb.size)⟩
set_option maxRecDepth 100000 in
set_option maxHeartbeats 2000000 in
theorem all_any (n : Int) (n0 : -9223372036854775808 ≤ n) (n1 : n < 9223372036854775808) (lo : Option Addr) (cap : Nat) (L : List D.Src) (w : World) (hl : L.length ≤ maxLen) (hr : D.Rows w lo L) (hc : C.Caps L) :
    Calls Try.prog 21 #[.int .i64 n, .slice lo L.length cap] w (C.AllEnd n (L.map D.Src.x) w) := by
  have HI := Lib.hid (identity_any n n0 n1 w)
  unfold D.IdEnd at HI
  unfold maxLen at hl
  have Hr := Lib.hid hr
  have Hc := Lib.hid hc
  clear hr hc n0 n1
  go_enter Try.func21, Try.ntmps21
  go_wp2_with fail
  refine HI.out.mono ?_
  rintro e w1 ⟨v, rfl, hm⟩
  have HM := Lib.hid hm
  obtain ⟨va, vc, hv⟩ := D.slice_of_own hm.own
  subst hv
  clear hm HI
  go_wp2
  go_loopw [6, 7, 17] (fun a e i wr => ∃ k : Nat, k ≤ L.length ∧ i = .int .i64 k ∧ e = .int .i64 (D.allS n ((L.map D.Src.x).take k)).1 ∧ Hid (D.Made (D.allS n ((L.map D.Src.x).take k)).2 w a wr)) (fun _ _ i _ => L.length - (intOf i).toNat)
  case atStart => exact ⟨0, Nat.zero_le _, rfl, rfl, HM⟩
  case round =>
    clear HM
    obtain ⟨k, hk, rfl, rfl, hm⟩ := hrel
    have hbd := Lib.hid (C.made_bd (n := n) (xs := (L.map D.Src.x).take k))
    have hnil := Lib.hid (D.allS_nil n ((L.map D.Src.x).take k))
    have happ : Hid (D.allS n (L.map D.Src.x) = D.foldS (D.allS n ((L.map D.Src.x).take k)) ((L.map D.Src.x).drop k)) := by
      show _ = _
      conv => lhs; rw [← List.take_append_drop k (L.map D.Src.x)]
      exact D.foldS_append _ _ _
    by_cases hlt : k < L.length
    · obtain ⟨s, hs⟩ : ∃ s, L[k]? = some s := ⟨L[k], List.getElem?_eq_getElem hlt⟩
      obtain ⟨b, o, e, hbl, hcell, hok⟩ := Hr.out k s hs
      subst e
      have hcs := Hc.out s (List.mem_of_getElem? hs)
      have hsn := Lib.hid (D.allS_snoc n (L.map D.Src.x) k s.x (by rw [List.getElem?_map, hs]; rfl))
      generalize D.allS n ((L.map D.Src.x).take k) = st at hm hbd hnil happ hsn
      obtain ⟨E, P⟩ := st
      dsimp only at *
      have c0 := ((D.bcell hm.out.below).1 b (o + k) hbl).trans hcell
      by_cases hE : E = 0
      · subst hE
        obtain ⟨vo, vc, hv, hrow, hcap, _⟩ := C.made_src hm.out
        subst hv
        have HC := Lib.hid (compose_any vo s.a vc s.c P s.x wr hrow (hok.row.below hm.out.below) hbd.out ⟨hok.len, hok.txt⟩ hcap hcs)
        have hst : Hid (D.allS n ((L.map D.Src.x).take (k + 1)) = (D.cmpE P s.x, D.cmpP P s.x)) := by show _ = _; rw [hsn.out]; rfl
        have hmb := Lib.hid hm.out.below
        clear hs hcell hok hcs hrow hcap hnil hm hbd hsn happ
        go_wp2_with fail
        refine HC.out.mono ?_
        rintro e w2 ⟨v, rfl, hm2⟩
        have HM2 : Hid (D.Made (D.allS n ((L.map D.Src.x).take (k + 1))).2 w v w2) := by show D.Made _ _ _ _; rw [hst.out]; exact C.made_trans hmb.out hm2
        obtain ⟨xo, xc, hv⟩ := D.slice_of_own hm2.own
        subst hv
        have he : Hid ((D.allS n ((L.map D.Src.x).take (k + 1))).1 = D.cmpE P s.x) := by show _ = _; rw [hst.out]
        clear hm2 HC hst
        go_wp2
        go_roundw
        case rel => exact ⟨k + 1, by omega, by go_num, by rw [he.out], HM2⟩
        case measure => simp [intOf]; omega
      · have q : (E != 0) = true := by simpa using hE
        have R : Hid (∀ w', Below w.heap.size w w' → C.AllEnd n (L.map D.Src.x) w (.returned (.tuple #[.slice none 0 0, .int .i64 E])) w') := fun w' hb => by
          have e : D.allS n (L.map D.Src.x) = (E, P) := by rw [happ.out]; exact D.foldS_stop (s := (E, P)) hE _
          have hP : P = [] := hnil.out hE
          exact ⟨_, by rw [e], by rw [e]; simp only; rw [hP]; exact D.Made.nil w hb⟩
        have R := Lib.hid (R.out wr hm.out.below)
        clear hs hcell hok hcs hnil hm hbd hsn happ hE
        go_wp2
        go_ret2
        exact R.out
    · obtain rfl : k = L.length := by omega
      have e : (L.map D.Src.x).take L.length = L.map D.Src.x := by rw [List.take_of_length_le (by simp)]
      rw [e] at hm ⊢
      obtain ⟨vo, vc, hv⟩ := D.slice_of_own hm.out.own
      subst hv
      have R : Hid (C.AllEnd n (L.map D.Src.x) w (.returned (.tuple #[.slice vo (D.allS n (L.map D.Src.x)).2.length vc, .int .i64 (D.allS n (L.map D.Src.x)).1])) wr) := ⟨_, rfl, hm.out⟩
      generalize (D.allS n (L.map D.Src.x)).2.length = m at R
      generalize (D.allS n (L.map D.Src.x)).1 = E at R
      clear e hm hnil hbd happ
      go_wp2
      go_ret2
      exact R.out
end Go.Proofs.Yteondigaklonpaa
