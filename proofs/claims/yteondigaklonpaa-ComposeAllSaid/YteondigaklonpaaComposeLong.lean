/- What ComposeAll leaves out: the contract of long. -/
import Derived.Test.YteondigaklonpaaComposeFold
import Derived.Test.YteondigaklonpaaComposeDoes
namespace Go.Proofs.Yteondigaklonpaa
open Go.RowKit

def C.longL (n : Int) (L : List D.Src) : Bool := decide (6000 < n) || (decide (12 < (L.length : Int)) || L.any fun s => D.large s.x)
set_option maxRecDepth 100000 in
set_option maxHeartbeats 1000000 in
theorem long_any (n : Int) (lo : Option Addr) (c : Nat) (L : List D.Src) (w : World) (h : D.ListOk w lo L) :
    Calls Try.prog 20 #[.int .i64 n, .slice lo L.length c] w fun e w' => e = .returned (.bool (C.longL n L)) ∧ Below w.heap.size w w' := by
  have Hr : Hid (D.Rows w lo L) := h.rows
  have HG : Hid (∀ s ∈ L, ∀ W, D.Row W s.a s.x → Calls Try.prog 12 #[.slice s.a s.x.length s.c] W fun e w' => e = .returned (.bool (D.large s.x)) ∧ Below W.heap.size W w') := fun s hs W hr => (C.hLarge s.x (C.bd_arg (h.ok s hs)) (h.ok s hs).num).out s.a s.c W hr
  have hb0 : Hid (Below w.heap.size w w) := Below.refl _ _
  have hml : L.length ≤ 9223372036854775807 := by have := h.len; unfold maxLen at this; omega
  clear h
  by_cases hn : (6000 : Int) < n
  · have e : C.longL n L = true := by simp [C.longL, hn]
    rw [e]
    clear e HG Hr
    go_enter Try.func20, Try.ntmps20
    go_wp2
    go_ret
    exact ⟨rfl, hb0.out⟩
  · by_cases hl : 12 < L.length
    · have hl' : (12 : Int) < (L.length : Int) := by omega
      have e : C.longL n L = true := by simp [C.longL, hl']
      rw [e]
      clear e HG Hr
      go_enter Try.func20, Try.ntmps20
      go_wp2
      go_ret
      exact ⟨rfl, hb0.out⟩
    · have hl' : ¬ (12 : Int) < (L.length : Int) := by omega
      have e : C.longL n L = L.any fun s => D.large s.x := by simp [C.longL, hn, hl']
      have HE := Lib.hid e
      clear e
      go_enter Try.func20, Try.ntmps20
      go_wp2
      go_loopw [5] (fun i wr => ∃ k : Nat, k ≤ L.length ∧ i = .int .i64 k ∧ Hid (∀ s ∈ L.take k, D.large s.x = false) ∧ Hid (Below w.heap.size w wr)) (fun i _ => L.length - (intOf i).toNat)
      case atStart => exact ⟨0, Nat.zero_le _, rfl, fun s hs => by simp at hs, hb0.out⟩
      case round =>
        clear hb0
        obtain ⟨k, hk, rfl, hq, hx⟩ := hrel
        by_cases hlt : k < L.length
        · obtain ⟨s, hs⟩ : ∃ s, L[k]? = some s := ⟨L[k], List.getElem?_eq_getElem hlt⟩
          have hm := List.mem_of_getElem? hs
          obtain ⟨b, o, e, hbl, hc, hsrc⟩ := (Hr.out.below hx.out) k s hs
          subst e
          have hg := Lib.hid (HG.out s hm wr hsrc.row)
          have hs := Lib.hid hs
          have hm := Lib.hid hm
          clear hsrc
          obtain ⟨sa, sc, sx⟩ := s
          dsimp only at *
          cases hgl : D.large sx with
          | true =>
            rw [hgl] at hg
            have hL : Hid (C.longL n L = true) := by
              show _ = _
              rw [HE.out]
              exact List.any_eq_true.2 ⟨_, hm.out, hgl⟩
            clear hgl hq hs hm
            go_wp2_with fail
            refine hg.out.mono ?_
            rintro e w2 ⟨rfl, hb⟩
            have hx2 := Lib.hid (hx.out.trans (hb.mono hx.out.size))
            clear hb hx
            go_wp2
            go_ret
            exact ⟨by rw [hL.out]; rfl, hx2.out⟩
          | false =>
            rw [hgl] at hg
            have hq2 : Hid (∀ s ∈ L.take (k + 1), D.large s.x = false) := fun t ht => by
              rw [List.take_add_one, hs.out] at ht
              rcases List.mem_append.1 ht with h | h
              · exact hq.out t h
              · simp at h; subst h; exact hgl
            clear hgl hq hs hm
            go_wp2_with fail
            refine hg.out.mono ?_
            rintro e w2 ⟨rfl, hb⟩
            have hx2 := Lib.hid (hx.out.trans (hb.mono hx.out.size))
            clear hb hx
            go_wp2
            go_roundw
            case rel => exact ⟨k + 1, by omega, by go_num, hq2, hx2⟩
            case measure => simp [intOf]; omega
        · obtain rfl : k = L.length := by omega
          have hL : Hid (C.longL n L = false) := by
            show _ = _
            rw [HE.out]
            refine List.any_eq_false.2 fun s hs => ?_
            rw [hq.out s (by rw [List.take_length]; exact hs)]
            simp
          clear hq
          go_wp2
          go_ret
          exact ⟨by rw [hL.out]; rfl, hx.out⟩
theorem C.long_not {n : Int} {L : List D.Src} (h : C.longL n L = false) : n ≤ 6000 ∧ L.length ≤ 12 ∧ ∀ s ∈ L, D.large s.x = false := by
  unfold C.longL at h
  simp only [Bool.or_eq_false_iff, decide_eq_false_iff_not, List.any_eq_false] at h
  exact ⟨by omega, by omega, fun s hs => by simpa using h.2.2 s hs⟩
end Go.Proofs.Yteondigaklonpaa
