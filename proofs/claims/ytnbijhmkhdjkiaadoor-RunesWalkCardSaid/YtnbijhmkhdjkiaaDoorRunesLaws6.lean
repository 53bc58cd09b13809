/- The walk of the statement of stage 1 on walks over the boundaries. -/
import Derived.Test.YtnbijhmkhdjkiaaDoorRunesKnown
import Derived.Test.YtnbijhmkhdjkiaaDoorRunesWalkMath
import Derived.Deep.DeepCutAuto
import Derived.Deep.CutBlock
import Derived.BigQuiet
import Derived.Deep.QuietTactic
import Derived.Maps.AppendAt
import Derived.RangeFuncBox
namespace Go.Proofs.YtnbijhmkhdjkiaaDoor
open Go.RowKit

theorem Tryd.infoInt : (Tryd.prog.info? 3).map (fun i => (i.zero, i.size, i.bytes)) = some (some (.int .i64 0), 1, 8) := by kernel_rfl
theorem U.row_below {w w' : World} {base : Nat} {e : TypeId} {size : Nat} {v : Value} {n : Nat} {xs : List Value} (h : w.ownsRow base e size v n xs) (hb : Below w.heap.size w w') : w'.ownsRow base e size v n xs :=
  h.kept (row := none) ⟨hb.os, hb.tape, hb.output, hb.size, fun k hk _ => hb.block k hk⟩ (by cases v.ownBlock <;> simp)
def U.rowOf (l : List UInt8) (A : Nat) : List Value := (U.bs l A).map fun k : Nat => Value.int .i64 (k : Int)
/-- Between two rounds of the first loop: the boundaries before A are collected. -/
def U.W1 (s : ByteArray) (w : World) (v a i : Value) (wr : World) : Prop :=
  ∃ (A : Nat) (ao : Option Addr) (cv : Nat), A ≤ s.size + 1 ∧ a = .int .i64 ((A : Int) - 1) ∧ i = .int .i64 ((U.bs s.data.toList A).length : Nat) ∧ v = .slice ao (U.bs s.data.toList A).length cv ∧
    wr.ownsRow w.heap.size 3 1 v (U.bs s.data.toList A).length (U.rowOf s.data.toList A) ∧ Below w.heap.size w wr
/-- Behind the first loop: all boundaries are collected. -/
def U.R1 (s : ByteArray) (w : World) (v a : Value) (wr : World) : Prop :=
  ∃ (ao : Option Addr) (cv : Nat), a = .int .i64 (s.size : Int) ∧ v = .slice ao (U.bs s.data.toList (s.size + 1)).length cv ∧
    wr.ownsRow w.heap.size 3 1 v (U.bs s.data.toList (s.size + 1)).length (U.rowOf s.data.toList (s.size + 1)) ∧ Below w.heap.size w wr
/-- Next and Prev, with their answers known. -/
theorem next_is (s : ByteArray) (i : Int) (o : Option Nat) (hs : s.size < 4611686018427387904) (h : U.nxt s.data.toList i = o) : Hid (∀ W, Calls Tryd.prog 23 #[.string s, .int .i64 i] W fun e w' => e = .returned (.tuple #[.int .i64 (o.getD 0 : Nat), .bool o.isSome]) ∧ Below W.heap.size W w') :=
  fun W => (next_any s i W hs).mono fun e w' hh => by rw [h] at hh; exact hh
theorem prev_is (s : ByteArray) (i : Int) (o : Option Nat) (hs : s.size < 4611686018427387904) (h : U.prv s.data.toList i = o) : Hid (∀ W, Calls Tryd.prog 25 #[.string s, .int .i64 i] W fun e w' => e = .returned (.tuple #[.int .i64 (o.getD 0 : Nat), .bool o.isSome]) ∧ Below W.heap.size W w') :=
  fun W => (prev_any s i W hs).mono fun e w' hh => by rw [h] at hh; exact hh
theorem U.row_succ (l : List UInt8) (A n : Nat) (h : U.bs l (n + 1) = U.bs l A ++ [n]) : U.rowOf l (n + 1) = U.rowOf l A ++ [.int .i64 (n : Int)] ∧ (U.bs l (n + 1)).length = (U.bs l A).length + 1 := by
  unfold U.rowOf; rw [h]; simp
theorem count_is (s : ByteArray) (c : Nat) (hs : s.size < 4611686018427387904) (h : U.cnt s.data.toList = c) : Hid (∀ W, Calls Tryd.prog 15 #[.string s] W fun e w' => e = .returned (.int .i64 (c : Int)) ∧ Below W.heap.size W w') :=
  fun W => (count_any s W hs).mono fun e w' hh => by rw [h] at hh; exact hh
theorem valid_is6 (s : ByteArray) (v : Bool) (hs : s.size ≤ maxLen) (h : U.valid s.data.toList = v) : Hid (∀ W, U.Tab W → Calls Tryd.prog 13 #[.string s] W fun e w' => e = .returned (.bool v) ∧ Below W.heap.size W w') :=
  fun W ht => (valid_any s W hs ht).mono fun e w' hh => by rw [h] at hh; exact hh
/-- Decode behind a boundary of a valid string. -/
theorem decode_at (s : ByteArray) (b : Nat) (hs : s.size ≤ 1000) (hd : U.decB (s.data.toList.drop b) = true) :
    ∃ r : Int, Hid (∀ W, U.Tab W → Calls Tryd.prog 19 #[.string (s.extract b s.size)] W fun e w' => e = .returned (.tuple #[.int .i64 r, .int .i64 (U.decN (s.data.toList.drop b) : Nat), .int .i64 0]) ∧ Below W.heap.size W w') := by
  refine ⟨U.decR (s.data.toList.drop b), fun W ht => (decode_any _ W ?_ ht).mono fun e w' h => ?_⟩
  · rw [← U.len, U.drop_data, List.length_drop, U.len]; unfold maxLen; omega
  · rw [U.drop_data] at h
    have hne : s.data.toList.drop b ≠ [] := by intro e; rw [e] at hd; simp [U.decB, U.ext] at hd
    rw [U.decE, if_neg hne, if_pos hd] at h
    exact h
/-- A cell of the collected boundaries. -/
theorem U.cell_row {w wr : World} {base g cv : Nat} (l : List UInt8) (A b c : Nat) (hown : w.ownsRow base 3 1 (.slice (some ⟨g, 0, none⟩) (c + 1) cv) (c + 1) (U.rowOf l A)) (hb : Below w.heap.size w wr)
    (hx : U.bndN l b = true) (hlt : b < A) (hl : (U.bs l A).length = c + 1) : wr.cell? ⟨g, (U.bs l b).length, none⟩ = some (.int .i64 (b : Int)) := by
  have h1 := U.bs_at l b A hx hlt
  have h2 := (List.getElem?_eq_some_iff.1 h1).1
  rw [(U.row_below hown hb).cellAt _ (by omega), U.rowOf, List.getElem?_map, h1]; rfl
/-- What the append leaves. -/
theorem U.w1_next (s : ByteArray) (w wr w3 : World) (v v' : Value) (A n : Nat) (h2 : n ≤ s.size) (hs : U.bs s.data.toList (n + 1) = U.bs s.data.toList A ++ [n]) (hbr : Below w.heap.size w wr)
    (hown : wr.ownsRow w.heap.size 3 1 v (U.bs s.data.toList A).length (U.rowOf s.data.toList A))
    (hown' : w3.ownsRow w.heap.size 3 1 v' ((U.bs s.data.toList A).length + 1) (U.rowOf s.data.toList A ++ [.int .i64 (n : Int)])) (o : Obj) (hg : (wr.alloc o).grownBy w3 v.ownBlock) :
    U.W1 s w v' (.int .i64 (n : Int)) (.int .i64 ((U.bs s.data.toList A).length + 1 : Int)) w3 := by
  have hr := U.row_succ _ A n hs
  obtain ⟨g, cap, rfl⟩ := ownsRow_succ hown'
  refine ⟨n + 1, some ⟨g, 0, none⟩, cap, by omega, by go_num, by rw [hr.2]; go_num, by rw [hr.2], by rw [hr.1, hr.2]; exact hown', ?_⟩
  exact (hbr.alloc hbr.size o).grown hg (by have := hbr.size; simp; omega) (fun k e => (hown.lt k e).1)
set_option maxHeartbeats 2000000 in
set_option maxRecDepth 100000 in
theorem walk_small (s : ByteArray) (w : World) (hs : s.size ≤ 1000) (ht : U.Tab w) :
    Calls Tryd.prog 8 #[.string s] w fun e w' => e = .returned (.bool true) ∧ Below w.heap.size w w' := by
  obtain ⟨i0, hi, hz0, hz1, hz2⟩ := info_parts Tryd.infoInt
  have hN : s.data.toList.length = s.size := U.len s
  have HN := Lib.hid hN
  clear hN
  have Hs : Hid (s.size < 4611686018427387904) := by show _ < _; omega
  have d0 : decide (1000 < (s.size : Int)) = false := by simp; omega
  go_enter Tryd.func8, Tryd.ntmps8
  have hB := Below.refl w.heap.size w
  go_wp2_with fail
  refine (known_any _ ht).mono ?_
  rintro e w1 ⟨rfl, hb1⟩
  have ht1 := ht.below hb1
  go_upto_block 0 with (fail)
  go_cut [3, 4] (fun v a wx => U.R1 s w v a wx)
  case first =>
    go_wp2
    go_loopw [3, 4, 5] (fun v a i wr => U.W1 s w v a i wr) (fun _ _ i _ => s.size + 2 - (intOf i).toNat)
    case atStart => exact ⟨0, none, 0, by omega, rfl, rfl, rfl, World.ownsRow_nil _ _ _ _, hb1⟩
    case round =>
      obtain ⟨A, ao, cv, hA, rfl, rfl, rfl, hown, hbr⟩ := hrel
      have htr := ht.below hbr
      have hlenA := U.bs_length s.data.toList A
      by_cases hle : A ≤ s.size
      · obtain ⟨n, hn0, h1, h2, h3, h4⟩ := U.nxt_at s.data.toList A (by rw [HN.out]; exact hle)
        rw [HN.out] at h2
        have Hn := next_is s ((A : Int) - 1) (some n) Hs.out hn0
        have Hst := Lib.hid (U.bs_step s.data.toList A n h1 h3 h4)
        have H4 := Lib.hid h4
        have hb3 : U.bnd s.data.toList (n : Int) = true := by rw [U.bnd_natCast]; exact h3
        clear hn0 h3 h4
        have q1 : decide ((n : Int) ≤ (A : Int) - 1) = false := by simp; omega
        have q2 : decide (s.size < n) = false := by simp; omega
        go_wp2_with (first | (go_at_call 23; refine (Hn.out _).mono ?_; rintro e w2 ⟨rfl, hb2⟩) | (go_at_call 17; refine (boundary_any _ _ _).mono ?_; rintro e w' ⟨rfl, rfl⟩))
        have hb2 : Below wr.heap.size wr w2 := by assumption
        have hbr2 := hbr.trans (hb2.mono hbr.size)
        have hown2 := U.row_below hown hb2
        clear hown hbr htr hb2
        go_loop [8] (fun p => ∃ k : Nat, A ≤ k ∧ k ≤ n ∧ p = .int .i64 k) (fun p => n - (intOf p).toNat)
        case atStart => exact ⟨A, Nat.le_refl _, h1, by go_num⟩
        case round =>
          obtain ⟨k, hk1, hk2, rfl⟩ := hrel
          by_cases hlt : k < n
          · have hbk : U.bnd s.data.toList (k : Int) = false := by rw [U.bnd_natCast]; exact H4.out k hk1 hlt
            go_wp2_with (go_at_call 17; refine (boundary_any _ _ _).mono ?_; rintro e w' ⟨rfl, rfl⟩)
            go_round
            case rel => exact ⟨k + 1, by omega, by omega, by go_num⟩
            case measure => simp [intOf]; omega
          · go_wp2_with (at_builtin; refine wpList_append_own _ rfl _ _ 36 rfl w.heap.size 3 i0 (.int .i64 0) 1 8 Tryd.underlying36 hi hz0 hz1 hz2 rfl (by decide) _ _ _ rfl (hown2.alloc _) ⟨_, 0, none⟩ 1 1 [.int .i64 (n : Int)] rfl rfl ?c1 ?c2 ?c3 ?c4 ?c5 ?_)
            case c2 => rfl
            case c3 => unfold maxLen; omega
            case c4 => omega
            case c5 => have := hbr2.size; simp; omega
            intro v' w3 hown' hgrow _
            have R := U.w1_next s w w2 w3 _ v' A n h2 Hst.out hbr2 hown2 hown' _ hgrow
            clear hown2 hown' hgrow hbr2 q1 q2
            go_wp2
            go_roundw
            case rel => exact R
            case measure => simp [intOf]; omega
      · obtain rfl : A = s.size + 1 := by omega
        have Hn := next_is s (s.size : Int) none Hs.out (U.nxt_end _ _ (by rw [HN.out]; omega))
        have e1 : ((s.size + 1 : Nat) : Int) - 1 = (s.size : Int) := by omega
        rw [e1]
        by_cases hc : (U.bs s.data.toList (s.size + 1)).length ≤ s.size
        · go_wp2_with (go_at_call 23; refine (Hn.out _).mono ?_; rintro e w2 ⟨rfl, hb2⟩)
          go_meet
          case rel =>
            have hb2 : Below wr.heap.size wr w2 := by assumption
            exact ⟨ao, cv, rfl, rfl, U.row_below hown hb2, hbr.trans (hb2.mono hbr.size)⟩
        · go_wp2
          go_meet
          case rel => exact ⟨ao, cv, rfl, rfl, hown, hbr⟩
  case rest =>
    obtain ⟨ao, cv, rfl, rfl, hown, hbr⟩ := hcut
    have hm := U.bs_cnt s.data.toList
    rw [HN.out] at hm
    obtain ⟨c, hc⟩ : ∃ c, c = U.cnt s.data.toList := ⟨_, rfl⟩
    rw [← hc] at hm
    have Hcount := count_is s c Hs.out hc.symm
    have hcs : c ≤ s.size := by
      rw [hc]; have := U.cntTo_le s.data.toList s.data.toList.length
      unfold U.cnt; rw [HN.out] at *; exact this
    rw [hm] at hown ⊢
    obtain ⟨g, cap, hv⟩ := ownsRow_succ hown
    rw [hv] at hown ⊢
    clear hc hv ht1 hb1
    have Hm := Lib.hid hm
    clear hm
    have htc := ht.below hbr
    go_wp2_with (go_at_call 15; refine (Hcount.out _).mono ?_; rintro e w2 ⟨rfl, hb2⟩)
    have hb2 : Below wc.heap.size wc w2 := by assumption
    go_loopw [4, 9] (fun a i wr => ∃ A j : Nat, A ≤ s.size + 1 ∧ a = .int .i64 A ∧ i = .int .i64 ((j : Int) - 1) ∧ Hid ((U.bs s.data.toList A).length = j) ∧ j ≤ c + 1 ∧ Below wc.heap.size wc wr) (fun _ i _ => (intOf i + 1).toNat)
    case atStart => exact ⟨s.size + 1, c + 1, Nat.le_refl _, by go_num, by rw [show ((c + 1 : Nat) : Int) - 1 = (c : Int) by omega], Hm, Nat.le_refl _, hb2⟩
    case round =>
      obtain ⟨A, j, hA, rfl, rfl, hj, hjc, hbw⟩ := hrel
      cases j with
      | zero =>
        have hnil : Hid (U.bs s.data.toList A = []) := List.length_eq_zero_iff.1 hj.out
        have Hp := prev_is s (A : Int) none Hs.out (by rw [U.prv_last _ _ (by rw [HN.out]; exact hA), hnil.out]; rfl)
        have Hn := next_is s (s.size : Int) none Hs.out (U.nxt_end _ _ (by rw [HN.out]; omega))
        go_wp2_with fail
        refine (Hp.out _).mono ?_
        rintro e w3 ⟨rfl, hb3⟩
        replace hb3 := hbw.trans (hb3.mono hbw.size)
        go_wp2_with fail
        refine (Hn.out _).mono ?_
        rintro e w4 ⟨rfl, hb4⟩
        replace hb4 := hb3.trans (hb4.mono hb3.size)
        clear hb3 hbw hb2 Hp Hn hnil hj hjc hA Hcount
        have hmx : s.size ≤ maxLen := by unfold maxLen; omega
        have Hmx := Lib.hid hmx
        clear hmx
        go_wp2
        go_loopw [16] (fun i wr => ∃ j b : Nat, i = .int .i64 j ∧ b ≤ s.size ∧ Hid (U.valid s.data.toList = true → U.bndN s.data.toList b = true ∧ (U.bs s.data.toList b).length = j) ∧ j ≤ c ∧ Below wc.heap.size wc wr) (fun i _ => c + 1 - (intOf i).toNat)
        case atStart => exact ⟨0, 0, rfl, Nat.zero_le _, fun h => ⟨U.bndN_zero_of_valid _ h, rfl⟩, Nat.zero_le _, by assumption⟩
        case round =>
          obtain ⟨j, b, rfl, hb, hfacts, hjc, hbw⟩ := hrel
          have htw := htc.below hbw
          by_cases hlt : j < c
          · cases hv : U.valid s.data.toList with
            | false =>
              have Hv := valid_is6 s false Hmx.out hv
              clear hv
              go_wp2_with fail
              refine (Hv.out _ htw).mono ?_
              rintro e w5 ⟨rfl, hb5⟩
              replace hb5 := hbw.trans (hb5.mono hbw.size)
              go_wp2
              go_ret
              exact ⟨rfl, hbr.trans (hb5.mono hbr.size)⟩
            | true =>
              obtain ⟨hbn, hbl⟩ := hfacts.out hv
              have hbs : b < s.size := by
                rcases Nat.lt_or_ge b s.size with h | h
                · exact h
                · exfalso
                  have : b = s.size := by omega
                  subst this
                  have h1 := U.bs_succ s.data.toList s.size
                  rw [hbn, if_pos rfl] at h1
                  have h2 := congrArg List.length h1
                  rw [Hm.out, List.length_append, hbl] at h2
                  simp at h2
                  omega
              obtain ⟨hd1, hd2, hd3, hd4⟩ := U.dec_next s.data.toList b hv hbn (by rw [HN.out]; exact hbs)
              obtain ⟨r, Hdec⟩ := decode_at s b hs hd1
              obtain ⟨n, hn⟩ : ∃ n, n = U.decN (s.data.toList.drop b) := ⟨_, rfl⟩
              rw [← hn] at hd2 hd3 hd4 Hdec
              rw [HN.out] at hd2
              have hl2 : Hid ((U.bs s.data.toList (b + n)).length = j + 1) := by
                show _ = _
                rw [hd4, U.bs_succ, hbn, if_pos rfl, List.length_append, hbl]; rfl
              have hcj : Hid (∀ wr' : World, Below wc.heap.size wc wr' → wr'.cell? ⟨g, j, none⟩ = some (.int .i64 (b : Int)) ∧ wr'.cell? ⟨g, j + 1, none⟩ = some (.int .i64 ((b + n : Nat) : Int)) ∧ wr'.cell? ⟨g, 0, none⟩ = some (.int .i64 0)) := by
                intro wr' hb'
                have k1 := U.cell_row s.data.toList (s.size + 1) b c hown hb' hbn (by omega) Hm.out
                have k2 := U.cell_row s.data.toList (s.size + 1) (b + n) c hown hb' hd3 (by omega) Hm.out
                have k3 := U.cell_row s.data.toList (s.size + 1) 0 c hown hb' (U.bndN_zero_of_valid _ hv) (by omega) Hm.out
                rw [hbl] at k1
                rw [hl2.out] at k2
                exact ⟨k1, k2, k3⟩
              have Hv := valid_is6 s true Hmx.out hv
              have Hf : Hid (U.bndN s.data.toList (b + n) = true ∧ (U.bs s.data.toList (b + n)).length = j + 1) := ⟨hd3, hl2.out⟩
              clear hv hbn hbl hd1 hd3 hd4 hn hl2 hfacts
              go_wp2_with fail
              refine (Hv.out _ htw).mono ?_
              rintro e w5 ⟨rfl, hb5⟩
              replace hb5 := hbw.trans (hb5.mono hbw.size)
              have htw5 := htc.below hb5
              have hcj5 := (hcj.out w5 hb5).1
              clear htw hbw
              go_wp2_with fail
              refine (Hdec.out _ htw5).mono ?_
              rintro e w6 ⟨rfl, hb6⟩
              replace hb6 := hb5.trans (hb6.mono hb5.size)
              obtain ⟨c1, c2, c3⟩ := hcj.out w6 hb6
              have c2' : w6.cell? ⟨g, j + 1, none⟩ = some (.int .i64 ((b : Int) + (n : Int))) := by rw [c2]; rfl
              clear c2 hcj5 hb5 htw5 hcj
              go_wp2_with fail
              go_quiet (fail)
              go_wp2
              go_roundw
              case rel => exact ⟨j + 1, b + n, by go_num, hd2, fun _ => Hf.out, by omega, below_drewN hb6 _⟩
              case measure => simp [intOf]; omega
          · go_wp2
            go_ret
            exact ⟨rfl, hbr.trans (hbw.mono hbr.size)⟩
      | succ j =>
        have hne : U.bs s.data.toList A ≠ [] := by intro e; have := hj.out; rw [e] at this; simp at this
        obtain ⟨L, x, hLx⟩ : ∃ L x, U.bs s.data.toList A = L ++ [x] := ⟨_, _, (List.dropLast_concat_getLast hne).symm⟩
        obtain ⟨hxA, hbx, hLb⟩ := U.bs_snoc _ _ _ _ hLx
        have hlen : Hid ((U.bs s.data.toList x).length = j) := by
          show _ = _
          have := hj.out
          rw [hLx] at this
          rw [hLb]; simpa using this
        have Hp := prev_is s (A : Int) (some x) Hs.out (by rw [U.prv_last _ _ (by rw [HN.out]; exact hA), hLx]; simp)
        have hcell : ∀ wr' : World, Below wc.heap.size wc wr' → wr'.cell? ⟨g, j, none⟩ = some (.int .i64 (x : Int)) := fun wr' hb => by
          have := U.cell_row s.data.toList (s.size + 1) x c hown hb hbx (by omega) Hm.out
          rwa [hlen.out] at this
        have Hcell := Lib.hid hcell
        have e1 : ((j + 1 : Nat) : Int) - 1 = (j : Int) := by omega
        rw [e1]
        clear hne hLx hbx hLb hcell
        go_wp2_with fail
        refine (Hp.out _).mono ?_
        rintro e w3 ⟨rfl, hb3⟩
        have hb4 := hbw.trans (hb3.mono hbw.size)
        have hcj := Hcell.out w3 hb4
        clear hbw hb3
        go_wp2
        go_roundw
        case rel => exact ⟨x, j, by omega, rfl, rfl, hlen, by omega, hb4⟩
        case measure => simp [intOf]

set_option maxRecDepth 100000 in
set_option maxHeartbeats 1000000 in
theorem runesWalk_walk (s : ByteArray) (w : World) (_hs : s.size ≤ 140737488351232) (ht : U.Tab w) :
    Calls Tryd.prog 8 #[.string s] w fun e w' => e = .returned (.bool true) ∧ Below w.heap.size w w' := by
  by_cases hsz : s.size ≤ 1000
  · exact walk_small s w hsz ht
  · have hB := Below.refl w.heap.size w
    go_enter Tryd.func8, Tryd.ntmps8
    go_wp2_with fail
    refine (known_any _ ht).mono ?_
    rintro e w1 ⟨rfl, hb1⟩
    go_wp2
    go_ret
    exact ⟨rfl, hb1⟩
end Go.Proofs.YtnbijhmkhdjkiaaDoor
