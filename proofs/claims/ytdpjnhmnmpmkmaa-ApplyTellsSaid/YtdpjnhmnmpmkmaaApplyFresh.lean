/- The contract of the law's fresh: a string of different bytes that two strings do not hold. -/
import Derived.Test.YtdpjnhmnmpmkmaaApplyLawKit
import Derived.IntWalk
namespace Go.Proofs.Ytdpjnhmnmpmkmaa
open Go.RowKit

theorem A.zero256 : ∀ w, (zeroValue 77).run Try.prog w = .ok (.agg (Array.replicate 256 (.bool false))) w := fun w => by kernel_rfl
/-- An array of 256 marks. -/
def A.Marks (f : Nat → Bool) (b : Nat) (W : World) : Prop := ∃ cs, W.heap[b]? = some (.cells cs 77 (0, 0)) ∧ cs.size = 256 ∧ ∀ c, c < 256 → cs[c]? = some (.bool (f c))
theorem A.marks_new (w : World) : A.Marks (fun _ => false) w.heap.size (w.alloc (.cells (Array.replicate 256 (.bool false)) 77)) :=
  ⟨_, heap_alloc_new w _, by simp, fun c hc => by simp [hc]⟩
theorem A.Marks.cell {f : Nat → Bool} {b : Nat} {W : World} (h : A.Marks f b W) {c : Nat} (hc : c < 256) : W.cell? ⟨b, c, none⟩ = some (.bool (f c)) ∧ W.frozen? ⟨b, c, none⟩ = false := by
  obtain ⟨cs, h1, _, h3⟩ := h
  exact ⟨by rw [Lib.cell_of_heap h1]; exact h3 c hc, Lib.frozen_of_heap h1 c⟩
theorem A.Marks.set {f : Nat → Bool} {b : Nat} {W : World} (h : A.Marks f b W) (B : Nat) : A.Marks (fun c => f c || B == c) b (W.setCell ⟨b, B, none⟩ (.bool true)) := by
  obtain ⟨cs, h1, h2, h3⟩ := h
  refine ⟨cs.setIfInBounds B (.bool true), by rw [heap_setCell_same W b B _ _ _ h1], by simpa using h2, fun c hc => ?_⟩
  rw [Array.getElem?_setIfInBounds]
  by_cases e : B = c
  · subst e; simp [h2, hc]
  · rw [if_neg e, h3 c hc]
    simp [e]
def A.seen (l : List UInt8) (c : Nat) : Bool := l.any fun b => b.toNat == c
theorem A.seen_snoc (l : List UInt8) (b : UInt8) : A.seen (l ++ [b]) = fun c => A.seen l c || b.toNat == c := by
  funext c
  unfold A.seen
  rw [List.any_append]
  simp
theorem A.take_snoc (x : ByteArray) (k : Nat) (h : k < x.size) : x.data.toList.take (k + 1) = x.data.toList.take k ++ [x[k]] := by
  rw [List.take_succ_eq_append_getElem (by simpa using h)]; rfl
def A.free (X Y : List UInt8) (c : Nat) : Bool := !(A.seen X c || A.seen Y c)
def A.freshL (X Y : List UInt8) (m : Nat) : List UInt8 := ((List.range m).filter (A.free X Y)).map UInt8.ofNat
theorem A.fresh_snoc (X Y : List UInt8) (m : Nat) : A.freshL X Y (m + 1) = A.freshL X Y m ++ (if A.free X Y m = true then [UInt8.ofNat m] else []) := by
  unfold A.freshL
  rw [List.range_succ, List.filter_append, List.map_append]
  congr 1
  cases h : A.free X Y m <;> simp [h]
theorem A.fresh_len (X Y : List UInt8) (m : Nat) : (A.freshL X Y m).length ≤ m := by
  unfold A.freshL
  rw [List.length_map]
  have := List.length_filter_le (A.free X Y) (List.range m)
  rw [List.length_range] at this
  exact this
theorem A.fresh_nodup (X Y : List UInt8) (m : Nat) (h : m ≤ 256) : (A.freshL X Y m).Nodup := by
  unfold A.freshL
  refine List.pairwise_map.2 (List.Pairwise.imp_of_mem (R := (· ≠ ·)) ?_ (List.Pairwise.filter _ List.nodup_range))
  intro a b ha hb hne e
  refine hne ?_
  have h1 := List.mem_range.1 (List.mem_filter.1 ha).1
  have h2 := List.mem_range.1 (List.mem_filter.1 hb).1
  have := congrArg UInt8.toNat e
  rw [UInt8.toNat_ofNat', UInt8.toNat_ofNat'] at this
  omega
theorem A.fresh_not (X Y : List UInt8) (m : Nat) (h : m ≤ 256) : (∀ c ∈ X, c ∉ A.freshL X Y m) ∧ (∀ c ∈ Y, c ∉ A.freshL X Y m) := by
  have key : ∀ c, c ∈ A.freshL X Y m → A.free X Y c.toNat = true := fun c hc => by
    unfold A.freshL at hc
    obtain ⟨k, hk, rfl⟩ := List.mem_map.1 hc
    obtain ⟨h1, h2⟩ := List.mem_filter.1 hk
    have h1 := List.mem_range.1 h1
    rw [UInt8.toNat_ofNat', Nat.mod_eq_of_lt (by omega)]
    exact h2
  have hit : ∀ (L : List UInt8) c, c ∈ L → A.seen L c.toNat = true := fun L c hc => by
    unfold A.seen
    exact List.any_eq_true.2 ⟨c, hc, by simp⟩
  refine ⟨fun c hc hf => ?_, fun c hc hf => ?_⟩
  · have := key c hf; unfold A.free at this; rw [hit X c hc] at this; simp at this
  · have := key c hf; unfold A.free at this; rw [hit Y c hc] at this; simp at this
/-- What fresh answers. -/
def A.FrEnd (X Y : List UInt8) (n : Int) (w : World) (e : Ending) (w' : World) : Prop := ∃ (F : List UInt8) (bq : Bool), e = .returned (.tuple #[.string ⟨F.toArray⟩, .bool bq]) ∧ (bq = true → (F.length : Int) = n) ∧ F.Nodup ∧ (∀ c ∈ X, c ∉ F) ∧ (∀ c ∈ Y, c ∉ F) ∧ F.length ≤ 256 ∧ Below w.heap.size w w'
/-- The marks while the bytes are gone through. -/
structure A.FrAt (f : Nat → Bool) (b : Nat) (w wr : World) : Prop where
  marks : A.Marks f b wr
  below : Below w.heap.size w wr
set_option maxRecDepth 100000 in
set_option maxHeartbeats 4000000 in
theorem fresh_any (n : Int) (x y : ByteArray) (w : World) (n0 : 0 ≤ n) (n1 : n ≤ 1048576) (hx : x.size ≤ 1048576) (hy : y.size ≤ 1048576) :
    Calls Try.prog 31 #[.int .i64 n, .string x, .string y] w (A.FrEnd x.data.toList y.data.toList n w) := by
  have hz := A.zero256
  have hm := Lib.hid (A.marks_new w)
  obtain ⟨X, hX⟩ : ∃ X, Hid (x.data.toList = X) := ⟨_, rfl⟩
  obtain ⟨Y, hY⟩ : ∃ Y, Hid (y.data.toList = Y) := ⟨_, rfl⟩
  obtain ⟨bu, hbu⟩ : ∃ bu, Hid (w.heap.size = bu) := ⟨_, rfl⟩
  rw [hX.out, hY.out]
  generalize Array.replicate 256 (Value.bool false) = Z at hz hm
  have h0 : Hid (A.FrAt (A.seen (x.data.toList.take 0)) w.heap.size w (w.alloc (.cells Z 77))) := ⟨hm.out, (Below.refl _ _).alloc (Nat.le_refl _) _⟩
  clear hm
  have hbz : Hid (w.heap.size ≤ bu) := by show _ ≤ _; rw [hbu.out]; exact Nat.le_refl _
  go_enter Try.func31, Try.ntmps31
  go_wp2
  rw [hbu.out] at h0 ⊢
  go_loopw [9] (fun i wr => ∃ k : Nat, k ≤ x.size ∧ i = .int .i64 k ∧ Hid (A.FrAt (A.seen (x.data.toList.take k)) bu w wr)) (fun i _ => x.size - (intOf i).toNat)
  case atStart => exact ⟨0, Nat.zero_le _, rfl, h0⟩
  case round =>
    obtain ⟨k, hk, rfl, hr⟩ := hrel
    by_cases hlt : k < x.size
    · have hb8 : (x[k]).toNat < 256 := UInt8.toNat_lt _
      obtain ⟨B, hB⟩ : ∃ B : Nat, (x[k]).toNat = B := ⟨_, rfl⟩
      have hB' : Hid ((x[k]).toNat = B) := hB
      rw [hB] at hb8
      obtain ⟨c0, f0⟩ := hr.out.marks.cell (c := B) hb8
      have R : Hid (A.FrAt (A.seen (x.data.toList.take (k + 1))) bu w (wr.setCell ⟨bu, B, none⟩ (.bool true))) := by
        refine ⟨?_, hr.out.below.setCell (p := ⟨bu, B, none⟩) hbz.out _⟩
        rw [A.take_snoc x k hlt, A.seen_snoc, hB'.out]
        exact hr.out.marks.set B
      clear hr
      go_wp2
      go_roundw
      case rel => exact ⟨k + 1, by omega, by go_num, R⟩
      case measure => simp [intOf]; omega
    · obtain rfl : k = x.size := by omega
      have h1 : Hid (A.FrAt (fun c => A.seen X c || A.seen (y.data.toList.take 0) c) bu w wr) := by
        show A.FrAt _ _ _ _
        have := hr.out
        rw [List.take_of_length_le (by simp), hX.out] at this
        have e : (fun c => A.seen X c || A.seen (y.data.toList.take 0) c) = A.seen X := by funext c; simp [A.seen]
        rw [e]; exact this
      clear hr
      go_wp2
      go_loopw [10] (fun i wr => ∃ k : Nat, k ≤ y.size ∧ i = .int .i64 k ∧ Hid (A.FrAt (fun c => A.seen X c || A.seen (y.data.toList.take k) c) bu w wr)) (fun i _ => y.size - (intOf i).toNat)
      case atStart => exact ⟨0, Nat.zero_le _, rfl, h1⟩
      case round =>
        obtain ⟨k, hk, rfl, hr⟩ := hrel
        by_cases hlt : k < y.size
        · have hb8 : (y[k]).toNat < 256 := UInt8.toNat_lt _
          obtain ⟨B, hB⟩ : ∃ B : Nat, (y[k]).toNat = B := ⟨_, rfl⟩
          have hB' : Hid ((y[k]).toNat = B) := hB
          rw [hB] at hb8
          obtain ⟨c0, f0⟩ := hr.out.marks.cell (c := B) hb8
          have R : Hid (A.FrAt (fun c => A.seen X c || A.seen (y.data.toList.take (k + 1)) c) bu w (wr.setCell ⟨bu, B, none⟩ (.bool true))) := by
            refine ⟨?_, hr.out.below.setCell (p := ⟨bu, B, none⟩) hbz.out _⟩
            rw [A.take_snoc y k hlt, A.seen_snoc, hB'.out]
            have := hr.out.marks.set B
            simp only [Bool.or_assoc] at this
            exact this
          clear hr h1
          generalize hcb : (A.seen X B || A.seen (y.data.toList.take k) B) = cb at c0
          clear hcb
          go_wp2
          go_roundw
          case rel => exact ⟨k + 1, by omega, by go_num, R⟩
          case measure => simp [intOf]; omega
        · obtain rfl : k = y.size := by omega
          have h2 : Hid (A.FrAt (fun c => A.seen X c || A.seen Y c) bu w wr) := by
            show A.FrAt _ _ _ _
            have := hr.out
            rw [List.take_of_length_le (by simp), hY.out] at this
            exact this
          clear hr h1
          obtain ⟨W1, rfl⟩ : ∃ W1 : World, W1 = wr := ⟨_, rfl⟩
          obtain ⟨ib, hb, hb0, hb1, hb2⟩ := info_parts Try.infoByte
          have Hb := Lib.hid (And.intro hb (And.intro hb0 (And.intro hb1 hb2)))
          clear hb hb0 hb1 hb2
          go_wp2
          go_loopw [11, 12] (fun v cv wr => ∃ c : Nat, c ≤ 256 ∧ cv = .int .i64 c ∧ ((A.freshL X Y c).length : Int) ≤ n ∧ Hid (A.One (A.freshL X Y c) W1 v wr)) (fun _ cv _ => 256 - (intOf cv).toNat)
          case atStart => exact ⟨0, by omega, rfl, by simpa [A.freshL] using n0, ⟨World.ownsRow_nil _ _ _ _, Below.refl _ _⟩⟩
          case round =>
            obtain ⟨c, hc, rfl, hcn, hr⟩ := hrel
            obtain ⟨va, vc, rfl⟩ := D.slice_of_own hr.out.own
            have hfl := A.fresh_len X Y c
            have hst := Lib.hid (A.fresh_snoc X Y c)
            have hEnd : Hid (∀ bq : Bool, (bq = true → ((A.freshL X Y c).length : Int) = n) → A.FrEnd X Y n w (.returned (.tuple #[.string ⟨(A.freshL X Y c).toArray⟩, .bool bq])) wr) := fun bq hq =>
              ⟨_, bq, rfl, hq, A.fresh_nodup X Y c hc, (A.fresh_not X Y c hc).1, (A.fresh_not X Y c hc).2, by omega, h2.out.below.trans (hr.out.below.mono h2.out.below.size)⟩
            have hconv := A.to_string hr.out.own wr (fun _ => rfl)
            obtain ⟨F, hF⟩ : ∃ F, Hid (A.freshL X Y c = F) := ⟨_, rfl⟩
            rw [hF.out] at hcn hr hfl hst hEnd hconv ⊢
            by_cases hlt : c < 256
            · have g1 : (c : Int) < 256 := by omega
              by_cases hln : (F.length : Int) < n
              · have hmk := (h2.out.marks.cell hlt).1
                have hbl : bu < W1.heap.size := by
                  obtain ⟨cs, h, _⟩ := h2.out.marks
                  exact (Array.getElem?_eq_some_iff.1 h).1
                have c0 := ((D.bcell hr.out.below).1 bu c hbl).trans hmk
                clear hmk
                have hw8 : IntKind.u8.wrap (c : Int) = (c : Int) := IntWalk.u8_in _ (by omega)
                have hc8 : (UInt8.ofNat c).toNat = c := by rw [UInt8.toNat_ofNat', Nat.mod_eq_of_lt (by omega)]
                cases hfr : A.free X Y c with
                | true =>
                  have hsx : (A.seen X c || A.seen Y c) = false := by unfold A.free at hfr; simpa using hfr
                  rw [hsx] at c0
                  have hst : Hid (A.freshL X Y (c + 1) = F ++ [UInt8.ofNat c]) := by show _ = _; rw [hst.out, hfr]; rfl
                  clear hfr hsx hconv hEnd
                  go_wp2_with (at_builtin; refine wpList_append_own _ rfl _ _ 56 rfl W1.heap.size 5 ib (.int .u8 0) 1 1 Try.underlying56 Hb.out.1 Hb.out.2.1 Hb.out.2.2.1 Hb.out.2.2.2 rfl (by decide) _ _ _ rfl (hr.out.own.alloc _) ⟨wr.heap.size, 0, none⟩ 1 1 [.int .u8 (c : Int)] rfl rfl ?a1 ?a2 ?a3 ?a4 ?a5 ?_)
                  case a1 => exact D.news wr _ _
                  case a2 => intro u hu; simp at hu; subst hu; rfl
                  case a3 => unfold maxLen; omega
                  case a4 => omega
                  case a5 => have := hr.out.below.size; (try simp only [World.size_alloc]); omega
                  intro v' w3 hown' hgrow _
                  have R : Hid (A.One (A.freshL X Y (c + 1)) W1 v' w3) := by
                    refine ⟨?_, (hr.out.below.alloc hr.out.below.size _).grown hgrow (by have := hr.out.below.size; simp only [World.size_alloc]; omega) (fun k e => (hr.out.own.lt k e).1)⟩
                    rw [hst.out, D.bytesL_append, List.length_append]
                    have e8 : D.bytesL [UInt8.ofNat c] = [.int .u8 (c : Int)] := by unfold D.bytesL; simp only [List.map_cons, List.map_nil, hc8]
                    rw [e8]
                    exact hown'
                  have hl' : ((A.freshL X Y (c + 1)).length : Int) ≤ n := by rw [hst.out, List.length_append]; simp; omega
                  clear hown' hgrow
                  go_wp2
                  go_roundw
                  case rel => exact ⟨c + 1, by omega, by go_num, hl', R⟩
                  case measure => simp [intOf]; omega
                | false =>
                  have hsx : (A.seen X c || A.seen Y c) = true := by
                    unfold A.free at hfr
                    cases hsv : (A.seen X c || A.seen Y c) with
                    | true => rfl
                    | false => rw [hsv] at hfr; cases hfr
                  rw [hsx] at c0
                  have hst : Hid (A.freshL X Y (c + 1) = F) := by show _ = _; rw [hst.out, hfr]; simp
                  have R : Hid (A.One (A.freshL X Y (c + 1)) W1 (.slice va F.length vc) wr) := by show A.One _ _ _ _; rw [hst.out]; exact hr.out
                  have hl' : ((A.freshL X Y (c + 1)).length : Int) ≤ n := by rw [hst.out]; exact hcn
                  clear hfr hsx hconv hEnd
                  go_wp2
                  go_roundw
                  case rel => exact ⟨c + 1, by omega, by go_num, hl', R⟩
                  case measure => simp [intOf]; omega
              · have heq : (F.length : Int) = n := by omega
                have hq : ((F.length : Int) == n) = true := by simpa using heq
                have R := Lib.hid (hEnd.out true (fun _ => heq))
                clear hEnd hr hst h2 heq
                go_wp2
                go_ret2
                exact R.out
            · obtain rfl : c = 256 := by omega
              by_cases heq : (F.length : Int) = n
              · have hq : ((F.length : Int) == n) = true := by simpa using heq
                have R := Lib.hid (hEnd.out true (fun _ => heq))
                clear hEnd hr hst h2 heq
                go_wp2
                go_ret2
                exact R.out
              · have hq : ((F.length : Int) == n) = false := by simpa using heq
                have R := Lib.hid (hEnd.out false (fun e => by cases e))
                clear hEnd hr hst h2 heq
                go_wp2
                go_ret2
                exact R.out
end Go.Proofs.Ytdpjnhmnmpmkmaa
