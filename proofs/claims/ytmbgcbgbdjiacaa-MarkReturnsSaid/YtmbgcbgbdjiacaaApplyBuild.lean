/- The contract of apply's builder: it goes through the pieces and hands each part to a function value. Said over function values of which each step is known. -/
import Derived.Test.YtmbgcbgbdjiacaaApplyBld
import Derived.Test.YtmbgcbgbdjiacaaDeltaLen
import Derived.StillTailTactics
import Derived.Deep.DeepCutAuto
namespace Go.Proofs.Ytmbgcbgbdjiacaa
open Go.RowKit

def A.Enters (gf : Nat) : Prop := ∀ args w, (callFunc gf args).run Try.prog w = .ok (.enter gf args) w
set_option maxRecDepth 100000 in
theorem A.slice_to (t : ByteArray) (n : Nat) (h : n ≤ t.size) (w : World) : (Instr.slice 9 (.string t) none (some (.int .i64 (n : Int))) none).run Try.prog w = .ok (.string (t.extract 0 n)) w :=
  run_slice_string_h w 9 t Try.underlying9 .i64 (n : Int) (by omega) (by omega)
/-- What a step of the builder does: the state goes on, and only what belongs to it changes. -/
def A.Step (I : Nat → World → Prop) (R : World → Nat → Prop) (k : Nat) (W : World) (e : Ending) (w' : World) : Prop :=
  e = .returned (.tuple #[]) ∧ I (k + 1) w' ∧ W.heap.size ≤ w'.heap.size ∧ ∀ j, j < W.heap.size → ¬ R W j → w'.heap[j]? = W.heap[j]? ∧ ¬ R w' j
/-- Three function values, and a state that they carry on. -/
structure A.Acc (w : World) (S : List UInt8) (a : List D.Q) (gk gi gr : Nat) (lk li lr : Array Value) (I : Nat → World → Prop) (R : World → Nat → Prop) : Prop where
  below : ∀ k W, I k W → Below w.heap.size w W
  on : ∀ k W W', I k W → Below W.heap.size W W' → I k W' ∧ ∀ j, j < W.heap.size → ¬ R W j → ¬ R W' j
  new : ∀ k W c T, I k W → (T = 53 ∨ T = 79) → ¬ R (W.alloc (.cells c T)) W.heap.size
  ek : A.Enters gk
  ei : A.Enters gi
  er : A.Enters gr
  stepR : ∀ k n (x : ByteArray) W, a[k]? = some (.R n) → x.data.toList = D.part S a k (.R n) → I k W → Calls Try.prog gk (#[.string x] ++ lk) W (A.Step I R k W)
  stepI : ∀ k (t : List UInt8) W, a[k]? = some (.I t) → I k W → Calls Try.prog gi (#[.string ⟨t.toArray⟩] ++ li) W (A.Step I R k W)
  stepD : ∀ k n (x : ByteArray) W, a[k]? = some (.D n) → x.data.toList = D.part S a k (.D n) → I k W → Calls Try.prog gr (#[.string x] ++ lr) W (A.Step I R k W)
/-- Between two pieces: the state, and the box of the builder beside it. -/
structure A.At (I : Nat → World → Prop) (R : World → Nat → Prop) (bx : Nat) (cs : Array Value) (k : Nat) (wr : World) : Prop where
  inv : I k wr
  box : wr.heap[bx]? = some (.cells cs 79 (0, 0))
  out : ¬ R wr bx
set_option maxRecDepth 100000 in
theorem A.At.lt {I : Nat → World → Prop} {R : World → Nat → Prop} {bx : Nat} {cs : Array Value} {k : Nat} {wr : World} (h : A.At I R bx cs k wr) : bx < wr.heap.size := (Array.getElem?_eq_some_iff.1 h.box).1
set_option maxRecDepth 100000 in
theorem A.At.cell {I : Nat → World → Prop} {R : World → Nat → Prop} {bx : Nat} {cs : Array Value} {k : Nat} {wr : World} (h : A.At I R bx cs k wr) (j : Nat) : wr.cell? ⟨bx, j, none⟩ = cs[j]? := Lib.cell_of_heap h.box j
set_option maxRecDepth 100000 in
theorem A.At.on {w : World} {S : List UInt8} {a : List D.Q} {gk gi gr : Nat} {lk li lr : Array Value} {I : Nat → World → Prop} {R : World → Nat → Prop} {bx : Nat} {cs : Array Value} {k : Nat} {wr w' : World} (X : A.Acc w S a gk gi gr lk li lr I R) (h : A.At I R bx cs k wr) (hb : Below wr.heap.size wr w') : A.At I R bx cs k w' :=
  ⟨(X.on k wr w' h.inv hb).1, (hb.block bx h.lt).trans h.box, (X.on k wr w' h.inv hb).2 bx h.lt h.out⟩
set_option maxRecDepth 100000 in
theorem A.At.step {I : Nat → World → Prop} {R : World → Nat → Prop} {bx : Nat} {cs : Array Value} {k : Nat} {wr w' : World} {e : Ending} (h : A.At I R bx cs k wr) (hs : A.Step I R k wr e w') : A.At I R bx cs (k + 1) w' :=
  ⟨hs.2.1, (hs.2.2.2 bx h.lt h.out).1.trans h.box, (hs.2.2.2 bx h.lt h.out).2⟩
set_option maxRecDepth 100000 in
theorem A.extract_end (t : ByteArray) (n : Nat) (h : n ≤ t.size) : (t.extract n t.size).data.toList = t.data.toList.drop n := by
  have hl : t.data.toList.length = t.size := by simp
  have e := D.part_bytes t n (t.size - n)
  rw [show n + (t.size - n) = t.size by omega, List.take_of_length_le (by rw [List.length_drop]; omega)] at e
  exact e
/-- A region that reads and then calls: its head in the order of the text, in a world with a name of its own. -/
theorem A.still_tail {id : Nat} {Q : Exit → Act → World → Prop} {a : Act} {w : World} {l : List Oper} (n : Nat) (hm : Try.prog.follows .mixedOrders = true) (hB : Region.lexTailB .any l.toArray n = true) (W2 : World) (hW : W2 = w.drew)
    (h : wpStill Try.prog l.toArray W2 (fun a' => wpList Try.prog l.toArray Q (l.drop n) a' W2) (l.take n) a) : (Code.region id l.toArray true).wp Try.prog Q a w := by
  subst hW
  exact wp_region_still_tail n hm hB h
/-- Behind the box of a piece: the state stands, and the box is none of it. -/
theorem A.At.boxed {w : World} {S : List UInt8} {a : List D.Q} {gk gi gr : Nat} {lk li lr : Array Value} {I : Nat → World → Prop} {R : World → Nat → Prop} {bx : Nat} {cs : Array Value} {k : Nat} {wr : World} (X : A.Acc w S a gk gi gr lk li lr I R) (h : A.At I R bx cs k wr) (c : Array Value) (W2 : World) (hW : W2 = wr.alloc (.cells c 53) ∨ W2 = (wr.alloc (.cells c 53)).drew) :
    A.At I R bx cs k W2 ∧ ¬ R W2 wr.heap.size ∧ W2.heap[wr.heap.size]? = some (.cells c 53 (0, 0)) := by
  have h1 : A.At I R bx cs k (wr.alloc (.cells c 53)) := h.on X ((Below.refl _ _).alloc (Nat.le_refl _) _)
  have h2 : ¬ R (wr.alloc (.cells c 53)) wr.heap.size := X.new k wr c _ h.inv (.inl rfl)
  rcases hW with rfl | rfl
  · exact ⟨h1, h2, heap_alloc_new wr _⟩
  · have hb : Below (wr.alloc (.cells c 53)).heap.size (wr.alloc (.cells c 53)) (wr.alloc (.cells c 53)).drew := (Below.refl _ _).drew
    exact ⟨h1.on X hb, (X.on k _ _ h1.inv hb).2 _ (by simp) h2, heap_alloc_new wr _⟩
/-- What a step leaves of the box of a piece. -/
theorem A.Step.box {I : Nat → World → Prop} {R : World → Nat → Prop} {k j : Nat} {W w' : World} {e : Ending} {c : Array Value} {T : TypeId} (hs : A.Step I R k W e w') (ho : ¬ R W j) (h : W.heap[j]? = some (.cells c T (0, 0))) : ∀ i, w'.cell? ⟨j, i, none⟩ = c[i]? := fun i =>
  Lib.cell_of_heap ((hs.2.2.2 j (Array.getElem?_eq_some_iff.1 h).1 ho).1.trans h) i
def A.BuildEnd (I : Nat → World → Prop) (S : List UInt8) (l : List D.P) (e : Ending) (w' : World) : Prop := e = .returned (.int .i64 (D.fitE S l)) ∧ I (if D.fitE S l = 0 then l.length else 0) w'
set_option maxRecDepth 100000 in
set_option maxHeartbeats 4000000 in
theorem build_any (s : ByteArray) (ao : Option Addr) (cap : Nat) (l : List D.P) (w V : World) (gk gi gr : Nat) (lk li lr : Array Value) (I : Nat → World → Prop) (R : World → Nat → Prop) (_hs : s.size ≤ 140737488351232) (hn : l.length ≤ maxLen) (hr : D.Row w ao l) (ht : ∀ p ∈ l, p.t.size ≤ 140737488351232)
    (a0 : List D.Q) (ha : D.fitE s.data.toList l = 0 → a0 = D.qs l) (X : A.Acc w s.data.toList a0 gk gi gr lk li lr I R) (hI : I 0 V) :
    Calls Try.prog 53 #[.agg #[.func (.func gk) #[] lk, .func (.func gi) #[] li, .func (.func gr) #[] lr], .string s, .slice ao l.length cap] V (A.BuildEnd I s.data.toList l) := by
  have hsl : s.data.toList.length = s.size := by simp
  have hV1 : A.At I R V.heap.size #[.func (.func gk) #[] lk, .func (.func gi) #[] li, .func (.func gr) #[] lr] 0 (V.alloc (.cells #[.func (.func gk) #[] lk, .func (.func gi) #[] li, .func (.func gr) #[] lr] 79)) :=
    ⟨(X.on 0 V _ hI ((Below.refl _ _).alloc (Nat.le_refl _) _)).1, heap_alloc_new V _, X.new 0 V _ _ hI (.inr rfl)⟩
  have HL : Hid (∀ W, Below w.heap.size w W → Calls Try.prog 28 #[.slice ao l.length cap] W (D.LenEnd l W)) := fun W hb => lengths_any ao cap l W hn (hr.below hb) ht
  unfold D.LenEnd at HL
  obtain ⟨bx, hbx⟩ : ∃ bx, Hid (V.heap.size = bx) := ⟨_, rfl⟩
  have hV1 := Lib.hid hV1
  by_cases h0 : D.chk l = 0
  · rw [h0] at HL
    have hlenI : D.lenI l = D.inP l := if_pos h0
    rw [hlenI] at HL
    by_cases hi : D.inP l = s.size
    · have hf : D.fitE s.data.toList l = 0 := by unfold D.fitE; rw [if_pos h0, if_pos (by omega)]
      obtain rfl := ha hf
      have RR : Hid (∀ w', I l.length w' → A.BuildEnd I s.data.toList l (.returned (.int .i64 0)) w') := fun w' h => ⟨by rw [hf], by rw [if_pos hf]; exact h⟩
      rw [hi] at HL
      have hq : (((s.size : Nat) : Int) != (s.size : Int)) = false := by simp
      obtain ⟨hraw, pa, hl, hle, hiL, hoL⟩ := D.valid_qs h0
      obtain ⟨_, hin⟩ := D.fitE_zero hf
      rw [← hraw] at hr
      rw [← hl] at HL RR ⊢
      rw [← hl] at hle
      generalize D.lenO l = o at HL
      generalize D.qs l = a at hr hl hiL hoL hin X HL RR hle ⊢
      obtain ⟨S, hS⟩ : ∃ S, Hid (s.data.toList = S) := ⟨_, rfl⟩
      rw [hS.out] at X hin hsl
      have hSl := Lib.hid hsl
      have Hr := Lib.hid hr
      have HX := Lib.hid X
      clear hi hlenI h0 hsl hf hr ht hn hI hraw hl pa ha
      go_enter Try.func53, Try.ntmps53
      go_wp2_with fail
      change Calls _ _ _ (V.alloc (.cells #[.func (.func gk) #[] lk, .func (.func gi) #[] li, .func (.func gr) #[] lr] 79)) _
      refine (HL.out _ (X.below 0 _ hV1.out.inv)).mono ?_
      rintro e w1 ⟨rfl, hb⟩
      rw [hbx.out] at hV1
      have hA1 : Hid (A.At I R bx #[.func (.func gk) #[] lk, .func (.func gi) #[] li, .func (.func gr) #[] lr] 0 w1) := hV1.out.on X hb
      clear hb hV1 X
      go_wp2
      rw [hbx.out]
      go_loopw [1, 27] (fun u i wr => ∃ (k : Nat) (cur : ByteArray), k ≤ a.length ∧ i = .int .i64 k ∧ u = .string cur ∧ Hid (cur.data.toList = S.drop (D.inL (a.take k))) ∧ Hid (A.At I R bx #[.func (.func gk) #[] lk, .func (.func gi) #[] li, .func (.func gr) #[] lr] k wr)) (fun _ i _ => a.length - (intOf i).toNat)
      case atStart => exact ⟨0, s, Nat.zero_le _, rfl, rfl, by show _ = _; rw [hS.out]; rfl, hA1⟩
      case round =>
        obtain ⟨k, cur, hk, rfl, rfl, hcur, hx⟩ := hrel
        by_cases hlt : k < a.length
        · obtain ⟨q, hq⟩ : ∃ q, a[k]? = some q := ⟨a[k], List.getElem?_eq_getElem hlt⟩
          obtain ⟨i1', i2⟩ := D.inL_take_le a k q hq
          have hSl' := hSl.out
          have hz : cur.size = s.size - D.inL (a.take k) := by
            have h1 : cur.data.toList.length = cur.size := by simp
            rw [← h1, hcur.out, List.length_drop, hSl.out]
          obtain ⟨b, oo, e, hbl, hcell⟩ := Hr.out k (D.raw q) (by rw [List.getElem?_map, hq]; rfl)
          subst e
          have hbw := HX.out.below k wr hx.out.inv
          obtain ⟨c0, c1, c2⟩ := D.cell3 hbw hbl hcell
          have ek := HX.out.ek
          have ei := HX.out.ei
          have er := HX.out.er
          unfold A.Enters at ek ei er
          cases q with
          | R n =>
            simp only [D.in1] at i1' i2
            unfold D.raw at c0 c1 c2
            have hsl := A.slice_to cur n (by omega)
            have hsl2 : n ≤ cur.size := by omega
            obtain ⟨W2, hW2⟩ : ∃ W2, Hid (W2 = (wr.alloc (.cells #[.int .u8 1, .int .i64 n, .string ⟨#[]⟩] 53)).drew) := ⟨_, rfl⟩
            obtain ⟨y1, y2, y3⟩ := hx.out.boxed HX.out _ W2 (.inr hW2.out)
            have d1 : W2.cell? ⟨wr.heap.size, 1, none⟩ = some (.int .i64 n) := Lib.cell_of_heap y3 1
            have b0 : W2.cell? ⟨bx, 0, none⟩ = some (.func (.func gk) #[] lk) := y1.cell 0
            have hcx : (cur.extract 0 n).data.toList = D.part S a k (.R n) := by
              have e := D.part_bytes cur 0 n
              rw [Nat.zero_add, List.drop_zero, hcur.out] at e
              exact e
            have HS := Lib.hid (HX.out.stepR k n (cur.extract 0 n) W2 hq hcx y1.inv)
            have Y := Lib.hid (And.intro y1 (And.intro y2 y3))
            have hnx : Hid ((cur.extract n cur.size).data.toList = S.drop (D.inL (a.take (k + 1)))) := by
              show _ = _
              rw [A.extract_end cur n hsl2, hcur.out, List.drop_drop, i1']
            have i1 := Lib.hid i1'
            clear i1' hcx y1 y2 y3 hq hz
            go_wp2_with fail
            refine A.still_tail 6 (by kernel_rfl) (by kernel_rfl) W2 hW2.out ?_
            simp only [List.take_succ_cons, List.take_zero, List.drop_succ_cons, List.drop_zero]
            repeat still_step
            refine wpStill_nil ?_
            go_wp2_with fail
            refine HS.out.mono ?_
            rintro e w3 hst
            have hx2 := Lib.hid (Y.out.1.step hst)
            have d1 := hst.box Y.out.2.1 Y.out.2.2 1
            obtain rfl := hst.1
            clear hst
            go_wp2
            go_roundw
            case rel => exact ⟨k + 1, cur.extract n cur.size, by omega, by go_num, rfl, hnx, hx2⟩
            case measure => simp [intOf]; omega
          | I t =>
            have hin1 : D.in1 (.I t) = 0 := rfl
            rw [hin1] at i1' i2
            unfold D.raw at c0 c1 c2
            obtain ⟨W2, hW2⟩ : ∃ W2, Hid (W2 = wr.alloc (.cells #[.int .u8 2, .int .i64 0, .string ⟨t.toArray⟩] 53)) := ⟨_, rfl⟩
            obtain ⟨y1, y2, y3⟩ := hx.out.boxed HX.out _ W2 (.inl hW2.out)
            have b1 : (wr.alloc (.cells #[.int .u8 2, .int .i64 0, .string ⟨t.toArray⟩] 53)).cell? ⟨bx, 1, none⟩ = some (.func (.func gi) #[] li) := by rw [← hW2.out]; exact y1.cell 1
            have HS : Hid (Calls Try.prog gi (#[.string ⟨t.toArray⟩] ++ li) (wr.alloc (.cells #[.int .u8 2, .int .i64 0, .string ⟨t.toArray⟩] 53)) (A.Step I R k W2)) := by
              show Calls _ _ _ _ _
              rw [← hW2.out]
              exact HX.out.stepI k t W2 hq y1.inv
            have Y := Lib.hid (And.intro y1 (And.intro y2 y3))
            have hnx : Hid (cur.data.toList = S.drop (D.inL (a.take (k + 1)))) := by
              show _ = _
              rw [hcur.out, i1', Nat.add_zero]
            clear i1' y1 y2 y3 hq hz hin1
            go_wp2_with fail
            refine HS.out.mono ?_
            rintro e w3 hst
            have hx2 := Lib.hid (Y.out.1.step hst)
            have d1 := hst.box Y.out.2.1 Y.out.2.2 1
            obtain rfl := hst.1
            clear hst b1
            go_wp2
            go_roundw
            case rel => exact ⟨k + 1, cur, by omega, by go_num, rfl, hnx, hx2⟩
            case measure => simp [intOf]; omega
          | D n =>
            simp only [D.in1] at i1' i2
            unfold D.raw at c0 c1 c2
            have hsl := A.slice_to cur n (by omega)
            have hsl2 : n ≤ cur.size := by omega
            obtain ⟨W2, hW2⟩ : ∃ W2, Hid (W2 = (wr.alloc (.cells #[.int .u8 3, .int .i64 n, .string ⟨#[]⟩] 53)).drew) := ⟨_, rfl⟩
            obtain ⟨y1, y2, y3⟩ := hx.out.boxed HX.out _ W2 (.inr hW2.out)
            have d1 : W2.cell? ⟨wr.heap.size, 1, none⟩ = some (.int .i64 n) := Lib.cell_of_heap y3 1
            have b0 : W2.cell? ⟨bx, 2, none⟩ = some (.func (.func gr) #[] lr) := y1.cell 2
            have hcx : (cur.extract 0 n).data.toList = D.part S a k (.D n) := by
              have e := D.part_bytes cur 0 n
              rw [Nat.zero_add, List.drop_zero, hcur.out] at e
              exact e
            have HS := Lib.hid (HX.out.stepD k n (cur.extract 0 n) W2 hq hcx y1.inv)
            have Y := Lib.hid (And.intro y1 (And.intro y2 y3))
            have hnx : Hid ((cur.extract n cur.size).data.toList = S.drop (D.inL (a.take (k + 1)))) := by
              show _ = _
              rw [A.extract_end cur n hsl2, hcur.out, List.drop_drop, i1']
            have i1 := Lib.hid i1'
            clear i1' hcx y1 y2 y3 hq hz
            go_wp2_with fail
            refine A.still_tail 6 (by kernel_rfl) (by kernel_rfl) W2 hW2.out ?_
            simp only [List.take_succ_cons, List.take_zero, List.drop_succ_cons, List.drop_zero]
            repeat still_step
            refine wpStill_nil ?_
            go_wp2_with fail
            refine HS.out.mono ?_
            rintro e w3 hst
            have hx2 := Lib.hid (Y.out.1.step hst)
            have d1 := hst.box Y.out.2.1 Y.out.2.2 1
            obtain rfl := hst.1
            clear hst
            go_wp2
            go_roundw
            case rel => exact ⟨k + 1, cur.extract n cur.size, by omega, by go_num, rfl, hnx, hx2⟩
            case measure => simp [intOf]; omega
        · obtain rfl : k = a.length := by omega
          have R2 := Lib.hid (RR.out wr hx.out.inv)
          go_wp2
          go_ret
          exact R2.out
    · have hf : D.fitE s.data.toList l = 21 := by unfold D.fitE; rw [if_pos h0, if_neg (by omega)]
      have RR : Hid (∀ w', I 0 w' → A.BuildEnd I s.data.toList l (.returned (.int .i64 21)) w') := fun w' h => ⟨by rw [hf], by rw [hf]; exact h⟩
      have hq : (D.inP l != (s.size : Int)) = true := by simpa using hi
      generalize D.inP l = i at HL hq
      generalize D.lenO l = o at HL
      have HB := Lib.hid X.below
      have HO := Lib.hid X.on
      clear hi hlenI h0 hsl hf hr ht hn X hI
      go_enter Try.func53, Try.ntmps53
      go_wp2_with fail
      change Calls _ _ _ (V.alloc (.cells #[.func (.func gk) #[] lk, .func (.func gi) #[] li, .func (.func gr) #[] lr] 79)) _
      refine (HL.out _ (HB.out 0 _ hV1.out.inv)).mono ?_
      rintro e w1 ⟨rfl, hb⟩
      have R2 := Lib.hid (RR.out w1 (HO.out 0 _ _ hV1.out.inv hb).1)
      clear hb
      go_wp2
      go_ret
      exact R2.out
  · have hf : D.fitE s.data.toList l = D.chk l := by unfold D.fitE; rw [if_neg h0]
    have RR : Hid (∀ w', I 0 w' → A.BuildEnd I s.data.toList l (.returned (.int .i64 (D.chk l))) w') := fun w' h => ⟨by rw [hf], by rw [hf, if_neg h0]; exact h⟩
    have hq : (D.chk l != 0) = true := by simpa using h0
    generalize D.chk l = c at HL hq RR
    generalize D.lenI l = i at HL
    generalize D.lenO l = o at HL
    have HB := Lib.hid X.below
    have HO := Lib.hid X.on
    clear hsl hf hr ht hn X hI h0
    go_enter Try.func53, Try.ntmps53
    go_wp2_with fail
    change Calls _ _ _ (V.alloc (.cells #[.func (.func gk) #[] lk, .func (.func gi) #[] li, .func (.func gr) #[] lr] 79)) _
    refine (HL.out _ (HB.out 0 _ hV1.out.inv)).mono ?_
    rintro e w1 ⟨rfl, hb⟩
    have R2 := Lib.hid (RR.out w1 (HO.out 0 _ _ hV1.out.inv hb).1)
    clear hb
    go_wp2
    go_ret
    exact R2.out
end Go.Proofs.Ytmbgcbgbdjiacaa
