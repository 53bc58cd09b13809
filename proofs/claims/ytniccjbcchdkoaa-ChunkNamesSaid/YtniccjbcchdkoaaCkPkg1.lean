/- The contracts of package chunk: groups and its function literal, Even, Chunks. -/
import Derived.Test.YtniccjbcchdkoaaChunkMath2
import Derived.Test.YtniccjbcchdkoaaPackDTab
import Derived.IntWalk
import Derived.Deep.QuietTactic
import Derived.BigQuiet
namespace Go.Proofs.Ytniccjbcchdkoaa
open Go.RowKit

theorem Try.infoInt14 : (Try.prog.info? 3).map (fun i => (i.zero, i.size, i.bytes)) = some (some (.int .i64 0), 1, 8) := by kernel_rfl
theorem Try.infoStr14 : (Try.prog.info? 9).map (fun i => (i.zero, i.size, i.bytes)) = some (some (.string ⟨#[]⟩), 1, 16) := by kernel_rfl
/-- Rows of numbers, and of texts. -/
def Ck.ints (l : List Nat) : List Value := l.map fun (x : Nat) => .int .i64 (x : Int)
def Ck.strs (l : List (List UInt8)) : List Value := l.map V.str
theorem Ck.ints_len (l : List Nat) : (Ck.ints l).length = l.length := List.length_map _
theorem Ck.strs_len (l : List (List UInt8)) : (Ck.strs l).length = l.length := List.length_map _
theorem Ck.ints_at {l : List Nat} {i x : Nat} (h : l[i]? = some x) : (Ck.ints l)[i]? = some (.int .i64 (x : Int)) := by unfold Ck.ints; rw [List.getElem?_map, h]; rfl
theorem Ck.strs_at {l : List (List UInt8)} {i : Nat} {x : List UInt8} (h : l[i]? = some x) : (Ck.strs l)[i]? = some (V.str x) := by unfold Ck.strs; rw [List.getElem?_map, h]; rfl
theorem Ck.tdiv (n m : Nat) : (n : Int).tdiv (m : Int) = ((n / m : Nat) : Int) := by rw [Int.tdiv_eq_ediv_of_nonneg (by omega), Int.natCast_ediv]
theorem Ck.tmod (n m : Nat) : (n : Int).tmod (m : Int) = ((n % m : Nat) : Int) := by rw [Int.tmod_eq_emod_of_nonneg (by omega), Int.natCast_emod]
/-- What groups leaves: two boxes, that of the number of elements and that of the number of groups. -/
structure Ck.Gr (w : World) (p q n c : Nat) (W : World) : Prop where
  below : Below w.heap.size w W
  pl : p < W.heap.size
  ql : q < W.heap.size
  pc : W.cell? ⟨p, 0, none⟩ = some (.int .i64 (n : Int))
  qc : W.cell? ⟨q, 0, none⟩ = some (.int .i64 (c : Int))
theorem Ck.Gr.on {w W W' : World} {p q n c : Nat} (h : Ck.Gr w p q n c W) (hb : Below W.heap.size W W') : Ck.Gr w p q n c W' :=
  ⟨h.below.trans (hb.mono h.below.size), Nat.lt_of_lt_of_le h.pl hb.size, Nat.lt_of_lt_of_le h.ql hb.size, ((D.bcell hb).1 _ _ h.pl).trans h.pc, ((D.bcell hb).1 _ _ h.ql).trans h.qc⟩
theorem Ck.gr_new (w : World) (n c : Nat) : Ck.Gr w w.heap.size (w.heap.size + 1) n c ((w.alloc (.cells #[.int .i64 (n : Int)] 3)).alloc (.cells #[.int .i64 (c : Int)] 3)) := by
  have b1 : Below w.heap.size w (w.alloc (.cells #[.int .i64 (n : Int)] 3)) := (Below.refl _ _).alloc (Nat.le_refl _) _
  refine ⟨b1.alloc b1.size _, by simp; omega, by simp, ?_, ?_⟩
  · rw [Lib.cell_of_heap ((Lib.alloc_old _ _ w.heap.size (by simp)).trans (heap_alloc_new w _))]; rfl
  · have := heap_alloc_new (w.alloc (.cells #[.int .i64 (n : Int)] 3)) (.cells #[.int .i64 (c : Int)] 3)
    rw [show (w.alloc (.cells #[.int .i64 (n : Int)] 3)).heap.size = w.heap.size + 1 by simp] at this
    rw [Lib.cell_of_heap this]; rfl
def Ck.fn (p q : Nat) : Value := .func (.func 88) #[] #[.pointer (some ⟨p, 0, none⟩), .pointer (some ⟨q, 0, none⟩)]
set_option maxHeartbeats 1000000 in
theorem groups14_any (n m : Nat) (w : World) (hn : n ≤ 9223372036854775807) (h1 : 1 ≤ m) (hm : m ≤ 9223372036854775807) :
    Calls Try.prog 63 #[.int .i64 (n : Int), .int .i64 (m : Int)] w fun e w' => ∃ p q, e = .returned (.tuple #[.int .i64 (C14.cnt n m : Nat), Ck.fn p q]) ∧ Ck.Gr w p q n (C14.cnt n m) w' := by
  have G := fun c => Lib.hid (Ck.gr_new w n c)
  have hq := Ck.tdiv n m
  have hr := Ck.tmod n m
  have hc : C14.cnt n m = n / m + (if 0 < n % m then 1 else 0) := rfl
  have hql : n / m ≤ n := Nat.div_le_self _ _
  have hrl : n % m < m := Nat.mod_lt _ h1
  have hqr : 0 < n % m → n / m < 9223372036854775807 := fun h => by
    have e := Nat.div_add_mod n m
    rcases Nat.eq_or_lt_of_le h1 with rfl | h2
    · rw [Nat.mod_one] at h; omega
    · have : n / m ≤ n / 2 := Nat.div_le_div_left h2 (by omega)
      have : n / 2 < 9223372036854775807 := by omega
      omega
  have hm0 : ((m : Int) == 0) = false := by simp; omega
  generalize C14.cnt n m = c at hc ⊢
  generalize n / m = Q at *
  generalize n % m = R at *
  have w1 : IntKind.i64.wrap (Q : Int) = (Q : Int) := IntWalk.i64_in _ (by omega)
  have w2 : IntKind.i64.wrap (R : Int) = (R : Int) := IntWalk.i64_in _ (by omega)
  unfold Ck.fn
  by_cases h : 0 < R
  · rw [if_pos h] at hc
    have w3 : IntKind.i64.wrap ((Q : Int) + 1) = (Q : Int) + 1 := IntWalk.i64_in _ (by have := hqr h; omega)
    have w4 : (Q : Int) + 1 = (c : Int) := by omega
    have w5 : wrap64 (c : Int) = (c : Int) := IntWalk.wrap64_in _ (by have := hqr h; omega)
    have h' : (0 : Int) < (R : Int) := by omega
    have K := G c
    clear hqr hc hql hrl
    go_enter Try.func63, Try.ntmps63
    go_wp2
    go_ret2
    exact ⟨_, _, rfl, K.out⟩
  · rw [if_neg h] at hc
    obtain rfl : c = Q := hc
    have h' : ¬ (0 : Int) < (R : Int) := by omega
    have K := G c
    clear hqr hql hrl
    go_enter Try.func63, Try.ntmps63
    go_wp2
    go_ret2
    exact ⟨_, _, rfl, K.out⟩
set_option maxHeartbeats 1000000 in
theorem size14_any (p q n c i : Nat) (W : World) (hn : n ≤ 9223372036854775807) (h1 : 1 ≤ c) (hc : c ≤ 9223372036854775807) (hp : W.cell? ⟨p, 0, none⟩ = some (.int .i64 (n : Int))) (hq : W.cell? ⟨q, 0, none⟩ = some (.int .i64 (c : Int))) :
    Calls Try.prog 88 #[.int .i64 (i : Int), .pointer (some ⟨p, 0, none⟩), .pointer (some ⟨q, 0, none⟩)] W fun e w' => e = .returned (.int .i64 (C14.size n c i : Nat)) ∧ W = w' := by
  have hd := Ck.tdiv n c
  have hr := Ck.tmod n c
  have hs : C14.size n c i = n / c + (if i < n % c then 1 else 0) := rfl
  have hql : n / c ≤ n := Nat.div_le_self _ _
  have hrl : n % c < c := Nat.mod_lt _ h1
  have hqr : 0 < n % c → n / c < 9223372036854775807 := fun h => by
    rcases Nat.eq_or_lt_of_le h1 with rfl | h2
    · rw [Nat.mod_one] at h; omega
    · have : n / c ≤ n / 2 := Nat.div_le_div_left h2 (by omega)
      have : n / 2 < 9223372036854775807 := by omega
      omega
  have hm0 : ((c : Int) == 0) = false := by simp; omega
  generalize C14.size n c i = z at hs ⊢
  generalize n / c = Q at *
  generalize n % c = R at *
  have w1 : IntKind.i64.wrap (Q : Int) = (Q : Int) := IntWalk.i64_in _ (by omega)
  have w2 : IntKind.i64.wrap (R : Int) = (R : Int) := IntWalk.i64_in _ (by omega)
  by_cases h : i < R
  · rw [if_pos h] at hs
    have w4 : (Q : Int) + 1 = (z : Int) := by omega
    have w5 : wrap64 (z : Int) = (z : Int) := IntWalk.wrap64_in _ (by have := hqr (by omega); omega)
    have h' : (i : Int) < (R : Int) := by omega
    clear hqr hs hql hrl
    go_enter Try.func88, Try.ntmps88
    go_wp2
    go_ret
    exact ⟨by show Ending.returned (.int .i64 (wrap64 (z : Int))) = _; rw [w5], rfl⟩
  · rw [if_neg h] at hs
    obtain rfl : z = Q := hs
    have h' : ¬ (i : Int) < (R : Int) := by omega
    clear hqr hql hrl
    go_enter Try.func88, Try.ntmps88
    go_wp2
    go_ret
    exact ⟨rfl, rfl⟩
/-- A row of the call's own that is filled from the front. -/
structure Ck.Fl (e : TypeId) (L : List Value) (z : Value) (g c : Nat) (w : World) (k : Nat) (wr : World) : Prop where
  own : wr.ownsRow w.heap.size e 1 (.slice (some ⟨g, 0, none⟩) c c) c (C14.fill L z k)
  below : Below w.heap.size w wr
theorem Ck.Fl.new (w : World) (e : TypeId) (L : List Value) (z : Value) {c : Nat} (hc : L.length = c) (hm : c ≤ maxLen) : Ck.Fl e L z w.heap.size c w 0 (w.alloc (.cells (madeCells #[z] c) e)) := by
  subst hc
  refine ⟨?_, (Below.refl _ _).alloc (Nat.le_refl _) _⟩
  rw [C14.fill_zero]
  exact V.own_made w _ _ _ _ (Nat.le_refl _) hm
theorem Ck.Fl.drew {e : TypeId} {L : List Value} {z : Value} {g c k : Nat} {w wr : World} (h : Ck.Fl e L z g c w k wr) : Ck.Fl e L z g c w k wr.drew := ⟨h.own.drew, h.below.drew⟩
theorem Ck.Fl.cell {e : TypeId} {L : List Value} {z : Value} {g c k : Nat} {w wr : World} (h : Ck.Fl e L z g c w k wr) (hk : k < L.length) : wr.cell? ⟨g, k, none⟩ = some z ∧ wr.frozen? ⟨g, k, none⟩ = false ∧ w.heap.size ≤ g := V.own_cell h.own (C14.fill_at hk)
theorem Ck.Fl.put {e : TypeId} {L : List Value} {z x : Value} {g c k : Nat} {w wr : World} (h : Ck.Fl e L z g c w k wr) (hx : L[k]? = some x) : Ck.Fl e L z g c w (k + 1) (wr.setCell ⟨g, k, none⟩ x) := by
  have hk := (List.getElem?_eq_some_iff.1 hx).1
  obtain ⟨_, _, hg⟩ := h.cell hk
  refine ⟨?_, h.below.setCell (p := ⟨g, k, none⟩) hg _⟩
  have := V.own_set h.own k x
  rwa [C14.fill_set hx] at this
theorem Ck.Fl.made {e : TypeId} {L : List Value} {z : Value} {g c : Nat} {w wr : World} (h : Ck.Fl e L z g c w L.length wr) (hc : L.length = c) : V.Made e L w (.slice (some ⟨g, 0, none⟩) c c) wr := by
  subst hc
  have := h.own
  rw [C14.fill_end] at this
  exact ⟨this, h.below⟩
theorem V.Made.weak {e : TypeId} {l : List Value} {w W W' : World} {v : Value} (h : V.Made e l W v W') (hb : Below w.heap.size w W) : V.Made e l w v W' := by
  obtain ⟨h1, h2⟩ := h.own
  exact ⟨⟨h1, h2.imp id (fun ⟨g, cap, cur, a, b, c⟩ => ⟨g, cap, cur, a, Nat.le_trans hb.size b, c⟩)⟩, hb.trans (h.below.mono hb.size)⟩
def Ck.EvEnd (n m : Int) (w : World) (e : Ending) (w' : World) : Prop := ∃ v, e = .returned (.tuple #[v, .int .i64 (C14.evE n m)]) ∧ V.Made 3 (Ck.ints (C14.evL n m)) w v w'
theorem Ck.ev_bad {n m : Int} {z : Int} (hz : C14.evE n m = z) (h : z ≠ 0) (w : World) : Ck.EvEnd n m w (.returned (.tuple #[.slice none 0 0, .int .i64 z])) w := by
  subst hz
  refine ⟨_, rfl, ?_⟩
  unfold C14.evL; rw [if_neg h]
  exact V.Made.nil _ _ (Below.refl _ _)
set_option maxRecDepth 100000 in
set_option maxHeartbeats 2000000 in
theorem even14_any (n m : Int) (w : World) (n0 : -9223372036854775808 ≤ n) (n1 : n ≤ 9223372036854775807) (m0 : -9223372036854775808 ≤ m) (m1 : m ≤ 9223372036854775807) :
    Calls Try.prog 29 #[.int .i64 n, .int .i64 m] w (Ck.EvEnd n m w) := by
  by_cases h1 : n < 0 ∨ m < 1
  · have R := Lib.hid (Ck.ev_bad (n := n) (m := m) (if_pos h1) (by decide) w)
    by_cases h2 : n < 0
    · clear h1
      go_enter Try.func29, Try.ntmps29
      go_wp2
      go_ret2
      exact R.out
    · have h3 : m < 1 := by omega
      clear h1
      go_enter Try.func29, Try.ntmps29
      go_wp2
      go_ret2
      exact R.out
  · have h2 : ¬ n < 0 := by omega
    have h3 : ¬ m < 1 := by omega
    by_cases h4 : 65536 < n
    · have R := Lib.hid (Ck.ev_bad (n := n) (m := m) (z := 5) (by unfold C14.evE; rw [if_neg h1, if_pos h4]) (by decide) w)
      clear h1
      go_enter Try.func29, Try.ntmps29
      go_wp2
      go_ret2
      exact R.out
    · have e0 : C14.evE n m = 0 := (C14.evE_iff n m).2 ⟨by omega, by omega, by omega⟩
      have eL : C14.evL n m = C14.sizes n.toNat m.toNat := by unfold C14.evL; rw [if_pos e0]
      unfold Ck.EvEnd
      rw [e0, eL]
      obtain ⟨N, rfl⟩ : ∃ N : Nat, n = (N : Int) := ⟨n.toNat, by omega⟩
      obtain ⟨M, rfl⟩ : ∃ M : Nat, m = (M : Int) := ⟨m.toNat, by omega⟩
      rw [Int.toNat_natCast, Int.toNat_natCast]
      have hM : 1 ≤ M := by omega
      have hcN := C14.cnt_le N hM
      have HG := Lib.hid (groups14_any N M w (by omega) hM (by omega))
      have hlen := C14.len_sizes N hM
      have hat := fun i (hi : i < C14.cnt N M) => C14.at_sizes N hM hi
      have HZ : Hid (∀ (p q i : Nat) (W : World), 1 ≤ C14.cnt N M → W.cell? ⟨p, 0, none⟩ = some (.int .i64 (N : Int)) → W.cell? ⟨q, 0, none⟩ = some (.int .i64 (C14.cnt N M : Nat)) →
          Calls Try.prog 88 #[.int .i64 (i : Int), .pointer (some ⟨p, 0, none⟩), .pointer (some ⟨q, 0, none⟩)] W fun e w' => e = .returned (.int .i64 (C14.size N (C14.cnt N M) i : Nat)) ∧ W = w') :=
        fun p q i W h1 hp hq => size14_any p q N _ i W (by omega) h1 (by omega) hp hq
      generalize C14.sizes N M = L at hlen hat ⊢
      generalize C14.cnt N M = c at *
      have hmk := run_make_row' (P := Try.prog) 33 3 (.int .i64 0) 8 Try.underlying33 Try.infoInt14 rfl .i64 .i64 c (by omega) (by omega)
      have HL := Lib.hid hlen
      have HA := Lib.hid hat
      have hc : c ≤ 65536 := by omega
      clear h1 e0 eL hat hlen hcN
      unfold Ck.fn at HG
      go_enter Try.func29, Try.ntmps29
      go_wp2_with fail
      refine HG.out.mono ?_
      rintro e w1 ⟨p, q, rfl, hG⟩
      have HG := Lib.hid hG
      have H0 := Lib.hid (Ck.Fl.new w1 3 (Ck.ints L) (.int .i64 0) (c := c) (by rw [Ck.ints_len]; exact HL.out) (by unfold maxLen; omega))
      clear hG
      obtain ⟨g, hg⟩ : ∃ g, w1.heap.size = g := ⟨_, rfl⟩
      go_upto_region 7 with (fail)
      generalize w1.alloc (.cells (madeCells #[.int .i64 0] c) 3) = W2 at H0 ⊢
      rw [hg] at H0
      clear hmk
      go_wp2
      go_loopw [27] (fun i wr => ∃ k : Nat, k ≤ c ∧ i = .int .i64 k ∧ Hid (Ck.Fl 3 (Ck.ints L) (.int .i64 0) g c w1 k wr)) (fun i _ => c - (intOf i).toNat)
      case atStart => exact ⟨0, Nat.zero_le _, rfl, H0⟩
      case round =>
        clear H0
        obtain ⟨k, hk, rfl, hx⟩ := hrel
        by_cases hlt : k < c
        · have hG := HG.out.on hx.out.below
          have C := Lib.hid (HZ.out p q k wr (by omega) hG.pc hG.qc)
          obtain ⟨c0, f0, hbg⟩ := hx.out.cell (by rw [Ck.ints_len, HL.out]; exact hlt)
          have R := Lib.hid (hx.out.put (Ck.ints_at (HA.out k hlt)))
          generalize C14.size N c k = z at C R
          clear hG hx
          go_wp2_with fail
          refine C.out.mono ?_
          rintro e w3 ⟨rfl, rfl⟩
          clear C
          go_wp2
          go_roundw
          case rel => exact ⟨k + 1, by omega, by go_num, R⟩
          case measure => simp [intOf]; omega
        · obtain rfl : c = k := by omega
          have hlc : (Ck.ints L).length = c := (Ck.ints_len L).trans HL.out
          have hb := hx.out
          have R : Hid (∃ v, Ending.returned (.tuple #[.slice (some ⟨g, 0, none⟩) c c, .int .i64 0]) = .returned (.tuple #[v, .int .i64 0]) ∧ V.Made 3 (Ck.ints L) w v wr) := by
            refine ⟨_, rfl, V.Made.weak (W := w1) ?_ HG.out.below⟩
            have h3 : Ck.Fl 3 (Ck.ints L) (.int .i64 0) g c w1 (Ck.ints L).length wr := by rw [hlc]; exact hb
            exact h3.made hlc
          clear hb hx
          go_wp2
          go_ret2
          exact R.out
/-! ### Chunks -/
theorem Ck.len (s : ByteArray) : s.data.toList.length = s.size := by simp
theorem Ck.take_at {s : ByteArray} {t : List UInt8} (h : s.data.toList = t) (k : Nat) : (Value.string (s.extract 0 k)) = V.str (t.take k) := by
  subst h
  have := V.str_part s 0 k
  rw [Nat.zero_add, List.drop_zero] at this; exact this
theorem Ck.drop_at {s : ByteArray} {t : List UInt8} (h : s.data.toList = t) (k : Nat) : (s.extract k s.size).data.toList = t.drop k := by
  subst h
  simp only [ByteArray.data_extract, Array.toList_extract, List.extract_eq_take_drop]
  rw [List.take_of_length_le (by rw [List.length_drop, Ck.len]; exact Nat.le_refl _)]
def Ck.ChEnd (s : List UInt8) (w : World) (e : Ending) (w' : World) : Prop := ∃ v, e = .returned v ∧ V.Made 9 (Ck.strs (C14.chunks s)) w v w'
set_option maxRecDepth 100000 in
set_option maxHeartbeats 2000000 in
theorem chunks14_any (s : ByteArray) (w : World) (hs : s.size ≤ 140737488351232) :
    Calls Try.prog 27 #[.string s] w (Ck.ChEnd s.data.toList w) := by
  have hN : s.data.toList.length = s.size := Ck.len s
  obtain ⟨N, hN2⟩ : ∃ N, s.size = N := ⟨_, rfl⟩
  rw [hN2] at hN hs
  have hcN := C14.cnt_le N (m := 16) (by decide)
  have hc16 := (C14.cnt_16 N).2
  have HG := Lib.hid (groups14_any N 16 w (by omega) (by decide) (by decide))
  have HZ : Hid (∀ (p q i : Nat) (W : World), 1 ≤ C14.cnt N 16 → W.cell? ⟨p, 0, none⟩ = some (.int .i64 (N : Int)) → W.cell? ⟨q, 0, none⟩ = some (.int .i64 (C14.cnt N 16 : Nat)) →
      Calls Try.prog 88 #[.int .i64 (i : Int), .pointer (some ⟨p, 0, none⟩), .pointer (some ⟨q, 0, none⟩)] W fun e w' => e = .returned (.int .i64 (C14.size N (C14.cnt N 16) i : Nat)) ∧ W = w') :=
    fun p q i W h1 hp hq => size14_any p q N _ i W (by omega) h1 (by omega) hp hq
  have HL : Hid ((C14.chunks s.data.toList).length = C14.cnt N 16) := by show _ = _; rw [C14.len_chunks, hN]
  have HR : Hid (∀ i, i < C14.cnt N 16 → C14.size N (C14.cnt N 16) i ≤ (C14.rest s.data.toList i).length ∧ (C14.chunks s.data.toList)[i]? = some ((C14.rest s.data.toList i).take (C14.size N (C14.cnt N 16) i)) ∧ C14.rest s.data.toList (i + 1) = (C14.rest s.data.toList i).drop (C14.size N (C14.cnt N 16) i)) := fun i hi => by
    obtain ⟨k, _, rfl, h1, h2, h3⟩ := C14.rest_at (s := s.data.toList) (i := i) (by rw [hN]; exact hi)
    rw [hN] at h1 h2 h3
    exact ⟨h1, h2, h3⟩
  have hR0 : C14.rest s.data.toList 0 = s.data.toList := C14.rest_zero _
  obtain ⟨rs, hrs⟩ : ∃ rs, C14.rest s.data.toList = rs := ⟨_, rfl⟩
  rw [hrs] at HR hR0
  unfold Ck.ChEnd
  generalize C14.chunks s.data.toList = L at HL HR ⊢
  generalize C14.cnt N 16 = c at *
  have hmk := run_make_row' (P := Try.prog) 57 9 (.string ⟨#[]⟩) 16 Try.underlying57 Try.infoStr14 rfl .i64 .i64 c (by omega) (by omega)
  have hc : c ≤ 281474976710656 := by omega
  have S0 : Hid (s.data.toList = rs 0) := hR0.symm
  clear hrs hR0 hcN hc16
  unfold Ck.fn at HG
  go_enter Try.func27, Try.ntmps27
  go_wp2_with fail
  refine HG.out.mono ?_
  rintro e w1 ⟨p, q, rfl, hG⟩
  have HG := Lib.hid hG
  have H0 := Lib.hid (Ck.Fl.new w1 9 (Ck.strs L) (.string ⟨#[]⟩) (c := c) (by rw [Ck.strs_len]; exact HL.out) (by unfold maxLen; omega))
  clear hG
  obtain ⟨g, hg⟩ : ∃ g, w1.heap.size = g := ⟨_, rfl⟩
  go_upto_region 3 with (fail)
  generalize w1.alloc (.cells (madeCells #[.string ⟨#[]⟩] c) 9) = W2 at H0 ⊢
  rw [hg] at H0
  clear hmk hg
  go_wp2
  go_loopw [0, 17] (fun t i wr => ∃ (k : Nat) (r : ByteArray), k ≤ c ∧ t = .string r ∧ i = .int .i64 k ∧ Hid (r.data.toList = rs k) ∧ Hid (Ck.Fl 9 (Ck.strs L) (.string ⟨#[]⟩) g c w1 k wr)) (fun _ i _ => c - (intOf i).toNat)
  case atStart => exact ⟨0, s, Nat.zero_le _, rfl, rfl, S0, H0⟩
  case round =>
    clear H0 S0
    obtain ⟨k, r, hk, rfl, rfl, hr, hx⟩ := hrel
    by_cases hlt : k < c
    · have hG := HG.out.on hx.out.below
      have C := Lib.hid (HZ.out p q k wr (by omega) hG.pc hG.qc)
      obtain ⟨c0, f0, hbg⟩ := hx.out.cell (by rw [Ck.strs_len, HL.out]; exact hlt)
      obtain ⟨z1, z2, z3⟩ := HR.out k hlt
      generalize C14.size N c k = z at C z1 z2 z3
      have R : Hid (∀ V, V = wr.drew → Ck.Fl 9 (Ck.strs L) (.string ⟨#[]⟩) g c w1 (k + 1) (V.setCell ⟨g, k, none⟩ (.string (r.extract 0 z)))) := fun V hV => by
        subst hV
        rw [Ck.take_at hr.out z]
        exact hx.out.drew.put (Ck.strs_at z2)
      have S2 : Hid ((r.extract z r.size).data.toList = rs (k + 1)) := by show _ = _; rw [Ck.drop_at hr.out z, z3]
      have hzr : z ≤ r.size := by rw [← Ck.len r, hr.out]; exact z1
      clear hG hx z1 z2 z3 hr
      go_wp2_with fail
      refine C.out.mono ?_
      rintro e w3 ⟨rfl, rfl⟩
      clear C
      have hz0 : (0 : Int) ≤ (z : Int) := by omega
      go_upto_region 7 with (fail)
      go_region
      all_goals
        go_wp2
        go_roundw
        case rel => exact ⟨k + 1, _, by omega, rfl, by go_num, S2, R.out _ rfl⟩
        case measure => simp [intOf]; omega
    · obtain rfl : c = k := by omega
      have hlc : (Ck.strs L).length = c := (Ck.strs_len L).trans HL.out
      have hb := hx.out
      have R : Hid (∃ v, Ending.returned (.slice (some ⟨g, 0, none⟩) c c) = .returned v ∧ V.Made 9 (Ck.strs L) w v wr) := by
        refine ⟨_, rfl, V.Made.weak (W := w1) ?_ HG.out.below⟩
        have h3 : Ck.Fl 9 (Ck.strs L) (.string ⟨#[]⟩) g c w1 (Ck.strs L).length wr := by rw [hlc]; exact hb
        exact h3.made hlc
      clear hb hx
      go_wp2
      go_ret
      exact R.out
end Go.Proofs.Ytniccjbcchdkoaa
