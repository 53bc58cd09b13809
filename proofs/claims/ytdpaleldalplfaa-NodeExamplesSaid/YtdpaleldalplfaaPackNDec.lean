/- Texts joined: NodeDec1 NodeDec2 NodeDec3 -/
import Derived.Test.YtdpaleldalplfaaPackNFind
import Derived.Deep.RegionLaw
/- NodeDec1 -/
namespace Go.Proofs.Ytdpaleldalplfaa
open Go.RowKit

theorem N.or_byte (m c : Nat) (hm : m < 1099511627776) (hc : c < 256) : bits .or .u64 ((m : Int) * 256) (c : Int) = ((256 * m + c : Nat) : Int) := by
  have := H.or_u64 (2 ^ 8 * m) c (by omega) (by omega)
  rw [← Nat.two_pow_add_eq_or_of_lt (by omega)] at this
  rw [show ((m : Int) * 256) = ((2 ^ 8 * m : Nat) : Int) by omega, this]
set_option maxRecDepth 100000 in
set_option maxHeartbeats 2000000 in
theorem take12_any (b n : Nat) (s : ByteArray) (hn : n ≤ 6) (hs : n ≤ s.size) (hs2 : s.size ≤ 1000) (w : World) (c0 : w.cell? ⟨b, 0, none⟩ = some (.string s)) (f0 : w.frozen? ⟨b, 0, none⟩ = false) :
    Calls Try.prog 82 #[.int .i64 (n : Int), .pointer (some ⟨b, 0, none⟩)] w fun e w' => e = .returned (.int .u64 (N.val (s.data.toList.take n) : Int)) ∧ w' = w.setCell ⟨b, 0, none⟩ (.string (s.extract n s.size)) := by
  have Hb : Hid (∀ i, i ≤ n → N.val (s.data.toList.take i) < 256 ^ i ∧ (256 : Nat) ^ i ≤ 281474976710656) := fun i hi => by
    have h1 := N.val_lt (s.data.toList.take i)
    have h2 : (s.data.toList.take i).length = i := by rw [List.length_take, N.len_data]; omega
    rw [h2] at h1
    exact ⟨h1, Nat.le_trans (Nat.pow_le_pow_right (by decide) (show i ≤ 6 by omega)) (by decide)⟩
  go_enter Try.func82, Try.ntmps82
  go_wp2
  go_loop [4, 7] (fun x j => ∃ (i m : Nat), i ≤ n ∧ x = .int .u64 (m : Int) ∧ j = .int .i64 i ∧ Hid (m = N.val (s.data.toList.take i))) (fun _ j => n - (intOf j).toNat)
  case atStart => exact ⟨0, 0, Nat.zero_le _, rfl, rfl, rfl⟩
  case round =>
    obtain ⟨i, m, hi, rfl, rfl, hm⟩ := hrel
    have hb := Hb.out i hi
    rw [← hm.out] at hb
    by_cases hlt : i < n
    · have his : i < s.size := by omega
      have hget : s.data.toList[i]? = some s[i] := by
        rw [List.getElem?_eq_getElem (by rw [N.len_data]; exact his)]; rfl
      have hcb : s[i].toNat < 256 := s[i].toNat_lt
      have R : Hid (256 * m + s[i].toNat = N.val (s.data.toList.take (i + 1))) := by show _ = _; rw [N.val_take hget, hm.out]
      have hm2 : m < 1099511627776 := by
        have h1 := hb.1
        have h2 : (256 : Nat) ^ i ≤ 1099511627776 := Nat.le_trans (Nat.pow_le_pow_right (by decide) (show i ≤ 5 by omega)) (by decide)
        omega
      have hor := N.or_byte m s[i].toNat hm2 hcb
      clear hget hm hb
      generalize hcc : s[i].toNat = c at *
      go_wp2
      go_round
      case rel => exact ⟨i + 1, 256 * m + c, by omega, by go_num, by go_num, R⟩
      case measure => simp [intOf]; omega
    · obtain rfl : i = n := by omega
      have R : Hid (Ending.returned (.int .u64 (m : Int)) = .returned (.int .u64 (N.val (s.data.toList.take i) : Int))) := by
        show _ = _
        rw [hm.out]
      go_wp2
      go_ret
      exact ⟨R.out, rfl⟩
/-- What lies in decodeKid's two boxes: what is left of the string, and a kid's four cells. -/
structure N.Dk (w W : World) (s : ByteArray) : Prop where
  c0 : W.cell? ⟨w.heap.size, 0, none⟩ = some (.string s)
  f0 : W.frozen? ⟨w.heap.size, 0, none⟩ = false
  k0 : W.cell? ⟨w.heap.size + 1, 0, none⟩ = some (.int .u64 0)
  k1 : W.cell? ⟨w.heap.size + 1, 1, none⟩ = some (.int .i64 0)
  k2 : W.cell? ⟨w.heap.size + 1, 2, none⟩ = some (.int .i64 0)
  k3 : W.cell? ⟨w.heap.size + 1, 3, none⟩ = some (.int .i64 0)
  g0 : W.frozen? ⟨w.heap.size + 1, 0, none⟩ = false
  g1 : W.frozen? ⟨w.heap.size + 1, 1, none⟩ = false
  g2 : W.frozen? ⟨w.heap.size + 1, 2, none⟩ = false
  g3 : W.frozen? ⟨w.heap.size + 1, 3, none⟩ = false
  below : Below w.heap.size w W
theorem N.Dk.next {w W : World} {s : ByteArray} (h : N.Dk w W s) (s' : ByteArray) : N.Dk w (W.setCell ⟨w.heap.size, 0, none⟩ (.string s')) s' := by
  have c := h.c0
  refine ⟨?_, by rw [World.frozen?_setCell]; exact h.f0, ?_, ?_, ?_, ?_, by rw [World.frozen?_setCell]; exact h.g0, by rw [World.frozen?_setCell]; exact h.g1, by rw [World.frozen?_setCell]; exact h.g2, by rw [World.frozen?_setCell]; exact h.g3, h.below.setCell (p := ⟨w.heap.size, 0, none⟩) (Nat.le_refl _) _⟩
  · rw [World.cell?_setCell_same' _ _ _ (by rw [c]; rfl)]
  · rw [World.cell?_setCell_other _ _ _ _ (by simp)]; exact h.k0
  · rw [World.cell?_setCell_other _ _ _ _ (by simp)]; exact h.k1
  · rw [World.cell?_setCell_other _ _ _ _ (by simp)]; exact h.k2
  · rw [World.cell?_setCell_other _ _ _ _ (by simp)]; exact h.k3
theorem N.extract_end (t : ByteArray) (n : Nat) (h : n ≤ t.size) : (t.extract n t.size).data.toList = t.data.toList.drop n := by
  have hl : t.data.toList.length = t.size := by simp
  have e := D.part_bytes t n (t.size - n)
  rw [show n + (t.size - n) = t.size by omega, List.take_of_length_le (by rw [List.length_drop]; omega)] at e
  exact e
theorem N.extract_to (s : ByteArray) (n : Nat) (h : n ≤ s.size) : (s.extract n s.size).data.toList = s.data.toList.drop n ∧ (s.extract n s.size).size = s.size - n := by
  have e := N.extract_end s n h
  refine ⟨e, ?_⟩
  rw [← N.len_data, e, List.length_drop, N.len_data]
set_option maxRecDepth 100000 in
set_option maxHeartbeats 2000000 in
theorem decodeKid12_any (s : ByteArray) (hs : s.size = 12) (w : World) :
    Calls Try.prog 61 #[.string s] w fun e w' => e = .returned (N.kv (N.decK s.data.toList)) ∧ Below w.heap.size w w' := by
  have hD : N.Dk w ((w.alloc (.cells #[.string s] 9)).alloc (.cells #[.int .u64 0, .int .i64 0, .int .i64 0, .int .i64 0] 52)) s :=
    ⟨by simp [go_sem], by simp [go_sem], by simp [go_sem], by simp [go_sem], by simp [go_sem], by simp [go_sem], by simp [go_sem], by simp [go_sem], by simp [go_sem], by simp [go_sem], ((Below.refl _ _).alloc (Nat.le_refl _) _).alloc (by simp) _⟩
  obtain ⟨s1, hs1⟩ : ∃ s1, s1 = s.extract 6 s.size := ⟨_, rfl⟩
  obtain ⟨e1, z1⟩ := N.extract_to s 6 (by omega)
  rw [← hs1] at e1 z1
  obtain ⟨s2, hs2⟩ : ∃ s2, s2 = s1.extract 2 s1.size := ⟨_, rfl⟩
  obtain ⟨e2, z2⟩ := N.extract_to s1 2 (by omega)
  rw [← hs2] at e2 z2
  obtain ⟨s3, hs3⟩ : ∃ s3, s3 = s2.extract 2 s2.size := ⟨_, rfl⟩
  obtain ⟨e3, z3⟩ := N.extract_to s2 2 (by omega)
  rw [← hs3] at e3 z3
  obtain ⟨s4, hs4⟩ : ∃ s4, s4 = s3.extract 2 s3.size := ⟨_, rfl⟩
  have vb : ∀ l : List UInt8, N.val (l.take 2) < 65536 := fun l => by
    have h1 := N.val_lt (l.take 2)
    have h2 : (l.take 2).length ≤ 2 := List.length_take_le _ _
    have h3 : 256 ^ (l.take 2).length ≤ 65536 := Nat.le_trans (Nat.pow_le_pow_right (by decide) h2) (by decide)
    omega
  have H1 : Hid (∀ W, N.Dk w W s → Calls Try.prog 82 #[.int .i64 6, .pointer (some ⟨w.heap.size, 0, none⟩)] W fun e w' => e = .returned (.int .u64 (N.val (s.data.toList.take 6) : Int)) ∧ w' = W.setCell ⟨w.heap.size, 0, none⟩ (.string s1)) := fun W h => by
    have := take12_any w.heap.size 6 s (by decide) (by omega) (by omega) W h.c0 h.f0
    rwa [← hs1] at this
  have H2 : Hid (∀ W, N.Dk w W s1 → Calls Try.prog 82 #[.int .i64 2, .pointer (some ⟨w.heap.size, 0, none⟩)] W fun e w' => e = .returned (.int .u64 (N.val (s1.data.toList.take 2) : Int)) ∧ w' = W.setCell ⟨w.heap.size, 0, none⟩ (.string s2)) := fun W h => by
    have := take12_any w.heap.size 2 s1 (by decide) (by omega) (by omega) W h.c0 h.f0
    rwa [← hs2] at this
  have H3 : Hid (∀ W, N.Dk w W s2 → Calls Try.prog 82 #[.int .i64 2, .pointer (some ⟨w.heap.size, 0, none⟩)] W fun e w' => e = .returned (.int .u64 (N.val (s2.data.toList.take 2) : Int)) ∧ w' = W.setCell ⟨w.heap.size, 0, none⟩ (.string s3)) := fun W h => by
    have := take12_any w.heap.size 2 s2 (by decide) (by omega) (by omega) W h.c0 h.f0
    rwa [← hs3] at this
  have H4 : Hid (∀ W, N.Dk w W s3 → Calls Try.prog 82 #[.int .i64 2, .pointer (some ⟨w.heap.size, 0, none⟩)] W fun e w' => e = .returned (.int .u64 (N.val (s3.data.toList.take 2) : Int)) ∧ w' = W.setCell ⟨w.heap.size, 0, none⟩ (.string s4)) := fun W h => by
    have := take12_any w.heap.size 2 s3 (by decide) (by omega) (by omega) W h.c0 h.f0
    rwa [← hs4] at this
  have HE : Hid (N.kv (N.decK s.data.toList) = .agg #[.int .u64 (N.val (s.data.toList.take 6) : Int), .int .i64 (N.val (s1.data.toList.take 2) : Int), .int .i64 (N.val (s2.data.toList.take 2) : Int), .int .i64 (N.val (s3.data.toList.take 2) : Int)]) := by
    show _ = _
    rw [e3, e2, e1, List.drop_drop, List.drop_drop]; rfl
  have v1 := vb s1.data.toList
  have v2 := vb s2.data.toList
  have v3 := vb s3.data.toList
  generalize N.val (s.data.toList.take 6) = a0 at *
  generalize N.val (s1.data.toList.take 2) = a1 at *
  generalize N.val (s2.data.toList.take 2) = a2 at *
  generalize N.val (s3.data.toList.take 2) = a3 at *
  have D0 := Lib.hid hD
  clear hD hs1 hs2 hs3 hs4 e1 e2 e3 z1 z2 z3 vb hs
  rw [HE.out]
  clear HE
  go_enter Try.func61, Try.ntmps61
  go_wp2_with fail
  refine (H1.out _ D0.out).mono ?_
  rintro e w1 ⟨rfl, hw1⟩
  have D1 := D0.out.next s1
  rw [← hw1] at D1
  have D1 := Lib.hid D1
  clear hw1 D0
  go_wp2_with fail
  refine (H2.out _ D1.out).mono ?_
  rintro e w2 ⟨rfl, hw2⟩
  have D2 := D1.out.next s2
  rw [← hw2] at D2
  have D2 := Lib.hid D2
  clear hw2 D1
  go_wp2_with fail
  refine (H3.out _ D2.out).mono ?_
  rintro e w3 ⟨rfl, hw3⟩
  have D3 := D2.out.next s3
  rw [← hw3] at D3
  have D3 := Lib.hid D3
  clear hw3 D2
  go_wp2_with fail
  refine (H4.out _ D3.out).mono ?_
  rintro e w4 ⟨rfl, hw4⟩
  have D4 := D3.out.next s4
  rw [← hw4] at D4
  clear hw4 D3
  obtain ⟨_, _, k0, k1, k2, k3, g0, g1, g2, g3, hb⟩ := D4
  have R := Lib.hid ((((hb.setCell (p := ⟨w.heap.size + 1, 0, none⟩) (by simp) (.int .u64 (a0 : Int))).setCell (p := ⟨w.heap.size + 1, 1, none⟩) (by simp) (.int .i64 (a1 : Int))).setCell (p := ⟨w.heap.size + 1, 2, none⟩) (by simp) (.int .i64 (a2 : Int))).setCell (p := ⟨w.heap.size + 1, 3, none⟩) (by simp) (.int .i64 (a3 : Int)))
  clear hb
  go_wp2
  refine bodyPost_ret (v := .agg #[.int .u64 (a0 : Int), .int .i64 (a1 : Int), .int .i64 (a2 : Int), .int .i64 (a3 : Int)]) ?_ rfl ⟨rfl, R.out⟩
  simp [results, Try.results61, go_sem, k0, k1, k2, k3]
end Go.Proofs.Ytdpaleldalplfaa
/- NodeDec2 -/
namespace Go.Proofs.Ytdpaleldalplfaa
open Go.RowKit

/-- What Decode answers, as a node. -/
def N.dcX (s : List UInt8) : N.Nd := (N.dec s).getD ⟨0, [], []⟩
def N.dcE (s : List UInt8) : Int := if (N.dec s).isSome then 0 else 4
def N.DcEnd (s : List UInt8) (w : World) (e : Ending) (w' : World) : Prop := ∃ v, e = .returned (.tuple #[N.nv (N.dcX s).h ⟨(N.dcX s).t.toArray⟩ v, .int .i64 (N.dcE s)]) ∧ N.Made (N.dcX s).ks w v w'
theorem N.DcEnd.no {s : List UInt8} {w w' : World} (h : N.dec s = none) (hb : Below w.heap.size w w') : N.DcEnd s w (.returned (.tuple #[.agg #[.int .i64 0, .string ⟨#[]⟩, .slice none 0 0], .int .i64 4])) w' := by
  unfold N.DcEnd N.dcX N.dcE
  rw [h]
  exact ⟨.slice none 0 0, rfl, N.Made.nil w hb⟩
theorem N.DcEnd.yes {s : List UInt8} {x : N.Nd} {w w' : World} {v : Value} {t : ByteArray} (h : N.dec s = some x) (ht : t = ⟨x.t.toArray⟩) (hm : N.Made x.ks w v w') : N.DcEnd s w (.returned (.tuple #[.agg #[.int .i64 x.h, .string t, v], .int .i64 0])) w' := by
  unfold N.DcEnd N.dcX N.dcE
  rw [h, ht]
  exact ⟨v, rfl, hm⟩
theorem N.enc_len {x : N.Nd} (h : N.chk x = 0) : (N.enc x).length ≤ 49 ∧ 1 ≤ (N.enc x).length := by
  have h2 : ∀ m : List N.K, (m.flatMap N.encK).length = m.length * 12 := by
    intro m
    induction m with
    | nil => rfl
    | cons p m ih => rw [List.flatMap_cons, List.length_append, N.encK_len, ih, List.length_cons]; omega
  unfold N.enc
  rw [if_pos h, List.length_cons, List.length_append, h2]
  rcases N.chk_cases h with k | k
  · have h1 := k.t2; rw [k.ks]; simp; omega
  · have h1 := k.k4; rw [k.t]; simp; omega
theorem N.dec_long {s : List UInt8} (h : s.length < 1 ∨ 49 < s.length) : N.dec s = none := by
  cases hd : N.dec s with
  | none => rfl
  | some x =>
    obtain ⟨h1, h2⟩ := N.enc_dec hd
    have := N.enc_len h1
    rw [h2] at this; omega
/-- The two boxes: the result, and the node that is put together; its row of children. -/
structure N.Dv (w0 : World) (bx : Nat) (h : Int) (t : ByteArray) (K : List N.K) (br : Nat) (v : Value) (W : World) : Prop where
  box : W.heap[bx]? = some (.cells #[.int .i64 h, .string t, v] 24 (0, 0))
  own : W.ownsRow w0.heap.size 52 4 v K.length (N.cells K)
  nx : v.ownBlock ≠ some bx
  res : W.heap[br]? = some (.cells #[.int .i64 0, .string ⟨#[]⟩, .slice none 0 0] 24 (0, 0))
  nr : v.ownBlock ≠ some br
  ne : br ≠ bx
  gx : w0.heap.size ≤ bx
  gr : w0.heap.size ≤ br
  below : Below w0.heap.size w0 W
theorem N.Dv.on {w0 : World} {bx : Nat} {h : Int} {t : ByteArray} {K : List N.K} {br : Nat} {v : Value} {W W' : World} (x : N.Dv w0 bx h t K br v W) (hb : Below W.heap.size W W') : N.Dv w0 bx h t K br v W' :=
  ⟨(hb.block _ (Array.getElem?_eq_some_iff.1 x.box).1).trans x.box, D.own_below x.own hb, x.nx, (hb.block _ (Array.getElem?_eq_some_iff.1 x.res).1).trans x.res, x.nr, x.ne, x.gx, x.gr, x.below.trans (hb.mono x.below.size)⟩
theorem N.Dv.drew {w0 : World} {bx : Nat} {h : Int} {t : ByteArray} {K : List N.K} {br : Nat} {v : Value} {W : World} (x : N.Dv w0 bx h t K br v W) : N.Dv w0 bx h t K br v W.drew := x.on (Below.refl _ _).drew
theorem N.Dv.alloc {w0 : World} {bx : Nat} {h : Int} {t : ByteArray} {K : List N.K} {br : Nat} {v : Value} {W : World} (x : N.Dv w0 bx h t K br v W) (o : Obj) : N.Dv w0 bx h t K br v (W.alloc o) := x.on ((Below.refl _ _).alloc (Nat.le_refl _) o)
theorem N.Dv.cells {w0 : World} {bx : Nat} {h : Int} {t : ByteArray} {K : List N.K} {br : Nat} {v : Value} {W : World} (x : N.Dv w0 bx h t K br v W) : W.cell? ⟨bx, 0, none⟩ = some (.int .i64 h) ∧ W.cell? ⟨bx, 1, none⟩ = some (.string t) ∧ W.cell? ⟨bx, 2, none⟩ = some v ∧ W.frozen? ⟨bx, 1, none⟩ = false ∧ W.frozen? ⟨bx, 2, none⟩ = false :=
  ⟨Lib.cell_of_heap x.box 0, Lib.cell_of_heap x.box 1, Lib.cell_of_heap x.box 2, frozen_of_row _ _ _ _ _ x.box, frozen_of_row _ _ _ _ _ x.box⟩
theorem N.Dv.own_ {w0 : World} {bx : Nat} {h : Int} {t : ByteArray} {K : List N.K} {br : Nat} {v : Value} {W : World} (x : N.Dv w0 bx h t K br v W) : N.Own W br (.int .i64 0) (.string ⟨#[]⟩) (.slice none 0 0) :=
  ⟨(Array.getElem?_eq_some_iff.1 x.res).1, Lib.cell_of_heap x.res 0, Lib.cell_of_heap x.res 1, Lib.cell_of_heap x.res 2, frozen_of_row _ _ _ _ _ x.res, frozen_of_row _ _ _ _ _ x.res, frozen_of_row _ _ _ _ _ x.res⟩
theorem N.Dv.form {w0 : World} {bx : Nat} {h : Int} {t : ByteArray} {K : List N.K} {br : Nat} {v : Value} {W : World} (x : N.Dv w0 bx h t K br v W) : ∃ vo vc, v = .slice vo K.length vc ∧ N.Row W vo K := by
  obtain ⟨ao, c, e, hr, _⟩ := (⟨x.own, x.below⟩ : N.Made K w0 v W).src
  exact ⟨ao, c, e, hr⟩
/-- The result is stored: the row of children stays. -/
theorem N.Dv.fin {w0 : World} {bx : Nat} {h : Int} {t : ByteArray} {K : List N.K} {br : Nat} {v : Value} {W : World} (x : N.Dv w0 bx h t K br v W) (p q r : Value) : N.Made K w0 v (N.put3 W br p q r) := by
  have step : ∀ {V : World} (o : Nat) (z : Value), N.Made K w0 v V → N.Made K w0 v (V.setCell ⟨br, o, none⟩ z) := fun {V} o z m => by
    refine ⟨m.own.kept (row := some br) ⟨rfl, rfl, rfl, by simp [World.setCell], fun j _ hj => Below.heap_setCell _ _ _ _ (fun e => hj (by simpa using e))⟩ (.inr x.nr), m.below.setCell (p := ⟨br, o, none⟩) x.gr z⟩
  exact step 2 r (step 1 q (step 0 p ⟨x.own, x.below⟩))
/-- A text is stored. -/
theorem N.Dv.text {w0 : World} {bx : Nat} {h : Int} {t : ByteArray} {K : List N.K} {br : Nat} {v : Value} {W : World} (x : N.Dv w0 bx h t K br v W) (t' : ByteArray) : N.Dv w0 bx h t' K br v (W.setCell ⟨bx, 1, none⟩ (.string t')) := by
  have hset : ∀ j, j ≠ bx → (W.setCell ⟨bx, 1, none⟩ (.string t')).heap[j]? = W.heap[j]? := fun j hj => Below.heap_setCell _ _ _ _ hj
  refine ⟨(heap_setCell_same W bx 1 _ _ _ x.box).trans rfl, ?_, x.nx, (hset br x.ne).trans x.res, x.nr, x.ne, x.gx, x.gr, x.below.setCell (p := ⟨bx, 1, none⟩) x.gx _⟩
  exact x.own.kept (row := some bx) ⟨rfl, rfl, rfl, by simp [World.setCell], fun j _ hj => hset j (fun e => hj (by rw [e]))⟩ (.inr x.nx)
/-- A child is appended, and the row stored. -/
theorem N.Dv.put {w0 : World} {bx : Nat} {h : Int} {t : ByteArray} {K : List N.K} {br : Nat} {v v' : Value} {W w3 : World} {p : N.K} (x : N.Dv w0 bx h t K br v W)
    (hO : w3.ownsRow w0.heap.size 52 4 v' (K ++ [p]).length (N.cells (K ++ [p]))) (hg : W.grownBy w3 v.ownBlock) (ha : v'.ownBlock = v.ownBlock ∨ ∃ g, v'.ownBlock = some g ∧ W.heap.size ≤ g) :
    N.Dv w0 bx h t (K ++ [p]) br v' (w3.setCell ⟨bx, 2, none⟩ v') := by
  have lb := (Array.getElem?_eq_some_iff.1 x.box).1
  have lr := (Array.getElem?_eq_some_iff.1 x.res).1
  have hb3 := (hg.block _ lb (fun e => x.nx e.symm)).trans x.box
  have hr3 := (hg.block _ lr (fun e => x.nr e.symm)).trans x.res
  have key : ∀ k, k < W.heap.size → v.ownBlock ≠ some k → v'.ownBlock ≠ some k := fun k hk hv => by
    rcases ha with ha | ⟨g, ha, hz⟩
    · rw [ha]; exact hv
    · rw [ha]; intro e; injection e with e; omega
  have hset : ∀ j, j ≠ bx → (w3.setCell ⟨bx, 2, none⟩ v').heap[j]? = w3.heap[j]? := fun j hj => Below.heap_setCell _ _ _ _ hj
  refine ⟨(heap_setCell_same w3 bx 2 _ _ _ hb3).trans rfl, ?_, key _ lb x.nx, (hset br x.ne).trans hr3, key _ lr x.nr, x.ne, x.gx, x.gr, ?_⟩
  · exact hO.kept (row := some bx) ⟨rfl, rfl, rfl, by simp [World.setCell], fun j _ hj => hset j (fun e => hj (by rw [e]))⟩ (.inr (key _ lb x.nx))
  · exact (x.below.grown hg x.below.size (fun j hj => (x.own.lt j hj).1)).setCell (p := ⟨bx, 2, none⟩) x.gx _
theorem N.Dv.new (w : World) (h : Int) (t : ByteArray) : N.Dv w (w.heap.size + 1) h t [] w.heap.size (.slice none 0 0) ((w.alloc (.cells #[.int .i64 0, .string ⟨#[]⟩, .slice none 0 0] 24)).alloc (.cells #[.int .i64 h, .string t, .slice none 0 0] 24)) := by
  have e := heap_alloc_new (w.alloc (.cells #[.int .i64 0, .string ⟨#[]⟩, .slice none 0 0] 24)) (.cells #[.int .i64 h, .string t, .slice none 0 0] 24)
  rw [World.size_alloc] at e
  refine ⟨e, World.ownsRow_nil _ _ _ _, by simp [Value.ownBlock], (Below.heap_alloc _ _ _ (by simp)).trans (heap_alloc_new w _), by simp [Value.ownBlock], by omega, by omega, Nat.le_refl _, ((Below.refl _ _).alloc (Nat.le_refl _) _).alloc (by simp) _⟩
/-- The node whose first byte is c and whose rest is r, when K has been read and r' is left. -/
def N.Lft (c : UInt8) (r : List UInt8) (t : ByteArray) (K : List N.K) (r' : List UInt8) : Prop := N.mk c r = (N.kids r').map fun ks => ⟨(c.toNat : Int), t.data.toList, K ++ ks⟩
theorem N.Lft.zero {r : ByteArray} : N.Lft 0 r.data.toList r [] [] := by
  unfold N.Lft N.mk
  rw [if_pos (show UInt8.toNat 0 = 0 from rfl), N.kids_nil]; rfl
theorem N.Lft.start {c : UInt8} {r : List UInt8} (h : c.toNat ≠ 0) : N.Lft c r ⟨#[]⟩ [] r := by
  unfold N.Lft N.mk
  rw [if_neg h]; rfl
theorem N.Lft.next {c : UInt8} {r : List UInt8} {t : ByteArray} {K : List N.K} {r' : List UInt8} (h : N.Lft c r t K r') (hl : 12 ≤ r'.length) : N.Lft c r t (K ++ [N.decK (r'.take 12)]) (r'.drop 12) := by
  unfold N.Lft at *
  rw [h, N.kids_more hl, Option.map_map]
  congr 1
  funext ks
  simp
theorem N.Lft.short {c : UInt8} {r : List UInt8} {t : ByteArray} {K : List N.K} {r' : List UInt8} (h : N.Lft c r t K r') (hl : r'.length < 12) (h0 : r' ≠ []) : N.dec (c :: r) = none := by
  unfold N.Lft at h
  rw [N.dec_cons, h, N.kids_short h0 hl]; rfl
theorem N.Lft.done {c : UInt8} {r : List UInt8} {t : ByteArray} {K : List N.K} (h : N.Lft c r t K []) : N.dec (c :: r) = if N.chk (N.nd (c.toNat : Int) t K) = 0 then some (N.nd (c.toNat : Int) t K) else none := by
  unfold N.Lft at h
  rw [N.dec_cons, h, N.kids_nil]
  show (some (⟨(c.toNat : Int), t.data.toList, K ++ []⟩ : N.Nd)).bind _ = _
  rw [List.append_nil]; rfl
theorem N.decK_fit (s : List UInt8) : N.Fit (N.decK s) := by
  have vb : ∀ (l : List UInt8) (n : Nat), l.length ≤ n → N.val l < 256 ^ n := fun l n hl =>
    Nat.lt_of_lt_of_le (N.val_lt l) (Nat.pow_le_pow_right (by decide) hl)
  have h6 := vb (s.take 6) 6 (List.length_take_le _ _)
  have h1 := vb ((s.drop 6).take 2) 2 (List.length_take_le _ _)
  have h2 := vb ((s.drop 8).take 2) 2 (List.length_take_le _ _)
  have h3 := vb ((s.drop 10).take 2) 2 (List.length_take_le _ _)
  unfold N.decK
  refine ⟨?_, ?_, ?_, ?_, ?_, ?_, ?_⟩ <;> dsimp only <;> omega
end Go.Proofs.Ytdpaleldalplfaa
/- NodeDec3 -/
namespace Go.Proofs.Ytdpaleldalplfaa
open Go.RowKit

def N.strLen : Value → Nat
  | .string s => s.size
  | _ => 0
theorem N.cons_of (s : ByteArray) (h : 0 < s.size) : ∃ c : UInt8, s.data.toList = c :: (s.extract 1 s.size).data.toList ∧ s[0].toNat = c.toNat := by
  obtain ⟨e, _⟩ := N.extract_to s 1 h
  have hl : 0 < s.data.toList.length := by rw [N.len_data]; exact h
  refine ⟨s.data.toList[0], ?_, rfl⟩
  rw [e, ← List.drop_eq_getElem_cons hl, List.drop_zero]
set_option maxRecDepth 100000 in
set_option maxHeartbeats 4000000 in
theorem decode12_any (s : ByteArray) (hs : s.size ≤ maxLen) (w : World) : Calls Try.prog 34 #[.string s] w (N.DcEnd s.data.toList w) := by
  unfold maxLen at hs
  have B1 : Hid (Below w.heap.size w (w.alloc (.cells #[.int .i64 0, .string ⟨#[]⟩, .slice none 0 0] 24))) := (Below.refl _ _).alloc (Nat.le_refl _) _
  by_cases hl : s.size < 1 ∨ 49 < s.size
  · have R := Lib.hid (N.DcEnd.no (N.dec_long (s := s.data.toList) (by rw [N.len_data]; exact hl)) B1.out)
    rcases hl with hl | hl
    · go_enter Try.func34, Try.ntmps34
      go_wp2
      refine bodyPost_ret (v := .tuple #[.agg #[.int .i64 0, .string ⟨#[]⟩, .slice none 0 0], .int .i64 4]) ?_ rfl R.out
      simp [results, Try.results34, go_sem]
    · have hl2 : ¬ s.size < 1 := by omega
      go_enter Try.func34, Try.ntmps34
      go_wp2
      refine bodyPost_ret (v := .tuple #[.agg #[.int .i64 0, .string ⟨#[]⟩, .slice none 0 0], .int .i64 4]) ?_ rfl R.out
      simp [results, Try.results34, go_sem]
  · have hl1 : ¬ s.size < 1 := fun h => hl (.inl h)
    have hl2 : ¬ 49 < s.size := fun h => hl (.inr h)
    have hpos : 0 < s.size := by omega
    obtain ⟨c, hcr, hc0⟩ := N.cons_of s hpos
    obtain ⟨_, hrs⟩ := N.extract_to s 1 hpos
    obtain ⟨r, hr⟩ : ∃ r, s.extract 1 s.size = r := ⟨_, rfl⟩
    rw [hr] at hcr hrs
    have hcb : c.toNat < 256 := c.toNat_lt
    have hrl : r.size ≤ 48 := by omega
    rw [hcr]
    obtain ⟨ik, i0, i1, i2, i3⟩ := info_parts Try.infoKid
    have Hi := Lib.hid (And.intro i0 (And.intro i1 (And.intro i2 i3)))
    have HN : Hid (∀ (t : ByteArray) (K : List N.K) (r' : ByteArray), N.Lft c r.data.toList t K r'.data.toList → r'.size < 12 → r'.size ≠ 0 → N.dec (c :: r.data.toList) = none) := fun t K r' h h1 h2 => h.short (by rw [N.len_data]; exact h1) (fun e => h2 (by rw [← N.len_data, e]; rfl))
    have HD : Hid (∀ (t : ByteArray) (K : List N.K), N.Lft c r.data.toList t K (⟨#[]⟩ : ByteArray).data.toList → N.dec (c :: r.data.toList) = if N.chk (N.nd (c.toNat : Int) t K) = 0 then some (N.nd (c.toNat : Int) t K) else none) := fun t K h => h.done
    have HK : Hid (∀ (z : ByteArray) (p : N.K), z.size = 12 → p = N.decK z.data.toList → ∀ W, Calls Try.prog 61 #[.string z] W fun e w' => e = .returned (.agg #[.int .u64 (p.at_ : Int), .int .i64 p.b, .int .i64 p.r, .int .i64 p.l]) ∧ Below W.heap.size W w') := fun z p hz hp W => by
      rw [hp]; exact decodeKid12_any z hz W
    have HC : Hid (∀ (t : ByteArray) (K : List N.K) vo vc W, t.size ≤ 48 → K.length ≤ 4 → (∀ p ∈ K, N.Fit p) → N.Row W vo K → Calls Try.prog 15 #[.agg #[.int .i64 (c.toNat : Int), .string t, .slice vo K.length vc]] W fun e w' => e = .returned (.int .i64 (N.chk (N.nd (c.toNat : Int) t K))) ∧ Below W.heap.size W w') := fun t K vo vc W h1 h2 h3 h4 => check12_any _ t vo vc K W (by unfold maxLen; omega) (by unfold maxLen; omega) h4 h3
    clear i0 i1 i2 i3 hl B1 hcr
    have hloop : (c.toNat = 0 ∧ (c.toNat == 0) = true) ∨ (c.toNat ≠ 0 ∧ (c.toNat == 0) = false) := by
      by_cases h : c.toNat = 0
      · exact .inl ⟨h, by simpa using h⟩
      · exact .inr ⟨h, by simpa using h⟩
    have hST : Hid (∃ (t r' : ByteArray), ((c.toNat = 0 ∧ t = r ∧ r' = ⟨#[]⟩) ∨ (c.toNat ≠ 0 ∧ t = ⟨#[]⟩ ∧ r' = r)) ∧ N.Lft c r.data.toList t [] r'.data.toList ∧ r'.size ≤ 48 ∧ t.size ≤ 48) := by
      rcases hloop with ⟨h, _⟩ | ⟨h, _⟩
      · have hz0 : c = 0 := UInt8.toNat_inj.1 h
        subst hz0
        exact ⟨r, ⟨#[]⟩, .inl ⟨h, rfl, rfl⟩, N.Lft.zero, by decide, hrl⟩
      · exact ⟨⟨#[]⟩, r, .inr ⟨h, rfl, rfl⟩, N.Lft.start h, hrl, by decide⟩
    obtain ⟨t0, r0, hcs, hL0, hr48, ht48⟩ := hST.out
    have D0 := Lib.hid (N.Dv.new w (c.toNat : Int) t0)
    have L0 := Lib.hid hL0
    clear hST hL0 hloop
    have hb1 : decide ((s.size : Int) < 1) = false := decide_eq_false (by omega)
    have hb2 : decide (49 < (s.size : Int)) = false := decide_eq_false (by omega)
    rcases hcs with ⟨hz, rfl, rfl⟩ | ⟨hz, rfl, rfl⟩
    · have hcI : ((c.toNat : Nat) : Int) = 0 := by rw [hz]; rfl
      rw [hcI] at D0 HD HC
      have hq : ((0 : Int) == 0) = true := rfl
      clear hq hcI
      go_enter Try.func34, Try.ntmps34
      go_wp2
      go_loopw [5] (fun u wr => ∃ (r' : ByteArray) (K : List N.K) (v : Value), u = .string r' ∧ K.length * 12 + r'.size ≤ 48 ∧ Hid (N.Lft c t0.data.toList t0 K r'.data.toList) ∧ Hid (N.Dv w (w.heap.size + 1) 0 t0 K w.heap.size v wr) ∧ Hid (∀ p ∈ K, N.Fit p)) (fun u _ => N.strLen u)
      case atStart => exact ⟨_, [], _, rfl, (by simp; omega), L0, D0, (fun p hp => by cases hp)⟩
      case round =>
        clear L0 D0
        obtain ⟨r', K, v, rfl, hlen, hL, hD, hF⟩ := hrel
        obtain ⟨vo, vc, hv, hrow⟩ := hD.out.form
        subst hv
        obtain ⟨d0, d1, d2, g1, g2⟩ := hD.out.cells
        by_cases hlt : 12 ≤ r'.size
        · obtain ⟨e2, z2⟩ := N.extract_to r' 12 hlt
          obtain ⟨z, hz⟩ : ∃ z, r'.extract 0 12 = z := ⟨_, rfl⟩
          have hz12 : z.size = 12 := by rw [← hz, ByteArray.size_extract]; omega
          have hzl : z.data.toList = r'.data.toList.take 12 := by
            have := D.part_bytes r' 0 12
            rw [List.drop_zero, Nat.zero_add] at this
            rw [← hz]; exact this
          obtain ⟨p, hp⟩ : ∃ p, p = N.decK z.data.toList := ⟨_, rfl⟩
          have HKz := Lib.hid (HK.out z p hz12 hp)
          have L1 : Hid (N.Lft c t0.data.toList t0 (K ++ [p]) (r'.extract 12 r'.size).data.toList) := by
            have := hL.out.next (by rw [N.len_data]; exact hlt)
            rw [← hzl, ← hp] at this
            show N.Lft _ _ _ _ _
            rw [e2]; exact this
          have F1 : Hid (∀ q ∈ K ++ [p], N.Fit q) := fun q hq => by
            rcases List.mem_append.1 hq with hq | hq
            · exact hF.out q hq
            · simp at hq; subst hq; rw [hp]; exact N.decK_fit _
          have hKl : K.length ≤ 4 := by omega
          have hwb := hD.out.below.size
          clear hp hzl e2 hL hF hrow HC HN HD HK hz12
          go_wp2
          go_region_law (first
            | (refine step_append_lies _ rfl (.tmp 30) (.tmp 34) 22 rfl w.heap.size 52 ik (.agg #[.int .u64 0, .int .i64 0, .int .i64 0, .int .i64 0]) 4 32 Try.underlying22 Hi.out.1 Hi.out.2.1 Hi.out.2.2.1 Hi.out.2.2.2 rfl (by decide) (.slice vo K.length vc) K.length (N.cells K) rfl ?own _ 1 1 [.int .u64 (p.at_ : Int), .int .i64 p.b, .int .i64 p.r, .int .i64 p.l] rfl rfl ?news (fun u hu => by simp at hu; rcases hu with rfl | rfl | rfl | rfl <;> rfl) (by decide) (by unfold maxLen; omega) (by omega) ?base _ rfl ?_
               case own => repeat (first | with_reducible exact hD2.own | with_reducible refine World.ownsRow.drew ?_ | with_reducible refine World.ownsRow.alloc ?_ _)
               case news => exact D.news _ _ _
               case base => have := hD2.below.size; first | omega | (simp; omega)
               intro g cp w3 hO3 hg3 hat3 hlt3
               have hg4 : w2.grownBy w3 (Value.slice vo K.length vc).ownBlock := ⟨hg3.os, hg3.tape, hg3.output, Nat.le_trans (by first | omega | (simp; omega) | simp) hg3.size, fun k hk hne => (hg3.block k (by first | omega | (simp; omega)) hne).trans (Below.heap_alloc _ _ k hk)⟩
               have R := N.Dv.put (p := p) hD2 (v' := .slice (some ⟨g, 0, none⟩) (K.length + 1) cp) (by rw [N.cells_append, N.cells_one, List.length_append]; exact hO3) hg4 (by
                 rcases hat3 with h | h
                 · exact .inl h.symm
                 · exact .inr ⟨g, rfl, by rw [h]; first | exact Nat.le_refl _ | (simp; omega) | simp⟩)
               have hbx : w3.heap[w.heap.size + 1]? = some (.cells #[.int .i64 0, .string t0, .slice vo K.length vc] 24 (0, 0)) := (hg4.block _ (Array.getElem?_eq_some_iff.1 hD2.box).1 (fun e => hD2.nx e.symm)).trans hD2.box
               have d2 : w3.cell? ⟨w.heap.size + 1, 2, none⟩ = some (.slice vo K.length vc) := Lib.cell_of_heap hbx 2
               have g2 : w3.frozen? ⟨w.heap.size + 1, 2, none⟩ = false := frozen_of_row _ _ _ _ _ hbx
               have R := Lib.hid R
               clear hO3 hg3 hg4 hat3 hlt3 hbx)
            | (go_simp; go_at_call 61; refine (HKz.out _).mono ?_; rintro e w2 ⟨rfl, hb2⟩
               (first
                 | have hD2 := hD.out.drew.on hb2
                 | have hD2 := hD.out.on hb2)
               have hw2 := hb2.size
               have d2 := hD2.cells.2.2.1
               have d3 : ∀ ob, (w2.alloc ob).cell? ⟨w.heap.size + 1, 2, none⟩ = some (.slice vo K.length vc) := fun ob => (hD2.alloc ob).cells.2.2.1
               have g2 := hD2.cells.2.2.2.2))
          all_goals
            go_wp2
            go_roundw
            case rel => exact ⟨_, K ++ [p], _, rfl, (by rw [List.length_append, z2]; simp; omega), L1, R, F1⟩
            case measure => simp [N.strLen]; omega
        · have hK4 : K.length ≤ 4 := by omega
          by_cases h0 : r'.size = 0
          · obtain rfl := N.size0 h0
            have hdec := HD.out _ _ hL.out
            have HCz := Lib.hid (HC.out t0 K vo vc wr ht48 hK4 hF.out hrow)
            clear HK HN HD HC hF hrow hL h0
            by_cases hc : N.chk (N.nd 0 t0 K) = 0
            · rw [if_pos hc] at hdec
              have HE : Hid (∀ v' W, N.Made K w v' W → N.DcEnd (c :: t0.data.toList) w (.returned (.tuple #[.agg #[.int .i64 0, .string t0, v'], .int .i64 0])) W) := fun v' W hm => N.DcEnd.yes hdec (by show _ = (⟨(t0.data.toList).toArray⟩ : ByteArray); rw [D.bytes_eq]) hm
              rw [hc] at HCz
              clear hdec hc
              go_wp2_with fail
              refine HCz.out.mono ?_
              rintro e w2 ⟨rfl, hb⟩
              have D2 := hD.out.on hb
              obtain ⟨y0, y1, y2, _, _⟩ := D2.cells
              have O2 := D2.own_
              have r0 := O2.c0
              have r1 := O2.c1
              have r2 := O2.c2
              have s0 := O2.f0
              have s1 := O2.f1
              have s2 := O2.f2
              have hP := O2.put (.int .i64 0) (.string t0) (.slice vo K.length vc)
              have R := Lib.hid (HE.out _ _ (D2.fin (.int .i64 0) (.string t0) (.slice vo K.length vc)))
              clear D2 O2 hb d0 d1 d2 g1 g2
              go_wp2
              have p0 := hP.c0
              have p1 := hP.c1
              have p2 := hP.c2
              refine bodyPost_ret (v := .tuple #[.agg #[.int .i64 0, .string t0, .slice vo K.length vc], .int .i64 0]) ?_ rfl R.out
              unfold N.put3 at p0 p1 p2
              simp [results, Try.results34, go_sem, p0, p1, p2]
            · rw [if_neg hc] at hdec
              have HE : Hid (∀ W, Below w.heap.size w W → N.DcEnd (c :: t0.data.toList) w (.returned (.tuple #[.agg #[.int .i64 0, .string ⟨#[]⟩, .slice none 0 0], .int .i64 4])) W) := fun W hW => N.DcEnd.no hdec hW
              have hc' : (N.chk (N.nd 0 t0 K) != 0) = true := by simpa using hc
              generalize N.chk (N.nd 0 t0 K) = ck at HCz hc'
              clear hdec hc
              go_wp2_with fail
              refine HCz.out.mono ?_
              rintro e w2 ⟨rfl, hb⟩
              have D2 := hD.out.on hb
              have O2 := D2.own_
              have r0 := O2.c0
              have r1 := O2.c1
              have r2 := O2.c2
              have s0 := O2.f0
              have s1 := O2.f1
              have s2 := O2.f2
              have hP := O2.put (.int .i64 0) (.string ⟨#[]⟩) (.slice none 0 0)
              have R := Lib.hid (HE.out _ (N.put3_below D2.below D2.gr (.int .i64 0) (.string ⟨#[]⟩) (.slice none 0 0)))
              clear D2 O2 hb d0 d1 d2 g1 g2
              go_wp2
              have p0 := hP.c0
              have p1 := hP.c1
              have p2 := hP.c2
              refine bodyPost_ret (v := .tuple #[.agg #[.int .i64 0, .string ⟨#[]⟩, .slice none 0 0], .int .i64 4]) ?_ rfl R.out
              unfold N.put3 at p0 p1 p2
              simp [results, Try.results34, go_sem, p0, p1, p2]
          · have hdec := HN.out _ _ _ hL.out (by omega) h0
            obtain ⟨e1, e2⟩ := N.size1 h0
            have O2 := hD.out.own_
            have r0 := O2.c0
            have r1 := O2.c1
            have r2 := O2.c2
            have s0 := O2.f0
            have s1 := O2.f1
            have s2 := O2.f2
            have hP := O2.put (.int .i64 0) (.string ⟨#[]⟩) (.slice none 0 0)
            have R := Lib.hid (N.DcEnd.no hdec (N.put3_below hD.out.below hD.out.gr (.int .i64 0) (.string ⟨#[]⟩) (.slice none 0 0)))
            clear HK HN HD HC hF hrow hL h0 hdec O2
            go_wp2
            have p0 := hP.c0
            have p1 := hP.c1
            have p2 := hP.c2
            refine bodyPost_ret (v := .tuple #[.agg #[.int .i64 0, .string ⟨#[]⟩, .slice none 0 0], .int .i64 4]) ?_ rfl R.out
            unfold N.put3 at p0 p1 p2
            simp [results, Try.results34, go_sem, p0, p1, p2]
    · have hq : ((c.toNat : Int) == 0) = false := by simpa using hz
      go_enter Try.func34, Try.ntmps34
      go_wp2
      go_loopw [5] (fun u wr => ∃ (r' : ByteArray) (K : List N.K) (v : Value), u = .string r' ∧ K.length * 12 + r'.size ≤ 48 ∧ Hid (N.Lft c r0.data.toList ⟨#[]⟩ K r'.data.toList) ∧ Hid (N.Dv w (w.heap.size + 1) (c.toNat : Int) ⟨#[]⟩ K w.heap.size v wr) ∧ Hid (∀ p ∈ K, N.Fit p)) (fun u _ => N.strLen u)
      case atStart => exact ⟨_, [], _, rfl, (by simp; omega), L0, D0, (fun p hp => by cases hp)⟩
      case round =>
        clear L0 D0
        obtain ⟨r', K, v, rfl, hlen, hL, hD, hF⟩ := hrel
        obtain ⟨vo, vc, hv, hrow⟩ := hD.out.form
        subst hv
        obtain ⟨d0, d1, d2, g1, g2⟩ := hD.out.cells
        by_cases hlt : 12 ≤ r'.size
        · obtain ⟨e2, z2⟩ := N.extract_to r' 12 hlt
          obtain ⟨z, hz⟩ : ∃ z, r'.extract 0 12 = z := ⟨_, rfl⟩
          have hz12 : z.size = 12 := by rw [← hz, ByteArray.size_extract]; omega
          have hzl : z.data.toList = r'.data.toList.take 12 := by
            have := D.part_bytes r' 0 12
            rw [List.drop_zero, Nat.zero_add] at this
            rw [← hz]; exact this
          obtain ⟨p, hp⟩ : ∃ p, p = N.decK z.data.toList := ⟨_, rfl⟩
          have HKz := Lib.hid (HK.out z p hz12 hp)
          have L1 : Hid (N.Lft c r0.data.toList ⟨#[]⟩ (K ++ [p]) (r'.extract 12 r'.size).data.toList) := by
            have := hL.out.next (by rw [N.len_data]; exact hlt)
            rw [← hzl, ← hp] at this
            show N.Lft _ _ _ _ _
            rw [e2]; exact this
          have F1 : Hid (∀ q ∈ K ++ [p], N.Fit q) := fun q hq => by
            rcases List.mem_append.1 hq with hq | hq
            · exact hF.out q hq
            · simp at hq; subst hq; rw [hp]; exact N.decK_fit _
          have hKl : K.length ≤ 4 := by omega
          have hwb := hD.out.below.size
          clear hp hzl e2 hL hF hrow HC HN HD HK hz12
          go_wp2
          go_region_law (first
            | (refine step_append_lies _ rfl (.tmp 30) (.tmp 34) 22 rfl w.heap.size 52 ik (.agg #[.int .u64 0, .int .i64 0, .int .i64 0, .int .i64 0]) 4 32 Try.underlying22 Hi.out.1 Hi.out.2.1 Hi.out.2.2.1 Hi.out.2.2.2 rfl (by decide) (.slice vo K.length vc) K.length (N.cells K) rfl ?own _ 1 1 [.int .u64 (p.at_ : Int), .int .i64 p.b, .int .i64 p.r, .int .i64 p.l] rfl rfl ?news (fun u hu => by simp at hu; rcases hu with rfl | rfl | rfl | rfl <;> rfl) (by decide) (by unfold maxLen; omega) (by omega) ?base _ rfl ?_
               case own => repeat (first | with_reducible exact hD2.own | with_reducible refine World.ownsRow.drew ?_ | with_reducible refine World.ownsRow.alloc ?_ _)
               case news => exact D.news _ _ _
               case base => have := hD2.below.size; first | omega | (simp; omega)
               intro g cp w3 hO3 hg3 hat3 hlt3
               have hg4 : w2.grownBy w3 (Value.slice vo K.length vc).ownBlock := ⟨hg3.os, hg3.tape, hg3.output, Nat.le_trans (by first | omega | (simp; omega) | simp) hg3.size, fun k hk hne => (hg3.block k (by first | omega | (simp; omega)) hne).trans (Below.heap_alloc _ _ k hk)⟩
               have R := N.Dv.put (p := p) hD2 (v' := .slice (some ⟨g, 0, none⟩) (K.length + 1) cp) (by rw [N.cells_append, N.cells_one, List.length_append]; exact hO3) hg4 (by
                 rcases hat3 with h | h
                 · exact .inl h.symm
                 · exact .inr ⟨g, rfl, by rw [h]; first | exact Nat.le_refl _ | (simp; omega) | simp⟩)
               have hbx : w3.heap[w.heap.size + 1]? = some (.cells #[.int .i64 (c.toNat : Int), .string ⟨#[]⟩, .slice vo K.length vc] 24 (0, 0)) := (hg4.block _ (Array.getElem?_eq_some_iff.1 hD2.box).1 (fun e => hD2.nx e.symm)).trans hD2.box
               have d2 : w3.cell? ⟨w.heap.size + 1, 2, none⟩ = some (.slice vo K.length vc) := Lib.cell_of_heap hbx 2
               have g2 : w3.frozen? ⟨w.heap.size + 1, 2, none⟩ = false := frozen_of_row _ _ _ _ _ hbx
               have R := Lib.hid R
               clear hO3 hg3 hg4 hat3 hlt3 hbx)
            | (go_simp; go_at_call 61; refine (HKz.out _).mono ?_; rintro e w2 ⟨rfl, hb2⟩
               (first
                 | have hD2 := hD.out.drew.on hb2
                 | have hD2 := hD.out.on hb2)
               have hw2 := hb2.size
               have d2 := hD2.cells.2.2.1
               have d3 : ∀ ob, (w2.alloc ob).cell? ⟨w.heap.size + 1, 2, none⟩ = some (.slice vo K.length vc) := fun ob => (hD2.alloc ob).cells.2.2.1
               have g2 := hD2.cells.2.2.2.2))
          all_goals
            go_wp2
            go_roundw
            case rel => exact ⟨_, K ++ [p], _, rfl, (by rw [List.length_append, z2]; simp; omega), L1, R, F1⟩
            case measure => simp [N.strLen]; omega
        · have hK4 : K.length ≤ 4 := by omega
          by_cases h0 : r'.size = 0
          · obtain rfl := N.size0 h0
            have hdec := HD.out _ _ hL.out
            have HCz := Lib.hid (HC.out ⟨#[]⟩ K vo vc wr (by decide) hK4 hF.out hrow)
            clear HK HN HD HC hF hrow hL h0
            by_cases hc : N.chk (N.nd (c.toNat : Int) ⟨#[]⟩ K) = 0
            · rw [if_pos hc] at hdec
              have HE : Hid (∀ v' W, N.Made K w v' W → N.DcEnd (c :: r0.data.toList) w (.returned (.tuple #[.agg #[.int .i64 (c.toNat : Int), .string ⟨#[]⟩, v'], .int .i64 0])) W) := fun v' W hm => N.DcEnd.yes hdec (by show _ = (⟨((⟨#[]⟩ : ByteArray).data.toList).toArray⟩ : ByteArray); rw [D.bytes_eq]) hm
              rw [hc] at HCz
              clear hdec hc
              go_wp2_with fail
              refine HCz.out.mono ?_
              rintro e w2 ⟨rfl, hb⟩
              have D2 := hD.out.on hb
              obtain ⟨y0, y1, y2, _, _⟩ := D2.cells
              have O2 := D2.own_
              have r0 := O2.c0
              have r1 := O2.c1
              have r2 := O2.c2
              have s0 := O2.f0
              have s1 := O2.f1
              have s2 := O2.f2
              have hP := O2.put (.int .i64 (c.toNat : Int)) (.string ⟨#[]⟩) (.slice vo K.length vc)
              have R := Lib.hid (HE.out _ _ (D2.fin (.int .i64 (c.toNat : Int)) (.string ⟨#[]⟩) (.slice vo K.length vc)))
              clear D2 O2 hb d0 d1 d2 g1 g2
              go_wp2
              have p0 := hP.c0
              have p1 := hP.c1
              have p2 := hP.c2
              refine bodyPost_ret (v := .tuple #[.agg #[.int .i64 (c.toNat : Int), .string ⟨#[]⟩, .slice vo K.length vc], .int .i64 0]) ?_ rfl R.out
              unfold N.put3 at p0 p1 p2
              simp [results, Try.results34, go_sem, p0, p1, p2]
            · rw [if_neg hc] at hdec
              have HE : Hid (∀ W, Below w.heap.size w W → N.DcEnd (c :: r0.data.toList) w (.returned (.tuple #[.agg #[.int .i64 0, .string ⟨#[]⟩, .slice none 0 0], .int .i64 4])) W) := fun W hW => N.DcEnd.no hdec hW
              have hc' : (N.chk (N.nd (c.toNat : Int) ⟨#[]⟩ K) != 0) = true := by simpa using hc
              generalize N.chk (N.nd (c.toNat : Int) ⟨#[]⟩ K) = ck at HCz hc'
              clear hdec hc
              go_wp2_with fail
              refine HCz.out.mono ?_
              rintro e w2 ⟨rfl, hb⟩
              have D2 := hD.out.on hb
              have O2 := D2.own_
              have r0 := O2.c0
              have r1 := O2.c1
              have r2 := O2.c2
              have s0 := O2.f0
              have s1 := O2.f1
              have s2 := O2.f2
              have hP := O2.put (.int .i64 0) (.string ⟨#[]⟩) (.slice none 0 0)
              have R := Lib.hid (HE.out _ (N.put3_below D2.below D2.gr (.int .i64 0) (.string ⟨#[]⟩) (.slice none 0 0)))
              clear D2 O2 hb d0 d1 d2 g1 g2
              go_wp2
              have p0 := hP.c0
              have p1 := hP.c1
              have p2 := hP.c2
              refine bodyPost_ret (v := .tuple #[.agg #[.int .i64 0, .string ⟨#[]⟩, .slice none 0 0], .int .i64 4]) ?_ rfl R.out
              unfold N.put3 at p0 p1 p2
              simp [results, Try.results34, go_sem, p0, p1, p2]
          · have hdec := HN.out _ _ _ hL.out (by omega) h0
            obtain ⟨e1, e2⟩ := N.size1 h0
            have O2 := hD.out.own_
            have r0 := O2.c0
            have r1 := O2.c1
            have r2 := O2.c2
            have s0 := O2.f0
            have s1 := O2.f1
            have s2 := O2.f2
            have hP := O2.put (.int .i64 0) (.string ⟨#[]⟩) (.slice none 0 0)
            have R := Lib.hid (N.DcEnd.no hdec (N.put3_below hD.out.below hD.out.gr (.int .i64 0) (.string ⟨#[]⟩) (.slice none 0 0)))
            clear HK HN HD HC hF hrow hL h0 hdec O2
            go_wp2
            have p0 := hP.c0
            have p1 := hP.c1
            have p2 := hP.c2
            refine bodyPost_ret (v := .tuple #[.agg #[.int .i64 0, .string ⟨#[]⟩, .slice none 0 0], .int .i64 4]) ?_ rfl R.out
            unfold N.put3 at p0 p1 p2
            simp [results, Try.results34, go_sem, p0, p1, p2]
end Go.Proofs.Ytdpaleldalplfaa
