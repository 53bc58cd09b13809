/- Texts joined: NodeEnc1 NodeEnc2 NodeEnc3 -/
import Derived.Test.YtdpaleldalplfaaPackNMake
import Derived.Test.YtdpaleldalplfaaDeltaOwn
import Derived.Deep.AppendLies
import Derived.Deep.DeepCutAuto
import Derived.Deep.RegionLaw
import Derived.Test.YtdpaleldalplfaaApplyRow
/- NodeEnc1 -/
namespace Go.Proofs.Ytdpaleldalplfaa
open Go.RowKit

theorem N.be_head : ∀ (s n : Nat), N.be (s + 1) n = UInt8.ofNat (n / 256 ^ s % 256) :: N.be s n
  | 0, n => by simp [N.be]
  | s + 1, n => by
    rw [N.be, N.be_head s (n / 256), N.be, Nat.div_div_eq_div_mul, Nat.pow_succ, Nat.mul_comm 256, List.cons_append]
/-- A box that holds a row of bytes, and other blocks that are not the row's. -/
def N.Pt (B b : Nat) (K : List (Nat × Obj)) (X : List UInt8) (W : World) : Prop :=
  ∃ v, W.heap[b]? = some (.cells #[v] 66 (0, 0)) ∧ W.ownsRow B 5 1 v X.length (D.bytesL X) ∧ v.ownBlock ≠ some b ∧ (∀ p ∈ K, W.heap[p.1]? = some p.2 ∧ v.ownBlock ≠ some p.1 ∧ p.1 ≠ b) ∧ B ≤ b ∧ B ≤ W.heap.size
theorem N.Pt.put {B b : Nat} {K : List (Nat × Obj)} {X : List UInt8} {W w3 : World} {v v' : Value} {c : UInt8}
    (hb : W.heap[b]? = some (.cells #[v] 66 (0, 0))) (ho : W.ownsRow B 5 1 v X.length (D.bytesL X)) (h2 : v.ownBlock ≠ some b) (h3 : ∀ p ∈ K, W.heap[p.1]? = some p.2 ∧ v.ownBlock ≠ some p.1 ∧ p.1 ≠ b) (h5 : B ≤ b) (h6 : B ≤ W.heap.size)
    (hO : w3.ownsRow B 5 1 v' (X ++ [c]).length (D.bytesL (X ++ [c]))) (hg : W.grownBy w3 v.ownBlock) (ha : v'.ownBlock = v.ownBlock ∨ ∃ g, v'.ownBlock = some g ∧ W.heap.size ≤ g) :
    N.Pt B b K (X ++ [c]) (w3.setCell ⟨b, 0, none⟩ v') ∧ Below B W (w3.setCell ⟨b, 0, none⟩ v') := by
  have lb := (Array.getElem?_eq_some_iff.1 hb).1
  have hb3 : w3.heap[b]? = some (.cells #[v] 66 (0, 0)) := (hg.block _ lb (fun e => h2 e.symm)).trans hb
  have key : ∀ k, k < W.heap.size → v.ownBlock ≠ some k → v'.ownBlock ≠ some k := fun k hk hv => by
    rcases ha with ha | ⟨g, ha, hz⟩
    · rw [ha]; exact hv
    · rw [ha]; intro e; injection e with e; omega
  have hset : ∀ j, j ≠ b → (w3.setCell ⟨b, 0, none⟩ v').heap[j]? = w3.heap[j]? := fun j hj => Below.heap_setCell _ _ _ _ hj
  have hsz : (w3.setCell ⟨b, 0, none⟩ v').heap.size = w3.heap.size := by simp [World.setCell]
  refine ⟨⟨v', (heap_setCell_same w3 b 0 _ _ _ hb3).trans rfl, ?_, key b lb h2, fun p hp => ?_, h5, by rw [hsz]; exact Nat.le_trans h6 hg.size⟩, ?_⟩
  · exact hO.kept (row := some b) ⟨rfl, rfl, rfl, by rw [hsz]; exact Nat.le_refl _, fun j _ hj => hset j (fun e => hj (by rw [e]))⟩ (.inr (key b lb h2))
  · obtain ⟨k1, k2, k3⟩ := h3 p hp
    have lk := (Array.getElem?_eq_some_iff.1 k1).1
    exact ⟨(hset _ k3).trans ((hg.block _ lk (fun e => k2 e.symm)).trans k1), key _ lk k2, k3⟩
  · exact ((Below.refl B W).grown hg h6 (fun j hj => (ho.lt j hj).1)).setCell (p := ⟨b, 0, none⟩) h5 _
theorem N.Pt.below {B b : Nat} {K : List (Nat × Obj)} {X : List UInt8} {W W' : World} (h : N.Pt B b K X W) (hb : Below W.heap.size W W') : N.Pt B b K X W' := by
  obtain ⟨v, h1, h2, h3, h4, h5, h6⟩ := h
  exact ⟨v, (hb.block _ (Array.getElem?_eq_some_iff.1 h1).1).trans h1, D.own_below h2 hb, h3, fun p hp => ⟨(hb.block _ (Array.getElem?_eq_some_iff.1 (h4 p hp).1).1).trans (h4 p hp).1, (h4 p hp).2⟩, h5, Nat.le_trans h6 hb.size⟩
theorem N.Pt.add {B b : Nat} {K : List (Nat × Obj)} {X : List UInt8} {W : World} (h : N.Pt B b K X W) (cs : Array Value) (T : TypeId) : N.Pt B b ((W.heap.size, .cells cs T) :: K) X (W.alloc (.cells cs T)) := by
  obtain ⟨v, h1, h2, h3, h4, h5, h6⟩ := h.below ((Below.refl _ _).alloc (Nat.le_refl _) (.cells cs T))
  have hlt : ∀ j, v.ownBlock = some j → j < W.heap.size := fun j hj => by
    obtain ⟨v', g1, g2, _⟩ := h
    have e : v = v' := by
      have := ((Below.heap_alloc W (.cells cs T) b (Array.getElem?_eq_some_iff.1 g1).1).trans g1)
      rw [h1] at this; simpa using this
    rw [e] at hj; exact (g2.lt j hj).2
  have hbl : b < W.heap.size := by obtain ⟨v', g1, _⟩ := h; exact (Array.getElem?_eq_some_iff.1 g1).1
  refine ⟨v, h1, h2, h3, fun p hp => ?_, h5, h6⟩
  rcases List.mem_cons.1 hp with rfl | hp
  · exact ⟨heap_alloc_new W _, fun e => by have := hlt _ e; dsimp only at this; omega, by dsimp only; omega⟩
  · exact h4 p hp
theorem N.byte_eq (n m : Nat) : IntKind.u8.wrap ((n : Int) / 2 ^ (8 * (m : Int)).toNat) = ((UInt8.ofNat (n / 256 ^ m % 256)).toNat : Int) := by
  have e : (8 * (m : Int)).toNat = 8 * m := by omega
  have p : (2 : Int) ^ (8 * m) = ((256 ^ m : Nat) : Int) := by
    rw [show (256 : Nat) = 2 ^ 8 from rfl, ← Nat.pow_mul]; simp
  rw [e, p, ← Int.natCast_ediv, UInt8.toNat_ofNat']
  generalize n / 256 ^ m = q
  simp only [IntKind.wrap, IntKind.bits, IntKind.signed]
  simp
def N.PutEnd (B b : Nat) (K : List (Nat × Obj)) (X : List UInt8) (w : World) (e : Ending) (w' : World) : Prop := e = .returned (.tuple #[]) ∧ N.Pt B b K X w' ∧ Below B w w'
set_option maxRecDepth 100000 in
set_option maxHeartbeats 4000000 in
theorem put12_any (B b : Nat) (K : List (Nat × Obj)) (X : List UInt8) (n s : Nat) (hs : s ≤ 6) (hX : X.length ≤ 1000000) (w : World) (h : N.Pt B b K X w) :
    Calls Try.prog 81 #[.int .u64 (n : Int), .int .i64 (s : Int), .pointer (some ⟨b, 0, none⟩)] w (N.PutEnd B b K (X ++ N.be s n) w) := by
  obtain ⟨ib, i0, i1, i2, i3⟩ := info_parts Try.infoByte
  have Hp := Lib.hid (And.intro i0 (And.intro i1 (And.intro i2 i3)))
  clear i0 i1 i2 i3
  have H0 := Lib.hid h
  clear h
  go_enter Try.func81, Try.ntmps81
  go_wp2
  go_loopw [1] (fun j wr => ∃ (k : Nat) (Y : List UInt8), k ≤ s ∧ j = .int .i64 k ∧ Hid (N.Pt B b K Y wr) ∧ Hid (Y ++ N.be k n = X ++ N.be s n) ∧ Hid (Below B w wr)) (fun j _ => (intOf j).toNat)
  case atStart => exact ⟨s, X, Nat.le_refl _, rfl, H0, rfl, Below.refl _ _⟩
  case round =>
    clear H0
    obtain ⟨k, Y, hk, rfl, hP, hY, hw⟩ := hrel
    by_cases hlt : 0 < k
    · obtain ⟨m, rfl⟩ : ∃ m, k = m + 1 := ⟨k - 1, by omega⟩
      obtain ⟨v, hb, ho, h2, h3, h5, h6⟩ := hP.out
      obtain ⟨tb, tc, rfl⟩ := D.slice_of_own ho
      have e1 : ((m + 1 : Nat) : Int) - 1 = (m : Int) := by omega
      have c0 : wr.cell? ⟨b, 0, none⟩ = some (.slice tb Y.length tc) := Lib.cell_of_heap hb 0
      have fz : wr.frozen? ⟨b, 0, none⟩ = false := frozen_of_row _ _ _ _ _ hb
      go_wp2
      have q1 : IntKind.i64.wrap (8 * (m : Int)) = 8 * (m : Int) := IntWalk.i64_in _ (by omega)
      have q2 : (0 : Int) ≤ 8 * (m : Int) := by omega
      obtain ⟨c, hc⟩ : ∃ c, c = UInt8.ofNat (n / 256 ^ m % 256) := ⟨_, rfl⟩
      have q3 : IntKind.u8.wrap ((n : Int) / 2 ^ (8 * (m : Int)).toNat) = (c.toNat : Int) := by rw [hc]; exact N.byte_eq n m
      have hY2 : Hid ((Y ++ [c]) ++ N.be m n = X ++ N.be s n) := by
        have := hY.out
        rw [N.be_head, ← hc] at this
        show _ = _
        rw [← this, List.append_assoc]; rfl
      have hlen : Y.length ≤ 1000100 := by
        have := congrArg List.length hY.out
        rw [List.length_append, List.length_append, N.be_len, N.be_len] at this
        omega
      have hfin : Hid (∀ v' w3, w3.ownsRow B 5 1 v' (Y ++ [c]).length (D.bytesL (Y ++ [c])) → wr.grownBy w3 (Value.slice tb Y.length tc).ownBlock → (v'.ownBlock = (Value.slice tb Y.length tc).ownBlock ∨ ∃ g, v'.ownBlock = some g ∧ wr.heap.size ≤ g) → N.Pt B b K (Y ++ [c]) (w3.setCell ⟨b, 0, none⟩ v') ∧ Below B w (w3.setCell ⟨b, 0, none⟩ v')) := fun v' w3 q1 q2 q3 => by
        obtain ⟨r1, r2⟩ := N.Pt.put hb ho h2 h3 h5 h6 q1 q2 q3
        exact ⟨r1, hw.out.trans r2⟩
      have hO := Lib.hid ho
      have hB := Lib.hid hb
      have Hne := Lib.hid h2
      have hbl := (Array.getElem?_eq_some_iff.1 hb).1
      have hm : (m : Int) + 1 - 1 = (m : Int) := by omega
      clear hc hY hP hw ho hb h2 h3 hlt
      go_region_law (first
        | (refine step_append_lies _ rfl (.tmp 9) (.tmp 15) 66 rfl B 5 ib (.int .u8 0) 1 1 Try.underlying66 Hp.out.1 Hp.out.2.1 Hp.out.2.2.1 Hp.out.2.2.2 rfl (by decide) (.slice tb Y.length tc) Y.length (D.bytesL Y) rfl ?own _ 1 1 [.int .u8 (c.toNat : Int)] rfl rfl ?news (fun u hu => by simp at hu; subst hu; rfl) (by decide) (by unfold maxLen; omega) (by omega) ?base _ rfl ?_
           case own => repeat (first | exact hO.out | refine World.ownsRow.drew ?_ | refine World.ownsRow.alloc ?_ _)
           case news => exact D.news _ _ _
           case base => first | omega | (simp; omega)
           intro g cp w3 hO3 hg3 hat3 hlt3
           have hg4 : wr.grownBy w3 (Value.slice tb Y.length tc).ownBlock := ⟨hg3.os, hg3.tape, hg3.output, Nat.le_trans (by first | omega | (simp; omega) | simp) hg3.size, fun k hk hne => (hg3.block k (by first | omega | (simp; omega)) hne).trans (Below.heap_alloc _ _ k hk)⟩
           have R := hfin.out (.slice (some ⟨g, 0, none⟩) (Y.length + 1) cp) w3 (by rw [D.bytesL_append, List.length_append]; exact hO3) hg4 (by
             rcases hat3 with h | h
             · exact .inl h.symm
             · exact .inr ⟨g, rfl, by rw [h]; first | exact Nat.le_refl _ | (simp; omega) | simp⟩)
           have R := Lib.hid R
           have hbx : w3.heap[b]? = some (.cells #[.slice tb Y.length tc] 66 (0, 0)) := (hg4.block b hbl (fun e => Hne.out e.symm)).trans hB.out
           have c0 : w3.cell? ⟨b, 0, none⟩ = some (.slice tb Y.length tc) := Lib.cell_of_heap hbx 0
           have fz : w3.frozen? ⟨b, 0, none⟩ = false := frozen_of_row _ _ _ _ _ hbx
           clear hO3 hg3 hg4 hat3 hlt3 hbx))
      all_goals
        go_wp2
        go_roundw
        case rel => exact ⟨m, Y ++ [c], by omega, rfl, R.out.1, hY2, R.out.2⟩
        case measure => simp [intOf]
    · obtain rfl : k = 0 := by omega
      have R : Hid (N.PutEnd B b K (X ++ N.be s n) w (.returned (.tuple #[])) wr) := by
        have : Y = X ++ N.be s n := by have := hY.out; rwa [N.be, List.append_nil] at this
        show N.PutEnd _ _ _ _ _ _ _
        rw [← this]; exact ⟨rfl, hP.out, hw.out⟩
      go_wp2
      go_end0
      exact R.out
end Go.Proofs.Ytdpaleldalplfaa
/- NodeEnc2 -/
namespace Go.Proofs.Ytdpaleldalplfaa
open Go.RowKit

/-- The numbers of a measure, one after another. -/
def N.nums (k : N.K) : Nat → Nat
  | 0 => k.b.toNat
  | 1 => k.r.toNat
  | _ => k.l.toNat
/-- What is put behind the handle in so many rounds. -/
def N.encM (k : N.K) : Nat → List UInt8
  | 0 => N.be 6 k.at_
  | i + 1 => N.encM k i ++ N.be 2 (N.nums k i)
theorem N.encM_all (k : N.K) : N.encM k 3 = N.encK k := by simp [N.encM, N.encK, N.nums]
theorem N.encM_len (k : N.K) (i : Nat) : (N.encM k i).length = 6 + 2 * i := by
  induction i with
  | zero => exact N.be_len _ _
  | succ i ih => rw [N.encM, List.length_append, ih, N.be_len]; omega
def N.EkEnd (B : Nat) (X : List UInt8) (w : World) (e : Ending) (w' : World) : Prop := ∃ v, e = .returned v ∧ w'.ownsRow B 5 1 v X.length (D.bytesL X) ∧ Below B w w'
set_option maxRecDepth 100000 in
set_option maxHeartbeats 4000000 in
theorem encodeKid12_any (B : Nat) (v : Value) (X : List UInt8) (k : N.K) (f : N.Fit k) (f0 : 0 ≤ k.b ∧ 0 ≤ k.r ∧ 0 ≤ k.l) (hX : X.length ≤ 100000) (w : World) (hB : B ≤ w.heap.size) (ho : w.ownsRow B 5 1 v X.length (D.bytesL X)) :
    Calls Try.prog 55 #[v, N.kv k] w (N.EkEnd B (X ++ N.encK k) w) := by
  obtain ⟨tb, tc, rfl⟩ := D.slice_of_own ho
  have hP : N.Pt B w.heap.size [(w.heap.size + 1, .cells #[.int .u64 (k.at_ : Int), .int .i64 k.b, .int .i64 k.r, .int .i64 k.l] 52)] X ((w.alloc (.cells #[.slice tb X.length tc] 66)).alloc (.cells #[.int .u64 (k.at_ : Int), .int .i64 k.b, .int .i64 k.r, .int .i64 k.l] 52)) := by
    have h0 : N.Pt B w.heap.size [] X (w.alloc (.cells #[.slice tb X.length tc] 66)) := ⟨_, heap_alloc_new w _, ho.alloc _, (fun e => by have := (ho.lt _ e).2; omega), (fun p hp => by cases hp), hB, by simp; omega⟩
    have h1 := h0.add #[.int .u64 (k.at_ : Int), .int .i64 k.b, .int .i64 k.r, .int .i64 k.l] 52
    rwa [World.size_alloc] at h1
  have HP := Lib.hid hP
  have HB : Hid (Below B w ((w.alloc (.cells #[.slice tb X.length tc] 66)).alloc (.cells #[.int .u64 (k.at_ : Int), .int .i64 k.b, .int .i64 k.r, .int .i64 k.l] 52))) := ((Below.refl _ _).alloc hB _).alloc (by simp; omega) _
  have H1 : Hid (∀ W, N.Pt B w.heap.size [(w.heap.size + 1, .cells #[.int .u64 (k.at_ : Int), .int .i64 k.b, .int .i64 k.r, .int .i64 k.l] 52)] X W → Calls Try.prog 81 #[.int .u64 (k.at_ : Int), .int .i64 6, .pointer (some ⟨w.heap.size, 0, none⟩)] W (N.PutEnd B w.heap.size [(w.heap.size + 1, .cells #[.int .u64 (k.at_ : Int), .int .i64 k.b, .int .i64 k.r, .int .i64 k.l] 52)] (X ++ N.encM k 0) W)) := fun W hW => put12_any _ _ _ _ k.at_ 6 (by decide) (by omega) W hW
  unfold N.PutEnd at H1
  have H2 : Hid (∀ (bf i : Nat), i < 3 → ∀ Z : Int, Z = (N.nums k i : Int) → ∀ W, N.Pt B w.heap.size [(bf, .cells #[.func (.func 51) #[] #[], .func (.func 53) #[] #[], .func (.func 54) #[] #[]] 93), (w.heap.size + 1, .cells #[.int .u64 (k.at_ : Int), .int .i64 k.b, .int .i64 k.r, .int .i64 k.l] 52)] (X ++ N.encM k i) W → Calls Try.prog 81 #[.int .u64 Z, .int .i64 2, .pointer (some ⟨w.heap.size, 0, none⟩)] W (N.PutEnd B w.heap.size [(bf, .cells #[.func (.func 51) #[] #[], .func (.func 53) #[] #[], .func (.func 54) #[] #[]] 93), (w.heap.size + 1, .cells #[.int .u64 (k.at_ : Int), .int .i64 k.b, .int .i64 k.r, .int .i64 k.l] 52)] (X ++ N.encM k (i + 1)) W)) := fun bf i hi Z hZ W hW => by
    subst hZ
    have := put12_any B w.heap.size _ (X ++ N.encM k i) (N.nums k i) 2 (by decide) (by rw [List.length_append, N.encM_len]; omega) W hW
    rwa [List.append_assoc] at this
  unfold N.PutEnd at H2
  have F1 : Hid (∀ W, Calls Try.prog 51 #[.agg #[.int .i64 k.b, .int .i64 k.r, .int .i64 k.l]] W fun e W' => e = .returned (.int .i64 k.b) ∧ Below W.heap.size W W') := bytesOf_comp k
  have F2 : Hid (∀ W, Calls Try.prog 53 #[.agg #[.int .i64 k.b, .int .i64 k.r, .int .i64 k.l]] W fun e W' => e = .returned (.int .i64 k.r) ∧ Below W.heap.size W W') := runesOf_comp k
  have F3 : Hid (∀ W, Calls Try.prog 54 #[.agg #[.int .i64 k.b, .int .i64 k.r, .int .i64 k.l]] W fun e W' => e = .returned (.int .i64 k.l) ∧ Below W.heap.size W W') := linesOf_comp k
  have hEnd : Hid (∀ K W, N.Pt B w.heap.size K (X ++ N.encM k 3) W → Below B w W → ∃ v, W.cell? ⟨w.heap.size, 0, none⟩ = some v ∧ N.EkEnd B (X ++ N.encK k) w (.returned v) W) := fun K W hW hb => by
    obtain ⟨v, g1, g2, _⟩ := hW
    rw [N.encM_all] at g2
    exact ⟨v, Lib.cell_of_heap g1 0, v, rfl, g2, hb⟩
  have n0 : ((k.b.toNat : Nat) : Int) = k.b := by omega
  have n1 : ((k.r.toNat : Nat) : Int) = k.r := by omega
  have n2 : ((k.l.toNat : Nat) : Int) = k.l := by omega
  have N0 := Lib.hid n0
  have N1 := Lib.hid n1
  have N2 := Lib.hid n2
  obtain ⟨z0, z1, z2⟩ := f0
  have y0 := f.b1
  have y1 := f.r1
  have y2 := f.l1
  clear n0 n1 n2 hP ho f
  unfold N.kv
  go_enter Try.func55, Try.ntmps55
  obtain ⟨_, _, _, _, hk, _⟩ := HP.out
  have c0 : ((w.alloc (.cells #[.slice tb X.length tc] 66)).alloc (.cells #[.int .u64 (k.at_ : Int), .int .i64 k.b, .int .i64 k.r, .int .i64 k.l] 52)).cell? ⟨w.heap.size + 1, 0, none⟩ = some (.int .u64 (k.at_ : Int)) := Lib.cell_of_heap (hk _ List.mem_cons_self).1 0
  clear hk
  go_wp2_with fail
  refine (H1.out _ HP.out).mono ?_
  rintro e w1 ⟨rfl, hp, hb⟩
  have B1 := Lib.hid (HB.out.trans hb)
  have P1 := Lib.hid (hp.add #[.func (.func 51) #[] #[], .func (.func 53) #[] #[], .func (.func 54) #[] #[]] 93)
  have hBs : B ≤ w1.heap.size := Nat.le_trans hB (by have := B1.out.size; omega)
  have B2 := Lib.hid (B1.out.alloc hBs (.cells #[.func (.func 51) #[] #[], .func (.func 53) #[] #[], .func (.func 54) #[] #[]] 93))
  clear hp hb c0 HB HP H1 B1
  go_wp2
  go_loopw [15] (fun j wr => ∃ i : Nat, i ≤ 3 ∧ j = .int .i64 i ∧ Hid (N.Pt B w.heap.size [(w1.heap.size, .cells #[.func (.func 51) #[] #[], .func (.func 53) #[] #[], .func (.func 54) #[] #[]] 93), (w.heap.size + 1, .cells #[.int .u64 (k.at_ : Int), .int .i64 k.b, .int .i64 k.r, .int .i64 k.l] 52)] (X ++ N.encM k i) wr) ∧ Hid (Below B w wr)) (fun j _ => 3 - (intOf j).toNat)
  case atStart => exact ⟨0, by decide, rfl, P1, B2⟩
  case round =>
    clear P1 B2
    obtain ⟨i, hi, rfl, hP, hw⟩ := hrel
    by_cases h3 : i = 3
    · subst h3
      obtain ⟨v, hv, R⟩ := hEnd.out _ _ hP.out hw.out
      have R := Lib.hid R
      clear hi
      go_wp2
      go_ret
      exact R.out
    · obtain ⟨_, _, _, _, hk, _⟩ := hP.out
      have k1 := (hk _ List.mem_cons_self).1
      have k2 := (hk _ (List.mem_cons_of_mem _ List.mem_cons_self)).1
      dsimp only at k1 k2
      have d1 : wr.cell? ⟨w.heap.size + 1, 1, none⟩ = some (.int .i64 k.b) := Lib.cell_of_heap k2 1
      have d2 : wr.cell? ⟨w.heap.size + 1, 2, none⟩ = some (.int .i64 k.r) := Lib.cell_of_heap k2 2
      have d3 : wr.cell? ⟨w.heap.size + 1, 3, none⟩ = some (.int .i64 k.l) := Lib.cell_of_heap k2 3
      clear hk k2
      rcases (show i = 0 ∨ i = 1 ∨ i = 2 by omega) with rfl | rfl | rfl
      · have g0 : wr.cell? ⟨w1.heap.size, 0, none⟩ = some (.func (.func 51) #[] #[]) := Lib.cell_of_heap k1 0
        clear k1 hi h3
        go_wp2_with fail
        refine (F1.out _).mono ?_
        rintro e w2 ⟨rfl, hb⟩
        have P2 := Lib.hid (hP.out.below hb)
        have Bw := Lib.hid (hw.out.trans (hb.mono (Nat.le_trans hB (by have := hw.out.size; omega))))
        clear hb g0 d1 d2 d3
        go_wp2_with fail
        refine (H2.out _ 0 (by decide) _ N0.out.symm _ P2.out).mono ?_
        rintro e w3 ⟨rfl, hp, hb⟩
        have B3 := Lib.hid (Bw.out.trans hb)
        have P3 := Lib.hid hp
        clear hb hp
        go_wp2
        go_roundw
        case rel => exact ⟨1, by decide, by go_num, P3, B3⟩
        case measure => simp [intOf]
      · have g0 : wr.cell? ⟨w1.heap.size, 1, none⟩ = some (.func (.func 53) #[] #[]) := Lib.cell_of_heap k1 1
        clear k1 hi h3
        go_wp2_with fail
        refine (F2.out _).mono ?_
        rintro e w2 ⟨rfl, hb⟩
        have P2 := Lib.hid (hP.out.below hb)
        have Bw := Lib.hid (hw.out.trans (hb.mono (Nat.le_trans hB (by have := hw.out.size; omega))))
        clear hb g0 d1 d2 d3
        go_wp2_with fail
        refine (H2.out _ 1 (by decide) _ N1.out.symm _ P2.out).mono ?_
        rintro e w3 ⟨rfl, hp, hb⟩
        have B3 := Lib.hid (Bw.out.trans hb)
        have P3 := Lib.hid hp
        clear hb hp
        go_wp2
        go_roundw
        case rel => exact ⟨2, by decide, by go_num, P3, B3⟩
        case measure => simp [intOf]
      · have g0 : wr.cell? ⟨w1.heap.size, 2, none⟩ = some (.func (.func 54) #[] #[]) := Lib.cell_of_heap k1 2
        clear k1 hi h3
        go_wp2_with fail
        refine (F3.out _).mono ?_
        rintro e w2 ⟨rfl, hb⟩
        have P2 := Lib.hid (hP.out.below hb)
        have Bw := Lib.hid (hw.out.trans (hb.mono (Nat.le_trans hB (by have := hw.out.size; omega))))
        clear hb g0 d1 d2 d3
        go_wp2_with fail
        refine (H2.out _ 2 (by decide) _ N2.out.symm _ P2.out).mono ?_
        rintro e w3 ⟨rfl, hp, hb⟩
        have B3 := Lib.hid (Bw.out.trans hb)
        have P3 := Lib.hid hp
        clear hb hp
        go_wp2
        go_roundw
        case rel => exact ⟨3, by decide, by go_num, P3, B3⟩
        case measure => simp [intOf]
end Go.Proofs.Ytdpaleldalplfaa
/- NodeEnc3 -/
namespace Go.Proofs.Ytdpaleldalplfaa
open Go.RowKit

def N.EnEnd (x : N.Nd) (w : World) (e : Ending) (w' : World) : Prop := e = .returned (.tuple #[.string ⟨(N.enc x).toArray⟩, .int .i64 (N.chk x)]) ∧ Below w.heap.size w w'
/-- What Encode has put together when so many children are done. -/
def N.encU (c : UInt8) (t : List UInt8) (l : List N.K) (i : Nat) : List UInt8 := c :: (t ++ (l.take i).flatMap N.encK)
theorem N.encU_step {c : UInt8} {t : List UInt8} {l : List N.K} {i : Nat} {p : N.K} (h : l[i]? = some p) : N.encU c t l (i + 1) = N.encU c t l i ++ N.encK p := by
  unfold N.encU
  rw [List.take_add_one, h]
  simp [List.flatMap_append]
theorem N.encU_len {c : UInt8} {t : List UInt8} {l : List N.K} {i : Nat} (ht : t.length ≤ 16) (hl : l.length ≤ 4) : (N.encU c t l i).length ≤ 65 := by
  have h1 : (l.take i).length ≤ 4 := by rw [List.length_take]; omega
  have h2 : ∀ m : List N.K, (m.flatMap N.encK).length = m.length * 12 := by
    intro m
    induction m with
    | nil => rfl
    | cons p m ih => rw [List.flatMap_cons, List.length_append, N.encK_len, ih, List.length_cons]; omega
  unfold N.encU
  rw [List.length_cons, List.length_append, h2]; omega
theorem N.enc_byte {h : Int} {t : ByteArray} {l : List N.K} (hc : N.chk (N.nd h t l) = 0) : ∃ c : UInt8, h = (c.toNat : Int) ∧ N.enc (N.nd h t l) = N.encU c t.data.toList l l.length ∧ t.size ≤ 16 ∧ l.length ≤ 4 ∧ ∀ p ∈ l, 0 ≤ p.b ∧ 0 ≤ p.r ∧ 0 ≤ p.l := by
  have hh : 0 ≤ h ∧ h ≤ 16 ∧ t.size ≤ 16 ∧ l.length ≤ 4 ∧ ∀ p ∈ l, 0 ≤ p.b ∧ 0 ≤ p.r ∧ 0 ≤ p.l := by
    rcases N.chk_cases hc with k | k
    · have h0 : h = 0 := k.h
      have h1 : l = [] := k.ks
      have h2 : t.data.toList.length ≤ 16 := k.t2
      rw [N.len_data] at h2
      subst h1
      exact ⟨by omega, by omega, h2, Nat.zero_le _, fun p hp => by cases hp⟩
    · have h0 : 0 < h := k.h1
      have h1 : h ≤ 16 := k.h2
      have h2 : t.data.toList = [] := k.t
      have h3 := congrArg List.length h2
      rw [N.len_data] at h3
      exact ⟨by omega, h1, by rw [h3]; decide, k.k4, fun p hp => ⟨k.pos.1 p hp, k.pos.2.1 p hp, k.pos.2.2 p hp⟩⟩
  have e : (UInt8.ofNat h.toNat).toNat = h.toNat := by rw [UInt8.toNat_ofNat']; omega
  refine ⟨UInt8.ofNat h.toNat, by rw [e]; omega, ?_, hh.2.2⟩
  unfold N.enc
  rw [if_pos hc]
  unfold N.encU
  rw [List.take_length]
  rfl
theorem N.enc_bad {x : N.Nd} (hc : N.chk x ≠ 0) : N.enc x = [] := by unfold N.enc; rw [if_neg hc]
theorem N.own_byte (w : World) {base : Nat} (c : UInt8) (hb : base ≤ w.heap.size) : (w.alloc (.cells #[.int .u8 (c.toNat : Int)] 5)).ownsRow base 5 1 (.slice (some ⟨w.heap.size, 0, none⟩) 1 1) [c].length (D.bytesL [c]) :=
  ⟨by simp [D.bytesL], .inr ⟨w.heap.size, 1, #[.int .u8 (c.toNat : Int)], rfl, hb, heap_alloc_new w _, Nat.le_refl _, by decide, rfl, by simp [D.bytesL]⟩⟩
set_option maxRecDepth 100000 in
set_option maxHeartbeats 4000000 in
theorem encode12_any (h : Int) (t : ByteArray) (ao : Option Addr) (ca : Nat) (l : List N.K) (w : World) (ht : t.size ≤ maxLen) (hn : l.length ≤ maxLen) (hr : N.Row w ao l) (hf : ∀ p ∈ l, N.Fit p) :
    Calls Try.prog 23 #[N.nv h t (.slice ao l.length ca)] w (N.EnEnd (N.nd h t l) w) := by
  have B1 : Hid (Below w.heap.size w (w.alloc (.cells #[.int .i64 h, .string t, .slice ao l.length ca] 24))) := (Below.refl _ _).alloc (Nat.le_refl _) _
  have X1 := Lib.hid (N.Nb.new w h t (.slice ao l.length ca) 24)
  have HC : Hid (∀ W, Below w.heap.size w W → Calls Try.prog 15 #[.agg #[.int .i64 h, .string t, .slice ao l.length ca]] W fun e w' => e = .returned (.int .i64 (N.chk (N.nd h t l))) ∧ Below W.heap.size W w') := fun W hW => check12_any h t ao ca l W ht hn (hr.below hW) hf
  unfold N.nv
  by_cases hc : N.chk (N.nd h t l) = 0
  · obtain ⟨c, rfl, he, ht16, hl4, hpos⟩ := N.enc_byte hc
    rw [hc] at HC
    have hcb : c.toNat < 256 := c.toNat_lt
    have Hr := Lib.hid hr
    have Hf := Lib.hid hf
    have Hp := Lib.hid hpos
    have HE : Hid (∀ W, Below w.heap.size w W → N.EnEnd (N.nd (c.toNat : Int) t l) w (.returned (.tuple #[.string ⟨(N.encU c t.data.toList l l.length).toArray⟩, .int .i64 0])) W) := fun W hW => ⟨by rw [he, hc], hW⟩
    clear hr hf hpos he hc ht hn
    go_enter Try.func23, Try.ntmps23
    go_wp2_with fail
    refine (HC.out _ B1.out).mono ?_
    rintro e w1 ⟨rfl, hb⟩
    have B2 := Lib.hid (B1.out.trans (hb.mono B1.out.size))
    have X2 := Lib.hid (X1.out.below hb)
    have x0 := X2.out.c0
    have X3 := X2.out.alloc (.cells #[.int .u8 (c.toNat : Int)] 5)
    have x1 := X3.c1
    have hO : (w1.alloc (.cells #[.int .u8 (c.toNat : Int)] 5)).ownsRow w.heap.size 5 1 (.slice (some ⟨w1.heap.size, 0, none⟩) 1 1) [c].length (D.bytesL [c]) := N.own_byte w1 c B2.out.size
    have HO := Lib.hid hO
    have hs1 := B2.out.size
    clear hb hO X3
    go_wp2_with (at_builtin; refine A.append_str rfl _ _ rfl w.heap.size _ [c] rfl HO.out t rfl ?b1 ?b2 ?_)
    case b1 => simp; omega
    case b2 => simp; omega
    intro Z v w2 hZ hO2 hg2
    rintro -
    have B3 := Lib.hid ((B2.out.alloc B2.out.size (.cells #[.int .u8 (c.toNat : Int)] 5)).grown hg2 (by simp; omega) (fun k e => (HO.out.lt k e).1))
    have X4 : Hid (N.Nb w2 w.heap.size (c.toNat : Int) t (.slice ao l.length ca)) := by
      have x := X2.out.alloc (.cells #[.int .u8 (c.toNat : Int)] 5)
      have hlt := X2.out.lt
      have e := hg2.block w.heap.size (by simp; omega) (by simp [Value.ownBlock]; omega)
      obtain ⟨q0, q1, q2, q3⟩ := x
      have key : ∀ o : Nat, w2.cell? ⟨w.heap.size, o, none⟩ = (w1.alloc (.cells #[.int .u8 (c.toNat : Int)] 5)).cell? ⟨w.heap.size, o, none⟩ := fun o => by unfold World.cell?; simp only [e]
      exact ⟨Nat.lt_of_lt_of_le q0 hg2.size, (key 0).trans q1, (key 1).trans q2, (key 2).trans q3⟩
    have O3 : Hid (w2.ownsRow w.heap.size 5 1 v (N.encU c t.data.toList l 0).length (D.bytesL (N.encU c t.data.toList l 0))) := by
      have e : N.encU c t.data.toList l 0 = Z := by rw [hZ.out]; simp [N.encU]
      show World.ownsRow _ _ _ _ _ _ _
      rw [e]; exact hO2
    have x2 := X4.out.c2
    clear hZ hO2 hg2 HO X2 x0 x1 B2 hs1
    go_wp2
    clear x2
    go_loopw [5, 23] (fun u j wr => ∃ i : Nat, i ≤ l.length ∧ j = .int .i64 i ∧ Hid (wr.ownsRow w.heap.size 5 1 u (N.encU c t.data.toList l i).length (D.bytesL (N.encU c t.data.toList l i))) ∧ Hid (Below w.heap.size w wr)) (fun _ j _ => l.length - (intOf j).toNat)
    case atStart => exact ⟨0, Nat.zero_le _, rfl, O3, B3⟩
    case round =>
      clear O3 B3 X4
      obtain ⟨i, hi, rfl, hO, hw⟩ := hrel
      by_cases hlt : i < l.length
      · obtain ⟨p, hp, hpd⟩ := N.drop_cons hlt
        obtain ⟨b1, o, e, hbl, hcs⟩ := Hr.out i p hp
        subst e
        obtain ⟨c0, c1, c2, c3⟩ := N.cell4 hw.out hbl hcs
        have hbw := hw.out.size
        have hpm := List.mem_of_getElem? hp
        have B4 := Lib.hid (hw.out.alloc hbw (.cells #[.int .u64 (p.at_ : Int), .int .i64 p.b, .int .i64 p.r, .int .i64 p.l] 52))
        have HK := encodeKid12_any w.heap.size _ (N.encU c t.data.toList l i) p (Hf.out p hpm) (Hp.out p hpm) (by have := N.encU_len (c := c) (t := t.data.toList) (l := l) (i := i) (by rw [N.len_data]; exact ht16) hl4; omega) (wr.alloc (.cells #[.int .u64 (p.at_ : Int), .int .i64 p.b, .int .i64 p.r, .int .i64 p.l] 52)) (by simp; omega) (hO.out.alloc _)
        rw [← N.encU_step hp] at HK
        unfold N.EkEnd N.kv at HK
        have HK := Lib.hid HK
        clear hp hpd hcs hpm
        go_wp2_with fail
        refine HK.out.mono ?_
        rintro e w4 ⟨v4, rfl, ho, hb⟩
        have O4 := Lib.hid ho
        have B5 := Lib.hid (B4.out.trans hb)
        clear ho hb
        go_wp2
        go_roundw
        case rel => exact ⟨i + 1, by omega, by go_num, O4, B5⟩
        case measure => simp [intOf]; omega
      · obtain rfl : i = l.length := by omega
        obtain ⟨tb, tc, rfl⟩ := D.slice_of_own hO.out
        have hconv := A.to_string hO.out wr (fun _ => rfl)
        have R := Lib.hid (HE.out wr hw.out)
        go_wp2
        go_ret2
        exact R.out
  · have HE : Hid (∀ W, Below w.heap.size w W → N.EnEnd (N.nd h t l) w (.returned (.tuple #[.string ⟨#[]⟩, .int .i64 (N.chk (N.nd h t l))])) W) := fun W hW => ⟨by rw [N.enc_bad hc], hW⟩
    have hc' : (N.chk (N.nd h t l) != 0) = true := by simpa using hc
    generalize N.chk (N.nd h t l) = d at HC hc' HE
    clear hc ht hn hr hf
    go_enter Try.func23, Try.ntmps23
    go_wp2_with fail
    refine (HC.out _ B1.out).mono ?_
    rintro e w1 ⟨rfl, hb⟩
    have B2 := Lib.hid (B1.out.trans (hb.mono B1.out.size))
    clear hb
    go_wp2
    go_ret2
    exact HE.out _ B2.out
end Go.Proofs.Ytdpaleldalplfaa
