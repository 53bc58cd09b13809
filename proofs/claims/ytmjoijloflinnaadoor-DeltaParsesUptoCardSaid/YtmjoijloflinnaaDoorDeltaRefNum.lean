/- The contract of the reference's one at a number. -/
import Derived.Test.YtmjoijloflinnaaDoorDeltaOne
import Derived.Test.YtmjoijloflinnaaDoorDeltaRdPc
import Derived.Deep.AppendLies
import Derived.Deep.RegionLaw
namespace Go.Proofs.YtmjoijloflinnaaDoor
open Go.RowKit

/-- A box that holds a piece. -/
structure D.Cl (W : World) (b : Nat) (k n : Int) (t : ByteArray) : Prop where
  lt : b < W.heap.size
  c0 : W.cell? ⟨b, 0, none⟩ = some (.int .u8 k)
  c1 : W.cell? ⟨b, 1, none⟩ = some (.int .i64 n)
  c2 : W.cell? ⟨b, 2, none⟩ = some (.string t)
  f0 : W.frozen? ⟨b, 0, none⟩ = false
  f1 : W.frozen? ⟨b, 1, none⟩ = false
  f2 : W.frozen? ⟨b, 2, none⟩ = false
theorem D.Cl.new (w : World) (k n : Int) (t : ByteArray) (ty : TypeId) : D.Cl (w.alloc (.cells #[.int .u8 k, .int .i64 n, .string t] ty)) w.heap.size k n t := by
  have h : (w.alloc (.cells #[.int .u8 k, .int .i64 n, .string t] ty)).heap[w.heap.size]? = some (.cells #[.int .u8 k, .int .i64 n, .string t] ty) := heap_alloc_new w _
  exact ⟨by simp, (World.cell?_alloc_new _ _ _ _), (World.cell?_alloc_new _ _ _ _), (World.cell?_alloc_new _ _ _ _), frozen_of_row _ _ _ _ _ h, frozen_of_row _ _ _ _ _ h, frozen_of_row _ _ _ _ _ h⟩
theorem D.Cl.alloc {W : World} {b k n t} (h : D.Cl W b k n t) (ob : Obj) : D.Cl (W.alloc ob) b k n t := by
  have e := heap_alloc_old W ob h.lt
  have key : ∀ j, (W.alloc ob).cell? ⟨b, j, none⟩ = W.cell? ⟨b, j, none⟩ := fun j => World.cell?_of_block e
  have kf : ∀ j, (W.alloc ob).frozen? ⟨b, j, none⟩ = W.frozen? ⟨b, j, none⟩ := fun j => by unfold World.frozen?; simp only [e]
  exact ⟨Nat.lt_of_lt_of_le h.lt (by simp), (key 0).trans h.c0, (key 1).trans h.c1, (key 2).trans h.c2, (kf 0).trans h.f0, (kf 1).trans h.f1, (kf 2).trans h.f2⟩
theorem D.Cl.set0 {W : World} {b k n t} (h : D.Cl W b k n t) (v : Int) : D.Cl (W.setCell ⟨b, 0, none⟩ (.int .u8 v)) b v n t := by
  refine ⟨by simpa using h.lt, ?_, ?_, ?_, by simp only [World.frozen?_setCell]; exact h.f0, by simp only [World.frozen?_setCell]; exact h.f1, by simp only [World.frozen?_setCell]; exact h.f2⟩
  · rw [World.cell?_setCell_same' _ _ _ (by rw [h.c0]; rfl)]
  · rw [World.cell?_setCell_other _ _ _ _ (by simp)]; exact h.c1
  · rw [World.cell?_setCell_other _ _ _ _ (by simp)]; exact h.c2
theorem D.Cl.set1 {W : World} {b k n t} (h : D.Cl W b k n t) (v : Int) : D.Cl (W.setCell ⟨b, 1, none⟩ (.int .i64 v)) b k v t := by
  refine ⟨by simpa using h.lt, ?_, ?_, ?_, by simp only [World.frozen?_setCell]; exact h.f0, by simp only [World.frozen?_setCell]; exact h.f1, by simp only [World.frozen?_setCell]; exact h.f2⟩
  · rw [World.cell?_setCell_other _ _ _ _ (by simp)]; exact h.c0
  · rw [World.cell?_setCell_same' _ _ _ (by rw [h.c1]; rfl)]
  · rw [World.cell?_setCell_other _ _ _ _ (by simp)]; exact h.c2
theorem D.Cl.set2 {W : World} {b k n t} (h : D.Cl W b k n t) (v : ByteArray) : D.Cl (W.setCell ⟨b, 2, none⟩ (.string v)) b k n v := by
  refine ⟨by simpa using h.lt, ?_, ?_, ?_, by simp only [World.frozen?_setCell]; exact h.f0, by simp only [World.frozen?_setCell]; exact h.f1, by simp only [World.frozen?_setCell]; exact h.f2⟩
  · rw [World.cell?_setCell_other _ _ _ _ (by simp)]; exact h.c0
  · rw [World.cell?_setCell_other _ _ _ _ (by simp)]; exact h.c1
  · rw [World.cell?_setCell_same' _ _ _ (by rw [h.c2]; rfl)]
theorem D.Cl.far {W : World} {b k n t} (h : D.Cl W b k n t) (c o : Nat) (hc : c ≠ b) (v : Value) : D.Cl (W.setCell ⟨c, o, none⟩ v) b k n t :=
  ⟨by simpa using h.lt, by rw [World.cell?_setCell_other _ _ _ _ (by simp)]; exact h.c0, by rw [World.cell?_setCell_other _ _ _ _ (by simp)]; exact h.c1, by rw [World.cell?_setCell_other _ _ _ _ (by simp)]; exact h.c2,
    by rw [World.frozen?_setCell]; exact h.f0, by rw [World.frozen?_setCell]; exact h.f1, by rw [World.frozen?_setCell]; exact h.f2⟩
theorem D.Cl.drew {W : World} {b k n t} (h : D.Cl W b k n t) : D.Cl W.drew b k n t := ⟨h.lt, h.c0, h.c1, h.c2, h.f0, h.f1, h.f2⟩
/-- The result's box, the piece's box, what lies below. -/
structure D.Two (w : World) (k n : Int) (t : ByteArray) (W : World) : Prop where
  res : D.Cl W w.heap.size 0 0 ⟨#[]⟩
  acc : D.Cl W (w.heap.size + 1) k n t
  below : Below w.heap.size w W
theorem D.Two.drew {w k n t W} (h : D.Two w k n t W) : D.Two w k n t W.drew := ⟨h.res.drew, h.acc.drew, h.below.drew⟩
theorem D.Two.set0 {w k n t W} (h : D.Two w k n t W) (v : Int) : D.Two w v n t (W.setCell ⟨w.heap.size + 1, 0, none⟩ (.int .u8 v)) := ⟨h.res.far _ _ (by omega) _, h.acc.set0 v, h.below.setCell (p := ⟨w.heap.size + 1, 0, none⟩) (by simp) _⟩
theorem D.Two.set1 {w k n t W} (h : D.Two w k n t W) (v : Int) : D.Two w k v t (W.setCell ⟨w.heap.size + 1, 1, none⟩ (.int .i64 v)) := ⟨h.res.far _ _ (by omega) _, h.acc.set1 v, h.below.setCell (p := ⟨w.heap.size + 1, 1, none⟩) (by simp) _⟩
theorem D.Two.set2 {w k n t W} (h : D.Two w k n t W) (v : ByteArray) : D.Two w k n v (W.setCell ⟨w.heap.size + 1, 2, none⟩ (.string v)) := ⟨h.res.far _ _ (by omega) _, h.acc.set2 v, h.below.setCell (p := ⟨w.heap.size + 1, 2, none⟩) (by simp) _⟩
theorem D.Two.out {w k n t W} (h : D.Two w k n t W) (x y z : Value) : Below w.heap.size w (((W.setCell ⟨w.heap.size, 0, none⟩ x).setCell ⟨w.heap.size, 1, none⟩ y).setCell ⟨w.heap.size, 2, none⟩ z) :=
  ((h.below.setCell (p := ⟨w.heap.size, 0, none⟩) (Nat.le_refl _) x).setCell (p := ⟨w.heap.size, 1, none⟩) (Nat.le_refl _) y).setCell (p := ⟨w.heap.size, 2, none⟩) (Nat.le_refl _) z
theorem D.two_new (w : World) (ty u : TypeId) (k n : Int) (t : ByteArray) : D.Two w k n t ((w.alloc (.cells #[.int .u8 0, .int .i64 0, .string ⟨#[]⟩] ty)).alloc (.cells #[.int .u8 k, .int .i64 n, .string t] u)) := by
  refine ⟨(D.Cl.new w 0 0 _ _).alloc _, ?_, ((Below.refl _ _).alloc (Nat.le_refl _) _).alloc (by simp) _⟩
  have := D.Cl.new (w.alloc (.cells #[.int .u8 0, .int .i64 0, .string ⟨#[]⟩] ty)) k n t u
  rw [World.size_alloc] at this
  exact this
/-- The answer. -/
def D.OneEnd (r : Option D.Q) (w : World) (e : Ending) (w' : World) : Prop :=
  (match r with
    | none => ∃ (k n : Int) (t : ByteArray), e = .returned (.tuple #[.agg #[.int .u8 k, .int .i64 n, .string t], .bool false])
    | some q => e = .returned (.tuple #[.agg #[.int .u8 (D.raw q).k, .int .i64 (D.raw q).n, .string (D.raw q).t], .bool true])) ∧ Below w.heap.size w w'
set_option maxRecDepth 100000 in
set_option maxHeartbeats 4000000 in
theorem refOne_D (t : List UInt8) (d : UInt8) (r : List UInt8) (w : World) (hl : t.length ≤ 1000000000) (ht : t = 45 :: d :: r) : Calls Tryd.prog 49 #[.string ⟨t.toArray⟩] w (D.OneEnd (if d = 48 then none else (D.numF 0 (d :: r)).map .D) w) := by
  have hsz : (⟨t.toArray⟩ : ByteArray).size = t.length := D.size_l t
  have h2 : 2 ≤ t.length := by rw [ht]; simp
  have z0 : 0 < (⟨t.toArray⟩ : ByteArray).size := by omega
  have z1 : 1 < (⟨t.toArray⟩ : ByteArray).size := by omega
  have b0 : ((⟨t.toArray⟩ : ByteArray)[0]'z0).toNat = 45 := by subst ht; rfl
  have b1 : ((⟨t.toArray⟩ : ByteArray)[1]'z1).toNat = d.toNat := by subst ht; rfl
  by_cases hd : d = 48
  · rw [if_pos hd]
    subst hd
    have b1 : ((⟨t.toArray⟩ : ByteArray)[1]'z1).toNat = 48 := b1
    have R : Hid (∀ w', Below w.heap.size w w' → D.OneEnd none w (.returned (.tuple #[.agg #[.int .u8 0, .int .i64 0, .string ⟨#[]⟩], .bool false])) w') := fun w' hb => ⟨⟨0, 0, ⟨#[]⟩, rfl⟩, hb⟩
    clear ht
    go_enter Tryd.func49, Tryd.ntmps49
    go_wp2
    refine bodyPost_ret (v := .tuple #[.agg #[.int .u8 0, .int .i64 0, .string ⟨#[]⟩], .bool false]) ?_ rfl (R.out _ (D.two_new w _ _ 3 0 ⟨#[]⟩).below)
    simp [results, Tryd.results49, go_sem]
  · rw [if_neg hd]
    have hd' : ((d.toNat : Int) == 48) = false := by
      simp only [beq_eq_false_iff_ne, ne_eq]
      exact fun e => hd (UInt8.toNat_inj.1 (by show d.toNat = 48; omega))
    have ed : t.drop 1 = d :: r := by rw [ht]; rfl
    have R : Hid (∀ x e w', D.numF 0 (t.drop 1) = x → D.OneEnd (x.map .D) w e w' → D.OneEnd ((D.numF 0 (d :: r)).map .D) w e w') := fun x e w' hx h => by rw [← ed, hx]; exact h
    clear ht ed
    generalize d.toNat = dn at b1 hd'
    clear hd
    go_enter Tryd.func49, Tryd.ntmps49
    go_wp2
    go_loopw [7] (fun v wr => ∃ j n : Nat, 1 ≤ j ∧ j ≤ t.length ∧ n ≤ 20000000 ∧ v = .int .i64 j ∧ Hid (D.Two w 3 n ⟨#[]⟩ wr ∧ D.numF 0 (t.drop 1) = D.numF n (t.drop j))) (fun v _ => t.length - (intOf v).toNat)
    case atStart => exact ⟨1, 0, Nat.le_refl _, by omega, by omega, rfl, by exact ⟨D.two_new w _ _ 3 0 ⟨#[]⟩, rfl⟩⟩
    case round =>
      obtain ⟨j, n, hj1, hj, hn, rfl, hz⟩ := hrel
      clear b0 b1 hd' z0 z1
      obtain ⟨_, r0, r1, r2, rf0, rf1, rf2⟩ := hz.out.1.res
      obtain ⟨_, a0, a1, a2, af0, af1, af2⟩ := hz.out.1.acc
      by_cases hlt : j < t.length
      · have hjz : j < (⟨t.toArray⟩ : ByteArray).size := by omega
        obtain ⟨V, hV⟩ : ∃ V : Nat, ((⟨t.toArray⟩ : ByteArray)[j]'hjz).toNat = V := ⟨_, rfl⟩
        have hV8 : V < 256 := hV ▸ UInt8.toNat_lt _
        have hnx : Hid (D.numF n (t.drop j) = if V < 48 ∨ 57 < V ∨ 1048576 < n then none else D.numF (10 * n + (V - 48)) (t.drop (j + 1))) := by
          show _ = _
          rw [List.drop_eq_getElem_cons hlt, D.numF]
          have : (t[j]'hlt).toNat = V := hV
          rw [this]
        by_cases g1 : V < 48
        · have g1' : (V : Int) < 48 := by omega
          have E : Hid (∀ e w', D.OneEnd none w e w' → D.OneEnd ((D.numF 0 (d :: r)).map .D) w e w') := fun e w' h => R.out none e w' (by rw [hz.out.2, hnx.out, if_pos (.inl g1)]) h
          clear hnx
          go_wp2
          refine bodyPost_ret (v := .tuple #[.agg #[.int .u8 0, .int .i64 0, .string ⟨#[]⟩], .bool false]) ?_ rfl (E.out _ _ ⟨⟨0, 0, ⟨#[]⟩, rfl⟩, hz.out.1.out _ _ _⟩)
          simp [results, Tryd.results49, go_sem, r0, r1, r2]
        · have g1' : (48 : Int) ≤ V := by omega
          by_cases g2 : 57 < V
          · have g2' : (57 : Int) < V := by omega
            have E : Hid (∀ e w', D.OneEnd none w e w' → D.OneEnd ((D.numF 0 (d :: r)).map .D) w e w') := fun e w' h => R.out none e w' (by rw [hz.out.2, hnx.out, if_pos (.inr (.inl g2))]) h
            clear hnx
            go_wp2
            refine bodyPost_ret (v := .tuple #[.agg #[.int .u8 0, .int .i64 0, .string ⟨#[]⟩], .bool false]) ?_ rfl (E.out _ _ ⟨⟨0, 0, ⟨#[]⟩, rfl⟩, hz.out.1.out _ _ _⟩)
            simp [results, Tryd.results49, go_sem, r0, r1, r2]
          · have g2' : (V : Int) ≤ 57 := by omega
            by_cases g3 : 1048576 < n
            · have g3' : (1048576 : Int) < n := by omega
              have E : Hid (∀ e w', D.OneEnd none w e w' → D.OneEnd ((D.numF 0 (d :: r)).map .D) w e w') := fun e w' h => R.out none e w' (by rw [hz.out.2, hnx.out, if_pos (.inr (.inr g3))]) h
              clear hnx
              go_wp2
              refine bodyPost_ret (v := .tuple #[.agg #[.int .u8 0, .int .i64 0, .string ⟨#[]⟩], .bool false]) ?_ rfl (E.out _ _ ⟨⟨0, 0, ⟨#[]⟩, rfl⟩, hz.out.1.out _ _ _⟩)
              simp [results, Tryd.results49, go_sem, r0, r1, r2]
            · have g3' : (n : Int) ≤ 1048576 := by omega
              have N : Hid (D.numF 0 (t.drop 1) = D.numF (10 * n + (V - 48)) (t.drop (j + 1))) := by
                show _ = _
                rw [hz.out.2, hnx.out, if_neg (by omega)]
              have m1 : ((V : Int) - 48) % 256 = V - 48 := by omega
              have ec : (10 * (n : Int) + ((V : Int) - 48)) = ((10 * n + (V - 48) : Nat) : Int) := by omega
              have R2 : Hid (D.Two w 3 ((10 * n + (V - 48) : Nat) : Int) ⟨#[]⟩ ((wr.drew).setCell ⟨w.heap.size + 1, 1, none⟩ (.int .i64 (10 * (n : Int) + ((V : Int) - 48))))) := by
                rw [ec]; exact hz.out.1.drew.set1 _
              have hb2 : 10 * n + (V - 48) ≤ 20000000 := by omega
              clear hnx ec
              go_wp2_with fail
              go_region
              all_goals
                go_wp2
                go_roundw
                case rel => exact ⟨j + 1, 10 * n + (V - 48), by omega, by omega, hb2, by go_num, R2.out, N.out⟩
                case measure => simp [intOf]; omega
      · obtain rfl : j = t.length := by omega
        have hnx : Hid (D.numF 0 (t.drop 1) = if n ≤ 1048576 then some n else none) := by
          show _ = _
          rw [hz.out.2, List.drop_length, D.numF]
        by_cases g3 : n ≤ 1048576
        · have g3' : (n : Int) ≤ 1048576 := by omega
          have E : Hid (∀ e w', D.OneEnd (some (.D n)) w e w' → D.OneEnd ((D.numF 0 (d :: r)).map .D) w e w') := fun e w' h => R.out (some n) e w' (by rw [hnx.out, if_pos g3]) h
          have B : Hid (∀ x y z, Below w.heap.size w (((wr.drew.setCell ⟨w.heap.size, 0, none⟩ x).setCell ⟨w.heap.size, 1, none⟩ y).setCell ⟨w.heap.size, 2, none⟩ z)) := fun x y z => hz.out.1.drew.out x y z
          clear hnx
          go_wp2_with fail
          go_region
          all_goals
            go_wp2
            refine bodyPost_ret (v := .tuple #[.agg #[.int .u8 3, .int .i64 n, .string ⟨#[]⟩], .bool true]) ?_ rfl (E.out _ _ ⟨rfl, B.out _ _ _⟩)
            simp [results, Tryd.results49, go_sem, r0, r1, r2]
        · have g3' : (1048576 : Int) < n := by omega
          have E : Hid (∀ e w', D.OneEnd none w e w' → D.OneEnd ((D.numF 0 (d :: r)).map .D) w e w') := fun e w' h => R.out none e w' (by rw [hnx.out, if_neg g3]) h
          have B : Hid (∀ x y z, Below w.heap.size w (((wr.drew.setCell ⟨w.heap.size, 0, none⟩ x).setCell ⟨w.heap.size, 1, none⟩ y).setCell ⟨w.heap.size, 2, none⟩ z)) := fun x y z => hz.out.1.drew.out x y z
          clear hnx
          go_wp2_with fail
          go_region
          all_goals
            go_wp2
            refine bodyPost_ret (v := .tuple #[.agg #[.int .u8 3, .int .i64 n, .string ⟨#[]⟩], .bool false]) ?_ rfl (E.out _ _ ⟨⟨_, _, _, rfl⟩, B.out _ _ _⟩)
            simp [results, Tryd.results49, go_sem, r0, r1, r2]
            exact g3'
set_option maxRecDepth 100000 in
set_option maxHeartbeats 4000000 in
theorem refOne_R (t : List UInt8) (d : UInt8) (r : List UInt8) (w : World) (hl : t.length ≤ 1000000000) (ht : t = 61 :: d :: r) : Calls Tryd.prog 49 #[.string ⟨t.toArray⟩] w (D.OneEnd (if d = 48 then none else (D.numF 0 (d :: r)).map .R) w) := by
  have hsz : (⟨t.toArray⟩ : ByteArray).size = t.length := D.size_l t
  have h2 : 2 ≤ t.length := by rw [ht]; simp
  have z0 : 0 < (⟨t.toArray⟩ : ByteArray).size := by omega
  have z1 : 1 < (⟨t.toArray⟩ : ByteArray).size := by omega
  have b0 : ((⟨t.toArray⟩ : ByteArray)[0]'z0).toNat = 61 := by subst ht; rfl
  have b1 : ((⟨t.toArray⟩ : ByteArray)[1]'z1).toNat = d.toNat := by subst ht; rfl
  by_cases hd : d = 48
  · rw [if_pos hd]
    subst hd
    have b1 : ((⟨t.toArray⟩ : ByteArray)[1]'z1).toNat = 48 := b1
    have R : Hid (∀ w', Below w.heap.size w w' → D.OneEnd none w (.returned (.tuple #[.agg #[.int .u8 0, .int .i64 0, .string ⟨#[]⟩], .bool false])) w') := fun w' hb => ⟨⟨0, 0, ⟨#[]⟩, rfl⟩, hb⟩
    clear ht
    go_enter Tryd.func49, Tryd.ntmps49
    go_wp2
    refine bodyPost_ret (v := .tuple #[.agg #[.int .u8 0, .int .i64 0, .string ⟨#[]⟩], .bool false]) ?_ rfl (R.out _ (D.two_new w _ _ 1 0 ⟨#[]⟩).below)
    simp [results, Tryd.results49, go_sem]
  · rw [if_neg hd]
    have hd' : ((d.toNat : Int) == 48) = false := by
      simp only [beq_eq_false_iff_ne, ne_eq]
      exact fun e => hd (UInt8.toNat_inj.1 (by show d.toNat = 48; omega))
    have ed : t.drop 1 = d :: r := by rw [ht]; rfl
    have R : Hid (∀ x e w', D.numF 0 (t.drop 1) = x → D.OneEnd (x.map .R) w e w' → D.OneEnd ((D.numF 0 (d :: r)).map .R) w e w') := fun x e w' hx h => by rw [← ed, hx]; exact h
    clear ht ed
    generalize d.toNat = dn at b1 hd'
    clear hd
    go_enter Tryd.func49, Tryd.ntmps49
    go_wp2
    go_loopw [7] (fun v wr => ∃ j n : Nat, 1 ≤ j ∧ j ≤ t.length ∧ n ≤ 20000000 ∧ v = .int .i64 j ∧ Hid (D.Two w 1 n ⟨#[]⟩ wr ∧ D.numF 0 (t.drop 1) = D.numF n (t.drop j))) (fun v _ => t.length - (intOf v).toNat)
    case atStart => exact ⟨1, 0, Nat.le_refl _, by omega, by omega, rfl, by exact ⟨D.two_new w _ _ 1 0 ⟨#[]⟩, rfl⟩⟩
    case round =>
      obtain ⟨j, n, hj1, hj, hn, rfl, hz⟩ := hrel
      clear b0 b1 hd' z0 z1
      obtain ⟨_, r0, r1, r2, rf0, rf1, rf2⟩ := hz.out.1.res
      obtain ⟨_, a0, a1, a2, af0, af1, af2⟩ := hz.out.1.acc
      by_cases hlt : j < t.length
      · have hjz : j < (⟨t.toArray⟩ : ByteArray).size := by omega
        obtain ⟨V, hV⟩ : ∃ V : Nat, ((⟨t.toArray⟩ : ByteArray)[j]'hjz).toNat = V := ⟨_, rfl⟩
        have hV8 : V < 256 := hV ▸ UInt8.toNat_lt _
        have hnx : Hid (D.numF n (t.drop j) = if V < 48 ∨ 57 < V ∨ 1048576 < n then none else D.numF (10 * n + (V - 48)) (t.drop (j + 1))) := by
          show _ = _
          rw [List.drop_eq_getElem_cons hlt, D.numF]
          have : (t[j]'hlt).toNat = V := hV
          rw [this]
        by_cases g1 : V < 48
        · have g1' : (V : Int) < 48 := by omega
          have E : Hid (∀ e w', D.OneEnd none w e w' → D.OneEnd ((D.numF 0 (d :: r)).map .R) w e w') := fun e w' h => R.out none e w' (by rw [hz.out.2, hnx.out, if_pos (.inl g1)]) h
          clear hnx
          go_wp2
          refine bodyPost_ret (v := .tuple #[.agg #[.int .u8 0, .int .i64 0, .string ⟨#[]⟩], .bool false]) ?_ rfl (E.out _ _ ⟨⟨0, 0, ⟨#[]⟩, rfl⟩, hz.out.1.out _ _ _⟩)
          simp [results, Tryd.results49, go_sem, r0, r1, r2]
        · have g1' : (48 : Int) ≤ V := by omega
          by_cases g2 : 57 < V
          · have g2' : (57 : Int) < V := by omega
            have E : Hid (∀ e w', D.OneEnd none w e w' → D.OneEnd ((D.numF 0 (d :: r)).map .R) w e w') := fun e w' h => R.out none e w' (by rw [hz.out.2, hnx.out, if_pos (.inr (.inl g2))]) h
            clear hnx
            go_wp2
            refine bodyPost_ret (v := .tuple #[.agg #[.int .u8 0, .int .i64 0, .string ⟨#[]⟩], .bool false]) ?_ rfl (E.out _ _ ⟨⟨0, 0, ⟨#[]⟩, rfl⟩, hz.out.1.out _ _ _⟩)
            simp [results, Tryd.results49, go_sem, r0, r1, r2]
          · have g2' : (V : Int) ≤ 57 := by omega
            by_cases g3 : 1048576 < n
            · have g3' : (1048576 : Int) < n := by omega
              have E : Hid (∀ e w', D.OneEnd none w e w' → D.OneEnd ((D.numF 0 (d :: r)).map .R) w e w') := fun e w' h => R.out none e w' (by rw [hz.out.2, hnx.out, if_pos (.inr (.inr g3))]) h
              clear hnx
              go_wp2
              refine bodyPost_ret (v := .tuple #[.agg #[.int .u8 0, .int .i64 0, .string ⟨#[]⟩], .bool false]) ?_ rfl (E.out _ _ ⟨⟨0, 0, ⟨#[]⟩, rfl⟩, hz.out.1.out _ _ _⟩)
              simp [results, Tryd.results49, go_sem, r0, r1, r2]
            · have g3' : (n : Int) ≤ 1048576 := by omega
              have N : Hid (D.numF 0 (t.drop 1) = D.numF (10 * n + (V - 48)) (t.drop (j + 1))) := by
                show _ = _
                rw [hz.out.2, hnx.out, if_neg (by omega)]
              have m1 : ((V : Int) - 48) % 256 = V - 48 := by omega
              have ec : (10 * (n : Int) + ((V : Int) - 48)) = ((10 * n + (V - 48) : Nat) : Int) := by omega
              have R2 : Hid (D.Two w 1 ((10 * n + (V - 48) : Nat) : Int) ⟨#[]⟩ ((wr.drew).setCell ⟨w.heap.size + 1, 1, none⟩ (.int .i64 (10 * (n : Int) + ((V : Int) - 48))))) := by
                rw [ec]; exact hz.out.1.drew.set1 _
              have hb2 : 10 * n + (V - 48) ≤ 20000000 := by omega
              clear hnx ec
              go_wp2_with fail
              go_region
              all_goals
                go_wp2
                go_roundw
                case rel => exact ⟨j + 1, 10 * n + (V - 48), by omega, by omega, hb2, by go_num, R2.out, N.out⟩
                case measure => simp [intOf]; omega
      · obtain rfl : j = t.length := by omega
        have hnx : Hid (D.numF 0 (t.drop 1) = if n ≤ 1048576 then some n else none) := by
          show _ = _
          rw [hz.out.2, List.drop_length, D.numF]
        by_cases g3 : n ≤ 1048576
        · have g3' : (n : Int) ≤ 1048576 := by omega
          have E : Hid (∀ e w', D.OneEnd (some (.R n)) w e w' → D.OneEnd ((D.numF 0 (d :: r)).map .R) w e w') := fun e w' h => R.out (some n) e w' (by rw [hnx.out, if_pos g3]) h
          have B : Hid (∀ x y z, Below w.heap.size w (((wr.drew.setCell ⟨w.heap.size, 0, none⟩ x).setCell ⟨w.heap.size, 1, none⟩ y).setCell ⟨w.heap.size, 2, none⟩ z)) := fun x y z => hz.out.1.drew.out x y z
          clear hnx
          go_wp2_with fail
          go_region
          all_goals
            go_wp2
            refine bodyPost_ret (v := .tuple #[.agg #[.int .u8 1, .int .i64 n, .string ⟨#[]⟩], .bool true]) ?_ rfl (E.out _ _ ⟨rfl, B.out _ _ _⟩)
            simp [results, Tryd.results49, go_sem, r0, r1, r2]
        · have g3' : (1048576 : Int) < n := by omega
          have E : Hid (∀ e w', D.OneEnd none w e w' → D.OneEnd ((D.numF 0 (d :: r)).map .R) w e w') := fun e w' h => R.out none e w' (by rw [hnx.out, if_neg g3]) h
          have B : Hid (∀ x y z, Below w.heap.size w (((wr.drew.setCell ⟨w.heap.size, 0, none⟩ x).setCell ⟨w.heap.size, 1, none⟩ y).setCell ⟨w.heap.size, 2, none⟩ z)) := fun x y z => hz.out.1.drew.out x y z
          clear hnx
          go_wp2_with fail
          go_region
          all_goals
            go_wp2
            refine bodyPost_ret (v := .tuple #[.agg #[.int .u8 1, .int .i64 n, .string ⟨#[]⟩], .bool false]) ?_ rfl (E.out _ _ ⟨⟨_, _, _, rfl⟩, B.out _ _ _⟩)
            simp [results, Tryd.results49, go_sem, r0, r1, r2]
            exact g3'
end Go.Proofs.YtmjoijloflinnaaDoor
