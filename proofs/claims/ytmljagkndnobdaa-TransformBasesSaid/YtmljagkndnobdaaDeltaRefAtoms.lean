/- The contract of the reference's Atoms. -/
import Derived.Test.YtmljagkndnobdaaPackRef
namespace Go.Proofs.Ytmljagkndnobdaa
open Go.RowKit

theorem Try.infoInt : (Try.prog.info? 3).map (fun i => (i.zero, i.size, i.bytes)) = some (some (.int .i64 0), 1, 8) := by kernel_rfl
def D.intsL (x : List Int) : List Value := x.map fun i => .int .i64 i
theorem D.intsL_append (x y : List Int) : D.intsL (x ++ y) = D.intsL x ++ D.intsL y := by simp [D.intsL]
/-- A row of numbers that the call owns. -/
structure D.IntsAt (x : List Int) (w : World) (v : Value) (wr : World) : Prop where
  own : wr.ownsRow w.heap.size 3 1 v x.length (D.intsL x)
  below : Below w.heap.size w wr
def D.iA (q : D.Q) : List Int := (D.txt1 q).map D.neg
def D.rN : D.Q → Nat
  | .R n => n
  | _ => 0
def D.rA (k : Nat) (q : D.Q) : List Int := (List.range (D.rN q)).map fun i => ((k + i : Nat) : Int)
theorem D.atoms_take (a : List D.Q) (j : Nat) (q : D.Q) (h : a[j]? = some q) : D.atoms 0 (a.take (j + 1)) = D.atoms 0 (a.take j) ++ D.iA q ++ D.rA (D.inL (a.take j)) q := by
  rw [List.take_add_one, h]
  show D.atoms 0 (a.take j ++ [q]) = _
  rw [D.atoms_append, Nat.zero_add, List.append_assoc]
  cases q <;> simp [D.atoms, D.iA, D.rA, D.rN, D.txt1]
theorem D.inL_take (a : List D.Q) (j : Nat) (q : D.Q) (h : a[j]? = some q) : D.inL (a.take (j + 1)) = D.inL (a.take j) + D.in1 q := by
  rw [List.take_add_one, h]
  show D.inL (a.take j ++ [q]) = _
  rw [D.inL_append]
  rfl
theorem D.in_take_le (a : List D.Q) (j : Nat) : D.inL (a.take j) ≤ D.inL a := by
  have e := D.inL_append (a.take j) (a.drop j)
  rw [List.take_append_drop] at e
  omega
theorem D.out_take_le (a : List D.Q) (j : Nat) : D.outL (a.take j) ≤ D.outL a := by
  have e := D.outL_append (a.take j) (a.drop j)
  rw [List.take_append_drop] at e
  omega
theorem D.raw_txt (q : D.Q) : (D.raw q).t = ⟨(D.txt1 q).toArray⟩ := by cases q <;> rfl
theorem D.raw_n (q : D.Q) : (D.raw q).n = (D.in1 q : Int) := by cases q <;> rfl
def D.AtomEnd (a : List D.Q) (w : World) (e : Ending) (w' : World) : Prop := ∃ v, e = .returned v ∧ D.IntsAt (D.atoms 0 a) w v w'
set_option maxRecDepth 100000 in
set_option maxHeartbeats 2000000 in
theorem refAtoms_any (ao : Option Addr) (cap : Nat) (a : List D.Q) (w : World) (hn : a.length ≤ 1000000) (hi : D.inL a ≤ 1000000000) (ho : D.outL a ≤ 1000000000) (hr : D.Row w ao (a.map D.raw)) :
    Calls Try.prog 57 #[.slice ao a.length cap] w (D.AtomEnd a w) := by
  have Hr := Lib.hid hr
  obtain ⟨ii, hp, hp0, hp1, hp2⟩ := info_parts Try.infoInt
  have Hi := Lib.hid (And.intro hp (And.intro hp0 (And.intro hp1 hp2)))
  clear hp hp0 hp1 hp2 hr
  go_enter Try.func57, Try.ntmps57
  go_wp2
  go_loopw [3, 4, 5] (fun v at_ i wr => ∃ j : Nat, j ≤ a.length ∧ i = .int .i64 j ∧ at_ = .int .i64 (D.inL (a.take j) : Int) ∧ Hid (D.IntsAt (D.atoms 0 (a.take j)) w v wr)) (fun _ _ i _ => a.length - (intOf i).toNat)
  case atStart => exact ⟨0, Nat.zero_le _, rfl, rfl, ⟨World.ownsRow_nil _ _ _ _, Below.refl _ _⟩⟩
  case round =>
    obtain ⟨j, hj, rfl, rfl, hx⟩ := hrel
    by_cases hlt : j < a.length
    · obtain ⟨q, hq⟩ : ∃ q, a[j]? = some q := ⟨a[j], List.getElem?_eq_getElem hlt⟩
      have hat := Lib.hid (D.atoms_take a j q hq)
      have hin := Lib.hid (D.inL_take a j q hq)
      have hin1 := D.in_take_le a (j + 1)
      rw [hin.out] at hin1
      have hout := D.out_take_le a (j + 1)
      have hlen := D.atoms_length (a.take (j + 1)) 0
      rw [hat.out, List.length_append, List.length_append] at hlen
      obtain ⟨b, o, e, hbl, hcell⟩ := Hr.out j (D.raw q) (by rw [List.getElem?_map, hq]; rfl)
      subst e
      rw [D.raw_txt, D.raw_n] at hcell
      have hlI : (D.iA q).length = (D.txt1 q).length := by unfold D.iA; rw [List.length_map]
      have hlR : (D.rA (D.inL (a.take j)) q).length = D.rN q := by unfold D.rA; simp
      have hkind : ((D.raw q).k = 1 ∧ D.rN q = D.in1 q) ∨ ((D.raw q).k ≠ 1 ∧ D.rN q = 0) := by cases q <;> simp [D.raw, D.rN, D.in1]
      obtain ⟨X, hX⟩ : ∃ X, Hid (D.atoms 0 (a.take j) = X) := ⟨_, rfl⟩
      obtain ⟨t, hT⟩ : ∃ t, Hid (D.txt1 q = t) := ⟨_, rfl⟩
      obtain ⟨N, hN⟩ : ∃ N, Hid (D.in1 q = N) := ⟨_, rfl⟩
      obtain ⟨A, hA⟩ : ∃ A, Hid (D.inL (a.take j) = A) := ⟨_, rfl⟩
      rw [hX.out] at hx hat hlen
      rw [hT.out] at hcell hlI
      rw [hN.out] at hcell hin hin1 hkind
      rw [hA.out] at hin hin1 hlR hat hlen ⊢
      obtain ⟨W0, rfl⟩ : ∃ W0 : World, W0 = wr := ⟨_, rfl⟩
      go_upto_block 2 with (fail)
      go_cut [3] (fun v wx => Hid (D.IntsAt (X ++ D.iA q) w v wx))
      case first =>
        go_wp2
        go_loopw [3, 6] (fun v i wx => ∃ m : Nat, m ≤ t.length ∧ i = .int .i64 m ∧ Hid (D.IntsAt (X ++ (t.take m).map D.neg) w v wx)) (fun _ i _ => t.length - (intOf i).toNat)
        case atStart => exact ⟨0, Nat.zero_le _, rfl, by show D.IntsAt _ _ _ _; rw [List.take_zero, List.map_nil, List.append_nil]; exact hx.out⟩
        case round =>
          obtain ⟨m, hm, rfl, hy⟩ := hrel
          obtain ⟨c0, c1, c2⟩ := D.cell3 (p := ⟨(D.raw q).k, (N : Int), ⟨t.toArray⟩⟩) hy.out.below hbl hcell
          by_cases hmt : m < t.length
          · have hsz : (⟨t.toArray⟩ : ByteArray).size = t.length := D.size_l t
            obtain ⟨Z, hZ⟩ : ∃ Z, Hid (X ++ (t.take m).map D.neg = Z) := ⟨_, rfl⟩
            rw [hZ.out] at hy
            obtain ⟨tb, tc, rfl⟩ := D.slice_of_own hy.out.own
            have hmz : m < (⟨t.toArray⟩ : ByteArray).size := by omega
            have hb8 : ((⟨t.toArray⟩ : ByteArray)[m]).toNat < 256 := UInt8.toNat_lt _
            have hXl : Z.length ≤ 2000000000 := by
              rw [← hZ.out, List.length_append, List.length_map, List.length_take]
              have := Nat.min_le_left m t.length
              omega
            go_wp2_with (at_builtin; refine wpList_append_own _ rfl _ _ 90 rfl w.heap.size 3 ii (.int .i64 0) 1 8 Try.underlying90 Hi.out.1 Hi.out.2.1 Hi.out.2.2.1 Hi.out.2.2.2 rfl (by decide) _ _ _ rfl (hy.out.own.alloc _) ⟨wr.heap.size, 0, none⟩ 1 1 [.int .i64 (-1 - ((⟨t.toArray⟩ : ByteArray)[m]).toNat)] rfl rfl ?a1 ?a2 ?a3 ?a4 ?a5 ?_)
            case a2 => rfl
            case a3 => unfold maxLen; omega
            case a4 => omega
            case a5 => have := hy.out.below.size; (try simp only [World.size_alloc]); omega
            intro v' w3 hown' hgrow _
            have R : Hid (D.IntsAt (X ++ (t.take (m + 1)).map D.neg) w v' w3) := by
              refine ⟨?_, (hy.out.below.alloc hy.out.below.size _).grown hgrow (by have := hy.out.below.size; simp only [World.size_alloc]; omega) (fun k e => (hy.out.own.lt k e).1)⟩
              have e : X ++ (t.take (m + 1)).map D.neg = Z ++ [D.neg t[m]] := by
                rw [← hZ.out, List.take_add_one, List.getElem?_eq_getElem hmt, List.map_append, List.append_assoc]; rfl
              rw [e, D.intsL_append, List.length_append]
              exact hown'
            clear hown' hgrow
            obtain ⟨c0, c1, c2⟩ := D.cell3 (p := ⟨(D.raw q).k, (N : Int), ⟨t.toArray⟩⟩) R.out.below hbl hcell
            go_wp2
            go_roundw
            case rel => exact ⟨m + 1, by omega, by go_num, R⟩
            case measure => simp [intOf]; omega
          · obtain rfl : m = t.length := by omega
            have R : Hid (D.IntsAt (X ++ D.iA q) w u3 wr) := by
              have := hy.out
              rw [List.take_length] at this
              show D.IntsAt _ _ _ _
              unfold D.iA
              rw [hT.out]; exact this
            have hsz : (⟨t.toArray⟩ : ByteArray).size = t.length := D.size_l t
            go_wp2
            go_meet
            case rel => exact R
      case rest =>
        obtain ⟨Y, hY⟩ : ∃ Y, Hid (X ++ D.iA q = Y) := ⟨_, rfl⟩
        have hYl : Y.length ≤ 2000000000 := by rw [← hY.out, List.length_append]; omega
        rw [hY.out] at hcut hat
        clear hx
        obtain ⟨W1, rfl⟩ : ∃ W1 : World, W1 = wc := ⟨_, rfl⟩
        go_upto_block 4 with (fail)
        go_cut [3] (fun v wx => Hid (D.IntsAt (D.atoms 0 (a.take (j + 1))) w v wx))
        case first =>
          go_wp2
          rcases hkind with ⟨hk1, hk2⟩ | ⟨hk1, hk2⟩
          · rw [hk1] at hcell
            go_loopw [3, 7] (fun v i wx => ∃ m : Nat, m ≤ N ∧ i = .int .i64 m ∧ Hid (D.IntsAt (Y ++ (List.range m).map fun i => ((A + i : Nat) : Int)) w v wx)) (fun _ i _ => N - (intOf i).toNat)
            case atStart => exact ⟨0, Nat.zero_le _, rfl, by show D.IntsAt _ _ _ _; rw [List.range_zero, List.map_nil, List.append_nil]; exact hcut.out⟩
            case round =>
              obtain ⟨m, hm, rfl, hy⟩ := hrel
              obtain ⟨c0, c1, c2⟩ := D.cell3 (p := ⟨1, (N : Int), ⟨t.toArray⟩⟩) hy.out.below hbl hcell
              by_cases hmt : m < N
              · obtain ⟨Z, hZ⟩ : ∃ Z, Hid ((Y ++ (List.range m).map fun i => ((A + i : Nat) : Int)) = Z) := ⟨_, rfl⟩
                rw [hZ.out] at hy
                obtain ⟨tb, tc, rfl⟩ := D.slice_of_own hy.out.own
                have hXl : Z.length ≤ 4000000000 := by
                  rw [← hZ.out, List.length_append, List.length_map, List.length_range]
                  omega
                go_wp2_with (at_builtin; refine wpList_append_own _ rfl _ _ 90 rfl w.heap.size 3 ii (.int .i64 0) 1 8 Try.underlying90 Hi.out.1 Hi.out.2.1 Hi.out.2.2.1 Hi.out.2.2.2 rfl (by decide) _ _ _ rfl (hy.out.own.alloc _) ⟨wr.heap.size, 0, none⟩ 1 1 [.int .i64 ((A : Int) + (m : Int))] rfl rfl ?b1 ?b2 ?b3 ?b4 ?b5 ?_)
                case b2 => rfl
                case b3 => unfold maxLen; omega
                case b4 => omega
                case b5 => have := hy.out.below.size; (try simp only [World.size_alloc]); omega
                intro v' w3 hown' hgrow _
                have R : Hid (D.IntsAt (Y ++ (List.range (m + 1)).map fun i => ((A + i : Nat) : Int)) w v' w3) := by
                  refine ⟨?_, (hy.out.below.alloc hy.out.below.size _).grown hgrow (by have := hy.out.below.size; simp only [World.size_alloc]; omega) (fun k e => (hy.out.own.lt k e).1)⟩
                  have e : Y ++ ((List.range (m + 1)).map fun i => ((A + i : Nat) : Int)) = Z ++ [(A : Int) + (m : Int)] := by
                    rw [← hZ.out, List.range_succ, List.map_append, List.append_assoc]; rfl
                  rw [e, D.intsL_append, List.length_append]
                  exact hown'
                clear hown' hgrow
                obtain ⟨c0, c1, c2⟩ := D.cell3 (p := ⟨1, (N : Int), ⟨t.toArray⟩⟩) R.out.below hbl hcell
                go_wp2
                go_roundw
                case rel => exact ⟨m + 1, by omega, by go_num, R⟩
                case measure => simp [intOf]; omega
              · obtain rfl : m = N := by omega
                have R : Hid (D.IntsAt (D.atoms 0 (a.take (j + 1))) w u3 wr) := by
                  have := hy.out
                  show D.IntsAt _ _ _ _
                  rw [hat.out]
                  unfold D.rA
                  rw [hk2]; exact this
                go_wp2
                go_meet
                case rel => exact R
          · obtain ⟨tb, tc, hv⟩ := D.slice_of_own hcut.out.own
            have R := hcut
            rw [hv] at R ⊢
            have R : Hid (D.IntsAt (D.atoms 0 (a.take (j + 1))) w (.slice tb Y.length tc) W1) := by
              have := R.out
              show D.IntsAt _ _ _ _
              rw [hat.out]
              unfold D.rA
              rw [hk2]; simpa using this
            have hk9 : ((D.raw q).k == 1) = false := by simpa using hk1
            obtain ⟨c0, c1, c2⟩ := D.cell3 (p := ⟨(D.raw q).k, (N : Int), ⟨t.toArray⟩⟩) R.out.below hbl hcell
            clear hcut
            go_loopw [3, 7] (fun v i wx => v = .slice tb Y.length tc ∧ i = .int .i64 0 ∧ wx = W1) (fun _ _ _ => 0)
            case atStart => exact ⟨rfl, rfl, rfl⟩
            case round =>
              obtain ⟨rfl, rfl, rfl⟩ := hrel
              by_cases hN0 : 0 < N
              · go_wp2
                go_meet
                case rel => exact R
              · obtain rfl : N = 0 := by omega
                go_wp2
                go_meet
                case rel => exact R
        case rest =>
          obtain ⟨c0, c1, c2⟩ := D.cell3 (p := ⟨(D.raw q).k, (N : Int), ⟨t.toArray⟩⟩) hcut.out.below hbl hcell
          go_wp2
          go_roundw
          case rel => exact ⟨j + 1, by omega, by go_num, by rw [hin.out]; go_num, hcut⟩
          case measure => simp [intOf]; omega
    · obtain rfl : j = a.length := by omega
      have R : Hid (D.AtomEnd a w (.returned u3) wr) := ⟨_, rfl, by have := hx.out; rwa [List.take_length] at this⟩
      go_wp2
      go_ret
      exact R.out
end Go.Proofs.Ytmljagkndnobdaa
