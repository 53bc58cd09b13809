/- The contract of the reference of layer 10: Sort. -/
import Derived.Test.YtlkkgjkbjjifmaaDoorHandRow
import Derived.Lib.SliceRun
namespace Go.Proofs.YtlkkgjkbjjifmaaDoor
open Go.RowKit

/-- Where a number is put. -/
def H.pos (l : List Nat) (x : Nat) : Nat := (l.takeWhile (fun y => decide (H.bf y x))).length
theorem H.pos_cons (y : Nat) (l : List Nat) (x : Nat) : H.pos (y :: l) x = if H.bf y x then H.pos l x + 1 else 0 := by
  unfold H.pos
  rw [List.takeWhile_cons]
  by_cases h : H.bf y x
  · rw [if_pos (by simpa using h), if_pos h, List.length_cons]
  · rw [if_neg (by simpa using h), if_neg h]; rfl
theorem H.pos_le : ∀ (l : List Nat) (x : Nat), H.pos l x ≤ l.length
  | [], _ => Nat.le_refl _
  | y :: l, x => by
    rw [H.pos_cons, List.length_cons]
    have := H.pos_le l x
    split <;> omega
theorem H.pos_step : ∀ (l : List Nat) (x p k : Nat), l[k]? = some p → k ≤ H.pos l x → H.bf p x → k + 1 ≤ H.pos l x
  | [], _, _, _, h, _, _ => by simp at h
  | y :: l, x, p, k, h, hk, hp => by
    rw [H.pos_cons] at hk ⊢
    cases k with
    | zero => simp at h; subst h; rw [if_pos hp]; omega
    | succ k =>
      split at hk
      · rename_i hx
        rw [if_pos hx]
        have := H.pos_step l x p k (by simpa using h) (by omega) hp
        omega
      · omega
theorem H.pos_stop : ∀ (l : List Nat) (x p k : Nat), l[k]? = some p → k ≤ H.pos l x → ¬ H.bf p x → H.pos l x = k
  | [], _, _, _, h, _, _ => by simp at h
  | y :: l, x, p, k, h, hk, hp => by
    rw [H.pos_cons] at hk ⊢
    cases k with
    | zero => simp at h; subst h; rw [if_neg hp]
    | succ k =>
      split at hk
      · rename_i hx
        rw [if_pos hx, H.pos_stop l x p k (by simpa using h) (by omega) hp]
      · omega
/-- What is put in, by places: k is the place, n what is left out. -/
theorem H.ins_at : ∀ (l : List Nat) (x k : Nat), H.pos l x = k → (l[k]? = some x → H.ins l x = l.take k ++ x :: l.drop (k + 1)) ∧ (l[k]? ≠ some x → H.ins l x = l.take k ++ x :: l.drop k)
  | [], x, k, h => by
    have : k = 0 := by rw [← h]; rfl
    subst this
    exact ⟨fun h => by simp at h, fun _ => rfl⟩
  | y :: l, x, k, h => by
    rw [H.pos_cons] at h
    by_cases hb : H.bf y x
    · rw [if_pos hb] at h
      subst h
      obtain ⟨i1, i2⟩ := H.ins_at l x _ rfl
      have e : H.ins (y :: l) x = y :: H.ins l x := by rw [H.ins, if_pos hb]
      rw [e]
      simp only [List.getElem?_cons_succ, List.take_succ_cons, List.drop_succ_cons]
      exact ⟨fun h => by rw [i1 h]; rfl, fun h => by rw [i2 h]; rfl⟩
    · rw [if_neg hb] at h
      subst h
      simp only [List.getElem?_cons_zero, List.take_zero, List.nil_append, List.drop_succ_cons, List.drop_zero]
      constructor
      · intro h
        have : y = x := by simpa using h
        rw [H.ins, if_neg hb, if_pos this, this]
      · intro h
        have : ¬ y = x := fun e => h (by rw [e])
        rw [H.ins, if_neg hb, if_neg this]
/-! ### Parts of rows of handles -/
set_option maxRecDepth 100000 in
theorem H.slice_from (W0 : World) (lo : Option Addr) (L : List Nat) (c k : Nat) (hl : L.length ≤ c) (hk : k ≤ L.length) (hn : lo = none → c = 0) (hr : V.Row W0 lo (H.row L)) : ∃ lo' c', (∀ W, (Instr.slice 44 (.slice lo L.length c) (some (.int .i64 (k : Int))) none none).run Tryd.prog W = .ok (.slice lo' (L.drop k).length c') W) ∧ V.Row W0 lo' (H.row (L.drop k)) ∧ (lo' = none → c' = 0) := by
  have h := fun W => run_slice_l (P := Tryd.prog) (w := W) 44 lo L.length c Tryd.underlying44 .i64 (k : Int) (by omega) (by omega)
  have hs : ∀ W, (sizeOf (Tryd.prog.elem 44)).run Tryd.prog W = .ok 1 W := fun W => by kernel_rfl
  have e : ∀ W, (Instr.slice 44 (.slice lo L.length c) (some (.int .i64 (k : Int))) none none).run Tryd.prog W = .ok (sliced lo k L.length c 1) W := fun W => by
    rw [h, hs]; simp only [Result.andThen, Int.toNat_natCast]
  have hld : (L.drop k).length = L.length - k := List.length_drop
  by_cases hck : c = k
  · have hd : L.drop k = [] := List.drop_eq_nil_of_le (by omega)
    refine ⟨lo, c - k, fun W => ?_, by rw [hd]; exact fun i s hs => by simp [H.row] at hs, fun _ => by omega⟩
    rw [e W, hld]
    simp [sliced, hck]
  · cases lo with
    | none => have := hn rfl; omega
    | some a =>
      by_cases hL : L = []
      · subst hL
        refine ⟨some (a.add (k * 1)), c - k, fun W => ?_, by simp [H.row]; exact fun i s hs => by simp at hs, fun h => nomatch h⟩
        rw [e W]
        simp [sliced]; omega
      · obtain ⟨b, o, ea, _⟩ := H.row_at hr (i := 0) (x := L.head hL) (by cases L with
          | nil => exact absurd rfl hL
          | cons x r => rfl)
        cases ea
        refine ⟨some ⟨b, o + k, none⟩, c - k, fun W => ?_, fun i s hs => ?_, fun h => nomatch h⟩
        · rw [e W, hld]
          have hadd : (⟨b, o, none⟩ : Addr).add (k * 1) = ⟨b, o + k, none⟩ := by unfold Addr.add; split <;> simp_all
          simp only [Nat.mul_one] at hadd
          simp [sliced, hadd]; omega
        · unfold H.row at hs
          rw [List.getElem?_map, List.getElem?_drop] at hs
          obtain ⟨b', o', e', hl', hc⟩ := hr (k + i) s (by unfold H.row; rw [List.getElem?_map]; exact hs)
          cases e'
          exact ⟨b, o + k, rfl, hl', by rw [show o + k + i = o + (k + i) by omega]; exact hc⟩
theorem H.append_src {w0 w : World} {ops : Array Oper} {rest : List Oper} {o : Oper} {a : Act} {Q : Exit → Act → World → Prop} (hgd : o.guard = none) (s x : Operand)
    (ho : o.op = .call { callee := .builtin .append, args := #[s, x], argTypes := #[44, 44] })
    (v : Value) (X : List Nat) (hs : a.eval s = v) (hM : H.Made X w0 v w)
    (ao : Option Addr) (c : Nat) (l : List Nat) (hx : a.eval x = .slice ao l.length c) (hc : ao = none → c = 0) (hr : V.Row w ao (H.row l))
    (hn : X.length + l.length ≤ 1000000000)
    (h : ∀ v' w', H.Made (X ++ l) w0 v' w' → wpList Tryd.prog ops Q rest (a.put o.dst v') w') : wpList Tryd.prog ops Q (o :: rest) a w := by
  obtain ⟨ip, hp, hp0, hp1, hp2⟩ := info_parts Tryd.infoHandle
  have hown : w.ownsRow w0.heap.size 23 1 v (H.row X).length (H.row X) := hM.own
  have hB : Below w0.heap.size w0 w := hM.below
  have hcat : H.row (X ++ l) = H.row X ++ H.row l := by simp [H.row]
  cases ao with
  | none =>
    have hl : l = [] := by
      cases l with
      | nil => rfl
      | cons p r => obtain ⟨_, _, e, _⟩ := H.row_at hr (i := 0) (x := p) rfl; cases e
    subst hl
    rw [hc rfl] at hx
    refine wpList_append_own_none hgd s x _ ho w0.heap.size 23 ip 1 Tryd.underlying44 hp v (H.row X).length (H.row X) hs hown hx ?_
    refine h v w ?_
    rw [List.append_nil]; exact hM
  | some ad =>
    have hnews : ∀ j u, (H.row l)[j]? = some u → w.cell? (ad.add j) = some u := by
      intro j u hu
      obtain ⟨b, q, e, _, hcc⟩ := hr j u hu
      cases e
      have hadd : (⟨b, q, none⟩ : Addr).add j = ⟨b, q + j, none⟩ := by unfold Addr.add; split <;> simp_all
      rw [hadd]; exact hcc
    refine wpList_append_own _ hgd s x _ ho w0.heap.size 23 ip (.int .u64 0) 1 8 Tryd.underlying44 hp hp0 hp1 hp2 rfl (by decide) v (H.row X).length (H.row X) hs hown ad l.length c (H.row l) hx (by rw [H.row_len]; omega) hnews (fun u hu => by
      obtain ⟨y, _, rfl⟩ := List.mem_map.1 hu
      rfl) (by rw [H.row_len]; unfold maxLen; omega) (by rw [H.row_len]; omega) hB.size ?_
    intro v' w' h1 h2 _
    refine h v' w' ⟨?_, hB.grown h2 hB.size (fun k e => (hown.lt k e).1)⟩
    rw [hcat, List.length_append, H.row_len l]; exact h1
theorem H.Made.form2 {x : List Nat} {w : World} {v : Value} {W : World} (h : H.Made x w v W) : ∃ ao cap, v = .slice ao x.length cap ∧ x.length ≤ cap ∧ (ao = none → cap = 0) ∧ V.Row W ao (H.row x) := by
  obtain ⟨ao, cap, hv, hr⟩ := h.row
  have hown : W.ownsRow w.heap.size 23 1 v (H.row x).length (H.row x) := h.own
  refine ⟨ao, cap, hv, ?_, ?_, hr⟩
  · obtain ⟨_, ⟨e, h0⟩ | ⟨g, c, cur, e, _, _, hnc, _⟩⟩ := hown
    · rw [H.row_len] at h0; omega
    · rw [hv, H.row_len] at e; rw [H.row_len] at hnc; simp at e; omega
  · intro e0
    obtain ⟨_, ⟨e, _⟩ | ⟨g, c, cur, e, _⟩⟩ := hown
    · rw [hv] at e; simp at e; exact e.2.2
    · rw [hv, e0] at e; simp at e
theorem H.Made.weak {l : List Nat} {w W W' : World} {v : Value} (h : H.Made l W v W') (hb : Below w.heap.size w W) : H.Made l w v W' := ⟨D.own_mono h.own hb.size, hb.trans (h.below.mono hb.size)⟩
theorem H.Made.kept {l : List Nat} {w W W' : World} {v : Value} (h : H.Made l w v W) (hb : Below W.heap.size W W') : H.Made l w v W' := ⟨D.own_below h.own hb, h.below.trans (hb.mono h.below.size)⟩
theorem H.Made.drewN {l : List Nat} {w W : World} {v : Value} (h : H.Made l w v W) (n : Nat) : H.Made l w v (W.drewN n) := h.kept ⟨rfl, rfl, rfl, Nat.le_refl _, fun _ _ => rfl⟩
theorem H.drewN_alloc (W : World) (o : Obj) (n : Nat) : (W.alloc o).drewN n = (W.drewN n).alloc o := rfl
/-- An append of one handle that has just been laid, behind a region that drew. -/
theorem H.append_made {W w0 : World} {n : Nat} {ops : Array Oper} {rest : List Oper} {o : Oper} {a : Act} {Q : Exit → Act → World → Prop} (hgd : o.guard = none) (s x : Operand)
    (ho : o.op = .call { callee := .builtin .append, args := #[s, x], argTypes := #[44, 44] })
    (v : Value) (X : List Nat) (hs : a.eval s = v) (hM : H.Made X w0 v W) (z : Int) (p : Nat) (hz : (p : Int) = z) (cc : Nat) (hx : a.eval x = .slice (some ⟨W.heap.size, 0, none⟩) 1 cc) (hn : X.length ≤ 1000000000)
    (h : ∀ v' w', H.Made (X ++ [p]) w0 v' w' → wpList Tryd.prog ops Q rest (a.put o.dst v') w') :
    wpList Tryd.prog ops Q (o :: rest) a ((W.alloc (.cells #[.int .u64 z] 23)).drewN n) := by
  rw [H.drewN_alloc]
  refine H.append_one hgd s x ho w0.heap.size v X hs (hM.drewN n).own z p hz cc hx hn hM.below.size ?_
  intro Z v' w' hZ h1 h2
  refine h v' w' ?_
  rw [← hZ.out]
  exact V.Made.on (hM.drewN n) h1 h2
theorem H.ins_len (l : List Nat) (x : Nat) : (H.ins l x).length ≤ l.length + 1 := by
  induction l with
  | nil => exact Nat.le_refl _
  | cons y l ih =>
    unfold H.ins
    split
    · rw [List.length_cons, List.length_cons]; omega
    · split
      · simp
      · simp
theorem H.srt_snoc (l : List Nat) (k p : Nat) (h : l[k]? = some p) : H.srt (l.take (k + 1)) = H.ins (H.srt (l.take k)) p := by
  unfold H.srt
  rw [List.take_add_one, h, List.foldl_append]; rfl
theorem H.srt_len (l : List Nat) : (H.srt l).length ≤ l.length := by
  have key : ∀ (l acc : List Nat), (l.foldl H.ins acc).length ≤ acc.length + l.length := by
    intro l
    induction l with
    | nil => intro acc; simp
    | cons x l ih =>
      intro acc
      have := ih (H.ins acc x)
      have := H.ins_len acc x
      rw [List.foldl_cons, List.length_cons]; omega
  have := key l []
  unfold H.srt; simpa using this
set_option maxRecDepth 100000 in
set_option maxHeartbeats 8000000 in
theorem refSort10_any (ao : Option Addr) (ca : Nat) (l : List Nat) (w : World) (hr : V.Row w ao (H.row l)) (la : l.length ≤ 1000000) (hb : ∀ x ∈ l, x ≤ 18446744073709551615) :
    Calls Tryd.prog 37 #[.slice ao l.length ca] w fun e w' => ∃ v, e = .returned v ∧ H.Made (H.srt l) w v w' := by
  have Hr := Lib.hid hr
  have Hb : Hid (∀ (i x : Nat), l[i]? = some x → x ≤ 18446744073709551615) := fun i x h => hb x (List.mem_of_getElem? h)
  have Hs : Hid (∀ (i x : Nat), (H.srt (l.take i))[i]? = some x ∨ x ∈ H.srt (l.take i) → x ≤ 18446744073709551615) := fun i x h => by
    have : x ∈ H.srt (l.take i) := h.elim List.mem_of_getElem? id
    exact hb x (List.mem_of_mem_take ((H.mem_srt _ _).1 this))
  clear hr hb
  go_enter Tryd.func37, Tryd.ntmps37
  go_wp2
  go_loopw [3, 4] (fun v j wr => ∃ k : Nat, k ≤ l.length ∧ j = .int .i64 k ∧ Hid (H.Made (H.srt (l.take k)) w v wr)) (fun _ j _ => l.length - (intOf j).toNat)
  case atStart => exact ⟨0, Nat.zero_le _, rfl, H.Made.nil w (Below.refl _ _)⟩
  case round =>
    obtain ⟨k, hk, rfl, hL⟩ := hrel
    by_cases hlt : k < l.length
    · obtain ⟨p, hp, _⟩ := H.drop_cons hlt
      obtain ⟨b1, o1, e1, l1, hc⟩ := H.row_at Hr.out hp
      subst e1
      have hbw := Lib.hid hL.out.below
      have hst := Lib.hid (H.srt_snoc l k p hp)
      have hpb := Hb.out k p hp
      have hle : (H.srt (l.take k)).length ≤ l.length := by have := H.srt_len (l.take k); rw [List.length_take] at this; omega
      have hXb : Hid (∀ x ∈ H.srt (l.take k), x ≤ 18446744073709551615) := fun x hx => Hs.out k x (.inr hx)
      obtain ⟨X, hX⟩ : ∃ X, Hid (H.srt (l.take k) = X) := ⟨_, rfl⟩
      rw [hX.out] at hL hle hst hXb
      obtain ⟨vo, vc, hv, hcap, hnil, hrX⟩ := hL.out.form2
      subst hv
      have Hl : Hid (∀ V, Below w.heap.size w V → V.cell? ⟨b1, o1 + k, none⟩ = some (.int .u64 (p : Int))) := fun V h => H.cell h l1 hc
      have HX : Hid (∀ Y, Below wr.heap.size wr Y → V.Row Y vo (H.row X)) := fun Y h => hrX.below h
      have hrX := Lib.hid hrX
      clear hp hc
      obtain ⟨W0, rfl⟩ : ∃ W0 : World, W0 = wr := ⟨_, rfl⟩
      go_upto_block 2 with (fail)
      go_cut [5, 6] from 7 to 65 (fun u v wx => ∃ a : Nat, v = .int .i64 a ∧ a ≤ X.length ∧ H.pos X p = a ∧ Hid (H.Made (X.take a) W0 u wx))
      case first =>
        go_wp2
        go_loopw [5, 6] (fun u v wx => ∃ a : Nat, v = .int .i64 a ∧ a ≤ X.length ∧ a ≤ H.pos X p ∧ Hid (H.Made (X.take a) W0 u wx)) (fun _ v _ => X.length - (intOf v).toNat)
        case atStart => exact ⟨0, rfl, Nat.zero_le _, Nat.zero_le _, H.Made.nil W0 (Below.refl _ _)⟩
        case round =>
          obtain ⟨a, rfl, haX, hap, hM⟩ := hrel
          by_cases hax : a < X.length
          · obtain ⟨q, hq, _⟩ := H.drop_cons hax
            obtain ⟨b2, o2, e2, _, d0⟩ := H.row_at (HX.out _ hM.out.below) hq
            have c0 := Hl.out _ (hbw.out.trans (hM.out.below.mono hbw.out.size))
            have hqb := hXb.out q (List.mem_of_getElem? hq)
            have HBf : Hid (∀ Y, Calls Tryd.prog 47 #[.int .u64 (q : Int), .int .u64 (p : Int)] Y fun e w' => e = .returned (.bool (decide (H.bf q p))) ∧ w' = Y) := fun Y => (refBefore10_any q p Y hqb hpb).mono fun _ _ h => ⟨h.1, h.2.symm⟩
            subst e2
            have hst2 : Hid (X.take (a + 1) = X.take a ++ [q]) := by show _ = _; rw [List.take_add_one, hq]; rfl
            by_cases hbf : H.bf q p
            · rw [decide_eq_true hbf] at HBf
              have hap2 := H.pos_step X p q a hq hap hbf
              obtain ⟨z, hz⟩ : ∃ z : Int, Hid ((q : Int) = z) := ⟨_, rfl⟩
              rw [hz.out] at d0 HBf
              obtain ⟨T, hT⟩ : ∃ T, Hid (X.take a = T) := ⟨_, rfl⟩
              have hTl : T.length ≤ 1000000000 := by rw [← hT.out, List.length_take]; omega
              rw [hT.out] at hst2 hM
              obtain ⟨no, nc, hv, _⟩ := hM.out.row
              subst hv
              have hMb := Lib.hid hM.out.below.size
              clear hq hbf hqb
              go_wp2_with fail
              go_quiet (first | (go_at_call 47; exact Calls.quiet_of_same (HBf.out _)))
              go_wp2_with (at_builtin; refine H.append_made rfl _ _ rfl (.slice no T.length nc) T ?hs hM.out z q hz.out 1 ?a0 hTl ?_)
              case hs => rfl
              case a0 => rfl
              intro v' w5 hm
              have R : Hid (H.Made (X.take (a + 1)) W0 v' w5) := by show H.Made _ _ _ _; rw [hst2.out]; exact hm
              clear hm
              go_wp2
              go_roundw
              case rel => exact ⟨a + 1, by go_num, by omega, hap2, R⟩
              case measure => simp [intOf]; omega
            · rw [decide_eq_false hbf] at HBf
              have hpos := H.pos_stop X p q a hq hap hbf
              clear hq hbf hqb
              go_wp2_with fail
              go_quiet (first | (go_at_call 47; exact Calls.quiet_of_same (HBf.out _)))
              go_wp2
              go_meet
              case rel => exact ⟨a, rfl, haX, hpos, hM.out.drewN _⟩
          · obtain rfl : a = X.length := by omega
            have hpos : H.pos X p = X.length := by have := H.pos_le X p; omega
            go_wp2_with fail
            go_quiet (fail)
            go_wp2
            go_meet
            case rel => exact ⟨X.length, rfl, haX, hpos, hM.out.drewN _⟩
      case rest =>
        obtain ⟨a, rfl, haX, hpos, hM⟩ := hcut
        obtain ⟨W1, rfl⟩ : ∃ W1 : World, W1 = wc := ⟨_, rfl⟩
        obtain ⟨z, hz⟩ : ∃ z : Int, Hid ((p : Int) = z) := ⟨_, rfl⟩
        rw [hz.out] at Hl
        have c0 := Hl.out _ (hbw.out.trans (hM.out.below.mono hbw.out.size))
        obtain ⟨T0, hT0⟩ : ∃ T, Hid (X.take a = T) := ⟨_, rfl⟩
        have hT0l : Hid (T0.length = a) := by show _ = _; rw [← hT0.out, List.length_take]; omega
        have hT0b : T0.length ≤ 1000000000 := by have := hT0l.out; omega
        rw [hT0.out] at hM
        obtain ⟨no, nc, hv, _⟩ := hM.out.row
        subst hv
        obtain ⟨T1, hT1⟩ : ∃ T, Hid (T0 ++ [p] = T) := ⟨_, rfl⟩
        have hT1l : Hid (T1.length = a + 1) := by show _ = _; rw [← hT1.out, List.length_append, hT0l.out]; rfl
        go_wp2_with (at_builtin; refine H.append_one rfl _ _ rfl W0.heap.size (.slice no T0.length nc) T0 ?hs hM.out.own z p hz.out 1 ?a0 hT0b hM.out.below.size ?_)
        case hs => rfl
        case a0 => rfl
        intro Z v' w5 hZ hO hg
        have N5 : Hid (H.Made T1 W0 v' w5) := by
          show H.Made _ _ _ _
          rw [← hT1.out, ← hZ.out]
          exact V.Made.on hM.out hO hg
        clear hO hg c0
        obtain ⟨n1, m1, hv, _⟩ := N5.out.row
        subst hv
        have c0 := Hl.out _ (hbw.out.trans (N5.out.below.mono hbw.out.size))
        clear hM
        by_cases hax : a < X.length
        · obtain ⟨q, hq, _⟩ := H.drop_cons hax
          obtain ⟨b2, o2, e2, _, d0⟩ := H.row_at (HX.out _ N5.out.below) hq
          by_cases hqp : q = p
          · subst e2
            subst hqp
            have hqz : ((q : Nat) : Int) = z := hz.out
            rw [hqz] at d0
            have q1 : (z == z) = true := by simp
            obtain ⟨m, hm⟩ : ∃ m, m = a + 1 := ⟨_, rfl⟩
            have w1 : IntKind.i64.wrap ((a : Int) + 1) = (m : Int) := by rw [IntWalk.i64_in _ (by omega)]; omega
            have w2 : (a : Int) + 1 = (m : Int) := by omega
            obtain ⟨uo, uc, hsU, rU, nU⟩ := H.slice_from W0 (some ⟨b2, o2, none⟩) X vc m hcap (by omega) hnil hrX.out
            have rU := Lib.hid rU
            have nU := Lib.hid nU
            have hins : Hid (H.ins X q = T1 ++ X.drop m) := by
              show _ = _
              rw [(H.ins_at X q a hpos).1 hq, hm, ← hT1.out, ← hT0.out]
              simp
            obtain ⟨U, hU⟩ : ∃ U, Hid (X.drop m = U) := ⟨_, rfl⟩
            have hUl : T1.length + U.length ≤ 1000000000 := by have := hT1l.out; rw [← hU.out, List.length_drop]; omega
            rw [hU.out] at rU hsU hins
            clear hq hm
            go_wp2_with fail
            go_quiet (fail)
            go_wp2_with (at_builtin; refine H.append_src (w0 := W0) rfl _ _ rfl (.slice n1 T1.length m1) T1 ?hs (N5.out.drewN _) uo uc U ?hx nU.out ?hr hUl ?_)
            case hs => rfl
            case hx => rfl
            case hr => exact rU.out.below (H.drewN N5.out.below _)
            intro v6 w6 hm6
            have R : Hid (H.Made (H.srt (l.take (k + 1))) w v6 w6) := by show H.Made _ _ _ _; rw [hst.out, hins.out]; exact hm6.weak hbw.out
            clear hm6
            go_wp2
            go_roundw
            case rel => exact ⟨k + 1, by omega, by go_num, R⟩
            case measure => simp [intOf]; omega
          · subst e2
            obtain ⟨y, hy⟩ : ∃ y : Int, (q : Int) = y := ⟨_, rfl⟩
            rw [hy] at d0
            have q1 : (y == z) = false := by rw [← hy, ← hz.out]; simp; omega
            obtain ⟨uo, uc, hsU, rU, nU⟩ := H.slice_from W0 (some ⟨b2, o2, none⟩) X vc a hcap (by omega) hnil hrX.out
            have rU := Lib.hid rU
            have nU := Lib.hid nU
            have hins : Hid (H.ins X p = T1 ++ X.drop a) := by
              show _ = _
              rw [(H.ins_at X p a hpos).2 (by rw [hq]; simpa using hqp), ← hT1.out, ← hT0.out]
              simp
            obtain ⟨U, hU⟩ : ∃ U, Hid (X.drop a = U) := ⟨_, rfl⟩
            have hUl : T1.length + U.length ≤ 1000000000 := by have := hT1l.out; rw [← hU.out, List.length_drop]; omega
            rw [hU.out] at rU hsU hins
            clear hq hqp hy
            go_wp2_with fail
            go_quiet (fail)
            go_wp2_with (at_builtin; refine H.append_src (w0 := W0) rfl _ _ rfl (.slice n1 T1.length m1) T1 ?hs (N5.out.drewN _) uo uc U ?hx nU.out ?hr hUl ?_)
            case hs => rfl
            case hx => rfl
            case hr => exact rU.out.below (H.drewN N5.out.below _)
            intro v6 w6 hm6
            have R : Hid (H.Made (H.srt (l.take (k + 1))) w v6 w6) := by show H.Made _ _ _ _; rw [hst.out, hins.out]; exact hm6.weak hbw.out
            clear hm6
            go_wp2
            go_roundw
            case rel => exact ⟨k + 1, by omega, by go_num, R⟩
            case measure => simp [intOf]; omega
        · obtain ⟨uo, uc, hsU, rU, nU⟩ := H.slice_from W0 vo X vc a hcap (by omega) hnil hrX.out
          have rU := Lib.hid rU
          have nU := Lib.hid nU
          have hins : Hid (H.ins X p = T1 ++ X.drop a) := by
            show _ = _
            rw [(H.ins_at X p a hpos).2 (by rw [List.getElem?_eq_none (by omega)]; simp), ← hT1.out, ← hT0.out]
            simp
          obtain ⟨U, hU⟩ : ∃ U, Hid (X.drop a = U) := ⟨_, rfl⟩
          have hUl : T1.length + U.length ≤ 1000000000 := by have := hT1l.out; rw [← hU.out, List.length_drop]; omega
          rw [hU.out] at rU hsU hins
          go_wp2_with fail
          go_quiet (fail)
          go_wp2_with (at_builtin; refine H.append_src (w0 := W0) rfl _ _ rfl (.slice n1 T1.length m1) T1 ?hs (N5.out.drewN _) uo uc U ?hx nU.out ?hr hUl ?_)
          case hs => rfl
          case hx => rfl
          case hr => exact rU.out.below (H.drewN N5.out.below _)
          intro v6 w6 hm6
          have R : Hid (H.Made (H.srt (l.take (k + 1))) w v6 w6) := by show H.Made _ _ _ _; rw [hst.out, hins.out]; exact hm6.weak hbw.out
          clear hm6
          go_wp2
          go_roundw
          case rel => exact ⟨k + 1, by omega, by go_num, R⟩
          case measure => simp [intOf]; omega
    · obtain rfl : k = l.length := by omega
      rw [List.take_length] at hL
      go_wp2
      go_ret
      exact ⟨_, rfl, hL.out⟩
end Go.Proofs.YtlkkgjkbjjifmaaDoor
