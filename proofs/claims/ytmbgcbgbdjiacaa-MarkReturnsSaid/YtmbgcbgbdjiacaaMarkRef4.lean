/- The contract of the reference of layer 9: Set. -/
import Derived.Test.YtmbgcbgbdjiacaaPackMRow
import Derived.Deep.DeepCutAuto
import Derived.Deep.CutBlock
import Derived.Deep.RegionLaw
namespace Go.Proofs.Ytmbgcbgbdjiacaa
open Go.RowKit

theorem K.row_lit' {W : World} {H : Nat} (m : K.M) (hH : W.heap.size = H) : K.Row (W.alloc (.cells #[.int .u32 m.id, .int .i64 m.at_, .int .u8 m.g] 32)) (some ⟨H, 0, none⟩) [m] := by
  rw [← hH]; exact K.row_lit W [m]
theorem K.Row.drew {W : World} {ao : Option Addr} {l : List K.M} (h : K.Row W ao l) : K.Row W.drew ao l := h.below (Below.refl _ _).drew
theorem K.Row.alloc {W : World} {ao : Option Addr} {l : List K.M} (h : K.Row W ao l) (ob : Obj) : K.Row (W.alloc ob) ao l := h.below ((Below.refl _ _).alloc (Nat.le_refl _) ob)
theorem K.Row.grown {W w' : World} {b o : Nat} {l : List K.M} {row : Option Nat} (h : K.Row W (some ⟨b, o, none⟩) l) (hg : W.grownBy w' row) (hne : some b ≠ row) : K.Row w' (some ⟨b, o, none⟩) l := fun i p hp => by
  obtain ⟨b', o', e, hlt, h0, h1, h2⟩ := h i p hp
  cases e
  have hc : ∀ j, w'.cell? ⟨b, j, none⟩ = W.cell? ⟨b, j, none⟩ := fun j => World.cell?_of_block (hg.block b hlt hne)
  exact ⟨b, o, rfl, Nat.lt_of_lt_of_le hlt hg.size, (hc _).trans h0, (hc _).trans h1, (hc _).trans h2⟩
/-- An append of a row of marks, at a step of a region that draws its order. -/
theorem K.step_append {w : World} {ops : Array Oper} {o : Oper} {a : Act} {KK : Act → World → Prop} {Q : Exit → Act → World → Prop} {E : Prop} (hgd : o.guard = none) (s x : Operand)
    (ho : o.op = .call { callee := .builtin .append, args := #[s, x], argTypes := #[22, 22] })
    (base : Nat) (v : Value) (n : Nat) (xs : List Value) (hs : a.eval s = v) (hown : w.ownsRow base 32 3 v n xs)
    (ao : Option Addr) (c : Nat) (l : List K.M) (hx : a.eval x = .slice ao l.length c) (hc : ao = none → c = 0) (hr : K.Row w ao l) (hbase : base ≤ w.heap.size)
    (hn : (n + l.length) * 24 ≤ 140737488355328)
    (h : ∀ v' w', w'.ownsRow base 32 3 v' (n + l.length) (xs ++ K.cellsM l) → w.grownBy w' v.ownBlock → KK (a.put o.dst v') w') :
    if Region.wanted o (yielded ops a.tmps) = true then Oper.wp Try.prog o a w KK Q else E := by
  have hw : Region.wanted o (yielded ops a.tmps) = true := by simp [Region.wanted, hgd]
  rw [if_pos hw]
  obtain ⟨ip, hp, hp0, hp1, hp2⟩ := info_parts Try.infoMark
  cases ao with
  | none =>
    have hl : l = [] := by
      cases l with
      | nil => rfl
      | cons p r => obtain ⟨_, _, e, _⟩ := hr 0 p rfl; cases e
    subst hl
    rw [hc rfl] at hx
    have hrun := run_append_owned_none (P := Try.prog) (w := w) base 22 o.type 32 ip 3 Try.underlying22 hp v n xs hown
    have h2 := h v w (by simpa [K.cellsM] using hown) (World.grownBy.refl _ _)
    unfold Oper.wp
    simp [execOp, ho, resolve, invoke, builtin, hs, hx, hrun, Result.andThen]
    exact h2
  | some ad =>
    have hnews : ∀ j u, (K.cellsM l)[j]? = some u → w.cell? (ad.add j) = some u := by
      cases l with
      | nil => intro j u hu; simp [K.cellsM] at hu
      | cons p r =>
        obtain ⟨b, q, e, _⟩ := hr 0 p rfl
        cases e
        exact K.cells_of_row hr
    exact wp_append_own w s x _ ho base 32 ip (.agg #[.int .u32 0, .int .i64 0, .int .u8 0]) 3 24 Try.underlying22 hp hp0 hp1 hp2 rfl (by decide) v n xs hs hown ad l.length c (K.cellsM l) hx (K.cellsM_len l) hnews (K.cells_one l) (by unfold maxLen; omega) (by omega) hbase fun v' w' h1 h2 _ => h v' w' h1 h2
theorem K.made0 {W : World} {H base : Nat} (hH : W.heap.size = H) (hb : base ≤ H) : (W.alloc (.cells #[] 32)).ownsRow base 32 3 (.slice (some ⟨H, 0, none⟩) 0 0) 0 [] := by
  have h := World.ownsRow_made (w := W) (base := base) (e := 32) (size := 3) #[] 0 (by omega) (Nat.zero_le _) rfl
  rw [hH] at h
  exact h
/-- The same, into a row that has just been laid empty. -/
theorem K.step_first {w : World} {ops : Array Oper} {o : Oper} {a : Act} {KK : Act → World → Prop} {Q : Exit → Act → World → Prop} {E : Prop} (hgd : o.guard = none) (s x : Operand)
    (ho : o.op = .call { callee := .builtin .append, args := #[s, x], argTypes := #[22, 22] })
    (base B : Nat) (hs : a.eval s = .slice (some ⟨B, 0, none⟩) 0 0) (hown : w.ownsRow base 32 3 (.slice (some ⟨B, 0, none⟩) 0 0) 0 [])
    (ao : Option Addr) (c : Nat) (l : List K.M) (hx : a.eval x = .slice ao l.length c) (hc : ao = none → c = 0) (hr : K.Row w ao l) (hbase : base ≤ w.heap.size)
    (hn : l.length * 24 ≤ 140737488355328) (_b : Nat) (W0 : World) (hW0 : base = W0.heap.size) (hbw : Below W0.heap.size W0 w) 
    (h : ∀ v' w', w'.ownsRow base 32 3 v' l.length (K.cellsM l) → Below W0.heap.size W0 w' → (∀ H m, H ≠ B → K.Row w (some ⟨H, 0, none⟩) [m] → K.Row w' (some ⟨H, 0, none⟩) [m]) → KK (a.put o.dst v') w') :
    if Region.wanted o (yielded ops a.tmps) = true then Oper.wp Try.prog o a w KK Q else E := by
  refine K.step_append hgd s x ho base _ 0 [] hs hown ao c l hx hc hr hbase (by omega) fun v' w' h1 h2 => ?_
  rw [Nat.zero_add, List.nil_append] at h1
  refine h v' w' h1 (hbw.grown h2 (by omega) (fun k e => by simp [Value.ownBlock] at e; have := (hown.lt B rfl).1; omega)) fun H m hH hm => hm.grown h2 (by simpa [Value.ownBlock] using hH)
set_option maxHeartbeats 8000000 in
theorem refSet9_any (ao : Option Addr) (ca : Nat) (l : List K.M) (m : K.M) (w : World) (hr : K.Row w ao l) (la : l.length ≤ maxLen) (hf : ∀ m ∈ l, K.Fit m) (fm : K.Fit m) :
    Calls Try.prog 16 #[.slice ao l.length ca, .agg #[.int .u32 m.id, .int .i64 m.at_, .int .u8 m.g]] w (K.SetEnd l m w) := by
  have hI := Lib.hid (fun V (hb : Below w.heap.size w V) => refIs9_any ao ca l V (hr.below hb) la hf)
  have hJ : Hid (∀ V : World, Calls Try.prog 31 #[.slice (some ⟨V.heap.size, 0, none⟩) 1 1] (V.alloc (.cells #[.int .u32 m.id, .int .i64 m.at_, .int .u8 m.g] 32)) fun e w' => e = .returned (.bool (K.isB [m])) ∧ Below (V.alloc (.cells #[.int .u32 m.id, .int .i64 m.at_, .int .u8 m.g] 32)).heap.size (V.alloc (.cells #[.int .u32 m.id, .int .i64 m.at_, .int .u8 m.g] 32)) w') := fun V => by
    refine refIs9_any _ 1 [m] _ (K.row_lit V [m]) (by unfold maxLen; simp) fun x hx => ?_
    rw [List.mem_singleton.1 hx]; exact fm
  have b1 := (Below.refl w.heap.size w).alloc (Nat.le_refl _) (.cells #[.int .u32 m.id, .int .i64 m.at_, .int .u8 m.g] 32)
  have hX := K.Box.new w m 32
  cases hs : K.isB l with
  | false =>
    have hd : Hid (K.setE l m = 2 ∧ K.setL l m = []) := by
      have h2 : K.setE l m = 2 := by unfold K.setE; rw [hs]; rfl
      exact ⟨h2, K.setL_bad (by rw [h2]; decide)⟩
    rw [hs] at hI
    clear hr hf hs hX hJ
    go_enter Try.func16, Try.ntmps16
    go_wp2_with fail
    refine (hI.out _ b1).mono ?_
    rintro e w1 ⟨rfl, hb⟩
    have hB := Lib.hid (b1.trans (hb.mono b1.size))
    clear hb b1
    go_wp2
    go_ret2
    exact ⟨_, by rw [hd.out.1]; rfl, by rw [hd.out.2]; exact K.Made.nil _ hB.out⟩
  | true =>
    have hl := K.isB_len hs
    have hW := Lib.hid (fun V (hb : Below w.heap.size w V) => refWithout9_any ao ca l m.id V (hr.below hb) (by omega))
    rw [hs] at hI
    have h1 := Lib.hid hs
    clear hr hf hs
    cases hs : K.isB [m] with
    | false =>
      have hd : Hid (K.setE l m = 2 ∧ K.setL l m = []) := by
        have h2 : K.setE l m = 2 := by unfold K.setE; rw [if_neg (by rw [hs]; simp)]
        exact ⟨h2, K.setL_bad (by rw [h2]; decide)⟩
      rw [hs] at hJ
      clear hs h1
      go_enter Try.func16, Try.ntmps16
      go_wp2_with fail
      refine (hI.out _ b1).mono ?_
      rintro e w1 ⟨rfl, hb⟩
      have hB := Lib.hid (b1.trans (hb.mono b1.size))
      obtain ⟨lt, x0, x1, x2, _, _, _⟩ := hX.below hb
      clear hb b1 hX
      go_wp2_with fail
      refine (hJ.out _).mono ?_
      rintro e w2 ⟨rfl, hb⟩
      have hB2 := Lib.hid ((hB.out.alloc hB.out.size _).trans (hb.mono (by have := hB.out.size; simp only [World.size_alloc]; omega)))
      clear hb
      go_wp2
      go_ret2
      exact ⟨_, by rw [hd.out.1]; rfl, by rw [hd.out.2]; exact K.Made.nil _ hB2.out⟩
    | true =>
      rw [hs] at hJ
      have h2 := Lib.hid hs
      clear hs
      obtain ⟨X, hXX⟩ : ∃ X, Hid (K.without l m.id = X) := ⟨_, rfl⟩
      rw [hXX.out] at hW
      have hXl : X.length ≤ 64 := by rw [← hXX.out]; exact Nat.le_trans (K.without_le _ _) hl
      have hE : Hid (K.setE l m = if 64 ≤ X.length then 20 else 0) := by show _ = _; unfold K.setE; rw [if_pos ⟨h1.out, h2.out⟩, hXX.out]
      have hQ : Hid (K.setE l m = 0 → K.setL l m = X.take (K.pos X m) ++ m :: X.drop (K.pos X m)) := fun h => by rw [K.setL_ok h, hXX.out, K.put_pos]
      clear h1 h2 hl
      go_enter Try.func16, Try.ntmps16
      go_wp2_with fail
      refine (hI.out _ b1).mono ?_
      rintro e w1 ⟨rfl, hb⟩
      have hB := Lib.hid (b1.trans (hb.mono b1.size))
      have hX1 := hX.below hb
      obtain ⟨lt, x0, x1, x2, _, _, _⟩ := hX.below hb
      clear hb b1 hX
      go_wp2_with fail
      refine (hJ.out _).mono ?_
      rintro e w2 ⟨rfl, hb⟩
      have hb' : Below w1.heap.size w1 w2 := ((Below.refl _ _).alloc (Nat.le_refl _) _).trans (hb.mono (by simp only [World.size_alloc]; omega))
      have hX2 := hX1.below hb'
      have hB2 := Lib.hid (hB.out.trans (hb'.mono hB.out.size))
      clear hb hb' hX1 x0 x1 x2 lt
      have hX2 := Lib.hid hX2
      obtain ⟨lt, x0, x1, x2, _, _, _⟩ := hX2.out
      go_wp2_with fail
      refine (hW.out _ hB2.out).mono ?_
      rintro e w3 ⟨v, rfl, hm⟩
      have hX3 := hX2.out.below hm.below
      have hM := Lib.hid (hm.weak hB2.out)
      clear hm hX2 x0 x1 x2 lt
      have hX3 := Lib.hid hX3
      obtain ⟨lt, x0, x1, x2, _, _, _⟩ := hX3.out
      obtain ⟨vo, vc, rfl, hcap, hnil, hrow⟩ := hM.out.form2
      have hrow := Lib.hid hrow
      by_cases h64 : 64 ≤ X.length
      · rw [if_pos h64] at hE
        have hd : Hid (K.setL l m = []) := K.setL_bad (by rw [hE.out]; decide)
        have q1 : decide ((64 : Int) ≤ (X.length : Int)) = true := by simp; omega
        go_wp2
        go_ret2
        exact ⟨_, by rw [hE.out]; rfl, by rw [hd.out]; exact K.Made.nil _ hM.out.below⟩
      · rw [if_neg h64] at hE
        have hd := Lib.hid (hQ.out hE.out)
        have q1 : decide ((64 : Int) ≤ (X.length : Int)) = false := by simp; omega
        have Hnil := Lib.hid hnil
        clear hnil
        have hS := Lib.hid (fun (V : World) => K.slice_to vo X.length vc (K.pos X m) (Nat.le_trans (K.pos_le X m) hcap) V)
        go_upto_block 0 with (fail)
        go_cut [7] from 25 to 40 (fun j wx => j = .int .i64 (K.pos X m : Int) ∧ Hid (K.Made X w (.slice vo X.length vc) wx) ∧ Hid (K.Box wx w.heap.size m))
        case first =>
          go_wp2
          go_loopw [7] (fun j wr => ∃ k : Nat, k ≤ K.pos X m ∧ j = .int .i64 (k : Int) ∧ Hid (K.Made X w (.slice vo X.length vc) wr) ∧ Hid (K.Box wr w.heap.size m)) (fun j _ => X.length - (intOf j).toNat)
          case atStart => exact ⟨0, Nat.zero_le _, rfl, hM, hX3⟩
          case round =>
            obtain ⟨k, hk, rfl, hL, hO⟩ := hrel
            clear hX3 x0 x1 x2 lt hrow hS
            have hpl := K.pos_le X m
            obtain ⟨y0, y1, y2⟩ := (⟨hO.out.c0, hO.out.c1, hO.out.c2⟩ : _ ∧ _ ∧ _)
            by_cases hkl : k < X.length
            · obtain ⟨p, hp, _⟩ := K.drop_cons hkl
              obtain ⟨b, o, e, hbl, c0, c1, c2⟩ := hL.out.row k p hp
              subst e
              have q2 : decide (k < X.length) = true := by simpa using hkl
              by_cases hlt : p.id < m.id
              · have q3 : decide (p.id < m.id) = true := by simpa using hlt
                have hnx := K.pos_step X m p k hp hk hlt
                clear hp
                go_wp2
                go_quiet (fail)
                go_wp2
                go_roundw
                case rel => exact ⟨k + 1, hnx, by go_num, hL.out.drewN _, hO.out.drewN _⟩
                case measure => simp [intOf]; omega
              · have q3 : decide (p.id < m.id) = false := by simpa using hlt
                have hnx := K.pos_stop X m p k hp hk hlt
                clear hp
                go_wp2
                go_quiet (fail)
                go_wp2
                go_meet
                case rel => exact ⟨by rw [hnx], hL.out.drewN _, hO.out.drewN _⟩
            · have q2 : decide (k < X.length) = false := by simpa using hkl
              have hnx : K.pos X m = k := by omega
              go_wp2
              go_quiet (fail)
              go_wp2
              go_meet
              case rel => exact ⟨by rw [hnx], hL.out.drewN _, hO.out.drewN _⟩
        case rest =>
        obtain ⟨rfl, hM, hX3⟩ := hcut
        obtain ⟨W0, rfl⟩ : ∃ W0 : World, W0 = wc := ⟨_, rfl⟩
        obtain ⟨lt, y0, y1, y2, _, _, _⟩ := (⟨hX3.out.lt, hX3.out.c0, hX3.out.c1, hX3.out.c2, hX3.out.f0, hX3.out.f1, hX3.out.f2⟩ : _ ∧ _ ∧ _ ∧ _ ∧ _ ∧ _ ∧ _)
        have hple := K.pos_le X m
        have hrX := hM.out.row
        have rT := Lib.hid (hrX.take (K.pos X m))
        obtain ⟨uo, uc, hsU, rU, nU⟩ := K.slice_from W0 vo X vc (K.pos X m) hcap hple Hnil.out hrX
        have rU := Lib.hid rU
        have nU := Lib.hid nU
        have hsT := hS.out
        clear hS
        obtain ⟨T, hT⟩ : ∃ T, Hid (X.take (K.pos X m) = T) := ⟨_, rfl⟩
        obtain ⟨U, hU⟩ : ∃ U, Hid (X.drop (K.pos X m) = U) := ⟨_, rfl⟩
        have hTl : T.length = K.pos X m := by rw [← hT.out, List.length_take]; omega
        have hUl : U.length ≤ 64 := by rw [← hU.out, List.length_drop]; omega
        rw [hT.out] at rT
        rw [hU.out] at rU hsU
        rw [hT.out, hU.out] at hd
        rw [← hTl] at hsT hsU hple ⊢
        obtain ⟨ip, hp, hp0, hp1, hp2⟩ := info_parts Try.infoMark
        have Hp := Lib.hid (And.intro hp (And.intro hp0 (And.intro hp1 hp2)))
        have hBW := hM.out.below
        have HBW := Lib.hid hBW
        clear hp hp0 hp1 hp2 hrX hM hX3 hcap hBW hT hU hTl hrow hQ hI hJ hW
        go_wp2
        go_region_law (first
          | (refine K.step_first rfl (.tmp 41) (.tmp 44) rfl W0.heap.size _ rfl ?own vo vc T rfl Hnil.out ?row ?base (by omega) 0 W0 rfl ?bel ?_
             case own => repeat' (first | with_reducible refine World.ownsRow.drew ?_ | with_reducible refine K.made0 ?_ ?_ | with_reducible refine World.ownsRow.alloc ?_ _ | rfl | (simp; done) | (simp; omega))
             case row => exact rT.out.below (by repeat' (first | with_reducible exact Below.refl _ _ | with_reducible refine Below.drew ?_ | with_reducible refine Below.alloc ?_ ?_ _ | exact Nat.le_refl _ | (simp; done) | (simp; omega)))
             case bel => repeat' (first | with_reducible exact Below.refl _ _ | with_reducible refine Below.drew ?_ | with_reducible refine Below.alloc ?_ ?_ _ | exact Nat.le_refl _ | (simp; done) | (simp; omega))
             case base => first | exact Nat.le_refl _ | (simp; done) | (simp; omega)
             intro v3 w3 hO3 hb3 hk3
             have o3 := Lib.hid hO3
             have hs3 := hb3.size
             have z0 := ((D.bcell hb3).1 _ 0 lt).trans y0
             have z1 := ((D.bcell hb3).1 _ 1 lt).trans y1
             have z2 := ((D.bcell hb3).1 _ 2 lt).trans y2
             have hb3 := Lib.hid hb3
             have hk3 := Lib.hid hk3
             clear hO3)
          | (refine K.step_append rfl (.tmp 45) (.tmp 47) rfl W0.heap.size v3 T.length (K.cellsM T) rfl ?own2 _ 1 [m] rfl ?nil2 ?row2 ?base2 (by simp; omega) ?_
             case own2 => repeat (first | with_reducible exact o3.out | with_reducible refine World.ownsRow.drew ?_ | with_reducible refine World.ownsRow.alloc ?_ _)
             case nil2 => exact fun h => nomatch h
             case row2 => repeat' (first | with_reducible refine K.Row.drew ?_ | with_reducible refine K.row_lit' m ?_ | with_reducible refine hk3.out _ m ?_ ?_ | rfl | (simp; done) | (simp; omega) | with_reducible refine K.Row.alloc ?_ _)
             case base2 => first | exact hs3 | (simp; done) | (simp; omega)
             intro v4 w4 hO4 hg4
             have o4 := Lib.hid hO4
             have hb4 : Hid (Below W0.heap.size W0 w4) := by
               refine Below.grown (row := v3.ownBlock) ?_ hg4 (by first | exact hs3 | (simp; done) | (simp; omega)) (fun k e => (o3.out.lt k e).1)
               repeat' (first | with_reducible exact hb3.out | with_reducible refine Below.drew ?_ | with_reducible refine Below.alloc ?_ ?_ _ | exact hs3 | (simp; done) | (simp; omega))
             clear hO4 hg4))
        all_goals
          clear o3 hb3 hk3 hs3 hsT
          obtain ⟨_, _, rfl⟩ := D.slice_of_own o4.out
          go_wp2_with (at_builtin; refine K.append_src' (w0 := W0) rfl _ _ rfl _ _ _ rfl o4.out hb4.out uo uc U rfl nU.out (rU.out.below hb4.out) ?z1 ?_)
          case z1 => simp; omega
          intro v5 w5 hO5 hb5
          have R : Hid (K.Made (T ++ m :: U) w v5 w5) := by
            show K.Made _ _ _ _
            refine ⟨?_, HBW.out.trans (hb5.mono HBW.out.size)⟩
            have h := D.own_mono hO5 HBW.out.size
            have e1 : (T ++ m :: U).length = T.length + 1 + U.length := by simp; omega
            have e2 : K.cellsM (T ++ m :: U) = K.cellsM T ++ (K.cellsM [m] ++ K.cellsM U) := by rw [show T ++ m :: U = T ++ ([m] ++ U) by simp, K.cellsM_append, K.cellsM_append]
            rw [e1, e2]
            exact h
          clear hO5 hb5
          go_wp2
          go_ret2
          exact ⟨_, by rw [hE.out]; rfl, by rw [hd.out]; exact R.out⟩
end Go.Proofs.Ytmbgcbgbdjiacaa
