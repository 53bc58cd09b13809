/- The contract of the reference of layer 12: Decode, for strings of at most 1048576 bytes. -/
import Derived.Test.YtdpaleldalplfaaPackNDec
import Derived.Test.YtdpaleldalplfaaPackNFind
import Derived.Test.YtdpaleldalplfaaPeel
import Derived.StillTailTactics
import Derived.StillTactics
namespace Go.Proofs.Ytdpaleldalplfaa
open Go.RowKit

theorem N.cons_of' (s : ByteArray) (h : 0 < s.size) : ∃ c : UInt8, s.data.toList = c :: (s.extract 1 s.size).data.toList ∧ s[0].toNat = c.toNat := by
  obtain ⟨e, _⟩ := N.extract_to s 1 h
  have hl : 0 < s.data.toList.length := by rw [N.len_data]; exact h
  refine ⟨s.data.toList[0], ?_, rfl⟩
  rw [e, ← List.drop_eq_getElem_cons hl, List.drop_zero]
/-- A part of a string, as a list. -/
theorem N.part_list (s : ByteArray) (i j : Nat) (h : i ≤ j) (hj : j ≤ s.size) : (s.extract i j).data.toList = (s.data.toList.drop i).take (j - i) ∧ (s.extract i j).size = j - i := by
  have e := D.part_bytes s i (j - i)
  rw [show i + (j - i) = j by omega] at e
  exact ⟨e, by rw [ByteArray.size_extract]; omega⟩
/-- The four numbers of twelve bytes. -/
theorem N.decK_parts (l : List UInt8) (i : Nat) : N.decK ((l.drop i).take 12) = ⟨N.val ((l.drop i).take 6), (N.val ((l.drop (i + 6)).take 2) : Int), (N.val ((l.drop (i + 8)).take 2) : Int), (N.val ((l.drop (i + 10)).take 2) : Int)⟩ := by
  have e : ∀ a b : Nat, a + b ≤ 12 → (((l.drop i).take 12).drop a).take b = (l.drop (i + a)).take b := fun a b h => by
    rw [List.drop_take, List.take_take, List.drop_drop, Nat.min_eq_left (by omega)]
  unfold N.decK
  have e6 := e 0 6 (by decide)
  rw [List.drop_zero, Nat.add_zero] at e6
  rw [e6, e 6 2 (by decide), e 8 2 (by decide), e 10 2 (by decide)]
set_option maxRecDepth 100000 in
set_option maxHeartbeats 8000000 in
theorem refDecode12_any (s : ByteArray) (hs : s.size ≤ 1048576) (w : World) : Calls Try.prog 35 #[.string s] w (N.DcEnd s.data.toList w) := by
  have B1 : Hid (Below w.heap.size w (w.alloc (.cells #[.int .i64 0, .string ⟨#[]⟩, .slice none 0 0] 24))) := (Below.refl _ _).alloc (Nat.le_refl _) _
  by_cases hl : s.size = 0
  · obtain rfl := N.size0 hl
    have R := Lib.hid (N.DcEnd.no (N.dec_long (s := (⟨#[]⟩ : ByteArray).data.toList) (.inl (by decide))) B1.out)
    go_enter Try.func35, Try.ntmps35
    go_wp2
    refine bodyPost_ret (v := .tuple #[.agg #[.int .i64 0, .string ⟨#[]⟩, .slice none 0 0], .int .i64 4]) ?_ rfl R.out
    simp [results, Try.results35, go_sem]
  · obtain ⟨hq1, hq2⟩ := N.size1 hl
    have hpos : 0 < s.size := by omega
    obtain ⟨c, hcr, hc0⟩ := N.cons_of' s hpos
    obtain ⟨hrd, hrs⟩ := N.extract_to s 1 hpos
    obtain ⟨r, hr⟩ : ∃ r, s.extract 1 s.size = r := ⟨_, rfl⟩
    rw [hr] at hcr hrs hrd
    have hcb : c.toNat < 256 := c.toNat_lt
    rw [hcr]
    obtain ⟨ik, i0, i1, i2, i3⟩ := info_parts Try.infoKid
    have Hi := Lib.hid (And.intro i0 (And.intro i1 (And.intro i2 i3)))
    have HN : Hid (∀ (t : ByteArray) (K : List N.K) (r' : List UInt8), N.Lft c r.data.toList t K r' → r'.length < 12 → r'.length ≠ 0 → N.dec (c :: r.data.toList) = none) := fun t K r' h h1 h2 => h.short h1 (fun e => h2 (by rw [e]; rfl))
    have HD : Hid (∀ (t : ByteArray) (K : List N.K), N.Lft c r.data.toList t K [] → N.dec (c :: r.data.toList) = if N.chk (N.nd (c.toNat : Int) t K) = 0 then some (N.nd (c.toNat : Int) t K) else none) := fun t K h => h.done
    have HV : Hid (∀ (z : ByteArray) (n : Int), z.size ≤ 6 → (N.val z.data.toList : Int) = n → ∀ W, Calls Try.prog 62 #[.string z] W fun e w' => e = .returned (.int .u64 n) ∧ w' = W) := fun z n hz hn W => by
      rw [← hn]; exact (refValue12_any z hz W).mono fun _ _ h => ⟨h.1, h.2.symm⟩
    have HC : Hid (∀ (t : ByteArray) (K : List N.K) vo vc W, t.size ≤ 1048576 → K.length ≤ 1048576 → (∀ p ∈ K, N.Fit p) → N.Row W vo K → Calls Try.prog 16 #[.agg #[.int .i64 (c.toNat : Int), .string t, .slice vo K.length vc]] W fun e w' => e = .returned (.int .i64 (N.chk (N.nd (c.toNat : Int) t K))) ∧ Below W.heap.size W w') := fun t K vo vc W h1 h2 h3 h4 => refCheck12_any _ t vo vc K W (by unfold maxLen; omega) (by unfold maxLen; omega) h4 h3
    clear i0 i1 i2 i3 hl B1 hcr
    have hLd : Hid (∀ i, r.data.toList.drop i = s.data.toList.drop (i + 1)) := fun i => by rw [hrd, List.drop_drop, Nat.add_comm]
    clear hrd
    by_cases hz : c.toNat = 0
    · have hcI : ((c.toNat : Nat) : Int) = 0 := by rw [hz]; rfl
      have hz0 : c = 0 := UInt8.toNat_inj.1 hz
      have L0 : Hid (N.Lft c r.data.toList r [] []) := by subst hz0; exact N.Lft.zero
      have D0 := Lib.hid (N.Dv.new w (c.toNat : Int) r)
      rw [hcI] at D0 HD HC
      clear hcI hz0
      go_enter Try.func35, Try.ntmps35
      go_wp2
      go_loopw [5] (fun u wr => u = .int .i64 1 ∧ Hid (N.Dv w (w.heap.size + 1) 0 r [] w.heap.size (.slice none 0 0) wr)) (fun _ _ => 0)
      case atStart => exact ⟨rfl, D0⟩
      case round =>
        clear D0
        obtain ⟨rfl, hD⟩ := hrel
        obtain ⟨d0, d1, d2, g1, g2⟩ := hD.out.cells
        have hdec := HD.out _ _ L0.out
        have HCz := Lib.hid (HC.out r [] none 0 wr (by omega) (by decide) (fun p hp => by cases hp) (N.row_nil _ _))
        clear HN HD HC HV
        by_cases hc : N.chk (N.nd 0 r []) = 0
        · rw [if_pos hc] at hdec
          have HE : Hid (∀ v' W, N.Made [] w v' W → N.DcEnd (c :: r.data.toList) w (.returned (.tuple #[.agg #[.int .i64 0, .string r, v'], .int .i64 0])) W) := fun v' W hm => N.DcEnd.yes hdec (by show _ = (⟨(r : ByteArray).data.toList.toArray⟩ : ByteArray); rw [D.bytes_eq]) hm
          rw [hc] at HCz
          clear hdec hc
          go_wp2_with fail
          refine HCz.out.mono ?_
          rintro e w2 ⟨rfl, hb⟩
          have D2 := hD.out.on hb
          obtain ⟨y0, y1, y2, _, _⟩ := D2.cells
          have O2 := D2.own_
          have r0 := O2.c0
          have r1 := O2.c1
          have r2 := O2.c2
          have s0 := O2.f0
          have s1 := O2.f1
          have s2 := O2.f2
          have hP := O2.put (.int .i64 0) (.string r) (.slice none 0 0)
          have R := Lib.hid (HE.out _ _ (D2.fin (.int .i64 0) (.string r) (.slice none 0 0)))
          clear D2 O2 hb d0 d1 d2 g1 g2
          go_wp2
          have p0 := hP.c0
          have p1 := hP.c1
          have p2 := hP.c2
          refine bodyPost_ret (v := .tuple #[.agg #[.int .i64 0, .string r, .slice none 0 0], .int .i64 0]) ?_ rfl R.out
          unfold N.put3 at p0 p1 p2
          simp [results, Try.results35, go_sem, p0, p1, p2]
        · rw [if_neg hc] at hdec
          have HE : Hid (∀ W, Below w.heap.size w W → N.DcEnd (c :: r.data.toList) w (.returned (.tuple #[.agg #[.int .i64 0, .string ⟨#[]⟩, .slice none 0 0], .int .i64 4])) W) := fun W hW => N.DcEnd.no hdec hW
          have hc' : (N.chk (N.nd 0 r []) != 0) = true := by simpa using hc
          generalize N.chk (N.nd 0 r []) = ck at HCz hc'
          clear hdec hc
          go_wp2_with fail
          refine HCz.out.mono ?_
          rintro e w2 ⟨rfl, hb⟩
          have D2 := hD.out.on hb
          have O2 := D2.own_
          have r0 := O2.c0
          have r1 := O2.c1
          have r2 := O2.c2
          have s0 := O2.f0
          have s1 := O2.f1
          have s2 := O2.f2
          have hP := O2.put (.int .i64 0) (.string ⟨#[]⟩) (.slice none 0 0)
          have R := Lib.hid (HE.out _ (N.put3_below D2.below D2.gr (.int .i64 0) (.string ⟨#[]⟩) (.slice none 0 0)))
          clear D2 O2 hb d0 d1 d2 g1 g2
          go_wp2
          have p0 := hP.c0
          have p1 := hP.c1
          have p2 := hP.c2
          refine bodyPost_ret (v := .tuple #[.agg #[.int .i64 0, .string ⟨#[]⟩, .slice none 0 0], .int .i64 4]) ?_ rfl R.out
          unfold N.put3 at p0 p1 p2
          simp [results, Try.results35, go_sem, p0, p1, p2]
    · have hq : ((c.toNat : Int) == 0) = false := by simpa using hz
      have hcp : (0 : Int) < (c.toNat : Int) := by omega
      have L0 : Hid (N.Lft c r.data.toList ⟨#[]⟩ [] (s.data.toList.drop 1)) := by
        have := hLd.out 0
        show N.Lft _ _ _ _ _
        rw [← this, List.drop_zero]
        exact N.Lft.start hz
      have D0 := Lib.hid (N.Dv.new w (c.toNat : Int) ⟨#[]⟩)
      go_enter Try.func35, Try.ntmps35
      go_wp2
      go_loopw [5] (fun u wr => ∃ (i : Nat) (K : List N.K) (v : Value), u = .int .i64 i ∧ 1 ≤ i ∧ i ≤ s.size ∧ K.length ≤ i ∧ Hid (N.Lft c r.data.toList ⟨#[]⟩ K (s.data.toList.drop i)) ∧ Hid (N.Dv w (w.heap.size + 1) (c.toNat : Int) ⟨#[]⟩ K w.heap.size v wr) ∧ Hid (∀ p ∈ K, N.Fit p)) (fun u _ => s.size - (intOf u).toNat)
      case atStart => exact ⟨1, [], _, rfl, by omega, by omega, by decide, L0, D0, (fun p hp => by cases hp)⟩
      case round =>
        clear L0 D0
        obtain ⟨i, K, v, rfl, hi1, hi2, hKl, hL, hD, hF⟩ := hrel
        obtain ⟨vo, vc, hv, hrow⟩ := hD.out.form
        subst hv
        obtain ⟨d0, d1, d2, g1, g2⟩ := hD.out.cells
        have hdl : (s.data.toList.drop i).length = s.size - i := by rw [List.length_drop, N.len_data]
        by_cases hlt : i < s.size
        · by_cases h12 : s.size - i < 12
          · have hdec := HN.out _ _ _ hL.out (by rw [hdl]; exact h12) (by rw [hdl]; omega)
            have h12' : (s.size : Int) - (i : Int) < 12 := by omega
            have O2 := hD.out.own_
            have r0 := O2.c0
            have r1 := O2.c1
            have r2 := O2.c2
            have s0 := O2.f0
            have s1 := O2.f1
            have s2 := O2.f2
            have hP := O2.put (.int .i64 0) (.string ⟨#[]⟩) (.slice none 0 0)
            have R := Lib.hid (N.DcEnd.no hdec (N.put3_below hD.out.below hD.out.gr (.int .i64 0) (.string ⟨#[]⟩) (.slice none 0 0)))
            clear HN HD HC HV hF hrow hL hdec O2 hdl hLd
            go_wp2
            have p0 := hP.c0
            have p1 := hP.c1
            have p2 := hP.c2
            refine bodyPost_ret (v := .tuple #[.agg #[.int .i64 0, .string ⟨#[]⟩, .slice none 0 0], .int .i64 4]) ?_ rfl R.out
            unfold N.put3 at p0 p1 p2
            simp [results, Try.results35, go_sem, p0, p1, p2]
          · have h12' : ¬ (s.size : Int) - (i : Int) < 12 := by omega
            obtain ⟨p, hp⟩ : ∃ p, p = N.decK ((s.data.toList.drop i).take 12) := ⟨_, rfl⟩
            have hpp := N.decK_parts s.data.toList i
            rw [← hp] at hpp
            have hfit : N.Fit p := by rw [hp]; exact N.decK_fit _
            have L1 : Hid (N.Lft c r.data.toList ⟨#[]⟩ (K ++ [p]) (s.data.toList.drop (i + 12))) := by
              have := hL.out.next (by rw [hdl]; omega)
              rw [List.drop_drop, ← hp] at this
              exact this
            have F1 : Hid (∀ q ∈ K ++ [p], N.Fit q) := fun q hq => by
              rcases List.mem_append.1 hq with hq | hq
              · exact hF.out q hq
              · simp at hq; subst hq; exact hfit
            have vb : ∀ l : List UInt8, N.val (l.take 2) < 65536 := fun l => by
              have h1 := N.val_lt (l.take 2)
              have h2 : (l.take 2).length ≤ 2 := List.length_take_le _ _
              have h3 : 256 ^ (l.take 2).length ≤ 65536 := Nat.le_trans (Nat.pow_le_pow_right (by decide) h2) (by decide)
              omega
            obtain ⟨x0, y0⟩ := N.part_list s i (i + 6) (by omega) (by omega)
            obtain ⟨x1, y1⟩ := N.part_list s (i + 6) (i + 8) (by omega) (by omega)
            obtain ⟨x2, y2⟩ := N.part_list s (i + 8) (i + 10) (by omega) (by omega)
            obtain ⟨x3, y3⟩ := N.part_list s (i + 10) (i + 12) (by omega) (by omega)
            rw [show i + 6 - i = 6 by omega] at x0 y0
            rw [show i + 8 - (i + 6) = 2 by omega] at x1 y1
            rw [show i + 10 - (i + 8) = 2 by omega] at x2 y2
            rw [show i + 12 - (i + 10) = 2 by omega] at x3 y3
            have HV0 := Lib.hid (HV.out (s.extract i (i + 6)) (p.at_ : Int) (by omega) (by rw [x0, hpp]))
            have HV1 := Lib.hid (HV.out (s.extract (i + 6) (i + 8)) p.b (by omega) (by rw [x1, hpp]))
            have HV2 := Lib.hid (HV.out (s.extract (i + 8) (i + 10)) p.r (by omega) (by rw [x2, hpp]))
            have HV3 := Lib.hid (HV.out (s.extract (i + 10) (i + 12)) p.l (by omega) (by rw [x3, hpp]))
            have w1 : IntKind.i64.wrap p.b = p.b := by
              have := vb (s.data.toList.drop (i + 6)); rw [hpp]; exact IntWalk.i64_in _ (by dsimp only; omega)
            have w2 : IntKind.i64.wrap p.r = p.r := by
              have := vb (s.data.toList.drop (i + 8)); rw [hpp]; exact IntWalk.i64_in _ (by dsimp only; omega)
            have w3 : IntKind.i64.wrap p.l = p.l := by
              have := vb (s.data.toList.drop (i + 10)); rw [hpp]; exact IntWalk.i64_in _ (by dsimp only; omega)
            obtain ⟨z0, hz0⟩ : ∃ z, s.extract i (i + 6) = z := ⟨_, rfl⟩
            obtain ⟨z1, hz1⟩ : ∃ z, s.extract (i + 6) (i + 8) = z := ⟨_, rfl⟩
            obtain ⟨z2, hz2⟩ : ∃ z, s.extract (i + 8) (i + 10) = z := ⟨_, rfl⟩
            obtain ⟨z3, hz3⟩ : ∃ z, s.extract (i + 10) (i + 12) = z := ⟨_, rfl⟩
            rw [hz0] at HV0
            rw [hz1] at HV1
            rw [hz2] at HV2
            rw [hz3] at HV3
            have a6 : IntKind.i64.wrap ((i : Int) + 6) = (i : Int) + 6 := IntWalk.i64_in _ (by omega)
            have a8 : IntKind.i64.wrap ((i : Int) + 8) = (i : Int) + 8 := IntWalk.i64_in _ (by omega)
            have a10 : IntKind.i64.wrap ((i : Int) + 10) = (i : Int) + 10 := IntWalk.i64_in _ (by omega)
            have a12 : IntKind.i64.wrap ((i : Int) + 12) = (i : Int) + 12 := IntWalk.i64_in _ (by omega)
            have t6 : ((i : Int) + 6).toNat = i + 6 := by omega
            have t8 : ((i : Int) + 8).toNat = i + 8 := by omega
            have t10 : ((i : Int) + 10).toNat = i + 10 := by omega
            have t12 : ((i : Int) + 12).toNat = i + 12 := by omega
            have sl0 : ∀ W, (Instr.slice 9 (.string s) (some (.int .i64 ((i : Int)))) (some (.int .i64 ((i : Int) + 6))) none).run Try.prog W = .ok (.string z0) W := fun W => by
              have := run_slice_string W 9 s .i64 .i64 ((i : Int)) ((i : Int) + 6) Try.underlying9 (by omega) (by omega) (by omega)
              rw [Int.toNat_natCast, t6, hz0] at this
              exact this
            have sl1 : ∀ W, (Instr.slice 9 (.string s) (some (.int .i64 ((i : Int) + 6))) (some (.int .i64 ((i : Int) + 8))) none).run Try.prog W = .ok (.string z1) W := fun W => by
              have := run_slice_string W 9 s .i64 .i64 ((i : Int) + 6) ((i : Int) + 8) Try.underlying9 (by omega) (by omega) (by omega)
              rw [t6, t8, hz1] at this
              exact this
            have sl2 : ∀ W, (Instr.slice 9 (.string s) (some (.int .i64 ((i : Int) + 8))) (some (.int .i64 ((i : Int) + 10))) none).run Try.prog W = .ok (.string z2) W := fun W => by
              have := run_slice_string W 9 s .i64 .i64 ((i : Int) + 8) ((i : Int) + 10) Try.underlying9 (by omega) (by omega) (by omega)
              rw [t8, t10, hz2] at this
              exact this
            have sl3 : ∀ W, (Instr.slice 9 (.string s) (some (.int .i64 ((i : Int) + 10))) (some (.int .i64 ((i : Int) + 12))) none).run Try.prog W = .ok (.string z3) W := fun W => by
              have := run_slice_string W 9 s .i64 .i64 ((i : Int) + 10) ((i : Int) + 12) Try.underlying9 (by omega) (by omega) (by omega)
              rw [t10, t12, hz3] at this
              exact this
            have hwb := hD.out.below.size
            have hsz12 : i + 12 ≤ s.size := by omega
            clear HN HD HC HV hF hrow hL hdl hLd x0 x1 x2 x3 y0 y1 y2 y3 vb hpp hfit hp
            go_wp2
            clear a6 a8 a10 a12 t6 t8 t10 t12
            have a6 : IntKind.i64.wrap ((i : Int) + 6) = (i : Int) + 6 := IntWalk.i64_in _ (by omega)
            have a8 : IntKind.i64.wrap ((i : Int) + 8) = (i : Int) + 8 := IntWalk.i64_in _ (by omega)
            have a10 : IntKind.i64.wrap ((i : Int) + 10) = (i : Int) + 10 := IntWalk.i64_in _ (by omega)
            have a12 : IntKind.i64.wrap ((i : Int) + 12) = (i : Int) + 12 := IntWalk.i64_in _ (by omega)
            have t6 : ((i : Int) + 6).toNat = i + 6 := by omega
            have t8 : ((i : Int) + 8).toNat = i + 8 := by omega
            have t10 : ((i : Int) + 10).toNat = i + 10 := by omega
            have t12 : ((i : Int) + 12).toNat = i + 12 := by omega
            have HN0 : Hid (1 ≤ i ∧ i + 12 ≤ s.size ∧ K.length ≤ i ∧ s.size ≤ 1048576 ∧ w.heap.size ≤ wr.heap.size) := ⟨hi1, hsz12, hKl, hs, hwb⟩
            clear hi1 hi2 hKl h12 h12' hlt hs hwb hsz12 hc0 hr hrs hq hq1 hq2 hpos hcb hz hcp hz0 hz1 hz2 hz3 t6 t8 t10 t12 d0 d1 g1
            obtain ⟨W2, hW2⟩ : ∃ W2, W2 = wr.drew := ⟨_, rfl⟩
            have hD2 : Hid (N.Dv w (w.heap.size + 1) (c.toNat : Int) ⟨#[]⟩ K w.heap.size (.slice vo K.length vc) W2) := by subst hW2; exact hD.out.drew
            have hwb2 : w.heap.size ≤ W2.heap.size := hD2.out.below.size
            refine Pe.start (z := 37) (S := fun V => V.cell? ⟨w.heap.size + 1, 2, none⟩ = some (.slice vo K.length vc)) (by kernel_rfl) (by kernel_rfl) W2 hW2 hD2.out.cells.2.2.1 (fun hHeld => ?_)
            have HN0 : Hid (1 ≤ i ∧ i + 12 ≤ s.size ∧ K.length ≤ i ∧ s.size ≤ 1048576) := ⟨HN0.out.1, HN0.out.2.1, HN0.out.2.2.1, HN0.out.2.2.2.1⟩
            clear hD hW2 d2 g2
            refine Pe.Left.take (i := 0) (o := ?o0) (v := ?v0) ?hi0 (by kernel_rfl) (by decide) (by kernel_rfl) (by kernel_rfl) ?hQ0 (Or.inl ⟨?wa0, ?hy0⟩) hHeld ?rest0
            case hi0 => simp only [List.getElem?_toArray, List.getElem?_cons_zero]; rfl
            case hQ0 => exact fun _ _ _ h => h
            case wa0 => rfl
            case hy0 => (intro w hSw; (try dsimp only at hSw); go_simp; (try with_reducible rfl))
            (try simp only [Act.put, List.setIfInBounds_toArray, List.set_cons_zero, List.set_cons_succ])
            refine Pe.Left.take (i := 1) (o := ?o1) (v := ?v1) ?hi1 (by kernel_rfl) (by decide) (by kernel_rfl) (by kernel_rfl) ?hQ1 (Or.inl ⟨?wa1, ?hy1⟩) hHeld ?rest1
            case hi1 => simp only [List.getElem?_toArray, List.getElem?_cons_succ, List.getElem?_cons_zero]; rfl
            case hQ1 => exact fun _ _ _ h => h
            case wa1 => rfl
            case hy1 => (intro w hSw; (try dsimp only at hSw); go_simp; (try with_reducible rfl))
            (try simp only [Act.put, List.setIfInBounds_toArray, List.set_cons_zero, List.set_cons_succ])
            refine Pe.Left.take (i := 2) (o := ?o2) (v := ?v2) ?hi2 (by kernel_rfl) (by decide) (by kernel_rfl) (by kernel_rfl) ?hQ2 (Or.inl ⟨?wa2, ?hy2⟩) hHeld ?rest2
            case hi2 => simp only [List.getElem?_toArray, List.getElem?_cons_succ, List.getElem?_cons_zero]; rfl
            case hQ2 => exact fun _ _ _ h => h
            case wa2 => rfl
            case hy2 => (intro w hSw; (try dsimp only at hSw); go_simp; (try with_reducible rfl))
            (try simp only [Act.put, List.setIfInBounds_toArray, List.set_cons_zero, List.set_cons_succ])
            refine Pe.Left.take (i := 3) (o := ?o3) (v := ?v3) ?hi3 (by kernel_rfl) (by decide) (by kernel_rfl) (by kernel_rfl) ?hQ3 (Or.inl ⟨?wa3, ?hy3⟩) hHeld ?rest3
            case hi3 => simp only [List.getElem?_toArray, List.getElem?_cons_succ, List.getElem?_cons_zero]; rfl
            case hQ3 => exact fun _ _ _ h => h
            case wa3 => rfl
            case hy3 => (intro w hSw; (try dsimp only at hSw); go_simp; (try with_reducible rfl))
            (try simp only [Act.put, List.setIfInBounds_toArray, List.set_cons_zero, List.set_cons_succ])
            refine Pe.Left.take (i := 4) (o := ?o4) (v := ?v4) ?hi4 (by kernel_rfl) (by decide) (by kernel_rfl) (by kernel_rfl) ?hQ4 (Or.inl ⟨?wa4, ?hy4⟩) hHeld ?rest4
            case hi4 => simp only [List.getElem?_toArray, List.getElem?_cons_succ, List.getElem?_cons_zero]; rfl
            case hQ4 => exact fun _ _ _ h => h
            case wa4 => rfl
            case hy4 => (intro w hSw; (try dsimp only at hSw); go_simp; (try with_reducible rfl))
            (try simp only [Act.put, List.setIfInBounds_toArray, List.set_cons_zero, List.set_cons_succ])
            refine Pe.Left.take (i := 5) (o := ?o5) (v := ?v5) ?hi5 (by kernel_rfl) (by decide) (by kernel_rfl) (by kernel_rfl) ?hQ5 (Or.inl ⟨?wa5, ?hy5⟩) hHeld ?rest5
            case hi5 => simp only [List.getElem?_toArray, List.getElem?_cons_succ, List.getElem?_cons_zero]; rfl
            case hQ5 => exact fun _ _ _ h => h
            case wa5 => rfl
            case hy5 => (intro w hSw; (try dsimp only at hSw); go_simp; (try with_reducible rfl))
            (try simp only [Act.put, List.setIfInBounds_toArray, List.set_cons_zero, List.set_cons_succ])
            refine Pe.Left.take (i := 6) (o := ?o6) (v := ?v6) ?hi6 (by kernel_rfl) (by decide) (by kernel_rfl) (by kernel_rfl) ?hQ6 (Or.inl ⟨?wa6, ?hy6⟩) hHeld ?rest6
            case hi6 => simp only [List.getElem?_toArray, List.getElem?_cons_succ, List.getElem?_cons_zero]; rfl
            case hQ6 => exact fun _ _ _ h => h
            case wa6 => rfl
            case hy6 => (intro w hSw; (try dsimp only at hSw); go_simp; (try with_reducible rfl))
            (try simp only [Act.put, List.setIfInBounds_toArray, List.set_cons_zero, List.set_cons_succ])
            refine Pe.Left.take (i := 8) (o := ?o8) (v := ?v8) ?hi8 (by kernel_rfl) (by decide) (by kernel_rfl) (by kernel_rfl) ?hQ8 (Or.inl ⟨?wa8, ?hy8⟩) hHeld ?rest8
            case hi8 => simp only [List.getElem?_toArray, List.getElem?_cons_succ, List.getElem?_cons_zero]; rfl
            case hQ8 => exact fun _ _ _ h => h
            case wa8 => rfl
            case hy8 => (intro w hSw; (try dsimp only at hSw); go_simp; (try with_reducible rfl))
            (try simp only [Act.put, List.setIfInBounds_toArray, List.set_cons_zero, List.set_cons_succ])
            refine Pe.Left.take (i := 9) (o := ?o9) (v := ?v9) ?hi9 (by kernel_rfl) (by decide) (by kernel_rfl) (by kernel_rfl) ?hQ9 (Or.inl ⟨?wa9, ?hy9⟩) hHeld ?rest9
            case hi9 => simp only [List.getElem?_toArray, List.getElem?_cons_succ, List.getElem?_cons_zero]; rfl
            case hQ9 => exact fun _ _ _ h => h
            case wa9 => rfl
            case hy9 => (intro w hSw; (try dsimp only at hSw); go_simp; (try with_reducible rfl))
            (try simp only [Act.put, List.setIfInBounds_toArray, List.set_cons_zero, List.set_cons_succ])
            refine Pe.Left.take (i := 10) (o := ?o10) (v := ?v10) ?hi10 (by kernel_rfl) (by decide) (by kernel_rfl) (by kernel_rfl) ?hQ10 (Or.inl ⟨?wa10, ?hy10⟩) hHeld ?rest10
            case hi10 => simp only [List.getElem?_toArray, List.getElem?_cons_succ, List.getElem?_cons_zero]; rfl
            case hQ10 => exact fun _ _ _ h => h
            case wa10 => rfl
            case hy10 => (intro w hSw; (try dsimp only at hSw); go_simp; (try with_reducible rfl))
            (try simp only [Act.put, List.setIfInBounds_toArray, List.set_cons_zero, List.set_cons_succ])
            refine Pe.Left.take (i := 11) (o := ?o11) (v := ?v11) ?hi11 (by kernel_rfl) (by decide) (by kernel_rfl) (by kernel_rfl) ?hQ11 (Or.inl ⟨?wa11, ?hy11⟩) hHeld ?rest11
            case hi11 => simp only [List.getElem?_toArray, List.getElem?_cons_succ, List.getElem?_cons_zero]; rfl
            case hQ11 => exact fun _ _ _ h => h
            case wa11 => rfl
            case hy11 => (intro w hSw; (try dsimp only at hSw); go_simp; (try with_reducible rfl))
            (try simp only [Act.put, List.setIfInBounds_toArray, List.set_cons_zero, List.set_cons_succ])
            refine Pe.Left.take (i := 12) (o := ?o12) (v := ?v12) ?hi12 (by kernel_rfl) (by decide) (by kernel_rfl) (by kernel_rfl) ?hQ12 (Or.inl ⟨?wa12, ?hy12⟩) hHeld ?rest12
            case hi12 => simp only [List.getElem?_toArray, List.getElem?_cons_succ, List.getElem?_cons_zero]; rfl
            case hQ12 => exact fun _ _ _ h => h
            case wa12 => rfl
            case hy12 => (intro w hSw; (try dsimp only at hSw); go_simp; (try with_reducible rfl))
            (try simp only [Act.put, List.setIfInBounds_toArray, List.set_cons_zero, List.set_cons_succ])
            refine Pe.Left.take (i := 13) (o := ?o13) (v := ?v13) ?hi13 (by kernel_rfl) (by decide) (by kernel_rfl) (by kernel_rfl) ?hQ13 (Or.inl ⟨?wa13, ?hy13⟩) hHeld ?rest13
            case hi13 => simp only [List.getElem?_toArray, List.getElem?_cons_succ, List.getElem?_cons_zero]; rfl
            case hQ13 => exact fun _ _ _ h => h
            case wa13 => rfl
            case hy13 => (intro w hSw; (try dsimp only at hSw); go_simp; (try with_reducible rfl))
            (try simp only [Act.put, List.setIfInBounds_toArray, List.set_cons_zero, List.set_cons_succ])
            refine Pe.Left.take (i := 16) (o := ?o16) (v := ?v16) ?hi16 (by kernel_rfl) (by decide) (by kernel_rfl) (by kernel_rfl) ?hQ16 (Or.inl ⟨?wa16, ?hy16⟩) hHeld ?rest16
            case hi16 => simp only [List.getElem?_toArray, List.getElem?_cons_succ, List.getElem?_cons_zero]; rfl
            case hQ16 => exact fun _ _ _ h => h
            case wa16 => rfl
            case hy16 => (intro w hSw; (try dsimp only at hSw); go_simp; (try with_reducible rfl))
            (try simp only [Act.put, List.setIfInBounds_toArray, List.set_cons_zero, List.set_cons_succ])
            refine Pe.Left.take (i := 17) (o := ?o17) (v := ?v17) ?hi17 (by kernel_rfl) (by decide) (by kernel_rfl) (by kernel_rfl) ?hQ17 (Or.inl ⟨?wa17, ?hy17⟩) hHeld ?rest17
            case hi17 => simp only [List.getElem?_toArray, List.getElem?_cons_succ, List.getElem?_cons_zero]; rfl
            case hQ17 => exact fun _ _ _ h => h
            case wa17 => rfl
            case hy17 => (intro w hSw; (try dsimp only at hSw); go_simp; (try with_reducible rfl))
            (try simp only [Act.put, List.setIfInBounds_toArray, List.set_cons_zero, List.set_cons_succ])
            refine Pe.Left.take (i := 18) (o := ?o18) (v := ?v18) ?hi18 (by kernel_rfl) (by decide) (by kernel_rfl) (by kernel_rfl) ?hQ18 (Or.inl ⟨?wa18, ?hy18⟩) hHeld ?rest18
            case hi18 => simp only [List.getElem?_toArray, List.getElem?_cons_succ, List.getElem?_cons_zero]; rfl
            case hQ18 => exact fun _ _ _ h => h
            case wa18 => rfl
            case hy18 => (intro w hSw; (try dsimp only at hSw); go_simp; (try with_reducible rfl))
            (try simp only [Act.put, List.setIfInBounds_toArray, List.set_cons_zero, List.set_cons_succ])
            refine Pe.Left.take (i := 19) (o := ?o19) (v := ?v19) ?hi19 (by kernel_rfl) (by decide) (by kernel_rfl) (by kernel_rfl) ?hQ19 (Or.inl ⟨?wa19, ?hy19⟩) hHeld ?rest19
            case hi19 => simp only [List.getElem?_toArray, List.getElem?_cons_succ, List.getElem?_cons_zero]; rfl
            case hQ19 => exact fun _ _ _ h => h
            case wa19 => rfl
            case hy19 => (intro w hSw; (try dsimp only at hSw); go_simp; (try with_reducible rfl))
            (try simp only [Act.put, List.setIfInBounds_toArray, List.set_cons_zero, List.set_cons_succ])
            refine Pe.Left.take (i := 20) (o := ?o20) (v := ?v20) ?hi20 (by kernel_rfl) (by decide) (by kernel_rfl) (by kernel_rfl) ?hQ20 (Or.inl ⟨?wa20, ?hy20⟩) hHeld ?rest20
            case hi20 => simp only [List.getElem?_toArray, List.getElem?_cons_succ, List.getElem?_cons_zero]; rfl
            case hQ20 => exact fun _ _ _ h => h
            case wa20 => rfl
            case hy20 => (intro w hSw; (try dsimp only at hSw); go_simp; (try with_reducible rfl))
            (try simp only [Act.put, List.setIfInBounds_toArray, List.set_cons_zero, List.set_cons_succ])
            refine Pe.Left.take (i := 21) (o := ?o21) (v := ?v21) ?hi21 (by kernel_rfl) (by decide) (by kernel_rfl) (by kernel_rfl) ?hQ21 (Or.inl ⟨?wa21, ?hy21⟩) hHeld ?rest21
            case hi21 => simp only [List.getElem?_toArray, List.getElem?_cons_succ, List.getElem?_cons_zero]; rfl
            case hQ21 => exact fun _ _ _ h => h
            case wa21 => rfl
            case hy21 => (intro w hSw; (try dsimp only at hSw); go_simp; (try with_reducible rfl))
            (try simp only [Act.put, List.setIfInBounds_toArray, List.set_cons_zero, List.set_cons_succ])
            refine Pe.Left.take (i := 24) (o := ?o24) (v := ?v24) ?hi24 (by kernel_rfl) (by decide) (by kernel_rfl) (by kernel_rfl) ?hQ24 (Or.inl ⟨?wa24, ?hy24⟩) hHeld ?rest24
            case hi24 => simp only [List.getElem?_toArray, List.getElem?_cons_succ, List.getElem?_cons_zero]; rfl
            case hQ24 => exact fun _ _ _ h => h
            case wa24 => rfl
            case hy24 => (intro w hSw; (try dsimp only at hSw); go_simp; (try with_reducible rfl))
            (try simp only [Act.put, List.setIfInBounds_toArray, List.set_cons_zero, List.set_cons_succ])
            refine Pe.Left.take (i := 25) (o := ?o25) (v := ?v25) ?hi25 (by kernel_rfl) (by decide) (by kernel_rfl) (by kernel_rfl) ?hQ25 (Or.inl ⟨?wa25, ?hy25⟩) hHeld ?rest25
            case hi25 => simp only [List.getElem?_toArray, List.getElem?_cons_succ, List.getElem?_cons_zero]; rfl
            case hQ25 => exact fun _ _ _ h => h
            case wa25 => rfl
            case hy25 => (intro w hSw; (try dsimp only at hSw); go_simp; (try with_reducible rfl))
            (try simp only [Act.put, List.setIfInBounds_toArray, List.set_cons_zero, List.set_cons_succ])
            refine Pe.Left.take (i := 26) (o := ?o26) (v := ?v26) ?hi26 (by kernel_rfl) (by decide) (by kernel_rfl) (by kernel_rfl) ?hQ26 (Or.inl ⟨?wa26, ?hy26⟩) hHeld ?rest26
            case hi26 => simp only [List.getElem?_toArray, List.getElem?_cons_succ, List.getElem?_cons_zero]; rfl
            case hQ26 => exact fun _ _ _ h => h
            case wa26 => rfl
            case hy26 => (intro w hSw; (try dsimp only at hSw); go_simp; (try with_reducible rfl))
            (try simp only [Act.put, List.setIfInBounds_toArray, List.set_cons_zero, List.set_cons_succ])
            refine Pe.Left.take (i := 27) (o := ?o27) (v := ?v27) ?hi27 (by kernel_rfl) (by decide) (by kernel_rfl) (by kernel_rfl) ?hQ27 (Or.inl ⟨?wa27, ?hy27⟩) hHeld ?rest27
            case hi27 => simp only [List.getElem?_toArray, List.getElem?_cons_succ, List.getElem?_cons_zero]; rfl
            case hQ27 => exact fun _ _ _ h => h
            case wa27 => rfl
            case hy27 => (intro w hSw; (try dsimp only at hSw); go_simp; (try with_reducible rfl))
            (try simp only [Act.put, List.setIfInBounds_toArray, List.set_cons_zero, List.set_cons_succ])
            refine Pe.Left.take (i := 28) (o := ?o28) (v := ?v28) ?hi28 (by kernel_rfl) (by decide) (by kernel_rfl) (by kernel_rfl) ?hQ28 (Or.inl ⟨?wa28, ?hy28⟩) hHeld ?rest28
            case hi28 => simp only [List.getElem?_toArray, List.getElem?_cons_succ, List.getElem?_cons_zero]; rfl
            case hQ28 => exact fun _ _ _ h => h
            case wa28 => rfl
            case hy28 => (intro w hSw; (try dsimp only at hSw); go_simp; (try with_reducible rfl))
            (try simp only [Act.put, List.setIfInBounds_toArray, List.set_cons_zero, List.set_cons_succ])
            refine Pe.Left.take (i := 29) (o := ?o29) (v := ?v29) ?hi29 (by kernel_rfl) (by decide) (by kernel_rfl) (by kernel_rfl) ?hQ29 (Or.inl ⟨?wa29, ?hy29⟩) hHeld ?rest29
            case hi29 => simp only [List.getElem?_toArray, List.getElem?_cons_succ, List.getElem?_cons_zero]; rfl
            case hQ29 => exact fun _ _ _ h => h
            case wa29 => rfl
            case hy29 => (intro w hSw; (try dsimp only at hSw); go_simp; (try with_reducible rfl))
            (try simp only [Act.put, List.setIfInBounds_toArray, List.set_cons_zero, List.set_cons_succ])
            refine Pe.Left.one (i := 7) (o := ?o7) ?hi7 (by kernel_rfl) (by decide) (fun KK hK => ?rest7)
            case hi7 => simp only [List.getElem?_toArray, List.getElem?_cons_succ, List.getElem?_cons_zero]; rfl
            go_simp
            go_at_call 62
            (with_reducible refine (HV0.out _).mono ?_)
            rintro e w2 ⟨rfl, hw⟩
            rw [hw]
            clear hw w2
            (try go_wp2_with fail)
            refine hK.out _ _ ?_ (fun hHeld => ?_)
            · exact hHeld
            clear hK KK
            (try simp only [Act.put, List.setIfInBounds_toArray, List.set_cons_zero, List.set_cons_succ])
            refine Pe.Left.one (i := 14) (o := ?o14) ?hi14 (by kernel_rfl) (by decide) (fun KK hK => ?rest14)
            case hi14 => simp only [List.getElem?_toArray, List.getElem?_cons_succ, List.getElem?_cons_zero]; rfl
            go_simp
            go_at_call 62
            (with_reducible refine (HV1.out _).mono ?_)
            rintro e w2 ⟨rfl, hw⟩
            rw [hw]
            clear hw w2
            (try go_wp2_with fail)
            refine hK.out _ _ ?_ (fun hHeld => ?_)
            · exact hHeld
            clear hK KK
            (try simp only [Act.put, List.setIfInBounds_toArray, List.set_cons_zero, List.set_cons_succ])
            refine Pe.Left.take (i := 15) (o := ?o15) (v := ?v15) ?hi15 (by kernel_rfl) (by decide) (by kernel_rfl) (by kernel_rfl) ?hQ15 (Or.inl ⟨?wa15, ?hy15⟩) hHeld ?rest15
            case hi15 => simp only [List.getElem?_toArray, List.getElem?_cons_succ, List.getElem?_cons_zero]; rfl
            case hQ15 => exact fun _ _ _ h => h
            case wa15 => rfl
            case hy15 => (intro w hSw; (try dsimp only at hSw); go_simp; (try with_reducible rfl))
            (try simp only [Act.put, List.setIfInBounds_toArray, List.set_cons_zero, List.set_cons_succ])
            refine Pe.Left.one (i := 22) (o := ?o22) ?hi22 (by kernel_rfl) (by decide) (fun KK hK => ?rest22)
            case hi22 => simp only [List.getElem?_toArray, List.getElem?_cons_succ, List.getElem?_cons_zero]; rfl
            go_simp
            go_at_call 62
            (with_reducible refine (HV2.out _).mono ?_)
            rintro e w2 ⟨rfl, hw⟩
            rw [hw]
            clear hw w2
            (try go_wp2_with fail)
            refine hK.out _ _ ?_ (fun hHeld => ?_)
            · exact hHeld
            clear hK KK
            (try simp only [Act.put, List.setIfInBounds_toArray, List.set_cons_zero, List.set_cons_succ])
            refine Pe.Left.take (i := 23) (o := ?o23) (v := ?v23) ?hi23 (by kernel_rfl) (by decide) (by kernel_rfl) (by kernel_rfl) ?hQ23 (Or.inl ⟨?wa23, ?hy23⟩) hHeld ?rest23
            case hi23 => simp only [List.getElem?_toArray, List.getElem?_cons_succ, List.getElem?_cons_zero]; rfl
            case hQ23 => exact fun _ _ _ h => h
            case wa23 => rfl
            case hy23 => (intro w hSw; (try dsimp only at hSw); go_simp; (try with_reducible rfl))
            (try simp only [Act.put, List.setIfInBounds_toArray, List.set_cons_zero, List.set_cons_succ])
            refine Pe.Left.one (i := 30) (o := ?o30) ?hi30 (by kernel_rfl) (by decide) (fun KK hK => ?rest30)
            case hi30 => simp only [List.getElem?_toArray, List.getElem?_cons_succ, List.getElem?_cons_zero]; rfl
            go_simp
            go_at_call 62
            (with_reducible refine (HV3.out _).mono ?_)
            rintro e w2 ⟨rfl, hw⟩
            rw [hw]
            clear hw w2
            (try go_wp2_with fail)
            refine hK.out _ _ ?_ (fun hHeld => ?_)
            · exact hHeld
            clear hK KK
            (try simp only [Act.put, List.setIfInBounds_toArray, List.set_cons_zero, List.set_cons_succ])
            refine Pe.Left.take (i := 31) (o := ?o31) (v := ?v31) ?hi31 (by kernel_rfl) (by decide) (by kernel_rfl) (by kernel_rfl) ?hQ31 (Or.inl ⟨?wa31, ?hy31⟩) hHeld ?rest31
            case hi31 => simp only [List.getElem?_toArray, List.getElem?_cons_succ, List.getElem?_cons_zero]; rfl
            case hQ31 => exact fun _ _ _ h => h
            case wa31 => rfl
            case hy31 => (intro w hSw; (try dsimp only at hSw); go_simp; (try with_reducible rfl))
            (try simp only [Act.put, List.setIfInBounds_toArray, List.set_cons_zero, List.set_cons_succ])
            refine Pe.Left.take (i := 32) (o := ?o32) (v := ?v32) ?hi32 (by kernel_rfl) (by decide) (by kernel_rfl) (by kernel_rfl) ?hQ32 (Or.inl ⟨?wa32, ?hy32⟩) hHeld ?rest32
            case hi32 => simp only [List.getElem?_toArray, List.getElem?_cons_succ, List.getElem?_cons_zero]; rfl
            case hQ32 => exact fun _ _ _ h => h
            case wa32 => rfl
            case hy32 => (intro w hSw; (try dsimp only at hSw); go_simp; (try with_reducible rfl))
            (try simp only [Act.put, List.setIfInBounds_toArray, List.set_cons_zero, List.set_cons_succ])
            refine Pe.Left.take (i := 33) (o := ?o33) (v := ?v33) ?hi33 (by kernel_rfl) (by decide) (by kernel_rfl) (by kernel_rfl) ?hQ33 (Or.inl ⟨?wa33, ?hy33⟩) hHeld ?rest33
            case hi33 => simp only [List.getElem?_toArray, List.getElem?_cons_succ, List.getElem?_cons_zero]; rfl
            case hQ33 => exact fun _ _ _ h => h
            case wa33 => rfl
            case hy33 => (intro w hSw; (try dsimp only at hSw); go_simp; (try with_reducible rfl))
            (try simp only [Act.put, List.setIfInBounds_toArray, List.set_cons_zero, List.set_cons_succ])
            refine Pe.Left.one (i := 34) (o := ?o34) ?hi34 (by kernel_rfl) (by decide) (fun KK hK => ?rest34)
            case hi34 => simp only [List.getElem?_toArray, List.getElem?_cons_succ, List.getElem?_cons_zero]; rfl
            go_simp
            refine hK.out _ _ ?_ (fun hHeld => ?_)
            · exact (hD2.out.on ((Below.refl _ _).alloc (Nat.le_refl _) _)).cells.2.2.1
            clear hK KK
            (try simp only [Act.put, List.setIfInBounds_toArray, List.set_cons_zero, List.set_cons_succ])
            refine Pe.Left.one (i := 35) (o := ?o35) ?hi35 (by kernel_rfl) (by decide) (fun KK hK => ?rest35)
            case hi35 => simp only [List.getElem?_toArray, List.getElem?_cons_succ, List.getElem?_cons_zero]; rfl
            refine step_append_lies _ rfl (.tmp 37) (.tmp 70) 22 rfl w.heap.size 52 ik (.agg #[.int .u64 0, .int .i64 0, .int .i64 0, .int .i64 0]) 4 32 Try.underlying22 Hi.out.1 Hi.out.2.1 Hi.out.2.2.1 Hi.out.2.2.2 rfl (by decide) (.slice vo K.length vc) K.length (N.cells K) rfl (hD2.out.own.alloc _) _ 1 1 [.int .u64 (p.at_ : Int), .int .i64 p.b, .int .i64 p.r, .int .i64 p.l] rfl rfl (D.news _ _ _) (fun u hu => by simp at hu; rcases hu with rfl | rfl | rfl | rfl <;> rfl) (by decide) (by have := HN0.out; unfold maxLen; omega) (by have := HN0.out; omega) (by simp only [World.size_alloc]; omega) _ rfl ?_
            intro g cp w3 hO3 hg3 hat3 hlt3
            have hg4 : W2.grownBy w3 (Value.slice vo K.length vc).ownBlock := ⟨hg3.os, hg3.tape, hg3.output, Nat.le_trans (by simp only [World.size_alloc]; omega) hg3.size, fun k hk hne => (hg3.block k (by simp only [World.size_alloc]; omega) hne).trans (Lib.alloc_old W2 _ k hk)⟩
            have R := N.Dv.put (p := p) hD2.out (v' := .slice (some ⟨g, 0, none⟩) (K.length + 1) cp) (by rw [N.cells_append, N.cells_one, List.length_append]; exact hO3) hg4 (by
              rcases hat3 with h | h
              · exact .inl h.symm
              · exact .inr ⟨g, rfl, by rw [h]; simp only [World.size_alloc]; omega⟩)
            have hbx : w3.heap[w.heap.size + 1]? = some (.cells #[.int .i64 (c.toNat : Int), .string ⟨#[]⟩, .slice vo K.length vc] 24 (0, 0)) := (hg4.block _ (Array.getElem?_eq_some_iff.1 hD2.out.box).1 (fun e => hD2.out.nx e.symm)).trans hD2.out.box
            have d2w : w3.cell? ⟨w.heap.size + 1, 2, none⟩ = some (.slice vo K.length vc) := Lib.cell_of_heap hbx 2
            have g2 : w3.frozen? ⟨w.heap.size + 1, 2, none⟩ = false := frozen_of_row _ _ _ _ _ hbx
            have R := Lib.hid R
            clear hO3 hg3 hg4 hat3 hlt3 hbx
            refine hK.out _ _ ?_ (fun hHeld => ?_)
            · exact d2w
            clear hK KK
            (try simp only [Act.put, List.setIfInBounds_toArray, List.set_cons_zero, List.set_cons_succ])
            refine Pe.Left.take (i := 36) (o := ?o36) (v := ?v36) ?hi36 (by kernel_rfl) (by decide) (by kernel_rfl) (by kernel_rfl) ?hQ36 (Or.inl ⟨?wa36, ?hy36⟩) hHeld ?rest36
            case hi36 => simp only [List.getElem?_toArray, List.getElem?_cons_succ, List.getElem?_cons_zero]; rfl
            case hQ36 => exact fun _ _ _ h => h
            case wa36 => rfl
            case hy36 => (intro w hSw; (try dsimp only at hSw); go_simp; (try with_reducible rfl))
            (try simp only [Act.put, List.setIfInBounds_toArray, List.set_cons_zero, List.set_cons_succ])
            refine Pe.Left.last (o := ?oZ) ?hiZ (by kernel_rfl) (by kernel_rfl) (fun KK hK => ?restZ)
            case hiZ => simp only [List.getElem?_toArray, List.getElem?_cons_succ, List.getElem?_cons_zero]; rfl
            go_simp
            refine hK.out _ _ ?_
            clear hK KK hHeld
            obtain ⟨hi1, hsz12, hKl, hs⟩ := HN0.out
            clear a6 a8 a10 a12
            go_wp2
            go_roundw
            case rel => exact ⟨i + 12, K ++ [p], _, by go_num, by omega, by omega, (by rw [List.length_append]; simp; omega), L1, R, F1⟩
            case measure => simp [intOf]; omega
        · obtain rfl : i = s.size := by omega
          have hLn := hL.out
          rw [List.drop_eq_nil_of_le (by rw [N.len_data]; exact Nat.le_refl _)] at hLn
          have hdec := HD.out _ _ hLn
          have HCz := Lib.hid (HC.out ⟨#[]⟩ K vo vc wr (by decide) (by omega) hF.out hrow)
          clear hLn
          clear HN HD HC HV
          by_cases hc : N.chk (N.nd (c.toNat : Int) ⟨#[]⟩ K) = 0
          · rw [if_pos hc] at hdec
            have HE : Hid (∀ v' W, N.Made K w v' W → N.DcEnd (c :: r.data.toList) w (.returned (.tuple #[.agg #[.int .i64 (c.toNat : Int), .string ⟨#[]⟩, v'], .int .i64 0])) W) := fun v' W hm => N.DcEnd.yes hdec (by show _ = (⟨(⟨#[]⟩ : ByteArray).data.toList.toArray⟩ : ByteArray); rw [D.bytes_eq]) hm
            rw [hc] at HCz
            clear hdec hc
            go_wp2_with fail
            refine HCz.out.mono ?_
            rintro e w2 ⟨rfl, hb⟩
            have D2 := hD.out.on hb
            obtain ⟨y0, y1, y2, _, _⟩ := D2.cells
            have O2 := D2.own_
            have r0 := O2.c0
            have r1 := O2.c1
            have r2 := O2.c2
            have s0 := O2.f0
            have s1 := O2.f1
            have s2 := O2.f2
            have hP := O2.put (.int .i64 (c.toNat : Int)) (.string ⟨#[]⟩) (.slice vo K.length vc)
            have R := Lib.hid (HE.out _ _ (D2.fin (.int .i64 (c.toNat : Int)) (.string ⟨#[]⟩) (.slice vo K.length vc)))
            clear D2 O2 hb d0 d1 d2 g1 g2
            go_wp2
            have p0 := hP.c0
            have p1 := hP.c1
            have p2 := hP.c2
            refine bodyPost_ret (v := .tuple #[.agg #[.int .i64 (c.toNat : Int), .string ⟨#[]⟩, .slice vo K.length vc], .int .i64 0]) ?_ rfl R.out
            unfold N.put3 at p0 p1 p2
            simp [results, Try.results35, go_sem, p0, p1, p2]
          · rw [if_neg hc] at hdec
            have HE : Hid (∀ W, Below w.heap.size w W → N.DcEnd (c :: r.data.toList) w (.returned (.tuple #[.agg #[.int .i64 0, .string ⟨#[]⟩, .slice none 0 0], .int .i64 4])) W) := fun W hW => N.DcEnd.no hdec hW
            have hc' : (N.chk (N.nd (c.toNat : Int) ⟨#[]⟩ K) != 0) = true := by simpa using hc
            generalize N.chk (N.nd (c.toNat : Int) ⟨#[]⟩ K) = ck at HCz hc'
            clear hdec hc
            go_wp2_with fail
            refine HCz.out.mono ?_
            rintro e w2 ⟨rfl, hb⟩
            have D2 := hD.out.on hb
            have O2 := D2.own_
            have r0 := O2.c0
            have r1 := O2.c1
            have r2 := O2.c2
            have s0 := O2.f0
            have s1 := O2.f1
            have s2 := O2.f2
            have hP := O2.put (.int .i64 0) (.string ⟨#[]⟩) (.slice none 0 0)
            have R := Lib.hid (HE.out _ (N.put3_below D2.below D2.gr (.int .i64 0) (.string ⟨#[]⟩) (.slice none 0 0)))
            clear D2 O2 hb d0 d1 d2 g1 g2
            go_wp2
            have p0 := hP.c0
            have p1 := hP.c1
            have p2 := hP.c2
            refine bodyPost_ret (v := .tuple #[.agg #[.int .i64 0, .string ⟨#[]⟩, .slice none 0 0], .int .i64 4]) ?_ rfl R.out
            unfold N.put3 at p0 p1 p2
            simp [results, Try.results35, go_sem, p0, p1, p2]
end Go.Proofs.Ytdpaleldalplfaa
