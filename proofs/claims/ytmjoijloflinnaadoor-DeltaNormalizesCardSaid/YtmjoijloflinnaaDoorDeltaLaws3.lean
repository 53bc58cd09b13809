/- The walk of DeltaNormalizes. -/
import Derived.Test.YtmjoijloflinnaaDoorDeltaLaws2
namespace Go.Proofs.YtmjoijloflinnaaDoor
open Go.RowKit

/-- A result that is written over: it stays in memory of the call's own. -/
structure D.Got (ao : Option Addr) (n : Nat) (w wr : World) : Prop where
  below : Below w.heap.size w wr
  row : 0 < n → ∃ g cur, ao = some ⟨g, 0, none⟩ ∧ w.heap.size ≤ g ∧ wr.heap[g]? = some (.cells cur 38) ∧ n * 3 ≤ cur.size
theorem D.got_of_own {w wr : World} {ao : Option Addr} {n c : Nat} {xs : List Value} (h : wr.ownsRow w.heap.size 38 3 (.slice ao n c) n xs) (hb : Below w.heap.size w wr) : D.Got ao n w wr := by
  refine ⟨hb, fun hn => ?_⟩
  obtain ⟨_, ⟨_, h0⟩ | ⟨g, cap, cur, e, h1, h2, h3, _, h4, _⟩⟩ := h
  · omega
  · cases e
    exact ⟨g, cur, rfl, h1, h2, by omega⟩
theorem D.got_cell {wx : World} {g : Nat} {cur : Array Value} (h : wx.heap[g]? = some (.cells cur 38)) {i : Nat} (hi : i < cur.size) : ∃ v, wx.cell? ⟨g, i, none⟩ = some v :=
  ⟨cur[i], by rw [cell_of_row wx g _ _ _ _ h]; exact Array.getElem?_eq_getElem hi⟩
theorem D.got_set {wx : World} {g : Nat} {cur : Array Value} (h : wx.heap[g]? = some (.cells cur 38)) (i : Nat) (v : Value) : ∃ cur', (wx.setCell ⟨g, i, none⟩ v).heap[g]? = some (.cells cur' 38) ∧ cur'.size = cur.size :=
  ⟨cur.setIfInBounds i v, by rw [heap_setCell_same wx g i _ _ _ h], by simp⟩
theorem D.got_three {wx : World} {g : Nat} {cur : Array Value} (h : wx.heap[g]? = some (.cells cur 38)) (i j k : Nat) (u v x : Value) : ∃ cur', (((wx.setCell ⟨g, i, none⟩ u).setCell ⟨g, j, none⟩ v).setCell ⟨g, k, none⟩ x).heap[g]? = some (.cells cur' 38) ∧ cur'.size = cur.size := by
  obtain ⟨c1, h1, e1⟩ := D.got_set h i u
  obtain ⟨c2, h2, e2⟩ := D.got_set h1 j v
  obtain ⟨c3, h3, e3⟩ := D.got_set h2 k x
  exact ⟨c3, h3, by omega⟩
set_option maxRecDepth 100000 in
set_option maxHeartbeats 2000000 in
theorem deltaNormalizes_walk (s : D.Src) (w : World) (hs : D.ArgOk w s) (hp : D.Pow w.heap.size w) :
    Calls Tryd.prog 4 #[.slice s.a s.x.length s.c] w fun e w' => e = .returned (.bool true) ∧ Below w.heap.size w w' := by
  have H0 := Lib.hid (own_arg s w w hs hs.src.row)
  have hlen := hs.src.len
  have htxt := hs.src.txt
  obtain ⟨nm, hnm⟩ : ∃ nm, (if D.chk s.x = 0 then D.normP s.x else []) = nm := ⟨_, rfl⟩
  have hnl : nm.length ≤ s.x.length := by
    rw [← hnm]; split
    · exact D.normP_len _
    · simp
  have H1 : Hid (∀ ao c W, D.Row W ao s.x → Calls Tryd.prog 24 #[.slice ao s.x.length c] W (fun e w' => ∃ v, e = .returned (.tuple #[v, .int .i64 (D.chk s.x)]) ∧ D.Made nm W v w')) := fun ao c W h => by
    have := normalize_any ao c s.x W hlen h htxt
    unfold D.NormEnd at this
    rw [hnm] at this
    exact this
  have H2 : Hid (∀ ao c W, D.Row W ao s.x → Calls Tryd.prog 23 #[.slice ao s.x.length c] W (fun e w' => ∃ v, e = .returned (.tuple #[v, .int .i64 (D.chk s.x)]) ∧ D.Made nm W v w')) := fun ao c W h => by
    have := refNormalize_any ao c s.x W hlen h htxt
    unfold D.NormEnd at this
    rw [hnm] at this
    exact this
  have H7 : Hid (∀ ao bo c d W, D.Row W ao s.x → D.Row W bo s.x → Calls Tryd.prog 21 #[.slice ao s.x.length c, .slice bo s.x.length d] W (fun e w' => e = .returned (.bool true) ∧ Below W.heap.size W w')) := fun ao bo c d W h g => same_self W ao bo c d s.x h g hlen
  have H8 : Hid (∀ ao bo c d W, D.Row W ao nm → D.Row W bo nm → Calls Tryd.prog 21 #[.slice ao nm.length c, .slice bo nm.length d] W (fun e w' => e = .returned (.bool true) ∧ Below W.heap.size W w')) := fun ao bo c d W h g => same_self W ao bo c d nm h g (Nat.le_trans hnl hlen)
  have K : Hid (D.Kn w w [(s.a, s.x)]) := ⟨Below.refl _ _, fun x hx => by simp at hx; subst hx; exact hs.src.row⟩
  have Hp := Lib.hid hp
  have hfit := hs.fit
  obtain ⟨ao, c, l⟩ := s
  dsimp only at *
  have hnb : nm.length ≤ 10000000000000 := by omega
  generalize D.chk l = k at H1 H2
  clear hs hlen htxt hp hnm hnl hfit
  go_enter Tryd.func4, Tryd.ntmps4
  go_wp2_with fail
  refine H0.out.mono ?_
  rintro e w1 ⟨v, rfl, hm⟩
  obtain ⟨xa, xc, hv, K1⟩ := K.out.made hm
  subst hv
  clear hm K H0
  go_wp2_with fail
  refine (H2.out _ _ _ K1.out.tl.r0).mono ?_
  rintro e w2 ⟨v, rfl, hm⟩
  obtain ⟨wa, wc, hv, K⟩ := K1.out.made hm
  subst hv
  clear hm K1
  go_wp2
  go_loopw [6] (fun i wr => ∃ n : Nat, n ≤ 2 ∧ i = .int .i64 n ∧ Hid (D.Kn w wr [(wa, nm), (xa, l), (ao, l)])) (fun i _ => 2 - (intOf i).toNat)
  case atStart => exact ⟨0, by omega, rfl, K.out⟩
  case round =>
    obtain ⟨n, hn, rfl, K⟩ := hrel
    by_cases hlt : n < 2
    · have g1 : (n : Int) < 2 := by omega
      go_wp2_with fail
      refine (H1.out _ _ _ K.out.tl.r0).mono ?_
      rintro e w4 ⟨v, rfl, hm⟩
      obtain ⟨ga, gc, hv, K4⟩ := K.out.made hm
      subst hv
      have G := Lib.hid (D.got_of_own hm.own hm.below)
      clear hm
      go_wp2_with fail
      refine (H8.out _ _ _ _ _ K4.out.r0 K4.out.tl.r0).mono ?_
      rintro e w5 ⟨rfl, hb⟩
      have K5 := Lib.hid (K4.out.on hb)
      have hb5 := Lib.hid hb
      clear hb
      go_wp2_with fail
      refine (H7.out _ _ _ _ _ K5.out.tl.tl.r0 K5.out.tl.tl.tl.r0).mono ?_
      rintro e w6 ⟨rfl, hb⟩
      have G6 : Hid (D.Got ga nm.length wr w6) := ⟨G.out.below.trans ((hb5.out.trans (hb.mono hb5.out.size)).mono G.out.below.size), fun h0 => by
        obtain ⟨g, cur, e1, e2, e3, e4⟩ := G.out.row h0
        have hg4 := (Array.getElem?_eq_some_iff.1 e3).1
        exact ⟨g, cur, e1, e2, (hb.block g (Nat.lt_of_lt_of_le hg4 hb5.out.size)).trans ((hb5.out.block g hg4).trans e3), e4⟩⟩
      clear hb K5 K4 G hb5
      obtain ⟨W0, rfl⟩ : ∃ W0 : World, W0 = wr := ⟨_, rfl⟩
      go_wp2
      go_loopw [9] (fun i wx => ∃ j : Nat, j ≤ nm.length ∧ i = .int .i64 j ∧ Hid (D.Got ga nm.length W0 wx)) (fun i _ => nm.length - (intOf i).toNat)
      case atStart => exact ⟨0, Nat.zero_le _, rfl, G6.out⟩
      case round =>
        obtain ⟨j, hj, rfl, G⟩ := hrel
        clear G6
        by_cases hjl : j < nm.length
        · obtain ⟨g, cur, e1, e2, e3, e4⟩ := G.out.row (by omega)
          subst e1
          obtain ⟨u0, d0⟩ := D.got_cell e3 (i := j * 3) (by omega)
          obtain ⟨u1, d1⟩ := D.got_cell e3 (i := j * 3 + 1) (by omega)
          obtain ⟨u2, d2⟩ := D.got_cell e3 (i := j * 3 + 2) (by omega)
          have f0 := frozen_of_row _ _ (j * 3) _ _ e3
          have f1 := frozen_of_row _ _ (j * 3 + 1) _ _ e3
          have f2 := frozen_of_row _ _ (j * 3 + 2) _ _ e3
          obtain ⟨cur', h5, h6⟩ := D.got_three e3 (j * 3) (j * 3 + 1) (j * 3 + 2) (.int .u8 77) (.int .i64 0) (.string ⟨#[]⟩)
          have R : Hid (D.Got (some ⟨g, 0, none⟩) nm.length W0 (((wr.setCell ⟨g, j * 3, none⟩ (.int .u8 77)).setCell ⟨g, j * 3 + 1, none⟩ (.int .i64 0)).setCell ⟨g, j * 3 + 2, none⟩ (.string ⟨#[]⟩))) :=
            ⟨((G.out.below.setCell (p := ⟨g, _, none⟩) e2 _).setCell (p := ⟨g, _, none⟩) e2 _).setCell (p := ⟨g, _, none⟩) e2 _, fun _ => ⟨g, cur', rfl, e2, h5, by omega⟩⟩
          clear e3 h5 e4 h6 G K
          go_wp2
          go_roundw
          case rel => exact ⟨j + 1, by omega, by go_num, R⟩
          case measure => simp [intOf]; omega
        · obtain rfl : j = nm.length := by omega
          have R := Lib.hid (K.out.on G.out.below)
          clear G K
          go_wp2
          go_roundw
          case rel => exact ⟨n + 1, by omega, by go_num, R⟩
          case measure => simp [intOf]; omega
    · obtain rfl : n = 2 := by omega
      go_wp2_with fail
      refine (H7.out _ _ _ _ _ K.out.tl.r0 K.out.tl.tl.r0).mono ?_
      rintro e w5 ⟨rfl, hb⟩
      have K5 := Lib.hid (K.out.on hb).below
      clear hb K
      go_wp2_with fail
      refine (dknown_any _ ((Hp.out.on K5.out).mono K5.out.size)).mono ?_
      rintro e w9 ⟨rfl, hb⟩
      have K6 := Lib.hid (K5.out.trans (hb.mono K5.out.size))
      clear hb K5
      go_wp2
      go_ret
      exact ⟨rfl, K6.out⟩
end Go.Proofs.YtmjoijloflinnaaDoor
