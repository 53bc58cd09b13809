/- The walks of DeltaChecks and DeltaEquals. -/
import Derived.Test.YtmjoijloflinnaaDoorDeltaLaws1
import Derived.Test.YtmjoijloflinnaaDoorDeltaRowKit
namespace Go.Proofs.YtmjoijloflinnaaDoor
open Go.RowKit

theorem refLengths_len (ao : Option Addr) (cap : Nat) (l : List D.P) (w : World) (hn : l.length ≤ maxLen) (hr : D.Row w ao l) (ht : ∀ p ∈ l, p.t.size ≤ 140737488351232) :
    Calls Tryd.prog 16 #[.slice ao l.length cap] w (fun e w' => e = .returned (.tuple #[.int .i64 (D.lenI l), .int .i64 (D.lenO l), .int .i64 (D.chk l)]) ∧ Below w.heap.size w w') := refLengths_any ao cap l w hn hr ht
theorem own_arg (s : D.Src) (w W : World) (h : D.ArgOk w s) (hr : D.Row W s.a s.x) : Calls Tryd.prog 14 #[.slice s.a s.x.length s.c] W (D.OwnEnd s.x W) := own_any s.a s.c s.x W hr h.src.nil h.fit
set_option maxRecDepth 100000 in
set_option maxHeartbeats 2000000 in
theorem deltaChecks_walk (s : D.Src) (w : World) (hs : D.ArgOk w s) (hp : D.Pow w.heap.size w) :
    Calls Tryd.prog 3 #[.slice s.a s.x.length s.c] w fun e w' => e = .returned (.bool true) ∧ Below w.heap.size w w' := by
  have H0 := Lib.hid (own_arg s w w hs hs.src.row)
  have hlen := hs.src.len
  have htxt := hs.src.txt
  have H1 : Hid (∀ ao c W, D.Row W ao s.x → Calls Tryd.prog 15 #[.slice ao s.x.length c] W (D.LenEnd s.x W)) := fun ao c W h => lengths_any ao c s.x W hlen h htxt
  have H2 : Hid (∀ ao c W, D.Row W ao s.x → Calls Tryd.prog 16 #[.slice ao s.x.length c] W (fun e w' => e = .returned (.tuple #[.int .i64 (D.lenI s.x), .int .i64 (D.lenO s.x), .int .i64 (D.chk s.x)]) ∧ Below W.heap.size W w')) := fun ao c W h => refLengths_len ao c s.x W hlen h htxt
  have H3 : Hid (∀ ao c W, D.Row W ao s.x → Calls Tryd.prog 17 #[.slice ao s.x.length c] W (fun e w' => e = .returned (.int .i64 (D.chk s.x)) ∧ Below W.heap.size W w')) := fun ao c W h => check_any ao c s.x W hlen h htxt
  have H4 : Hid (∀ ao c W, D.Row W ao s.x → Calls Tryd.prog 18 #[.slice ao s.x.length c] W (fun e w' => e = .returned (.int .i64 (D.chk s.x)) ∧ Below W.heap.size W w')) := fun ao c W h => refCheck_any ao c s.x W hlen h htxt
  have H5 : Hid (∀ ao c W, D.Row W ao s.x → Calls Tryd.prog 19 #[.slice ao s.x.length c] W (fun e w' => e = .returned (.bool (D.normal s.x)) ∧ Below W.heap.size W w')) := fun ao c W h => normal_any ao c s.x W hlen h htxt
  have H6 : Hid (∀ ao c W, D.Row W ao s.x → Calls Tryd.prog 20 #[.slice ao s.x.length c] W (fun e w' => e = .returned (.bool (D.normal s.x)) ∧ Below W.heap.size W w')) := fun ao c W h => refNormal_any ao c s.x W hlen h htxt
  have H7 : Hid (∀ ao bo c d W, D.Row W ao s.x → D.Row W bo s.x → Calls Tryd.prog 21 #[.slice ao s.x.length c, .slice bo s.x.length d] W (fun e w' => e = .returned (.bool true) ∧ Below W.heap.size W w')) := fun ao bo c d W h g => same_self W ao bo c d s.x h g hlen
  unfold D.LenEnd at H1
  have K : Hid (D.Kn w w [(s.a, s.x)]) := ⟨Below.refl _ _, fun x hx => by simp at hx; subst hx; exact hs.src.row⟩
  have Hp := Lib.hid hp
  obtain ⟨ao, c, l⟩ := s
  dsimp only at *
  generalize D.chk l = k at H1 H2 H3 H4
  generalize D.lenI l = i at H1 H2
  generalize D.lenO l = o at H1 H2
  generalize D.normal l = nb at H5 H6
  clear hs hlen htxt hp
  go_enter Tryd.func3, Tryd.ntmps3
  go_wp2_with fail
  refine H0.out.mono ?_
  rintro e w1 ⟨v, rfl, hm⟩
  obtain ⟨xa, xc, hv, K1⟩ := K.out.made hm
  subst hv
  clear hm K H0
  go_wp2_with fail
  refine (H1.out _ _ _ K1.out.r0).mono ?_
  rintro e w2 ⟨rfl, hb⟩
  have K := Lib.hid (K1.out.on hb)
  clear hb K1
  go_wp2_with fail
  refine (H2.out _ _ _ K.out.tl.r0).mono ?_
  rintro e w3 ⟨rfl, hb⟩
  replace K := Lib.hid (K.out.on hb)
  clear hb
  go_wp2_with fail
  refine (H3.out _ _ _ K.out.r0).mono ?_
  rintro e w4 ⟨rfl, hb⟩
  replace K := Lib.hid (K.out.on hb)
  clear hb
  go_wp2_with fail
  refine (H4.out _ _ _ K.out.tl.r0).mono ?_
  rintro e w5 ⟨rfl, hb⟩
  replace K := Lib.hid (K.out.on hb)
  clear hb
  go_wp2_with fail
  refine (H5.out _ _ _ K.out.r0).mono ?_
  rintro e w6 ⟨rfl, hb⟩
  replace K := Lib.hid (K.out.on hb)
  clear hb
  go_wp2_with fail
  refine (H6.out _ _ _ K.out.tl.r0).mono ?_
  rintro e w7 ⟨rfl, hb⟩
  replace K := Lib.hid (K.out.on hb)
  clear hb
  go_wp2_with fail
  refine (H7.out _ _ _ _ _ K.out.r0 K.out.tl.r0).mono ?_
  rintro e w8 ⟨rfl, hb⟩
  replace K := Lib.hid (K.out.on hb).below
  clear hb
  go_wp2_with fail
  refine (dknown_any _ ((Hp.out.on K.out).mono K.out.size)).mono ?_
  rintro e w9 ⟨rfl, hb⟩
  replace K := Lib.hid (K.out.trans (hb.mono K.out.size))
  clear hb
  go_wp2
  go_ret
  exact ⟨rfl, K.out⟩
set_option maxRecDepth 100000 in
set_option maxHeartbeats 2000000 in
theorem deltaEquals_walk (s t : D.Src) (w : World) (hs : D.ArgOk w s) (ht : D.ArgOk w t) (hp : D.Pow w.heap.size w) :
    Calls Tryd.prog 5 #[.slice s.a s.x.length s.c, .slice t.a t.x.length t.c] w fun e w' => e = .returned (.bool true) ∧ Below w.heap.size w w' := by
  have H0 := Lib.hid (own_arg s w w hs hs.src.row)
  have H0' : Hid (∀ W, D.Row W t.a t.x → Calls Tryd.prog 14 #[.slice t.a t.x.length t.c] W (D.OwnEnd t.x W)) := fun W hr => own_arg t w W ht hr
  have hl1 := hs.src.len
  have hl2 := ht.src.len
  have ht1 := hs.src.txt
  have ht2 := ht.src.txt
  have H1 : Hid (∀ ao bo c d W, D.Row W ao s.x → D.Row W bo t.x → Calls Tryd.prog 25 #[.slice ao s.x.length c, .slice bo t.x.length d] W (fun e w' => e = .returned (.tuple #[.bool (D.eqv s.x t.x), .int .i64 (D.eqvE s.x t.x)]) ∧ Below W.heap.size W w')) := fun ao bo c d W h g => equivalent_any ao bo c d s.x t.x W hl1 hl2 h g ht1 ht2
  have H2 : Hid (∀ ao bo c d W, D.Row W ao s.x → D.Row W bo t.x → Calls Tryd.prog 26 #[.slice ao s.x.length c, .slice bo t.x.length d] W (fun e w' => e = .returned (.tuple #[.bool (D.eqv s.x t.x), .int .i64 (D.eqvE s.x t.x)]) ∧ Below W.heap.size W w')) := fun ao bo c d W h g => refEquivalent_any ao bo c d s.x t.x W hl1 hl2 h g ht1 ht2
  have H7 : Hid (∀ ao bo c d W, D.Row W ao s.x → D.Row W bo s.x → Calls Tryd.prog 21 #[.slice ao s.x.length c, .slice bo s.x.length d] W (fun e w' => e = .returned (.bool true) ∧ Below W.heap.size W w')) := fun ao bo c d W h g => same_self W ao bo c d s.x h g hl1
  have H8 : Hid (∀ ao bo c d W, D.Row W ao t.x → D.Row W bo t.x → Calls Tryd.prog 21 #[.slice ao t.x.length c, .slice bo t.x.length d] W (fun e w' => e = .returned (.bool true) ∧ Below W.heap.size W w')) := fun ao bo c d W h g => same_self W ao bo c d t.x h g hl2
  have K : Hid (D.Kn w w [(s.a, s.x), (t.a, t.x)]) := ⟨Below.refl _ _, fun x hx => by
    simp at hx
    rcases hx with rfl | rfl
    · exact hs.src.row
    · exact ht.src.row⟩
  have Hp := Lib.hid hp
  obtain ⟨ao, c, l⟩ := s
  obtain ⟨bo, d, m⟩ := t
  dsimp only at *
  generalize D.eqv l m = eb at H1 H2
  generalize D.eqvE l m = k at H1 H2
  clear hs ht hl1 hl2 ht1 ht2 hp
  go_enter Tryd.func5, Tryd.ntmps5
  go_wp2_with fail
  refine H0.out.mono ?_
  rintro e w1 ⟨v, rfl, hm⟩
  obtain ⟨xa, xc, hv, K1⟩ := K.out.made hm
  subst hv
  clear hm K H0
  go_wp2_with fail
  refine (H0'.out _ K1.out.tl.tl.r0).mono ?_
  rintro e w2 ⟨v, rfl, hm⟩
  obtain ⟨ya, yc, hv, K⟩ := K1.out.made hm
  subst hv
  clear hm K1 H0'
  go_wp2_with fail
  refine (H1.out _ _ _ _ _ K.out.tl.r0 K.out.r0).mono ?_
  rintro e w3 ⟨rfl, hb⟩
  replace K := Lib.hid (K.out.on hb)
  clear hb
  go_wp2_with fail
  refine (H2.out _ _ _ _ _ K.out.tl.tl.r0 K.out.tl.tl.tl.r0).mono ?_
  rintro e w4 ⟨rfl, hb⟩
  replace K := Lib.hid (K.out.on hb)
  clear hb
  go_wp2_with fail
  refine (H7.out _ _ _ _ _ K.out.tl.r0 K.out.tl.tl.r0).mono ?_
  rintro e w5 ⟨rfl, hb⟩
  replace K := Lib.hid (K.out.on hb)
  clear hb
  go_wp2_with fail
  refine (H8.out _ _ _ _ _ K.out.r0 K.out.tl.tl.tl.r0).mono ?_
  rintro e w6 ⟨rfl, hb⟩
  replace K := Lib.hid (K.out.on hb).below
  clear hb
  go_wp2_with fail
  refine (dknown_any _ ((Hp.out.on K.out).mono K.out.size)).mono ?_
  rintro e w9 ⟨rfl, hb⟩
  replace K := Lib.hid (K.out.trans (hb.mono K.out.size))
  clear hb
  go_wp2
  go_ret
  exact ⟨rfl, K.out⟩
end Go.Proofs.YtmjoijloflinnaaDoor
