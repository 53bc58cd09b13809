/- The walk of DeltaPrints. -/
import Derived.Test.YtmjoijloflinnaaDoorDeltaLaws2
import Derived.Test.YtmjoijloflinnaaDoorDeltaRefText
namespace Go.Proofs.YtmjoijloflinnaaDoor
open Go.RowKit

set_option maxRecDepth 100000 in
set_option maxHeartbeats 4000000 in
theorem deltaPrints_walk (s : D.Src) (w : World) (hs : D.ArgOk w s) (hp : D.Pow w.heap.size w) :
    Calls Tryd.prog 8 #[.slice s.a s.x.length s.c] w fun e w' => e = .returned (.bool true) ∧ Below w.heap.size w w' := by
  have Hs : Hid (∀ W, D.Row W s.a s.x → Calls Tryd.prog 14 #[.slice s.a s.x.length s.c] W (D.OwnEnd s.x W)) := fun W hr => own_arg s w W hs hr
  have hlen := hs.src.len
  have htxt := hs.src.txt
  have T1 : Hid (∀ ao c W, D.Row W ao s.x → D.Pow W.heap.size W → Calls Tryd.prog 31 #[.slice ao s.x.length c] W (D.TextEnd s.x W)) := fun ao c W h g => delText_any ao c s.x W hlen h htxt g
  have T2 : Hid (∀ ao c W, D.Row W ao s.x → Calls Tryd.prog 32 #[.slice ao s.x.length c] W (D.TextEnd s.x W)) := fun ao c W h => refText_any ao c s.x W hlen h htxt
  unfold D.TextEnd at T1 T2
  have K : Hid (D.Kn w w [(s.a, s.x)]) := ⟨Below.refl _ _, fun x hx => by simp at hx; subst hx; exact hs.src.row⟩
  have HP : Hid (∀ W, Below w.heap.size w W → D.Pow W.heap.size W) := fun W hb => (hp.on hb).mono hb.size
  have HK : Hid (∀ W, Below w.heap.size w W → Calls Tryd.prog 22 #[] W (fun e w' => e = .returned (.bool true) ∧ Below w.heap.size w w')) := fun W hb => (dknown_any W ((hp.on hb).mono hb.size)).mono fun _ _ h => ⟨h.1, hb.trans (h.2.mono hb.size)⟩
  clear hs hlen htxt hp
  obtain ⟨ao, c, l⟩ := s
  dsimp only at *
  generalize D.txtP l = T at *
  generalize D.chk l = k at *
  go_enter Tryd.func8, Tryd.ntmps8
  go_wp2_with fail
  refine (Hs.out _ K.out.r0).mono ?_
  rintro e w1 ⟨v, rfl, hm⟩
  obtain ⟨xa, xc, hv, K1⟩ := K.out.made hm
  subst hv
  clear hm K
  go_wp2_with fail
  refine (T1.out _ _ _ K1.out.r0 (HP.out _ K1.out.below)).mono ?_
  rintro e w2 ⟨rfl, hb⟩
  have K := Lib.hid (K1.out.on hb).tl
  clear hb K1
  go_wp2_with fail
  refine (T2.out _ _ _ K.out.r0).mono ?_
  rintro e w3 ⟨rfl, hb⟩
  have K1 := Lib.hid (K.out.on hb).below
  clear hb K
  go_wp2_with fail
  refine (HK.out _ K1.out).mono ?_
  rintro e w4 ⟨rfl, hb⟩
  have hb := Lib.hid hb
  go_wp2
  go_ret
  exact ⟨rfl, hb.out⟩
end Go.Proofs.YtmjoijloflinnaaDoor
