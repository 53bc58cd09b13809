/- The walk of DeltaParses. -/
import Derived.Test.YtmjoijloflinnaaDoorDeltaLaws2
import Derived.Test.YtmjoijloflinnaaDoorDeltaRefParse
namespace Go.Proofs.YtmjoijloflinnaaDoor
open Go.RowKit

theorem D.parseP_len {t : List UInt8} (hl : t.length ≤ 1048576) : (D.parseP t).length ≤ maxLen := by
  unfold D.parseP maxLen
  cases hp : D.parse t with
  | none => exact Nat.zero_le _
  | some a =>
    have := (D.parse_bd hp).1
    show (if D.chk (a.map D.raw) = 0 then a.map D.raw else []).length ≤ _
    split
    · omega
    · exact Nat.zero_le _
set_option maxRecDepth 100000 in
set_option maxHeartbeats 4000000 in
theorem deltaParses_walk (t : List UInt8) (w : World) (hl : t.length ≤ 1048576) (hp : D.Pow w.heap.size w) :
    Calls Tryd.prog 9 #[.string ⟨t.toArray⟩] w fun e w' => e = .returned (.bool true) ∧ Below w.heap.size w w' := by
  have P1 : Hid (∀ W, Calls Tryd.prog 33 #[.string ⟨t.toArray⟩] W (D.ParEnd t W)) := fun W => parse_any t W (by omega)
  have P2 : Hid (∀ W, Calls Tryd.prog 34 #[.string ⟨t.toArray⟩] W (D.ParEnd t W)) := fun W => refParse_any t W (by omega)
  unfold D.ParEnd at P1 P2
  have hq := D.parseP_len hl
  have K : Hid (D.Kn w w []) := ⟨Below.refl _ _, fun x hx => by cases hx⟩
  have HK : Hid (∀ W, Below w.heap.size w W → Calls Tryd.prog 22 #[] W (fun e w' => e = .returned (.bool true) ∧ Below w.heap.size w w')) := fun W hb => (dknown_any W ((hp.on hb).mono hb.size)).mono fun _ _ h => ⟨h.1, hb.trans (h.2.mono hb.size)⟩
  generalize D.parseE t = k at *
  generalize D.parseP t = q at *
  have S1 : Hid (∀ ao bo c d W, D.Row W ao q → D.Row W bo q → Calls Tryd.prog 21 #[.slice ao q.length c, .slice bo q.length d] W (fun e w' => e = .returned (.bool true) ∧ Below W.heap.size W w')) := fun ao bo c d W h g => by
    have := refSame_any ao bo c d q q W h g hq hq
    rwa [(D.same_iff q q).2 rfl] at this
  clear hl hp hq
  go_enter Tryd.func9, Tryd.ntmps9
  go_wp2_with fail
  refine (P1.out _).mono ?_
  rintro e w1 ⟨v, rfl, hm⟩
  obtain ⟨pa, pc, hv, K1⟩ := K.out.made hm
  subst hv
  clear hm K
  go_wp2_with fail
  refine (P2.out _).mono ?_
  rintro e w2 ⟨v, rfl, hm⟩
  obtain ⟨qa, qc, hv, K⟩ := K1.out.made hm
  subst hv
  clear hm K1
  go_wp2_with fail
  refine (S1.out _ _ _ _ _ K.out.tl.r0 K.out.r0).mono ?_
  rintro e w3 ⟨rfl, hb⟩
  have K1 := Lib.hid (K.out.on hb).below
  clear hb K
  go_wp2_with fail
  refine (HK.out _ K1.out).mono ?_
  rintro e w4 ⟨rfl, hb⟩
  have hb := Lib.hid hb
  go_wp2
  go_ret
  exact ⟨rfl, hb.out⟩
end Go.Proofs.YtmjoijloflinnaaDoor
