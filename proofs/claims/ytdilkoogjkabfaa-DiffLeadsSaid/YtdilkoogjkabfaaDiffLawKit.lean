/- The contracts of layer 8 as its laws meet them. -/
import Derived.Test.YtdilkoogjkabfaaDiffKnown
import Derived.Test.YtdilkoogjkabfaaPackDRef
import Derived.Test.YtdilkoogjkabfaaDeltaArgs
import Derived.Test.YtdilkoogjkabfaaDeltaJoinKit
import Derived.Test.YtdilkoogjkabfaaPackOwn
import Derived.Test.YtdilkoogjkabfaaApplyDo
namespace Go.Proofs.Ytdilkoogjkabfaa
open Go.RowKit

theorem E.hCom (a b : ByteArray) (za : a.size ≤ 140737488351232) (zb : b.size ≤ 140737488351232) : Hid (∀ W, Calls Try.prog 10 #[.string a, .string b] W (fun e w' => e = .returned (.tuple #[.int .i64 (F.pre a.data.toList b.data.toList : Nat), .int .i64 (F.suf a.data.toList b.data.toList : Nat)]) ∧ Below W.heap.size W w')) := fun W => common_any a b W za zb
theorem E.hCom' (a b : ByteArray) (za : a.size ≤ 140737488351232) (zb : b.size ≤ 140737488351232) : Hid (∀ W, Calls Try.prog 11 #[.string a, .string b] W (fun e w' => e = .returned (.tuple #[.int .i64 (F.pre a.data.toList b.data.toList : Nat), .int .i64 (F.suf a.data.toList b.data.toList : Nat)]) ∧ Below W.heap.size W w')) := fun W => refCommon_any a b W za zb
theorem E.hBet (a b : ByteArray) (za : a.size ≤ 140737488351232) (zb : b.size ≤ 140737488351232) : Hid (∀ W, Calls Try.prog 13 #[.string a, .string b] W (fun e w' => ∃ v, e = .returned (.tuple #[v, .int .i64 (F.btE a.data.toList b.data.toList)]) ∧ D.Made (F.btP a.data.toList b.data.toList) W v w')) := fun W => between_any a b W za zb
theorem E.hBet' (a b : ByteArray) (za : a.size ≤ 140737488351232) (zb : b.size ≤ 140737488351232) : Hid (∀ W, Calls Try.prog 14 #[.string a, .string b] W (fun e w' => ∃ v, e = .returned (.tuple #[v, .int .i64 (F.btE a.data.toList b.data.toList)]) ∧ D.Made (F.btP a.data.toList b.data.toList) W v w')) := fun W => refBetween_any a b W za zb
theorem E.hLin (a b : ByteArray) (za : a.size ≤ 140737488351232) (zb : b.size ≤ 140737488351232) : Hid (∀ W, Calls Try.prog 16 #[.string a, .string b] W (fun e w' => ∃ v, e = .returned (.tuple #[v, .int .i64 (F.lnE a.data.toList b.data.toList)]) ∧ D.Made (F.lnQ a.data.toList b.data.toList) W v w')) := fun W => lines_any a b W za zb
theorem E.hLong (a b : ByteArray) (za : a.size ≤ 140737488351232) (zb : b.size ≤ 140737488351232) : Hid (∀ W, Calls Try.prog 17 #[.string a, .string b] W (fun e w' => e = .returned (.bool (F.tlB a.data.toList b.data.toList)) ∧ Below W.heap.size W w')) := fun W => refTooLong_any a b W za zb
theorem E.same_refl (l : List D.P) : D.same l l = true := (D.same_iff l l).2 rfl
theorem E.hSame (x : List D.P) (hx : x.length ≤ maxLen) : Hid (∀ ao bo c d W, D.Row W ao x → D.Row W bo x → Calls Try.prog 15 #[.slice ao x.length c, .slice bo x.length d] W (fun e w' => e = .returned (.bool true) ∧ Below W.heap.size W w')) := fun ao bo c d W h g => by
  have := refSame_any ao bo c d x x W h g hx hx
  rwa [E.same_refl] at this
theorem E.hCst (x : List D.P) (hx : D.Bd x) : Hid (∀ ao c W, D.Row W ao x → Calls Try.prog 23 #[.slice ao x.length c] W (fun e w' => e = .returned (.tuple #[.int .i64 (F.costP x), .int .i64 (D.chk x)]) ∧ Below W.heap.size W w')) := fun ao c W h => cost_any ao c x W hx.1 h hx.2
theorem E.hCst' (x : List D.P) (hx : D.Bd x) : Hid (∀ ao c W, D.Row W ao x → Calls Try.prog 21 #[.slice ao x.length c] W (fun e w' => e = .returned (.tuple #[.int .i64 (F.costP x), .int .i64 (D.chk x)]) ∧ Below W.heap.size W w')) := fun ao c W h => refCost_any ao c x W hx.1 h hx.2
theorem E.hNrm (x : List D.P) (hx : D.Bd x) (h0 : D.chk x = 0) (hn : D.normP x = x) : Hid (∀ ao c W, D.Row W ao x → Calls Try.prog 18 #[.slice ao x.length c] W (fun e w' => e = .returned (.bool true) ∧ Below W.heap.size W w')) := fun ao c W h => by
  have := refNormal_any ao c x W hx.1 h hx.2
  have e : D.normal x = true := by unfold D.normal; rw [hn, E.same_refl, h0]; rfl
  rwa [e] at this
theorem E.hBy (a b : ByteArray) (za : a.size ≤ 140737488351232) (zb : b.size ≤ 140737488351232) (x : List D.P) (hx : D.Bd x) : Hid (∀ ao c W, D.Row W ao x → Calls Try.prog 19 #[.string a, .string b, .slice ao x.length c] W (fun e w' => e = .returned (.bool (F.byB a.data.toList b.data.toList x)) ∧ Below W.heap.size W w')) := fun ao c W h => refByLines_any a b ao c x W za zb hx.1 h hx.2
theorem E.hRws (a : ByteArray) (za : a.size ≤ 1048576) : Hid (∀ W, Calls Try.prog 20 #[.string a] W (fun e w' => (∃ ao c, e = .returned (.slice ao (F.rows a.data.toList).length c)) ∧ Below W.heap.size W w')) := fun W => (refRows_any a W za).mono fun e w' ⟨v, he, hm⟩ => by
  obtain ⟨ao, c, hv⟩ := hm.slice
  rw [List.length_map] at hv
  exact ⟨⟨ao, c, by rw [he, hv]⟩, hm.below⟩
theorem E.hLst (a b : ByteArray) (sa : a.size ≤ 1048576) (sb : b.size ≤ 1048576) (na : (F.rows a.data.toList).length ≤ 1024) (nb : (F.rows b.data.toList).length ≤ 1024) : Hid (∀ W, Calls Try.prog 22 #[.string a, .string b] W (fun e w' => e = .returned (.int .i64 (F.dist a.data.toList b.data.toList : Nat)) ∧ Below W.heap.size W w')) := fun W => refLeast_any a b W sa sb na nb
theorem E.hApp (a b : ByteArray) (za : a.size ≤ 140737488351232) (x : List D.P) (hx : D.Bd x) (h0 : D.fitE a.data.toList x = 0) (h1 : D.resP a.data.toList x = b.data.toList) : Hid (∀ ao c W, D.Row W ao x → Calls Try.prog 24 #[.string a, .slice ao x.length c] W (fun e w' => e = .returned (.tuple #[.string b, .int .i64 0]) ∧ Below W.heap.size W w')) := fun ao c W h => by
  have := apply_any a ao c x W za hx.1 h hx.2
  rw [h0, h1, D.bytes_eq] at this
  exact this
theorem E.hId (n : Nat) (hn : n ≤ 140737488351232) : Hid (∀ W, Calls Try.prog 25 #[.int .i64 (n : Int)] W (fun e w' => ∃ v, e = .returned (.tuple #[v, .int .i64 (D.idE (n : Int))]) ∧ D.Made (D.idP (n : Int)) W v w')) := fun W => identity_any (n : Int) (by omega) (by omega) W
theorem E.hKn : Hid (∀ W, Calls Try.prog 12 #[] W (fun e w' => e = .returned (.bool true) ∧ Below W.heap.size W w')) := fun W => fknown_any W
theorem E.bt_bd (a b : List UInt8) : D.Bd (F.btP a b) := by
  by_cases h : F.btE a b = 0
  · have h2 := (F.bt_leads h).1
    refine D.bd_of ?_
    unfold D.fitE at h2
    by_cases c : D.chk (F.btP a b) = 0
    · exact c
    · rw [if_neg c] at h2; exact absurd h2 c
  · rw [F.btP_bad h]; exact ⟨Nat.zero_le _, fun p hp => by cases hp⟩
theorem E.ln_bd (a b : List UInt8) : D.Bd (F.lnQ a b) := by
  by_cases h : F.lnE a b = 0
  · exact D.bd_of (F.lnQ_ln h).ok
  · rw [F.lnQ_bad h]; exact ⟨Nat.zero_le _, fun p hp => by cases hp⟩
theorem E.bd_arg {w : World} {s : D.Src} (h : D.ArgOk w s) : D.Bd s.x := ⟨h.src.len, h.src.txt⟩
theorem E.lnE_comm (a b : List UInt8) : F.lnE a b = F.lnE b a := by
  unfold F.lnE
  by_cases c : 1048576 < a.length ∨ 1048576 < b.length ∨ 1024 < (F.rows a).length ∨ 1024 < (F.rows b).length
  · rw [if_pos c, if_pos (by omega)]
  · rw [if_neg c, if_neg (by omega)]
theorem E.id_self (a : List UInt8) (h : a.length ≤ 1048576) : D.idP (a.length : Int) = (if a.length = 0 then [] else [.R a.length] : List D.Q).map D.raw := by
  unfold D.idP
  by_cases c : a.length = 0
  · rw [if_pos c, if_neg (by omega)]; rfl
  · rw [if_neg c, if_pos (by omega)]; rfl
end Go.Proofs.Ytdilkoogjkabfaa
