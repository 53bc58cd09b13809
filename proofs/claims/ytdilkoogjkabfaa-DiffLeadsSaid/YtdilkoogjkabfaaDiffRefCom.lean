/- The contract of the reference's Common. -/
import Derived.Test.YtdilkoogjkabfaaDiffCom
import Derived.Deep.DeepCutAuto
import Derived.Deep.CutBlock
namespace Go.Proofs.Ytdilkoogjkabfaa
open Go.RowKit

theorem F.gr_pred (P : Nat → Bool) (k : Nat) : F.gr P k = if P k = true then k else F.gr P (k - 1) := by
  cases k with
  | zero => unfold F.gr; split <;> rfl
  | succ k => rw [F.gr_succ]; rfl
theorem F.byte_lt (c : UInt8) : c.toNat < 256 := UInt8.toNat_lt c
set_option maxRecDepth 100000 in
set_option maxHeartbeats 4000000 in
theorem refCommon_any (a b : ByteArray) (w : World) (za : a.size ≤ 140737488351232) (zb : b.size ≤ 140737488351232) :
    Calls Try.prog 11 #[.string a, .string b] w (F.ComEnd a.data.toList b.data.toList w) := by
  have ple := F.pre_le a.data.toList b.data.toList
  have sml := F.sm_le a.data.toList b.data.toList
  have hpre : Hid (F.gr (F.bb a.data.toList b.data.toList) (F.sm a.data.toList b.data.toList) = F.pre a.data.toList b.data.toList) := rfl
  rw [U.len, U.len] at ple sml
  have SM : Hid (∀ k, k ≤ a.size → k ≤ b.size → (∀ i, i < k → a.data.toList[i]? = b.data.toList[i]?) → (k = a.size ∨ k = b.size ∨ a.data.toList[k]? ≠ b.data.toList[k]?) → F.sm a.data.toList b.data.toList = k) := fun k h1 h2 h3 h4 =>
    F.sm_eq _ _ k (by rw [U.len]; exact h1) (by rw [U.len]; exact h2) h3 (by rw [U.len, U.len]; exact h4)
  obtain ⟨m, hm⟩ : ∃ m, m = min a.size b.size := ⟨_, rfl⟩
  have hma : m ≤ a.size := by omega
  have hmb : m ≤ b.size := by omega
  have ml : m ≤ 140737488351232 := by omega
  have Hm := Lib.hid hm
  clear hm
  obtain ⟨n, hn⟩ : ∃ n, Hid (F.sm a.data.toList b.data.toList = n) := ⟨_, rfl⟩
  rw [hn.out] at SM hpre ple sml
  have nm : n ≤ m := by have := Hm.out; omega
  go_enter Try.func11, Try.ntmps11
  go_upto_region 2 with (fail)
  go_cut [6, 7, 8] (fun v u x wx => v = .int .i64 (m : Int) ∧ u = .int .i64 0 ∧ x = .int .i64 0 ∧ Hid (wx = w))
  case first =>
    go_wp2
    all_goals
      go_meet
      case rel => exact ⟨by have := Hm.out; congr 1; omega, rfl, rfl, rfl⟩
  case rest =>
  obtain ⟨rfl, rfl, rfl, hw⟩ := hcut
  obtain rfl := hw.out
  clear hw
  obtain ⟨w, rfl⟩ : ∃ w : World, w = wc := ⟨_, rfl⟩
  go_upto_block 0 with (fail)
  go_cut [7] (fun v wx => v = .int .i64 (n : Int) ∧ Hid (Below w.heap.size w wx))
  case first =>
    go_wp2
    go_loopw [7] (fun s wr => ∃ k : Nat, k ≤ m ∧ s = .int .i64 (k : Int) ∧ Hid (∀ i, i < k → a.data.toList[i]? = b.data.toList[i]?) ∧ Hid (Below w.heap.size w wr)) (fun s _ => m - (intOf s).toNat)
    case atStart => exact ⟨0, Nat.zero_le _, rfl, fun i hi => absurd hi (Nat.not_lt_zero i), Below.refl _ _⟩
    case round =>
      obtain ⟨k, hk, rfl, hs, hb⟩ := hrel
      by_cases hlt : k < m
      · have h1 := F.at_str a k (by omega)
        have h2 := F.at_str b k (by omega)
        have hq : decide (k < m) = true := by simpa using hlt
        have hi : F.sB a b k k = true ↔ a.data.toList[k]? = b.data.toList[k]? := F.sB_iff (by omega) (by omega)
        have R : F.sB a b k k = ((((a.data.toList.getD k 0).toNat : Nat) : Int) == (((b.data.toList.getD k 0).toNat : Nat) : Int)) := rfl
        generalize (a.data.toList.getD k 0).toNat = x at h1 R
        generalize (b.data.toList.getD k 0).toNat = y at h2 R
        have HR := Lib.hid R
        have HI := Lib.hid hi
        clear R hi
        go_wp2
        go_quiet (fail)
        go_wp2
        · have h : F.sB a b k k = true := by rw [HR.out]; first | assumption | (rw [beq_iff_eq]; omega)
          have h3 := HI.out.1 h
          go_roundw
          case rel => exact ⟨k + 1, by omega, by go_num, fun i j1 => (by
            by_cases e : i = k
            · rw [e]; exact h3
            · exact hs.out i (by omega)), below_drewN hb.out _⟩
          case measure => simp [intOf]; omega
        · have h : F.sB a b k k = false := HR.out.trans ‹_›
          have E : n = k := SM.out k (by omega) (by omega) hs.out (.inr (.inr (fun c => by
            rw [HI.out.2 c] at h; exact absurd h (by decide))))
          go_meet
          case rel => exact ⟨by rw [E], below_drewN hb.out _⟩
      · have hq : decide (k < m) = false := by simpa using hlt
        have E : Hid (n = k) := SM.out k (by omega) (by omega) hs.out (by have := Hm.out; omega)
        go_wp2
        go_quiet (fail)
        go_wp2
        go_meet
        case rel => exact ⟨by rw [E.out], below_drewN hb.out _⟩
  case rest =>
  obtain ⟨rfl, hb⟩ := hcut
  obtain ⟨w1, rfl⟩ : ∃ w1 : World, w1 = wc := ⟨_, rfl⟩
  obtain ⟨p, hp⟩ : ∃ p, Hid (F.pre a.data.toList b.data.toList = p) := ⟨_, rfl⟩
  rw [hp.out] at hpre ple
  clear SM
  have HB : Hid (∀ k : Nat, F.bb a.data.toList b.data.toList k = (U.bnd a.data.toList (k : Int) && U.bnd b.data.toList (k : Int))) := fun k => by unfold F.bb; rw [U.bnd_natCast, U.bnd_natCast]
  have b1 : ∀ k : Nat, Hid (Calls Try.prog 32 #[.string a, .int .i64 (k : Int)] w1 fun e w' => e = .returned (.bool (U.bnd a.data.toList (k : Int))) ∧ w1 = w') := fun k => refBoundary_any a k w1
  have b2 : ∀ k : Nat, Hid (Calls Try.prog 32 #[.string b, .int .i64 (k : Int)] w1 fun e w' => e = .returned (.bool (U.bnd b.data.toList (k : Int))) ∧ w1 = w') := fun k => refBoundary_any b k w1
  have b1 := Lib.hid b1
  have b2 := Lib.hid b2
  go_upto_block 2 with (fail)
  go_cut [8] (fun v wx => v = .int .i64 (p : Int) ∧ Hid (wx = w1))
  case first =>
    go_wp2
    go_loop [8, 9] (fun v u => ∃ k : Nat, k ≤ n + 1 ∧ u = .int .i64 (k : Int) ∧ v = .int .i64 ((F.gr (F.bb a.data.toList b.data.toList) (k - 1) : Nat) : Int)) (fun _ u => n + 1 - (intOf u).toNat)
    case atStart => exact ⟨0, Nat.zero_le _, rfl, rfl⟩
    case round =>
      obtain ⟨k, hk, rfl, rfl⟩ := hrel
      by_cases hlt : k ≤ n
      · have hg := Lib.hid (F.gr_pred (F.bb a.data.toList b.data.toList) k)
        have H1 := b1.out k
        have H2 := b2.out k
        have h0 := HB.out k
        rw [h0] at hg
        have e : Hid (k + 1 - 1 = k) := rfl
        clear h0
        generalize F.gr (F.bb a.data.toList b.data.toList) (k - 1) = g at hg ⊢
        cases h : U.bnd a.data.toList (k : Int) with
        | true =>
          rw [h] at H1 hg
          cases h' : U.bnd b.data.toList (k : Int) with
          | true =>
            rw [h'] at H2 hg
            clear h h'
            go_wp2_with (go_at_call 32; first | (with_reducible refine H1.out.mono ?_; rintro e w' ⟨rfl, rfl⟩) | (with_reducible refine H2.out.mono ?_; rintro e w' ⟨rfl, rfl⟩))
            go_round
            case rel => exact ⟨k + 1, by omega, by go_num, by rw [e.out, hg.out]; rfl⟩
            case measure => simp [intOf]; omega
          | false =>
            rw [h'] at H2 hg
            clear h h'
            go_wp2_with (go_at_call 32; first | (with_reducible refine H1.out.mono ?_; rintro e w' ⟨rfl, rfl⟩) | (with_reducible refine H2.out.mono ?_; rintro e w' ⟨rfl, rfl⟩))
            go_round
            case rel => exact ⟨k + 1, by omega, by go_num, by rw [e.out, hg.out]; rfl⟩
            case measure => simp [intOf]; omega
        | false =>
          rw [h] at H1 hg
          clear h
          go_wp2_with (go_at_call 32; with_reducible refine H1.out.mono ?_; rintro e w' ⟨rfl, rfl⟩)
          go_round
          case rel => exact ⟨k + 1, by omega, by go_num, by rw [e.out, hg.out]; rfl⟩
          case measure => simp [intOf]; omega
      · have e : Hid (F.gr (F.bb a.data.toList b.data.toList) (k - 1) = p) := by
          show _ = _
          rw [show k - 1 = n by omega, hpre.out]
        go_wp2
        go_meet
        case rel => exact ⟨by rw [e.out], rfl⟩
  case rest =>
  obtain ⟨rfl, hw⟩ := hcut
  obtain rfl := hw.out
  clear hw
  obtain ⟨w1, rfl⟩ : ∃ w1 : World, w1 = wc := ⟨_, rfl⟩
  clear b1 b2 HB
  have SE : Hid (∀ k, k ≤ m - p → (∀ j, 0 < j → j ≤ k → F.sB a b (a.size - j) (b.size - j) = true) → (k = m - p ∨ F.sB a b (a.size - (k + 1)) (b.size - (k + 1)) = false) → F.sme a.data.toList b.data.toList = k) := fun k h0 h1 h2 =>
    F.sme_is (a := a.data.toList) (b := b.data.toList) (S := fun n => F.sB a b (a.size - n) (b.size - n)) (m := m) (k := k) (by rw [U.len, U.len]; exact Hm.out) (fun j j1 j2 => by rw [U.len, U.len]; exact F.sB_iff (by omega) (by omega)) (by rw [hp.out]; exact h0) h1 (by rw [hp.out]; exact h2)
  have HB : Hid (∀ k : Nat, F.be a.data.toList b.data.toList k = (U.bnd a.data.toList ((a.size - k : Nat) : Int) && U.bnd b.data.toList ((b.size - k : Nat) : Int))) := fun k => by unfold F.be; rw [U.bnd_natCast, U.bnd_natCast, U.len, U.len]
  obtain ⟨r, hr⟩ : ∃ r, r = m - p := ⟨_, rfl⟩
  rw [← hr] at SE
  have hr1 : (m : Int) - (p : Int) = (r : Int) := by omega
  have rm : r ≤ m := by omega
  have Hr := Lib.hid hr
  clear hr
  have hsf : ∀ k, F.sme a.data.toList b.data.toList = k → F.gr (F.be a.data.toList b.data.toList) k = F.suf a.data.toList b.data.toList := fun k h => by unfold F.suf; rw [h]
  have hsf := Lib.hid hsf
  go_upto_block 4 with (fail)
  go_cut [10] (fun v wx => v = .int .i64 ((F.suf a.data.toList b.data.toList : Nat) : Int) ∧ Hid (Below w1.heap.size w1 wx))
  case first =>
    go_wp2
    go_loopw [10, 11] (fun v u wr => ∃ k n3 : Nat, k ≤ r ∧ Hid (n3 = k + 1) ∧ u = .int .i64 (n3 : Int) ∧ v = .int .i64 ((F.gr (F.be a.data.toList b.data.toList) k : Nat) : Int) ∧ Hid (∀ j, 0 < j → j ≤ k → F.sB a b (a.size - j) (b.size - j) = true) ∧ Hid (Below w1.heap.size w1 wr)) (fun _ u _ => r + 1 - (intOf u).toNat)
    case atStart => exact ⟨0, 1, Nat.zero_le _, rfl, rfl, rfl, fun j h1 h2 => absurd h2 (by omega), Below.refl _ _⟩
    case round =>
      obtain ⟨k, n3, hk, hn3, rfl, rfl, hs, hb⟩ := hrel
      by_cases hlt : n3 ≤ r
      · have hn3' := hn3.out
        have h1 := F.at_str a (a.size - n3) (by omega)
        have h2 := F.at_str b (b.size - n3) (by omega)
        have hq : decide (n3 ≤ r) = true := by simpa using hlt
        have e1 : (a.size : Int) - (n3 : Int) = ((a.size - n3 : Nat) : Int) := by omega
        have e2 : (b.size : Int) - (n3 : Int) = ((b.size - n3 : Nat) : Int) := by omega
        have R : F.sB a b (a.size - n3) (b.size - n3) = ((((a.data.toList.getD (a.size - n3) 0).toNat : Nat) : Int) == (((b.data.toList.getD (b.size - n3) 0).toNat : Nat) : Int)) := rfl
        have hg := Lib.hid (F.gr_pred (F.be a.data.toList b.data.toList) n3)
        have h0 := HB.out n3
        have e : Hid (n3 - 1 = k) := by show _ = _; omega
        rw [h0, e.out] at hg
        have H1 : Hid (∀ W, Calls Try.prog 32 #[.string a, .int .i64 ((a.size - n3 : Nat) : Int)] W fun e w' => e = .returned (.bool (U.bnd a.data.toList ((a.size - n3 : Nat) : Int))) ∧ W = w') := fun W => refBoundary_any a _ W
        have H2 : Hid (∀ W, Calls Try.prog 32 #[.string b, .int .i64 ((b.size - n3 : Nat) : Int)] W fun e w' => e = .returned (.bool (U.bnd b.data.toList ((b.size - n3 : Nat) : Int))) ∧ W = w') := fun W => refBoundary_any b _ W
        have l1 : a.size - n3 ≤ 140737488351232 := by omega
        have l2 : b.size - n3 ≤ 140737488351232 := by omega
        have nx : Hid (F.sB a b (a.size - n3) (b.size - n3) = true → ∀ j, 0 < j → j ≤ k + 1 → F.sB a b (a.size - j) (b.size - j) = true) := fun h j j1 j2 => by
          by_cases c : j = n3
          · rw [c]; exact h
          · exact hs.out j j1 (by omega)
        have lst : Hid (F.sB a b (a.size - n3) (b.size - n3) = false → F.sme a.data.toList b.data.toList = k) := fun h => SE.out k (by omega) hs.out (.inr (by rw [← hn3']; exact h))
        have hn4 : k + 1 ≤ r := by omega
        have Hsf := Lib.hid (hsf.out k)
        clear h0 hn3' hsf
        have HR := Lib.hid R
        clear R
        generalize F.gr (F.be a.data.toList b.data.toList) k = g at hg Hsf ⊢
        generalize F.sB a b (a.size - n3) (b.size - n3) = sb at HR nx lst
        generalize a.size - n3 = ja at *
        generalize b.size - n3 = jb at *
        generalize (a.data.toList.getD ja 0).toNat = x at *
        generalize (b.data.toList.getD jb 0).toNat = y at *
        generalize U.bnd a.data.toList (ja : Int) = ba at *
        generalize U.bnd b.data.toList (jb : Int) = bb at *
        obtain ⟨w2, rfl⟩ : ∃ w2 : World, w2 = wr := ⟨_, rfl⟩
        go_wp2
        go_quiet (fail)
        have HB3 := Lib.hid (below_drewN hb.out nq)
        clear hb
        cases ba with
        | true =>
          cases bb with
          | true =>
            go_wp2_with (go_at_call 32; first | (with_reducible refine (H1.out _).mono ?_; rintro e w' ⟨rfl, rfl⟩) | (with_reducible refine (H2.out _).mono ?_; rintro e w' ⟨rfl, rfl⟩))
            · have h : sb = true := by rw [HR.out]; first | assumption | (rw [beq_iff_eq]; omega)
              go_roundw
              case rel => exact ⟨k + 1, n3 + 1, hn4, by show _ = _; rw [hn3.out], by go_num, by rw [← hn3.out, hg.out]; rfl, nx.out h, HB3⟩
              case measure => simp [intOf]; omega
            · have h : sb = false := HR.out.trans ‹_›
              go_meet
              case rel => exact ⟨by rw [Hsf.out (lst.out h)], HB3⟩
          | false =>
            go_wp2_with (go_at_call 32; first | (with_reducible refine (H1.out _).mono ?_; rintro e w' ⟨rfl, rfl⟩) | (with_reducible refine (H2.out _).mono ?_; rintro e w' ⟨rfl, rfl⟩))
            · have h : sb = true := by rw [HR.out]; first | assumption | (rw [beq_iff_eq]; omega)
              go_roundw
              case rel => exact ⟨k + 1, n3 + 1, hn4, by show _ = _; rw [hn3.out], by go_num, by rw [← hn3.out, hg.out]; rfl, nx.out h, HB3⟩
              case measure => simp [intOf]; omega
            · have h : sb = false := HR.out.trans ‹_›
              go_meet
              case rel => exact ⟨by rw [Hsf.out (lst.out h)], HB3⟩
        | false =>
          go_wp2_with (go_at_call 32; first | (with_reducible refine (H1.out _).mono ?_; rintro e w' ⟨rfl, rfl⟩) | (with_reducible refine (H2.out _).mono ?_; rintro e w' ⟨rfl, rfl⟩))
          · have h : sb = true := by rw [HR.out]; first | assumption | (rw [beq_iff_eq]; omega)
            go_roundw
            case rel => exact ⟨k + 1, n3 + 1, hn4, by show _ = _; rw [hn3.out], by go_num, by rw [← hn3.out, hg.out]; rfl, nx.out h, HB3⟩
            case measure => simp [intOf]; omega
          · have h : sb = false := HR.out.trans ‹_›
            go_meet
            case rel => exact ⟨by rw [Hsf.out (lst.out h)], HB3⟩
      · have hq : decide (n3 ≤ r) = false := by simpa using hlt
        have hn3' := hn3.out
        have E := Lib.hid (hsf.out k (SE.out k hk hs.out (.inl (by omega))))
        clear hn3'
        go_wp2
        go_quiet (fail)
        go_wp2
        go_meet
        case rel => exact ⟨by rw [E.out], below_drewN hb.out _⟩
  case rest =>
  obtain ⟨rfl, hw⟩ := hcut
  go_wp2
  go_ret2
  exact ⟨by rw [hp.out]; rfl, hb.out.trans (hw.out.mono hb.out.size)⟩
end Go.Proofs.Ytdilkoogjkabfaa
