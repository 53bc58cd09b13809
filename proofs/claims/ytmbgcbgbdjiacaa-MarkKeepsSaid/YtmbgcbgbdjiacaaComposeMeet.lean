/- The contract of package compose's meet; what its walk over two deltas holds between two rounds. -/
import Derived.Test.YtmbgcbgbdjiacaaComposeRead
import Derived.Test.YtmbgcbgbdjiacaaApplyRow
namespace Go.Proofs.Ytmbgcbgbdjiacaa
open Go.RowKit

theorem C.grown_pre {W V U : World} {x : Option Nat} (h : Below W.heap.size W V) (g : V.grownBy U x) : W.grownBy U x :=
  ⟨g.os.trans h.os, g.tape.trans h.tape, g.output.trans h.output, Nat.le_trans h.size g.size, fun j hj hne => (g.block j (Nat.lt_of_lt_of_le hj h.size) hne).trans (h.block j hj)⟩
/-- An append of a piece that has just been laid, at a world whose size is spelled otherwise. -/
theorem C.append_piece {W : World} {ops : Array Oper} {rest : List Oper} {o : Oper} {a : Act} {Q : Exit → Act → World → Prop} (hgd : o.guard = none) (s x : Operand)
    (ho : o.op = .call { callee := .builtin .append, args := #[s, x], argTypes := #[39, 39] })
    (base : Nat) (v : Value) (X : List D.P) (hs : a.eval s = v) (hown : W.ownsRow base 53 3 v X.length (D.cellsL X)) (p : D.P) (cc H : Nat) (hH : W.heap.size = H) (hx : a.eval x = .slice (some ⟨H, 0, none⟩) 1 cc) (hn : X.length ≤ 1000000) (hbase : base ≤ W.heap.size)
    (h : ∀ Z v' w', Hid (Z = X ++ [p]) → w'.ownsRow base 53 3 v' Z.length (D.cellsL Z) → W.grownBy w' v.ownBlock → wpList Try.prog ops Q rest (a.put o.dst v') w') :
    wpList Try.prog ops Q (o :: rest) a (W.alloc (.cells #[.int .u8 p.k, .int .i64 p.n, .string p.t] 53)) := by
  subst hH
  exact A.append_piece hgd s x ho base v X hs hown p cc hx hn hbase fun Z v' w' h1 h2 h3 _ => h Z v' w' h1 h2 h3
def C.meetP (m u : D.P) : List D.P := if u.k = 1 then [m] else if m.k = 1 then [u] else []
def C.MeetEnd (B : Nat) (X Y : List D.P) (v : Value) (W : World) (e : Ending) (w' : World) : Prop := ∃ v' Z, e = .returned v' ∧ Z = X ++ Y ∧ w'.ownsRow B 53 3 v' Z.length (D.cellsL Z) ∧ W.grownBy w' v.ownBlock
set_option maxRecDepth 100000 in
set_option maxHeartbeats 2000000 in
theorem meet_any (B : Nat) (X : List D.P) (v : Value) (m u : D.P) (W : World) (hown : W.ownsRow B 53 3 v X.length (D.cellsL X)) (hB : B ≤ W.heap.size) (hl : X.length ≤ 900000) :
    Calls Try.prog 88 #[v, .agg #[.int .u8 m.k, .int .i64 m.n, .string m.t], .agg #[.int .u8 u.k, .int .i64 u.n, .string u.t]] W (C.MeetEnd B X (C.meetP m u) v W) := by
  have hal : Below W.heap.size W ((W.alloc (.cells #[.int .u8 m.k, .int .i64 m.n, .string m.t] 112)).alloc (.cells #[.int .u8 u.k, .int .i64 u.n, .string u.t] 115)) := ((Below.refl _ _).alloc (Nat.le_refl _) _).alloc (by simp) _
  have H := Lib.hid (And.intro hown hal)
  obtain ⟨va, vc, rfl⟩ := D.slice_of_own hown
  clear hown hal
  by_cases h1 : u.k = 1
  · have q1 : (u.k == 1) = true := by simpa using h1
    have hy : Hid (C.meetP m u = [m]) := if_pos h1
    clear h1
    go_enter Try.func88, Try.ntmps88
    go_wp2_with (at_builtin; refine C.append_piece rfl _ _ rfl B _ X rfl ((H.out.1.alloc _).alloc _) m 1 _ (by simp) rfl ?c1 ?c2 ?_)
    case c1 => omega
    case c2 => simp; omega
    intro Z v' w3 hZ hO hg
    have R : Hid (C.MeetEnd B X (C.meetP m u) (.slice va X.length vc) W (.returned v') w3) := ⟨v', Z, rfl, by rw [hy.out]; exact hZ.out, hO, C.grown_pre H.out.2 hg⟩
    clear hO hg hZ
    go_wp2
    go_ret
    exact R.out
  · have q1 : (u.k == 1) = false := by simpa using h1
    by_cases h2 : m.k = 1
    · have q2 : (m.k == 1) = true := by simpa using h2
      have hy : Hid (C.meetP m u = [u]) := by show _ = _; unfold C.meetP; rw [if_neg h1, if_pos h2]
      clear h1 h2
      go_enter Try.func88, Try.ntmps88
      go_wp2_with (at_builtin; refine C.append_piece rfl _ _ rfl B _ X rfl ((H.out.1.alloc _).alloc _) u 1 _ (by simp) rfl ?c1 ?c2 ?_)
      case c1 => omega
      case c2 => simp; omega
      intro Z v' w3 hZ hO hg
      have R : Hid (C.MeetEnd B X (C.meetP m u) (.slice va X.length vc) W (.returned v') w3) := ⟨v', Z, rfl, by rw [hy.out]; exact hZ.out, hO, C.grown_pre H.out.2 hg⟩
      clear hO hg hZ
      go_wp2
      go_ret
      exact R.out
    · have q2 : (m.k == 1) = false := by simpa using h2
      have hy : Hid (C.meetP m u = []) := by show _ = _; unfold C.meetP; rw [if_neg h1, if_neg h2]
      have R : Hid (C.MeetEnd B X (C.meetP m u) (.slice va X.length vc) W (.returned (.slice va X.length vc)) ((W.alloc (.cells #[.int .u8 m.k, .int .i64 m.n, .string m.t] 112)).alloc (.cells #[.int .u8 u.k, .int .i64 u.n, .string u.t] 115))) :=
        ⟨_, X, rfl, by rw [hy.out, List.append_nil], (H.out.1.alloc _).alloc _, ⟨H.out.2.os, H.out.2.tape, H.out.2.output, H.out.2.size, fun k hk _ => H.out.2.block k hk⟩⟩
      clear h1 h2
      go_enter Try.func88, Try.ntmps88
      go_wp2
      go_ret
      exact R.out
end Go.Proofs.Ytmbgcbgbdjiacaa
