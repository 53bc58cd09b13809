/- Texts joined: ArDeed ArDeed2 ArDeedK ArDeedN ArDeed3 -/
import Derived.Test.YtniccjbcchdkoaaPackArRef
import Derived.Test.YtniccjbcchdkoaaPackFKit
import Derived.Test.YtniccjbcchdkoaaPackNDec
import Derived.Maps.AppendAt
import Derived.Test.YtniccjbcchdkoaaPackNXs
/- ArDeed -/
namespace Go.Proofs.Ytniccjbcchdkoaa
open Go.RowKit

/-- A deed. -/
structure Ar.Dd where
  kind : Int
  text : ByteArray
  lo : Option Addr
  lc : Nat
  l : List Int
  x : N.NArg
  h : Nat
def Ar.Dd.v (d : Ar.Dd) : Value := .agg #[.int .i64 d.kind, .string d.text, .slice d.lo d.l.length d.lc, .int .i64 d.x.h, .string d.x.t, .slice d.x.s.a d.x.s.x.length d.x.s.c, .int .u64 (d.h : Int)]
structure Ar.DOk (W : World) (d : Ar.Dd) : Prop where
  text : d.text.size ≤ 140737488351232
  row : V.Row W d.lo (N.iv d.l)
  len : d.l.length ≤ 17592186044416
  node : N.NOk W d.x
  h : d.h ≤ 18446744073709551615
theorem Ar.DOk.on {W W' : World} {d : Ar.Dd} (h : Ar.DOk W d) (hb : Below W.heap.size W W') : Ar.DOk W' d := ⟨h.text, h.row.below hb, h.len, h.node.on hb, h.h⟩
/-- Which of the known handles a number means. -/
def Ar.pick (all : List Ar.I) (n : Int) : Nat := (n % (all.length : Int)).toNat
theorem Ar.pick_lt {all : List Ar.I} (h : all ≠ []) (n : Int) : Ar.pick all n < all.length ∧ ((Ar.pick all n : Nat) : Int) = n % (all.length : Int) := by
  have hp : 0 < all.length := List.length_pos_iff.2 h
  have b0 := Int.emod_nonneg n (show (all.length : Int) ≠ 0 by omega)
  have b1 := Int.emod_lt_of_pos n (show (0 : Int) < (all.length : Int) by omega)
  unfold Ar.pick
  constructor <;> omega
def Ar.Dd.hand (d : Ar.Dd) (all : List Ar.I) : Nat := if d.kind % 8 = 7 then d.h else match d.l with
  | [] => d.h
  | n :: _ => ((all[Ar.pick all n]?).map Ar.I.h).getD d.h
set_option maxRecDepth 100000 in
set_option maxHeartbeats 2000000 in
theorem dHandle13_any (d : Ar.Dd) (ao : Option Addr) (ac : Nat) (all : List Ar.I) (w : World) (hd : Ar.DOk w d) (hl : all.length ≤ 1000)
    (hr : ∀ (i : Nat) (p : Ar.I), all[i]? = some p → ∃ b, ao = some ⟨b, 0, none⟩ ∧ b < w.heap.size ∧ w.cell? ⟨b, i * 4, none⟩ = some (.int .u64 (p.h : Int))) :
    Calls Try.prog 52 #[d.v, .slice ao all.length ac] w fun e w' => e = .returned (.int .u64 (d.hand all : Nat)) ∧ Below w.heap.size w w' := by
  have HM : Hid (∀ (n m : Int) V, 0 < m → m ≤ 1000000000 → Calls Try.prog 51 #[.int .i64 n, .int .i64 m] V fun x w' => x = .returned (.int .i64 (n % m)) ∧ V = w') := fun n m V h1 h2 => mod11_any n m h1 h2 V
  have B : Hid (∀ o, Below w.heap.size w (w.alloc o)) := fun o => (Below.refl _ _).alloc (Nat.le_refl _) o
  obtain ⟨kind, text, lo, lc, l, ⟨xh, xt, xa, xc, xl⟩, h⟩ := d
  have hrow := hd.row
  have hlen := hd.len
  dsimp only at hrow hlen
  clear hd
  unfold Ar.Dd.v Ar.Dd.hand
  dsimp only
  by_cases hk : kind % 8 = 7
  · rw [if_pos hk]
    have hk' : (kind % 8 == 7) = true := by simpa using hk
    have M1 := Lib.hid (HM.out kind 8)
    clear hr hrow
    generalize kind % 8 = km at *
    go_enter Try.func52, Try.ntmps52
    go_wp2_with fail
    refine (M1.out _ (by omega) (by omega)).mono ?_
    rintro e w1 ⟨rfl, rfl⟩
    clear M1 HM
    go_wp2
    go_ret
    exact ⟨rfl, B.out _⟩
  · rw [if_neg hk]
    have hk' : (kind % 8 == 7) = false := by simpa using hk
    have M1 := Lib.hid (HM.out kind 8)
    generalize kind % 8 = km at *
    by_cases ha : all = []
    · subst ha
      clear hr hrow hk
      cases l
      all_goals
        dsimp only
        go_enter Try.func52, Try.ntmps52
        go_wp2_with fail
        refine (M1.out _ (by omega) (by omega)).mono ?_
        rintro e w1 ⟨rfl, rfl⟩
        clear M1 HM
        go_wp2
        go_ret
        exact ⟨rfl, B.out _⟩
    · have hp : 0 < all.length := List.length_pos_iff.2 ha
      have hp' : ((all.length : Int) == 0) = false := by simp; omega
      cases l with
      | nil =>
        dsimp only
        clear hr hrow hk ha
        go_enter Try.func52, Try.ntmps52
        go_wp2_with fail
        refine (M1.out _ (by omega) (by omega)).mono ?_
        rintro e w1 ⟨rfl, rfl⟩
        clear M1 HM
        go_wp2
        go_ret
        exact ⟨rfl, B.out _⟩
      | cons n r =>
        dsimp only
        obtain ⟨p1, p2⟩ := Ar.pick_lt ha n
        obtain ⟨q, hq⟩ : ∃ q, all[Ar.pick all n]? = some q := ⟨_, List.getElem?_eq_getElem p1⟩
        obtain ⟨b, rfl, hb, c0⟩ := hr _ q hq
        obtain ⟨lb, lf, rfl, hlb, l0⟩ := hrow 0 (.int .i64 n) rfl
        rw [hq]
        dsimp only [Option.map, Option.getD]
        have M2 := Lib.hid (HM.out n (all.length : Int))
        rw [← p2] at M2
        have hpi : ((Ar.pick all n : Nat) : Int) < (all.length : Int) := by omega
        have hrl : (((n :: r).length : Int) == 0) = false := by simp; omega
        have hrl2 : (0 : Int) < ((n :: r).length : Int) := by rw [List.length_cons]; omega
        clear hr hrow hk ha hq p2
        generalize Ar.pick all n = k at *
        generalize (n :: r).length = rn at *
        rw [Nat.add_zero] at l0
        have cb : ∀ o : Obj, (w.alloc o).cell? ⟨b, k * 4, none⟩ = some (.int .u64 (q.h : Int)) := fun o => Lib.cell?_alloc_some _ c0
        have lb0 : ∀ o : Obj, (w.alloc o).cell? ⟨lb, lf, none⟩ = some (.int .i64 n) := fun o => Lib.cell?_alloc_some _ l0
        go_enter Try.func52, Try.ntmps52
        go_wp2_with fail
        refine (M1.out _ (by omega) (by omega)).mono ?_
        rintro e w1 ⟨rfl, rfl⟩
        clear M1 HM
        go_wp2_with fail
        refine (M2.out _ (by omega) (by omega)).mono ?_
        rintro e w1 ⟨rfl, rfl⟩
        clear M2
        go_wp2
        go_ret
        exact ⟨rfl, B.out _⟩
end Go.Proofs.Ytniccjbcchdkoaa
/- ArDeed2 -/
namespace Go.Proofs.Ytniccjbcchdkoaa
open Go.RowKit

/-- The child that a known node makes. -/
def Ar.kid (i : Ar.I) : N.K := ⟨i.h, N.mB i.x.nd, N.mR i.x.nd, N.mL i.x.nd⟩
def Ar.kidAt (all : List Ar.I) (n : Int) : N.K := ((all[Ar.pick all n]?).map Ar.kid).getD ⟨0, 0, 0, 0⟩
/-- The children of the inner node that a deed allocates. -/
def Ar.kidsOf (all : List Ar.I) (l : List Int) : List N.K := if all = [] then [] else (l.take 5).map (Ar.kidAt all)
def Ar.topOf (all : List Ar.I) (l : List Int) : Int := if all = [] then 0 else match l with
  | [] => 0
  | n :: _ => ((all[Ar.pick all n]?).map fun i => i.x.h + 1).getD 0
def Ar.letters : List UInt8 := [97, 98, 99, 100, 101, 102, 103, 104]
def Ar.Dd.nd (d : Ar.Dd) (all : List Ar.I) : N.Nd :=
  if d.kind % 8 = 0 ∨ d.kind % 8 = 1 then ⟨0, if d.text.size = 0 then Ar.letters else d.text.data.toList, []⟩
  else if d.kind % 8 = 2 ∨ d.kind % 8 = 3 then ⟨Ar.topOf all d.l, [], Ar.kidsOf all d.l⟩
  else if d.kind % 8 = 4 then d.x.nd else ⟨0, [], []⟩
def Ar.Dd.is (d : Ar.Dd) : Bool := decide (d.kind % 8 ≤ 4)
theorem Ar.ms_bd (x : N.Nd) : (0 ≤ N.mB x ∧ N.mB x ≤ 65536) ∧ (0 ≤ N.mR x ∧ N.mR x ≤ 65536) ∧ (0 ≤ N.mL x ∧ N.mL x ≤ 65536) := by
  by_cases hc : N.chk x = 0
  · unfold N.mB N.mR N.mL
    rw [if_pos hc, if_pos hc, if_pos hc]
    rcases N.chk_cases hc with k | k
    · rw [if_pos k.h, if_pos k.h, if_pos k.h]
      have h1 := M.cnt_le x.t
      have h2 := M.lf_le x.t
      have h3 := k.t2
      omega
    · have hn : ¬ x.h = 0 := by have := k.h1; omega
      rw [if_neg hn, if_neg hn, if_neg hn]
      have b0 : ∀ q ∈ x.ks, 0 ≤ q.b := fun q hq => by have := (k.ok q hq).lo; omega
      have s0 := N.sum_nonneg b0
      have s1 := N.sum_nonneg (f := N.K.r) (l := x.ks) (fun q hq => (k.ok q hq).r0)
      have s2 := N.sum_nonneg (f := N.K.l) (l := x.ks) (fun q hq => (k.ok q hq).l0)
      have s3 := N.sum_mono (f := N.K.r) (g := N.K.b) (l := x.ks) (fun q hq => (k.ok q hq).r1)
      have s4 := N.sum_mono (f := N.K.l) (g := N.K.r) (l := x.ks) (fun q hq => (k.ok q hq).l1)
      have s5 := k.sm
      omega
  · unfold N.mB N.mR N.mL
    rw [if_neg hc, if_neg hc, if_neg hc]
    omega
theorem Ar.kid_fit {i : Ar.I} (h : i.h ≤ 18446744073709551615) : N.Fit (Ar.kid i) := by
  obtain ⟨h1, h2, h3⟩ := Ar.ms_bd i.x.nd
  exact ⟨by show i.h < _; omega, by show _ ≤ N.mB _; omega, by show N.mB _ ≤ _; omega, by show _ ≤ N.mR _; omega, by show N.mR _ ≤ _; omega, by show _ ≤ N.mL _; omega, by show N.mL _ ≤ _; omega⟩
theorem Ar.kidsOf_next {all : List Ar.I} {l : List Int} {i : Nat} {n : Int} (ha : all ≠ []) (hn : l[i]? = some n) (h5 : i < 5) : Ar.kidsOf all (l.take (i + 1)) = Ar.kidsOf all (l.take i) ++ [Ar.kidAt all n] := by
  unfold Ar.kidsOf
  rw [if_neg ha, if_neg ha, List.take_take, List.take_take, Nat.min_eq_right (by omega), Nat.min_eq_right (by omega), List.take_add_one, hn]
  simp
theorem Ar.kidsOf_all {all : List Ar.I} {l : List Int} {i : Nat} (h : i = l.length ∨ i = 5) : Ar.kidsOf all (l.take i) = Ar.kidsOf all l := by
  unfold Ar.kidsOf
  by_cases ha : all = []
  · rw [if_pos ha, if_pos ha]
  · rw [if_neg ha, if_neg ha, List.take_take]
    rcases h with rfl | rfl
    · congr 1
      by_cases c : l.length ≤ 5
      · rw [Nat.min_eq_right c, List.take_of_length_le (Nat.le_refl _), List.take_of_length_le c]
      · rw [Nat.min_eq_left (by omega)]
    · rfl
theorem N.Dv.height {w0 : World} {bx : Nat} {h : Int} {t : ByteArray} {K : List N.K} {br : Nat} {v : Value} {W : World} (x : N.Dv w0 bx h t K br v W) (h' : Int) : N.Dv w0 bx h' t K br v (W.setCell ⟨bx, 0, none⟩ (.int .i64 h')) := by
  have hset : ∀ j, j ≠ bx → (W.setCell ⟨bx, 0, none⟩ (.int .i64 h')).heap[j]? = W.heap[j]? := fun j hj => Below.heap_setCell _ _ _ _ hj
  refine ⟨(heap_setCell_same W bx 0 _ _ _ x.box).trans rfl, ?_, x.nx, (hset br x.ne).trans x.res, x.nr, x.ne, x.gx, x.gr, x.below.setCell (p := ⟨bx, 0, none⟩) x.gx _⟩
  exact x.own.kept (row := some bx) ⟨rfl, rfl, rfl, by simp [World.setCell], fun j _ hj => hset j (fun e => hj (by rw [e]))⟩ (.inr x.nx)
theorem N.append_kid {W : World} {ops : Array Oper} {rest : List Oper} {o : Oper} {a : Act} {Q : Exit → Act → World → Prop} (hgd : o.guard = none) (s x : Operand)
    (ho : o.op = .call { callee := .builtin .append, args := #[s, x], argTypes := #[28, 28] })
    (base : Nat) (v : Value) (X : List N.K) (hs : a.eval s = v) (hown : W.ownsRow base 50 4 v X.length (N.cells X)) (p : N.K) (cc : Nat) (hx : a.eval x = .slice (some ⟨W.heap.size, 0, none⟩) 1 cc) (hn : (X.length + 1) * 32 ≤ 140737488355328) (hbase : base ≤ W.heap.size)
    (h : ∀ v' w', w'.ownsRow base 50 4 v' (X ++ [p]).length (N.cells (X ++ [p])) → W.grownBy w' v.ownBlock → (v'.ownBlock = v.ownBlock ∨ ∃ g, v'.ownBlock = some g ∧ W.heap.size ≤ g) → wpList Try.prog ops Q rest (a.put o.dst v') w') :
    wpList Try.prog ops Q (o :: rest) a (W.alloc (.cells #[.int .u64 (p.at_ : Int), .int .i64 p.b, .int .i64 p.r, .int .i64 p.l] 50)) := by
  obtain ⟨ip, hp, hp0, hp1, hp2⟩ := info_parts Try.infoKid
  refine wpList_append_own_at _ hgd s x _ ho base 50 ip (.agg #[.int .u64 0, .int .i64 0, .int .i64 0, .int .i64 0]) 4 32 Try.underlying28 hp hp0 hp1 hp2 rfl (by decide) v X.length (N.cells X) hs (hown.alloc _) ⟨W.heap.size, 0, none⟩ 1 cc (N.cells [p]) hx rfl ?_ (fun u hu => by rw [N.cells_one] at hu; simp only [List.mem_cons, List.not_mem_nil, or_false] at hu; rcases hu with rfl | rfl | rfl | rfl <;> rfl) (by unfold maxLen; omega) (by omega) (by simp only [World.size_alloc]; omega) ?_
  · rw [N.cells_one]
    exact D.news W [.int .u64 (p.at_ : Int), .int .i64 p.b, .int .i64 p.r, .int .i64 p.l] 50
  · intro v' w' h1 h2 _ h4
    refine h v' w' ?_ ⟨h2.os, h2.tape, h2.output, Nat.le_trans (by simp only [World.size_alloc]; omega) h2.size, fun k hk hne => (h2.block k (by simp only [World.size_alloc]; omega) hne).trans (Lib.alloc_old W _ k hk)⟩ ?_
    · rw [List.length_append, N.cells_append]; exact h1
    · rcases h4 with h4 | h4
      · exact .inl h4
      · exact .inr ⟨_, h4, by simp only [World.size_alloc]; omega⟩
end Go.Proofs.Ytniccjbcchdkoaa
/- ArDeedK -/
namespace Go.Proofs.Ytniccjbcchdkoaa
open Go.RowKit

/-- What the law's function returns: a node, and whether it is one. -/
def Ar.NdEnd (d : Ar.Dd) (all : List Ar.I) (w : World) (e : Ending) (w' : World) : Prop :=
  ∃ t xo xc, t.data.toList = (d.nd all).t ∧ e = .returned (.tuple #[.agg #[.int .i64 (d.nd all).h, .string t, .slice xo (d.nd all).ks.length xc], .bool d.is]) ∧ Below w.heap.size w w' ∧
    N.NOk w' ⟨(d.nd all).h, t, ⟨xo, xc, (d.nd all).ks⟩⟩ ∧ ((xo = d.x.s.a ∧ d.kind % 8 = 4) ∨ ∀ g o, xo = some ⟨g, o, none⟩ → w.heap.size ≤ g ∧ g < w'.heap.size)
theorem Ar.kidsOf_len (all : List Ar.I) (l : List Int) : (Ar.kidsOf all l).length ≤ 5 := by
  unfold Ar.kidsOf
  split
  · exact Nat.zero_le _
  · rw [List.length_map]; exact List.length_take_le _ _
theorem Ar.kidsOf_take_len (all : List Ar.I) (l : List Int) (i : Nat) : (Ar.kidsOf all (l.take i)).length ≤ i := by
  unfold Ar.kidsOf
  split
  · exact Nat.zero_le _
  · rw [List.length_map, List.length_take, List.length_take]; omega
theorem Ar.kidsOf_fit {all : List Ar.I} (h : ∀ i ∈ all, i.h ≤ 18446744073709551615) (l : List Int) : ∀ p ∈ Ar.kidsOf all l, N.Fit p := by
  unfold Ar.kidsOf
  intro p hp
  split at hp
  · cases hp
  · rename_i ha
    obtain ⟨n, _, rfl⟩ := List.mem_map.1 hp
    obtain ⟨p1, _⟩ := Ar.pick_lt ha n
    unfold Ar.kidAt
    rw [List.getElem?_eq_getElem p1]
    exact Ar.kid_fit (h _ (List.getElem_mem p1))
theorem Ar.topOf_next {all : List Ar.I} {l : List Int} {i : Nat} {n : Int} {q : Ar.I} (ha : all ≠ []) (hn : l[i]? = some n) (hq : all[Ar.pick all n]? = some q) : Ar.topOf all (l.take (i + 1)) = if i = 0 then q.x.h + 1 else Ar.topOf all (l.take i) := by
  unfold Ar.topOf
  rw [if_neg ha, if_neg ha]
  cases l with
  | nil => simp at hn
  | cons m r =>
    cases i with
    | zero =>
      simp at hn
      subst hn
      rw [if_pos rfl]
      simp [hq]
    | succ i => rw [if_neg (by omega)]; rfl
theorem Ar.topOf_all {all : List Ar.I} {l : List Int} {i : Nat} (h : i = l.length ∨ i = 5) : Ar.topOf all (l.take i) = Ar.topOf all l := by
  unfold Ar.topOf
  rcases h with rfl | rfl
  · rw [List.take_of_length_le (Nat.le_refl _)]
  · cases l <;> rfl
theorem Ar.top_bd {all : List Ar.I} (hc : ∀ i ∈ all, N.chk i.x.nd = 0) (l : List Int) : 0 ≤ Ar.topOf all l ∧ Ar.topOf all l ≤ 17 := by
  unfold Ar.topOf
  split
  · omega
  · rename_i ha
    cases l with
    | nil => dsimp only; omega
    | cons n r =>
      dsimp only
      obtain ⟨p1, _⟩ := Ar.pick_lt ha n
      rw [List.getElem?_eq_getElem p1]
      have := hc _ (List.getElem_mem p1)
      show 0 ≤ (all[Ar.pick all n]).x.h + 1 ∧ (all[Ar.pick all n]).x.h + 1 ≤ 17
      rcases N.chk_cases this with k | k
      · have : (all[Ar.pick all n]).x.h = 0 := k.h
        omega
      · have h1 : 0 < (all[Ar.pick all n]).x.h := k.h1
        have h2 : (all[Ar.pick all n]).x.h ≤ 16 := k.h2
        omega
/-- The inner node is returned. -/
theorem Ar.NdEnd.inner {d : Ar.Dd} {all : List Ar.I} {w W : World} {o : Obj} {v : Value} (hk : d.kind % 8 = 2 ∨ d.kind % 8 = 3) (hok : ∀ i ∈ all, N.chk i.x.nd = 0 ∧ i.h ≤ 18446744073709551615)
    (hm : N.Made (Ar.kidsOf all d.l) (w.alloc o) v W) : Ar.NdEnd d all w (.returned (.tuple #[.agg #[.int .i64 (Ar.topOf all d.l), .string ⟨#[]⟩, v], .bool true])) W := by
  have e1 : d.nd all = ⟨Ar.topOf all d.l, [], Ar.kidsOf all d.l⟩ := by unfold Ar.Dd.nd; rw [if_neg (by omega), if_pos hk]
  have e2 : d.is = true := by unfold Ar.Dd.is; exact decide_eq_true (by omega)
  obtain ⟨ao, c, hv, hr, hn⟩ := hm.src
  have hb : Below w.heap.size w W := ((Below.refl _ _).alloc (Nat.le_refl _) o).trans (hm.below.mono (by simp))
  have hl := Ar.kidsOf_len all d.l
  obtain ⟨t1, t2⟩ := Ar.top_bd (fun i hi => (hok i hi).1) d.l
  have hcap : (Ar.kidsOf all d.l).length ≤ c ∧ ∀ g o', ao = some ⟨g, o', none⟩ → w.heap.size ≤ g ∧ g < W.heap.size := by
    obtain ⟨_, ⟨e', h0⟩ | ⟨g, cap, cur, e', hg, hh, _, hcs, _⟩⟩ := hm.own
    · rw [hv] at e'
      injection e' with e1 e2 e3
      subst e1
      exact ⟨by omega, fun g o' e => by cases e⟩
    · rw [hv] at e'
      injection e' with e1 e2 e3
      subst e1 e3
      rw [World.size_alloc] at hg
      have hlt := (Array.getElem?_eq_some_iff.1 hh).1
      refine ⟨by omega, fun g' o' e => ?_⟩
      injection e with e
      injection e with e
      omega
  subst hv
  refine ⟨⟨#[]⟩, ao, c, by rw [e1], by rw [e1, e2], hb, ?_, .inr hcap.2⟩
  rw [e1]
  exact ⟨by show _ ≤ Ar.topOf all d.l; omega, by show Ar.topOf all d.l < _; omega, by show (0 : Nat) ≤ _; omega, hr, hn, Ar.kidsOf_fit (fun i hi => (hok i hi).2) _, by show (Ar.kidsOf all d.l).length * 32 ≤ _; omega, hcap.1⟩
end Go.Proofs.Ytniccjbcchdkoaa
/- ArDeedN -/
namespace Go.Proofs.Ytniccjbcchdkoaa
open Go.RowKit

set_option maxRecDepth 100000 in
set_option maxHeartbeats 4000000 in
theorem dNodeKids13_any (kind : Int) (text : ByteArray) (lo : Option Addr) (lc : Nat) (l : List Int) (xh : Int) (xt : ByteArray) (xa : Option Addr) (xc : Nat) (xl : List N.K) (h : Nat) (ao : Option Addr) (ac : Nat) (all : List Ar.I) (w : World) (hd : Ar.DOk w ⟨kind, text, lo, lc, l, ⟨xh, xt, ⟨xa, xc, xl⟩⟩, h⟩) (hl : all.length ≤ 1000) (hok : ∀ i ∈ all, N.NOk w i.x ∧ N.chk i.x.nd = 0 ∧ i.h ≤ 18446744073709551615)
    (hr : ∀ (i : Nat) (p : Ar.I), all[i]? = some p → ∃ b, ao = some ⟨b, 0, none⟩ ∧ b < w.heap.size ∧ w.cell? ⟨b, i * 4, none⟩ = some (.int .u64 (p.h : Int)) ∧ w.cell? ⟨b, i * 4 + 1, none⟩ = some (.int .i64 p.x.h) ∧ w.cell? ⟨b, i * 4 + 2, none⟩ = some (.string p.x.t) ∧ w.cell? ⟨b, i * 4 + 3, none⟩ = some (.slice p.x.s.a p.x.s.x.length p.x.s.c))
    (h23 : kind % 8 = 2 ∨ kind % 8 = 3) :
    Calls Try.prog 53 #[.agg #[.int .i64 kind, .string text, .slice lo l.length lc, .int .i64 xh, .string xt, .slice xa xl.length xc, .int .u64 (h : Int)], .slice ao all.length ac] w (Ar.NdEnd ⟨kind, text, lo, lc, l, ⟨xh, xt, ⟨xa, xc, xl⟩⟩, h⟩ all w) := by
  have HM : Hid (∀ (n m : Int) V, 0 < m → m ≤ 1000000000 → Calls Try.prog 51 #[.int .i64 n, .int .i64 m] V fun x w' => x = .returned (.int .i64 (n % m)) ∧ V = w') := fun n m V h1 h2 => mod11_any n m h1 h2 V
  have M1 := Lib.hid (HM.out kind 8)
  have HF : Hid (∀ v W o, N.Made (Ar.kidsOf all l) (w.alloc o) v W → Ar.NdEnd ⟨kind, text, lo, lc, l, ⟨xh, xt, ⟨xa, xc, xl⟩⟩, h⟩ all w (.returned (.tuple #[.agg #[.int .i64 (Ar.topOf all l), .string ⟨#[]⟩, v], .bool true])) W) := fun v W o hm => Ar.NdEnd.inner (d := ⟨kind, text, lo, lc, l, ⟨xh, xt, ⟨xa, xc, xl⟩⟩, h⟩) h23 (fun i hi => (hok i hi).2) hm
  have k1 : (kind % 8 == 0) = false ∧ (kind % 8 == 1) = false ∧ ((kind % 8 == 2) = true ∨ ((kind % 8 == 2) = false ∧ (kind % 8 == 3) = true)) := by rcases h23 with e | e <;> rw [e] <;> decide
  obtain ⟨q0, q1, k1⟩ := k1
  obtain ⟨dv, hdv⟩ : ∃ o : Obj, o = .cells #[.int .i64 kind, .string text, .slice lo l.length lc, .int .i64 xh, .string xt, .slice xa xl.length xc, .int .u64 (h : Int)] 46 := ⟨_, rfl⟩
  have hrow := Lib.hid hd.row
  have hll : l.length ≤ 17592186044416 := hd.len
  have HX : Hid (∀ (i : Nat) (n : Int), l[i]? = some n → all ≠ [] → ∃ (k : Nat) (q : Ar.I), (k : Int) = n % (all.length : Int) ∧ k < all.length ∧ all[k]? = some q ∧ k = Ar.pick all n) := fun i n hn ha => by
    obtain ⟨p1, p2⟩ := Ar.pick_lt ha n
    exact ⟨_, _, p2, p1, List.getElem?_eq_getElem p1, rfl⟩
  have HC : Hid (∀ (k : Nat) (q : Ar.I), all[k]? = some q → ∀ V, Below w.heap.size w V → Calls Try.prog 78 #[.agg #[.int .i64 q.x.h, .string q.x.t, .slice q.x.s.a q.x.s.x.length q.x.s.c]] V fun e w' => e = .returned (.tuple #[.agg #[.int .i64 (N.mB q.x.nd), .int .i64 (N.mR q.x.nd), .int .i64 (N.mL q.x.nd)], .int .i64 0]) ∧ Below V.heap.size V w') := fun k q hq V hb => by
    obtain ⟨ok, c0, _⟩ := hok q (List.mem_of_getElem? hq)
    have ok := ok.on hb
    have := refMeasure12_any q.x.h q.x.t q.x.s.a q.x.s.c q.x.s.x V (by have := ok.t; unfold maxLen; omega) (by have := ok.s.fit; unfold maxLen; omega) ok.s.row ok.s.fits
    unfold N.MsEnd at this
    rw [show N.chk (N.nd q.x.h q.x.t q.x.s.x) = 0 from c0] at this
    exact this
  have HQ : Hid (∀ (k : Nat) (q : Ar.I), all[k]? = some q → ∀ V, Below w.heap.size w V → ∃ b, ao = some ⟨b, 0, none⟩ ∧ V.cell? ⟨b, k * 4, none⟩ = some (.int .u64 (q.h : Int)) ∧ V.cell? ⟨b, k * 4 + 1, none⟩ = some (.int .i64 q.x.h) ∧ V.cell? ⟨b, k * 4 + 2, none⟩ = some (.string q.x.t) ∧ V.cell? ⟨b, k * 4 + 3, none⟩ = some (.slice q.x.s.a q.x.s.x.length q.x.s.c)) := fun k q hq V hb => by
    obtain ⟨b, e, hlt, c0, c1, c2, c3⟩ := hr k q hq
    have key := fun o => (D.bcell hb).1 b o hlt
    exact ⟨b, e, (key _).trans c0, (key _).trans c1, (key _).trans c2, (key _).trans c3⟩
  have HB : Hid (∀ q ∈ all, 0 ≤ q.x.h ∧ q.x.h ≤ 16) := fun q hq => by
    rcases N.chk_cases (hok q hq).2.1 with k | k
    · have : q.x.h = 0 := k.h
      omega
    · have h1 : 0 < q.x.h := k.h1
      have h2 : q.x.h ≤ 16 := k.h2
      omega
  have D0 := N.Dv.new (w.alloc dv) 0 ⟨#[]⟩
  rw [World.size_alloc] at D0
  have D0 := Lib.hid D0
  have T0 : Ar.topOf all (l.take 0) = 0 := by unfold Ar.topOf; split <;> rfl
  have K0 : Ar.kidsOf all (l.take 0) = [] := by unfold Ar.kidsOf; split <;> rfl
  have S0 : Hid (N.Dv (w.alloc dv) (w.heap.size + 1 + 1) (Ar.topOf all (l.take 0)) ⟨#[]⟩ (Ar.kidsOf all (l.take 0)) (w.heap.size + 1) (.slice none 0 0) (((w.alloc dv).alloc (.cells #[.int .i64 0, .string ⟨#[]⟩, .slice none 0 0] 30)).alloc (.cells #[.int .i64 0, .string ⟨#[]⟩, .slice none 0 0] 30))) := by
    show N.Dv _ _ _ _ _ _ _ _
    rw [T0, K0]; exact D0.out
  clear T0 K0 D0 hr hok hd h23
  generalize kind % 8 = km at *
  subst hdv
  rcases k1 with k1 | ⟨k1, k2⟩
  all_goals
    go_enter Try.func53, Try.ntmps53
    go_wp2_with fail
    refine (M1.out _ (by omega) (by omega)).mono ?_
    rintro e w1 ⟨rfl, rfl⟩
    clear M1
    go_wp2
    go_loopw [7] (fun u wr => ∃ (i : Nat) (v : Value), u = .int .i64 i ∧ i ≤ l.length ∧ i ≤ 5 ∧ Hid (N.Dv (w.alloc (.cells #[.int .i64 kind, .string text, .slice lo l.length lc, .int .i64 xh, .string xt, .slice xa xl.length xc, .int .u64 (h : Int)] 46)) (w.heap.size + 1 + 1) (Ar.topOf all (l.take i)) ⟨#[]⟩ (Ar.kidsOf all (l.take i)) (w.heap.size + 1) v wr)) (fun u _ => l.length - (intOf u).toNat)
    case atStart => exact ⟨0, _, rfl, Nat.zero_le _, by omega, S0⟩
    case round =>
      clear S0
      obtain ⟨i, v, rfl, hi, hi5, hD⟩ := hrel
      obtain ⟨vo, vc, hv, _⟩ := hD.out.form
      subst hv
      have BW : Below w.heap.size w wr := ((Below.refl _ _).alloc (Nat.le_refl _) _).trans (hD.out.below.mono (by simp))
      have hwb := hD.out.below.size
      rw [World.size_alloc] at hwb
      have hbxl := (Array.getElem?_eq_some_iff.1 hD.out.box).1
      have hbd := (hD.out.below.block w.heap.size (by simp)).trans (heap_alloc_new w _)
      have b2 : wr.cell? ⟨w.heap.size, 2, none⟩ = some (.slice lo l.length lc) := Lib.cell_of_heap hbd 2
      by_cases hlt : i < l.length ∧ i < 5 ∧ all ≠ []
      · obtain ⟨hl1, hl5, ha⟩ := hlt
        have hl1' : (i : Int) < (l.length : Int) := by omega
        have hl5' : (i : Int) < 5 := by omega
        have hp : 0 < all.length := List.length_pos_iff.2 ha
        have hp' : (0 : Int) < (all.length : Int) := by omega
        obtain ⟨n, hn⟩ : ∃ n, l[i]? = some n := ⟨_, List.getElem?_eq_getElem hl1⟩
        obtain ⟨k, q, hk1, hk2, hq, hk3⟩ := HX.out i n hn ha
        have hk2' : (k : Int) < (all.length : Int) := by omega
        obtain ⟨lb, lf, e, hlb, l0⟩ := (hrow.out.below BW) i (.int .i64 n) (by unfold N.iv; rw [List.getElem?_map, hn]; rfl)
        subst e
        obtain ⟨b, e, c0, c1, c2, c3⟩ := HQ.out k q hq wr BW
        subst e
        have M2 := Lib.hid (HM.out n (all.length : Int))
        rw [← hk1] at M2
        have HCq := Lib.hid (HC.out k q hq (wr.alloc (.cells #[.int .u64 (q.h : Int), .int .i64 q.x.h, .string q.x.t, .slice q.x.s.a q.x.s.x.length q.x.s.c] 103)) (BW.alloc BW.size _))
        have hqh := HB.out q (List.mem_of_getElem? hq)
        have wq : IntKind.i64.wrap (q.x.h + 1) = q.x.h + 1 := IntWalk.i64_in _ (by omega)
        have hKl := Ar.kidsOf_take_len all l i
        have eT := Ar.topOf_next ha hn (hk3 ▸ hq)
        have eK : Ar.kidsOf all (l.take (i + 1)) = Ar.kidsOf all (l.take i) ++ [Ar.kid q] := by
          rw [Ar.kidsOf_next ha hn hl5]
          congr 2
          unfold Ar.kidAt
          rw [← hk3, hq]; rfl
        have HG : Hid (∀ T u V, T = (if i = 0 then q.x.h + 1 else Ar.topOf all (l.take i)) → N.Dv (w.alloc (.cells #[.int .i64 kind, .string text, .slice (some ⟨lb, lf, none⟩) l.length lc, .int .i64 xh, .string xt, .slice xa xl.length xc, .int .u64 (h : Int)] 46)) (w.heap.size + 1 + 1) T ⟨#[]⟩ (Ar.kidsOf all (l.take i) ++ [Ar.kid q]) (w.heap.size + 1) u V → N.Dv (w.alloc (.cells #[.int .i64 kind, .string text, .slice (some ⟨lb, lf, none⟩) l.length lc, .int .i64 xh, .string xt, .slice xa xl.length xc, .int .u64 (h : Int)] 46)) (w.heap.size + 1 + 1) (Ar.topOf all (l.take (i + 1))) ⟨#[]⟩ (Ar.kidsOf all (l.take (i + 1))) (w.heap.size + 1) u V) := fun T u V hT x => by
          rw [eT, eK, ← hT]; exact x
        clear eT eK
        generalize Ar.topOf all (l.take i) = T at *
        generalize Ar.kidsOf all (l.take i) = K at *
        have hlw : (wr.alloc (.cells #[.int .u64 (q.h : Int), .int .i64 q.x.h, .string q.x.t, .slice q.x.s.a q.x.s.x.length q.x.s.c] 103)).heap.size = wr.heap.size + 1 := World.size_alloc _ _
        clear hk3 hk1 hn hq ha hk2 hlb hrow HX HC HQ HB
        by_cases hi0 : i = 0
        · subst hi0
          rw [Nat.add_zero] at l0
          go_wp2_with fail
          refine (M2.out _ (by omega) (by omega)).mono ?_
          rintro e w1 ⟨rfl, rfl⟩
          clear M2
          go_wp2_with fail
          refine HCq.out.mono ?_
          rintro e w2 ⟨rfl, hb2⟩
          have D3 := ((hD.out.alloc (.cells #[.int .u64 (q.h : Int), .int .i64 q.x.h, .string q.x.t, .slice q.x.s.a q.x.s.x.length q.x.s.c] 103)).on hb2).alloc (.cells #[.int .i64 (N.mB q.x.nd), .int .i64 (N.mR q.x.nd), .int .i64 (N.mL q.x.nd)] 48)
          have hz2 := hb2.size
          rw [hlw] at hz2
          have kb3 : (w2.alloc (.cells #[.int .i64 (N.mB q.x.nd), .int .i64 (N.mR q.x.nd), .int .i64 (N.mL q.x.nd)] 48)).heap[wr.heap.size]? = some (.cells #[.int .u64 (q.h : Int), .int .i64 q.x.h, .string q.x.t, .slice q.x.s.a q.x.s.x.length q.x.s.c] 103 (0, 0)) := (Below.heap_alloc _ _ _ (by omega)).trans ((hb2.block _ (by omega)).trans (heap_alloc_new wr _))
          have mb3 := heap_alloc_new w2 (.cells #[.int .i64 (N.mB q.x.nd), .int .i64 (N.mR q.x.nd), .int .i64 (N.mL q.x.nd)] 48)
          have k0 : w2.cell? ⟨wr.heap.size, 0, none⟩ = some (.int .u64 (q.h : Int)) := Lib.cell_of_heap ((hb2.block _ (by omega)).trans (heap_alloc_new wr _)) 0
          have e1 : (w2.alloc (.cells #[.int .i64 (N.mB q.x.nd), .int .i64 (N.mR q.x.nd), .int .i64 (N.mL q.x.nd)] 48)).cell? ⟨wr.heap.size, 1, none⟩ = some (.int .i64 q.x.h) := Lib.cell_of_heap kb3 1
          have g0 : (w2.alloc (.cells #[.int .i64 (N.mB q.x.nd), .int .i64 (N.mR q.x.nd), .int .i64 (N.mL q.x.nd)] 48)).frozen? ⟨w.heap.size + 1 + 1, 0, none⟩ = false := frozen_of_row _ _ _ _ _ D3.box
          have y0 := D3.cells.1
          clear hb2 HCq
          have hz4 : ((w2.alloc (.cells #[.int .i64 (N.mB q.x.nd), .int .i64 (N.mR q.x.nd), .int .i64 (N.mL q.x.nd)] 48)).setCell ⟨w.heap.size + 1 + 1, 0, none⟩ (.int .i64 (q.x.h + 1))).heap.size = w2.heap.size + 1 := by simp [World.setCell]
          have D4 := (D3.height (q.x.h + 1))
          have kb4 : ((w2.alloc (.cells #[.int .i64 (N.mB q.x.nd), .int .i64 (N.mR q.x.nd), .int .i64 (N.mL q.x.nd)] 48)).setCell ⟨w.heap.size + 1 + 1, 0, none⟩ (.int .i64 (q.x.h + 1))).heap[wr.heap.size]? = some (.cells #[.int .u64 (q.h : Int), .int .i64 q.x.h, .string q.x.t, .slice q.x.s.a q.x.s.x.length q.x.s.c] 103 (0, 0)) := (Below.heap_setCell _ _ _ _ (by show wr.heap.size ≠ w.heap.size + 1 + 1; omega)).trans kb3
          have mb4 : ((w2.alloc (.cells #[.int .i64 (N.mB q.x.nd), .int .i64 (N.mR q.x.nd), .int .i64 (N.mL q.x.nd)] 48)).setCell ⟨w.heap.size + 1 + 1, 0, none⟩ (.int .i64 (q.x.h + 1))).heap[w2.heap.size]? = some (.cells #[.int .i64 (N.mB q.x.nd), .int .i64 (N.mR q.x.nd), .int .i64 (N.mL q.x.nd)] 48 (0, 0)) := (Below.heap_setCell _ _ _ _ (by show w2.heap.size ≠ w.heap.size + 1 + 1; omega)).trans mb3
          have e0 := Lib.cell_of_heap kb4 0
          have m0 := Lib.cell_of_heap mb4 0
          have m1 := Lib.cell_of_heap mb4 1
          have m2 := Lib.cell_of_heap mb4 2
          have y2 := D4.cells.2.2.1
          have DH := Lib.hid D4
          clear D4 D3 kb4 mb4 kb3 mb3
          go_wp2_with (at_builtin; refine N.append_kid rfl _ _ rfl (w.heap.size + 1) (.slice vo K.length vc) K ?s1 ?s2 (Ar.kid q) 1 ?s3 ?s4 ?s5 ?_)
          case s1 => rfl
          case s2 => have := DH.out.own; simpa using this
          case s3 => rw [hz4]; rfl
          case s4 => omega
          case s5 => rw [hz4]; omega
          intro v' w4 hO4 hg4 ha4
          have R := N.Dv.put DH.out (by simpa using hO4) hg4 (by rw [hz4]; exact ha4)
          obtain ⟨vo', vc', hv', _⟩ := R.form
          rw [show (K ++ [Ar.kid q]).length = K.length + 1 by simp] at hv'
          subst hv'
          have hbx := (hg4.block _ (Array.getElem?_eq_some_iff.1 DH.out.box).1 (fun e => DH.out.nx e.symm)).trans DH.out.box
          have z2 := Lib.cell_of_heap hbx 2
          have zf : w4.frozen? ⟨w.heap.size + 1 + 1, 2, none⟩ = false := frozen_of_row _ _ _ _ _ hbx
          have R := Lib.hid R
          clear hbx hO4 hg4 ha4 DH
          go_wp2
          go_roundw
          case rel => exact ⟨0 + 1, _, by rfl, by omega, by omega, HG.out _ _ _ (by simp) R.out⟩
          case measure => show l.length - 1 < l.length - 0; omega
        · have hi0' : ((i : Int) == 0) = false := by simp; omega
          go_wp2_with fail
          refine (M2.out _ (by omega) (by omega)).mono ?_
          rintro e w1 ⟨rfl, rfl⟩
          clear M2
          go_wp2_with fail
          refine HCq.out.mono ?_
          rintro e w2 ⟨rfl, hb2⟩
          have D3 := ((hD.out.alloc (.cells #[.int .u64 (q.h : Int), .int .i64 q.x.h, .string q.x.t, .slice q.x.s.a q.x.s.x.length q.x.s.c] 103)).on hb2).alloc (.cells #[.int .i64 (N.mB q.x.nd), .int .i64 (N.mR q.x.nd), .int .i64 (N.mL q.x.nd)] 48)
          have hz2 := hb2.size
          rw [hlw] at hz2
          have kb3 : (w2.alloc (.cells #[.int .i64 (N.mB q.x.nd), .int .i64 (N.mR q.x.nd), .int .i64 (N.mL q.x.nd)] 48)).heap[wr.heap.size]? = some (.cells #[.int .u64 (q.h : Int), .int .i64 q.x.h, .string q.x.t, .slice q.x.s.a q.x.s.x.length q.x.s.c] 103 (0, 0)) := (Below.heap_alloc _ _ _ (by omega)).trans ((hb2.block _ (by omega)).trans (heap_alloc_new wr _))
          have mb3 := heap_alloc_new w2 (.cells #[.int .i64 (N.mB q.x.nd), .int .i64 (N.mR q.x.nd), .int .i64 (N.mL q.x.nd)] 48)
          have k0 : w2.cell? ⟨wr.heap.size, 0, none⟩ = some (.int .u64 (q.h : Int)) := Lib.cell_of_heap ((hb2.block _ (by omega)).trans (heap_alloc_new wr _)) 0
          have e1 : (w2.alloc (.cells #[.int .i64 (N.mB q.x.nd), .int .i64 (N.mR q.x.nd), .int .i64 (N.mL q.x.nd)] 48)).cell? ⟨wr.heap.size, 1, none⟩ = some (.int .i64 q.x.h) := Lib.cell_of_heap kb3 1
          have g0 : (w2.alloc (.cells #[.int .i64 (N.mB q.x.nd), .int .i64 (N.mR q.x.nd), .int .i64 (N.mL q.x.nd)] 48)).frozen? ⟨w.heap.size + 1 + 1, 0, none⟩ = false := frozen_of_row _ _ _ _ _ D3.box
          have y0 := D3.cells.1
          clear hb2 HCq
          have hz4 : (w2.alloc (.cells #[.int .i64 (N.mB q.x.nd), .int .i64 (N.mR q.x.nd), .int .i64 (N.mL q.x.nd)] 48)).heap.size = w2.heap.size + 1 := World.size_alloc _ _
          have D4 := D3
          have kb4 : (w2.alloc (.cells #[.int .i64 (N.mB q.x.nd), .int .i64 (N.mR q.x.nd), .int .i64 (N.mL q.x.nd)] 48)).heap[wr.heap.size]? = some (.cells #[.int .u64 (q.h : Int), .int .i64 q.x.h, .string q.x.t, .slice q.x.s.a q.x.s.x.length q.x.s.c] 103 (0, 0)) := kb3
          have mb4 : (w2.alloc (.cells #[.int .i64 (N.mB q.x.nd), .int .i64 (N.mR q.x.nd), .int .i64 (N.mL q.x.nd)] 48)).heap[w2.heap.size]? = some (.cells #[.int .i64 (N.mB q.x.nd), .int .i64 (N.mR q.x.nd), .int .i64 (N.mL q.x.nd)] 48 (0, 0)) := mb3
          have e0 := Lib.cell_of_heap kb4 0
          have m0 := Lib.cell_of_heap mb4 0
          have m1 := Lib.cell_of_heap mb4 1
          have m2 := Lib.cell_of_heap mb4 2
          have y2 := D4.cells.2.2.1
          have DH := Lib.hid D4
          clear D4 D3 kb4 mb4 kb3 mb3
          go_wp2_with (at_builtin; refine N.append_kid rfl _ _ rfl (w.heap.size + 1) (.slice vo K.length vc) K ?s1 ?s2 (Ar.kid q) 1 ?s3 ?s4 ?s5 ?_)
          case s1 => rfl
          case s2 => have := DH.out.own; simpa using this
          case s3 => rw [hz4]; rfl
          case s4 => omega
          case s5 => rw [hz4]; omega
          intro v' w4 hO4 hg4 ha4
          have R := N.Dv.put DH.out (by simpa using hO4) hg4 (by rw [hz4]; exact ha4)
          obtain ⟨vo', vc', hv', _⟩ := R.form
          rw [show (K ++ [Ar.kid q]).length = K.length + 1 by simp] at hv'
          subst hv'
          have hbx := (hg4.block _ (Array.getElem?_eq_some_iff.1 DH.out.box).1 (fun e => DH.out.nx e.symm)).trans DH.out.box
          have z2 := Lib.cell_of_heap hbx 2
          have zf : w4.frozen? ⟨w.heap.size + 1 + 1, 2, none⟩ = false := frozen_of_row _ _ _ _ _ hbx
          have R := Lib.hid R
          clear hbx hO4 hg4 ha4 DH
          go_wp2
          go_roundw
          case rel => exact ⟨i + 1, _, by rfl, by omega, by omega, HG.out _ _ _ (by rw [if_neg hi0]) R.out⟩
          case measure => show l.length - ((i : Int) + 1).toNat < l.length - (i : Int).toNat; omega
      · have hend : all = [] ∨ i = l.length ∨ i = 5 := by
          by_cases ha : all = []
          · exact .inl ha
          · by_cases h1 : i < l.length
            · by_cases h2 : i < 5
              · exact absurd ⟨h1, h2, ha⟩ hlt
              · exact .inr (.inr (by omega))
            · exact .inr (.inl (by omega))
        have eT : Ar.topOf all (l.take i) = Ar.topOf all l := by
          rcases hend with e | e
          · unfold Ar.topOf; rw [if_pos e, if_pos e]
          · exact Ar.topOf_all e
        have eK : Ar.kidsOf all (l.take i) = Ar.kidsOf all l := by
          rcases hend with e | e
          · unfold Ar.kidsOf; rw [if_pos e, if_pos e]
          · exact Ar.kidsOf_all e
        rw [eT, eK] at hD
        have H3 : (decide ((i : Int) < (l.length : Int)) = false) ∨ (decide ((i : Int) < (l.length : Int)) = true ∧ decide ((i : Int) < 5) = false) ∨ (decide ((i : Int) < (l.length : Int)) = true ∧ decide ((i : Int) < 5) = true ∧ decide (0 < all.length) = false) := by
          by_cases h1 : i < l.length
          · by_cases h2 : i < 5
            · refine .inr (.inr ⟨decide_eq_true (by omega), decide_eq_true (by omega), ?_⟩)
              rcases hend with e | e | e
              · rw [e]; rfl
              · omega
              · omega
            · exact .inr (.inl ⟨decide_eq_true (by omega), decide_eq_false (by omega)⟩)
          · exact .inl (decide_eq_false (by omega))
        have O2 := hD.out.own_
        have r0 := O2.c0
        have r1 := O2.c1
        have r2 := O2.c2
        have s0 := O2.f0
        have s1 := O2.f1
        have s2 := O2.f2
        have hP := O2.put (.int .i64 (Ar.topOf all l)) (.string ⟨#[]⟩) (.slice vo (Ar.kidsOf all l).length vc)
        have R := Lib.hid (HF.out _ _ _ (by have := hD.out.fin (.int .i64 (Ar.topOf all l)) (.string ⟨#[]⟩) (.slice vo (Ar.kidsOf all l).length vc); exact this))
        obtain ⟨d0, d1, d2, _, _⟩ := hD.out.cells
        clear hD O2 hend hlt eT eK HX HC HQ HB HF hrow BW HM
        rcases H3 with h1 | ⟨h1, h2⟩ | ⟨h1, h2, h3⟩
        all_goals
          (try have z1 : decide (i < l.length) = false := decide_eq_false (by simpa using h1))
          (try have z2 : decide (i < 5) = false := decide_eq_false (by simpa using h2))
          (try have z3 : decide ((0 : Int) < (all.length : Int)) = false := decide_eq_false (by simpa using h3))
          go_wp2
          all_goals
            have p0 := hP.c0
            have p1 := hP.c1
            have p2 := hP.c2
            refine bodyPost_ret (v := .tuple #[.agg #[.int .i64 (Ar.topOf all l), .string ⟨#[]⟩, .slice vo (Ar.kidsOf all l).length vc], .bool true]) ?_ rfl R.out
            unfold N.put3 at p0 p1 p2
            simp [results, Try.results53, go_sem, p0, p1, p2]
end Go.Proofs.Ytniccjbcchdkoaa
/- ArDeed3 -/
namespace Go.Proofs.Ytniccjbcchdkoaa
open Go.RowKit

set_option maxRecDepth 100000 in
set_option maxHeartbeats 4000000 in
theorem dNode13_any (d : Ar.Dd) (ao : Option Addr) (ac : Nat) (all : List Ar.I) (w : World) (hd : Ar.DOk w d) (hl : all.length ≤ 1000) (hok : ∀ i ∈ all, N.NOk w i.x ∧ N.chk i.x.nd = 0 ∧ i.h ≤ 18446744073709551615)
    (hr : ∀ (i : Nat) (p : Ar.I), all[i]? = some p → ∃ b, ao = some ⟨b, 0, none⟩ ∧ b < w.heap.size ∧ w.cell? ⟨b, i * 4, none⟩ = some (.int .u64 (p.h : Int)) ∧ w.cell? ⟨b, i * 4 + 1, none⟩ = some (.int .i64 p.x.h) ∧ w.cell? ⟨b, i * 4 + 2, none⟩ = some (.string p.x.t) ∧ w.cell? ⟨b, i * 4 + 3, none⟩ = some (.slice p.x.s.a p.x.s.x.length p.x.s.c)) :
    Calls Try.prog 53 #[d.v, .slice ao all.length ac] w (Ar.NdEnd d all w) := by
  have HM : Hid (∀ (n m : Int) V, 0 < m → m ≤ 1000000000 → Calls Try.prog 51 #[.int .i64 n, .int .i64 m] V fun x w' => x = .returned (.int .i64 (n % m)) ∧ V = w') := fun n m V h1 h2 => mod11_any n m h1 h2 V
  have hkm : 0 ≤ d.kind % 8 ∧ d.kind % 8 < 8 := ⟨Int.emod_nonneg _ (by decide), Int.emod_lt_of_pos _ (by decide)⟩
  have HL : Hid (∀ t : ByteArray, (d.kind % 8 = 0 ∨ d.kind % 8 = 1) → t.size ≤ 140737488351232 → t.data.toList = (if d.text.size = 0 then Ar.letters else d.text.data.toList) → ∀ V, Below w.heap.size w V → Ar.NdEnd d all w (.returned (.tuple #[.agg #[.int .i64 0, .string t, .slice none 0 0], .bool true])) V) := fun t hk ht he V hb => by
    have e1 : d.nd all = ⟨0, if d.text.size = 0 then Ar.letters else d.text.data.toList, []⟩ := by unfold Ar.Dd.nd; rw [if_pos hk]
    have e2 : d.is = true := by unfold Ar.Dd.is; exact decide_eq_true (by omega)
    refine ⟨t, none, 0, by rw [e1]; exact he, by rw [e1, e2]; rfl, hb, ?_, .inr (fun g o e => by cases e)⟩
    rw [e1]
    exact ⟨by show _ ≤ (0 : Int); omega, by show (0 : Int) < _; omega, ht, N.row_nil _ _, (fun _ => rfl), (fun p hp => by cases hp), Nat.zero_le _, Nat.zero_le _⟩
  have HZ : Hid (4 < d.kind % 8 → ∀ V, Below w.heap.size w V → Ar.NdEnd d all w (.returned (.tuple #[.agg #[.int .i64 0, .string ⟨#[]⟩, .slice none 0 0], .bool false])) V) := fun hk V hb => by
    have e1 : d.nd all = ⟨0, [], []⟩ := by unfold Ar.Dd.nd; rw [if_neg (by omega), if_neg (by omega), if_neg (by omega)]
    have e2 : d.is = false := by unfold Ar.Dd.is; exact decide_eq_false (by omega)
    refine ⟨⟨#[]⟩, none, 0, by rw [e1], by rw [e1, e2]; rfl, hb, ?_, .inr (fun g o e => by cases e)⟩
    rw [e1]
    exact ⟨by show _ ≤ (0 : Int); omega, by show (0 : Int) < _; omega, by show (0 : Nat) ≤ _; omega, N.row_nil _ _, (fun _ => rfl), (fun p hp => by cases hp), Nat.zero_le _, Nat.zero_le _⟩
  have HX : Hid (d.kind % 8 = 4 → ∀ V, Below w.heap.size w V → Ar.NdEnd d all w (.returned (.tuple #[.agg #[.int .i64 d.x.h, .string d.x.t, .slice d.x.s.a d.x.s.x.length d.x.s.c], .bool true])) V) := fun hk V hb => by
    have e1 : d.nd all = d.x.nd := by unfold Ar.Dd.nd; rw [if_neg (by omega), if_neg (by omega), if_pos hk]
    have e2 : d.is = true := by unfold Ar.Dd.is; exact decide_eq_true (by omega)
    refine ⟨d.x.t, d.x.s.a, d.x.s.c, by rw [e1]; rfl, by rw [e1, e2]; rfl, hb, ?_, .inl ⟨rfl, hk⟩⟩
    rw [e1]
    exact hd.node.on hb
  have HI : Hid (d.kind % 8 = 2 ∨ d.kind % 8 = 3 → Calls Try.prog 53 #[d.v, .slice ao all.length ac] w (Ar.NdEnd d all w)) := fun hk => by
    obtain ⟨kind, text, lo, lc, l, ⟨xh, xt, xa, xc, xl⟩, h⟩ := d
    exact dNodeKids13_any kind text lo lc l xh xt xa xc xl h ao ac all w hd hl hok hr hk
  obtain ⟨kind, text, lo, lc, l, ⟨xh, xt, xa, xc, xl⟩, h⟩ := d
  have htx := hd.text
  dsimp only at HL HZ HX hkm htx
  have M1 := Lib.hid (HM.out kind 8)
  unfold Ar.Dd.v
  dsimp only
  have BA : Hid (∀ o1 o2, Below w.heap.size w ((w.alloc o1).alloc o2)) := fun o1 o2 => ((Below.refl _ _).alloc (Nat.le_refl _) o1).alloc (by simp) o2
  by_cases h01 : kind % 8 = 0 ∨ kind % 8 = 1
  · have HL2 := Lib.hid (fun (t : ByteArray) (a : t.size ≤ 140737488351232) (b : t.data.toList = (if text.size = 0 then Ar.letters else text.data.toList)) => HL.out t h01 a b)
    have k1 : ((kind % 8 == 0) = true ∨ ((kind % 8 == 0) = false ∧ (kind % 8 == 1) = true)) := by rcases h01 with e | e <;> rw [e] <;> decide
    clear hr hok hl HZ HX HM HI hkm h01 hd HL
    generalize kind % 8 = km at *
    by_cases ht : text.size = 0
    · obtain rfl := N.size0 ht
      have F := Lib.hid (HL2.out ⟨#[97, 98, 99, 100, 101, 102, 103, 104]⟩ (by decide) rfl)
      clear HL2 ht htx
      rcases k1 with k1 | ⟨k1, k2⟩
      all_goals
        go_enter Try.func53, Try.ntmps53
        go_wp2_with fail
        refine (M1.out _ (by omega) (by omega)).mono ?_
        rintro e w1 ⟨rfl, rfl⟩
        clear M1
        go_wp2
        refine bodyPost_ret (v := .tuple #[.agg #[.int .i64 0, .string ⟨#[97, 98, 99, 100, 101, 102, 103, 104]⟩, .slice none 0 0], .bool true]) ?_ rfl (F.out _ (BA.out _ _))
        simp [results, Try.results53, go_sem]
    · obtain ⟨hq1, hq2⟩ := N.size1 ht
      have F := Lib.hid (HL2.out text htx (by rw [if_neg ht]))
      clear HL2 htx
      rcases k1 with k1 | ⟨k1, k2⟩
      all_goals
        go_enter Try.func53, Try.ntmps53
        go_wp2_with fail
        refine (M1.out _ (by omega) (by omega)).mono ?_
        rintro e w1 ⟨rfl, rfl⟩
        clear M1
        go_wp2
        refine bodyPost_ret (v := .tuple #[.agg #[.int .i64 0, .string text, .slice none 0 0], .bool true]) ?_ rfl (F.out _ (BA.out _ _))
        simp [results, Try.results53, go_sem]
  · have q0 : (kind % 8 == 0) = false := by simpa using fun e => h01 (.inl e)
    have q1 : (kind % 8 == 1) = false := by simpa using fun e => h01 (.inr e)
    by_cases h23 : kind % 8 = 2 ∨ kind % 8 = 3
    · have k1 : ((kind % 8 == 2) = true ∨ ((kind % 8 == 2) = false ∧ (kind % 8 == 3) = true)) := by rcases h23 with e | e <;> rw [e] <;> decide
      exact HI.out h23
    · have q2 : (kind % 8 == 2) = false := by simpa using fun e => h23 (.inl e)
      have q3 : (kind % 8 == 3) = false := by simpa using fun e => h23 (.inr e)
      by_cases h4 : kind % 8 = 4
      · have q4 : (kind % 8 == 4) = true := by simpa using h4
        have F := Lib.hid (HX.out h4)
        clear hr hok hl HL HZ HX HM HI hkm h01 h23 h4 hd htx
        generalize kind % 8 = km at *
        go_enter Try.func53, Try.ntmps53
        go_wp2_with fail
        refine (M1.out _ (by omega) (by omega)).mono ?_
        rintro e w1 ⟨rfl, rfl⟩
        clear M1
        go_wp2
        refine bodyPost_ret (v := .tuple #[.agg #[.int .i64 xh, .string xt, .slice xa xl.length xc], .bool true]) ?_ rfl (F.out _ (BA.out _ _))
        simp [results, Try.results53, go_sem]
      · have q4 : (kind % 8 == 4) = false := by simpa using h4
        have F := Lib.hid (HZ.out (by omega))
        clear hr hok hl HL HZ HX HM HI hkm h01 h23 h4 hd htx
        generalize kind % 8 = km at *
        go_enter Try.func53, Try.ntmps53
        go_wp2_with fail
        refine (M1.out _ (by omega) (by omega)).mono ?_
        rintro e w1 ⟨rfl, rfl⟩
        clear M1
        go_wp2
        refine bodyPost_ret (v := .tuple #[.agg #[.int .i64 0, .string ⟨#[]⟩, .slice none 0 0], .bool false]) ?_ rfl (F.out _ (BA.out _ _))
        simp [results, Try.results53, go_sem]
end Go.Proofs.Ytniccjbcchdkoaa
