/- Texts joined: Gw ArEx1 ArLaws7 -/
import Derived.StillTail
import Derived.OrdersHeld
import Derived.Deep.RegionHeld
import Derived.Below
import Derived.Test.YtniccjbcchdkoaaArArgs
import Derived.Test.YtniccjbcchdkoaaArLaws6
import Derived.Test.YtniccjbcchdkoaaPackNXs
import Derived.Great.BuildSlice
import Derived.Test.YtniccjbcchdkoaaPackArPk
import Derived.Deep.CutBlock
import Derived.Deep.DeepCutAuto
/- Gw -/
namespace Go.Proofs.Ytniccjbcchdkoaa
open Go Go.RowKit

section
variable {P : Program} {ops : Array Oper} {Q : Exit → Act → World → Prop}

/-- The frame with the first n operations' values. -/
def Gw.fill (a0 : Act) (d : Nat → Nat) (vs : Nat → Value) (n : Nat) : Act := (List.range n).foldl (fun a i => a.put (some (d i)) (vs i)) a0
theorem Gw.fill_succ (a0 : Act) (d : Nat → Nat) (vs : Nat → Value) (n : Nat) : Gw.fill a0 d vs (n + 1) = (Gw.fill a0 d vs n).put (some (d n)) (vs n) := by
  unfold Gw.fill; rw [List.range_succ, List.foldl_append]; rfl
theorem Gw.put_tmps (a : Act) (k : Nat) (v : Value) : (a.put (some k) v).tmps = a.tmps.setIfInBounds k v ∧ (a.put (some k) v).defers = a.defers := ⟨rfl, rfl⟩
structure Gw.Is (a0 : Act) (d : Nat → Nat) (vs : Nat → Value) (n : Nat) (a : Act) : Prop where
  defers : a.defers = a0.defers
  size : a.tmps.size = a0.tmps.size
  old : ∀ s, (∀ i, i < n → d i ≠ s) → a.tmps[s]? = a0.tmps[s]?
  new : ∀ i, i < n → a.tmps[d i]? = some (vs i)
theorem Gw.fill_is (a0 : Act) (d : Nat → Nat) (vs : Nat → Value) : ∀ n, (∀ i j, i < n → j < n → d i = d j → i = j) → (∀ i, i < n → d i < a0.tmps.size) → Gw.Is a0 d vs n (Gw.fill a0 d vs n)
  | 0, _, _ => ⟨rfl, rfl, fun _ _ => rfl, fun i hi => absurd hi (Nat.not_lt_zero i)⟩
  | n + 1, hinj, hlt => by
    have ih := Gw.fill_is a0 d vs n (fun i j hi hj => hinj i j (by omega) (by omega)) (fun i hi => hlt i (by omega))
    rw [Gw.fill_succ]
    obtain ⟨e1, e2⟩ := Gw.put_tmps (Gw.fill a0 d vs n) (d n) (vs n)
    refine ⟨e2.trans ih.defers, by rw [e1, Array.size_setIfInBounds]; exact ih.size, fun s hs => ?_, fun i hi => ?_⟩
    · rw [e1, Array.getElem?_setIfInBounds, if_neg (hs n (by omega))]
      exact ih.old s (fun i hi => hs i (by omega))
    · rw [e1, Array.getElem?_setIfInBounds]
      by_cases h : i = n
      · subst h
        rw [if_pos rfl, if_pos (by rw [ih.size]; exact hlt i (by omega))]
      · rw [if_neg (fun e => h (hinj n i (by omega) hi e).symm)]
        exact ih.new i (by omega)
theorem Gw.Is.eq {a0 : Act} {d : Nat → Nat} {vs : Nat → Value} {n : Nat} {a b : Act} (h : Gw.Is a0 d vs n a) (k : Gw.Is a0 d vs n b) : a = b := by
  obtain ⟨ta, da⟩ := a
  obtain ⟨tb, db⟩ := b
  have e1 : da = db := h.defers.trans k.defers.symm
  have e2 : ta = tb := by
    refine Array.ext' (List.ext_getElem? fun s => ?_)
    have : ta[s]? = tb[s]? := by
      by_cases hs : ∀ i, i < n → d i ≠ s
      · exact (h.old s hs).trans (k.old s hs).symm
      · obtain ⟨i, hi⟩ := Classical.not_forall.1 hs
        obtain ⟨hp, he⟩ := Classical.not_imp.1 hi
        have he := Classical.not_not.1 he
        subst he
        exact (h.new i hp).trans (k.new i hp).symm
    simpa using this
  rw [e1, e2]
/-- What an operation may count on: the values of those that it waits for, and all slots that the region does not write. -/
structure Gw.Ctx (a0 : Act) (d : Nat → Nat) (n : Nat) (Good : Nat → Value → World → Prop) (o : Oper) (a : Act) (W : World) : Prop where
  dep : ∀ e ∈ o.after, Region.binds .any e = true → ∃ v, a.tmps[d e.on]? = some v ∧ Good e.on v W
  old : ∀ s, (∀ i, i < n → d i ≠ s) → a.tmps[s]? = a0.tmps[s]?
/-- What an operation must do. -/
def Gw.Hop (P : Program) (Q : Exit → Act → World → Prop) (a0 : Act) (d : Nat → Nat) (n : Nat) (B : World → Prop) (Good : Nat → Value → World → Prop) (i : Nat) (o : Oper) : Prop :=
  o.guard = none ∧ o.dst = some (d i) ∧ ∀ a W K, Gw.Ctx a0 d n Good o a W → B W → Shut (∀ v V, B V → Below W.heap.size W V → Good i v V → K (a.put (some (d i)) v) V) → o.wp P a W K Q
def Gw.All (H : Nat → Oper → Prop) : Nat → List Oper → Prop
  | _, [] => True
  | n, o :: r => H n o ∧ Gw.All H (n + 1) r
theorem Gw.All.at {H : Nat → Oper → Prop} : ∀ {l : List Oper} {n : Nat}, Gw.All H n l → ∀ i o, l[i]? = some o → H (n + i) o
  | [], _, _, i, o, h => by simp at h
  | x :: r, n, h, 0, o, ho => by simp at ho; subst ho; exact h.1
  | x :: r, n, h, i + 1, o, ho => by
    have := h.2.at i o (by simpa using ho)
    rwa [show n + 1 + i = n + (i + 1) by omega] at this
structure Gw.St (a0 : Act) (d : Nat → Nat) (n : Nat) (B : World → Prop) (Good : Nat → Value → World → Prop) (u : Array Bool) (a : Act) (W : World) : Prop where
  us : u.size = n
  b : B W
  defers : a.defers = a0.defers
  size : a.tmps.size = a0.tmps.size
  old : ∀ s, (∀ i, i < n → u.getD i false = true → d i ≠ s) → a.tmps[s]? = a0.tmps[s]?
  new : ∀ i, i < n → u.getD i false = true → ∃ v, a.tmps[d i]? = some v ∧ Good i v W
theorem Gw.run {a0 : Act} {d : Nat → Nat} {n : Nat} {B : World → Prop} {Good : Nat → Value → World → Prop}
    (hinj : ∀ i j, i < n → j < n → d i = d j → i = j) (hlt : ∀ i, i < n → d i < a0.tmps.size)
    (hst : ∀ i v W W', Good i v W → B W → Below W.heap.size W W' → Good i v W')
    (hop : Gw.All (Gw.Hop P Q a0 d n B Good) 0 ops.toList)
    (hsink : ∀ u : Array Bool, u.size = n → Region.ready .any ops u = [] → ∀ i, i < n → u.getD i false = true)
    (hend : ∀ vs W, B W → (∀ i, i < n → Good i (vs i) W) → Q .normal (Gw.fill a0 d vs n) W) :
    ∀ f u a W, Gw.St a0 d n B Good u a W → (u.toList.filter (fun b => !b)).length ≤ f → wpAny P .any ops Q f u a W := by
  have fin : ∀ u a W, Gw.St a0 d n B Good u a W → Region.ready .any ops u = [] → Q .normal a W := fun u a W S hr => by
    have hall := hsink u S.us hr
    obtain ⟨vs, hvs⟩ : ∃ vs : Nat → Value, ∀ i, i < n → a.tmps[d i]? = some (vs i) ∧ Good i (vs i) W := by
      refine ⟨fun i => if h : i < n then (S.new i h (hall i h)).choose else undef, fun i h => ?_⟩
      show a.tmps[d i]? = some (if h : i < n then (S.new i h (hall i h)).choose else undef) ∧ Good i (if h : i < n then (S.new i h (hall i h)).choose else undef) W
      rw [dif_pos h]
      exact (S.new i h (hall i h)).choose_spec
    have e : a = Gw.fill a0 d vs n := Gw.Is.eq ⟨S.defers, S.size, fun s hs => S.old s (fun i hi _ => hs i hi), fun i hi => (hvs i hi).1⟩ (Gw.fill_is a0 d vs n hinj hlt)
    rw [e]
    exact hend vs W S.b (fun i hi => (hvs i hi).2)
  intro f
  induction f with
  | zero =>
    intro u a W S hf
    have hr : Region.ready .any ops u = [] := by
      cases e : Region.ready .any ops u with
      | nil => rfl
      | cons i r =>
        obtain ⟨h1, _⟩ := mem_ready.1 (show i ∈ Region.ready .any ops u by rw [e]; exact List.mem_cons_self)
        have hi : i < u.size := by
          rcases Nat.lt_or_ge i u.size with h | h
          · exact h
          · simp [Array.getElem?_eq_none h] at h1
        have : false ∈ u.toList.filter (fun b => !b) := by
          refine List.mem_filter.2 ⟨?_, rfl⟩
          have h2 : u[i] = false := by simpa [hi] using h1
          rw [← h2]; simp
        have := List.length_pos_of_mem this
        omega
    exact ⟨hr, fin u a W S hr⟩
  | succ f ih =>
    intro u a W S hf
    refine ⟨fun hr => fin u a W S hr, fun i hi => ?_⟩
    obtain ⟨h1, o, ho, hdep⟩ := mem_ready.1 hi
    have hiu : i < u.size := by
      rcases Nat.lt_or_ge i u.size with h | h
      · exact h
      · simp [Array.getElem?_eq_none h] at h1
    have hui : u[i] = false := by simpa [hiu] using h1
    have hin : i < n := S.us ▸ hiu
    have H := hop.at i o (by simpa using ho)
    rw [Nat.zero_add] at H
    obtain ⟨g1, g2, g3⟩ := H
    unfold wpOp
    rw [ho]
    show if Region.wanted o (yielded ops a.tmps) = true then _ else _
    have hw : Region.wanted o (yielded ops a.tmps) = true := by unfold Region.wanted; rw [g1]
    rw [if_pos hw]
    refine .inl (g3 a W _ ⟨fun e he hb => ?_, fun s hs => S.old s (fun j hj _ => hs j hj)⟩ S.b (fun v V hV hb hg => ?_))
    · have hl := hdep e he hb
      have hlt2 : e.on < n := by
        rcases Nat.lt_or_ge e.on u.size with h | h
        · exact S.us ▸ h
        · simp [Array.getElem?_eq_none h] at hl
      exact S.new e.on hlt2 hl
    · obtain ⟨e1, e2⟩ := Gw.put_tmps a (d i) v
      refine ih _ _ _ ⟨by rw [Array.size_setIfInBounds]; exact S.us, hV, e2.trans S.defers, by rw [e1, Array.size_setIfInBounds]; exact S.size, fun s hs => ?_, fun j hj hju => ?_⟩ ?_
      · have hne : d i ≠ s := hs i hin (by simp [hiu])
        rw [e1, Array.getElem?_setIfInBounds, if_neg hne]
        refine S.old s (fun j hj hju => hs j hj ?_)
        by_cases hij : i = j
        · subst hij; simp [hiu]
        · rw [← hju]; simp [hij]
      · rw [e1, Array.getElem?_setIfInBounds]
        by_cases hij : i = j
        · subst hij
          rw [if_pos rfl, if_pos (by rw [S.size]; exact hlt i hin)]
          exact ⟨v, rfl, hg⟩
        · rw [if_neg (fun e => hij (hinj i j hin hj e))]
          have hju2 : u.getD j false = true := by rw [← hju]; simp [hij]
          obtain ⟨x, hx, hgx⟩ := S.new j hj hju2
          exact ⟨x, hx, hst j x W V hgx S.b hb⟩
      · have key : ∀ (l : List Bool) (i : Nat) (h : i < l.length), l[i] = false → ((l.set i true).filter (fun b => !b)).length + 1 = (l.filter (fun b => !b)).length := by
          intro l
          induction l with
          | nil => intro i h; simp at h
          | cons b l ihl =>
            intro i h hb
            cases i with
            | zero => simp at hb; subst hb; simp
            | succ i =>
              have := ihl i (by simpa using h) (by simpa using hb)
              rw [List.set_cons_succ]
              cases b <;> simp_all
              
        have := key u.toList i (by simpa using hiu) (by simpa using hui)
        rw [Array.toList_setIfInBounds]
        omega
/-- Does each operation wait for earlier ones alone? -/
def Gw.afterB (ops : Array Oper) : Bool := (List.range ops.size).all fun i => ((ops[i]?).map fun o => o.after.all fun e => decide (e.on < i)).getD true
theorem Gw.after_of {ops : Array Oper} (h : Gw.afterB ops = true) : ∀ (i : Nat) (o : Oper), ops[i]? = some o → ∀ e ∈ o.after, e.on < i := fun i o ho e he => by
  have hi := (Array.getElem?_eq_some_iff.1 ho).1
  have := List.all_eq_true.1 h i (List.mem_range.2 hi)
  rw [ho] at this
  simp only [Option.map_some, Option.getD_some, Array.all_eq_true_iff_forall_mem] at this
  exact of_decide_eq_true (this e he)
/-- The law: a region that draws its order. -/
theorem Gw.region {id : Nat} {a0 : Act} {w : World} (hm : P.follows .mixedOrders = true) (d : Nat → Nat) (n : Nat) (B : World → Prop) (Good : Nat → Value → World → Prop) (hn : ops.size = n)
    (hinj : ∀ i j, i < n → j < n → d i = d j → i = j) (hlt : ∀ i, i < n → d i < a0.tmps.size)
    (hafterB : Gw.afterB ops = true)
    (hst : ∀ i v W W', Good i v W → B W → Below W.heap.size W W' → Good i v W') (hB : B w.drew)
    (hop : Gw.All (Gw.Hop P Q a0 d n B Good) 0 ops.toList)
    (hend : ∀ vs W, B W → (∀ i, i < n → Good i (vs i) W) → Q .normal (Gw.fill a0 d vs n) W) : (Code.region id ops true).wp P Q a0 w := by
  have hafter := Gw.after_of hafterB
  refine wp_region_any hm (Gw.run hinj hlt hst hop (fun u hu hr => ?_) hend _ _ _ _ ⟨by simp [hn], hB, rfl, rfl, fun s _ => rfl, fun i hi hh => ?_⟩ ?_)
  · intro i
    induction i using Nat.strongRecOn with
    | ind i ih =>
      intro hi
      by_cases h : u.getD i false = true
      · exact h
      · exfalso
        have hio : i < ops.size := by omega
        have : i ∈ Region.ready .any ops u := mem_ready.2 ⟨getD_in (by omega) (by simpa using h), ops[i], Array.getElem?_eq_getElem hio, fun e he _ => ih e.on (hafter i _ (Array.getElem?_eq_getElem hio) e he) (by have := hafter i _ (Array.getElem?_eq_getElem hio) e he; omega)⟩
        rw [hr] at this
        cases this
  · rw [getD_replicate_false] at hh; cases hh
  · refine Nat.le_trans (List.length_filter_le _ _) (by simp)
end
end Go.Proofs.Ytniccjbcchdkoaa
/- ArEx1 -/
namespace Go.Proofs.Ytniccjbcchdkoaa
open Go.RowKit

theorem raw13_any (h : Int) (t : ByteArray) (a : Option Addr) (n c : Nat) (w : World) :
    Calls Try.prog 21 #[.agg #[.int .i64 h, .string t, .slice a n c]] w fun e w' => e = .returned (.agg #[.int .i64 4, .string ⟨#[]⟩, .slice none 0 0, .int .i64 h, .string t, .slice a n c, .int .u64 0]) ∧ Below w.heap.size w w' := by
  have B : Hid (∀ o p, Below w.heap.size w ((w.alloc o).alloc p)) := fun o p => ((Below.refl _ _).alloc (Nat.le_refl _) o).alloc (by simp) p
  go_enter Try.func21, Try.ntmps21
  go_wp2
  refine bodyPost_ret (v := .agg #[.int .i64 4, .string ⟨#[]⟩, .slice none 0 0, .int .i64 h, .string t, .slice a n c, .int .u64 0]) ?_ rfl ⟨rfl, B.out _ _⟩
  simp [results, Try.results21, go_sem]
theorem inner13_any (a : Option Addr) (n c : Nat) (w : World) :
    Calls Try.prog 22 #[.slice a n c] w fun e w' => e = .returned (.agg #[.int .i64 2, .string ⟨#[]⟩, .slice a n c, .int .i64 0, .string ⟨#[]⟩, .slice none 0 0, .int .u64 0]) ∧ Below w.heap.size w w' := by
  have B : Hid (∀ o, Below w.heap.size w (w.alloc o)) := fun o => (Below.refl _ _).alloc (Nat.le_refl _) o
  go_enter Try.func22, Try.ntmps22
  go_wp2
  refine bodyPost_ret (v := .agg #[.int .i64 2, .string ⟨#[]⟩, .slice a n c, .int .i64 0, .string ⟨#[]⟩, .slice none 0 0, .int .u64 0]) ?_ rfl ⟨rfl, B.out _⟩
  simp [results, Try.results22, go_sem]
theorem free13_is (k : Int) (w : World) :
    Calls Try.prog 23 #[.int .i64 k] w fun e w' => ∃ g c, e = .returned (.agg #[.int .i64 6, .string ⟨#[]⟩, .slice (some ⟨g, 0, none⟩) 1 c, .int .i64 0, .string ⟨#[]⟩, .slice none 0 0, .int .u64 0]) ∧ Below w.heap.size w w' ∧ V.Row w' (some ⟨g, 0, none⟩) (N.iv [k]) := by
  have B : Hid (∀ o p, Below w.heap.size w ((w.alloc o).alloc p)) := fun o p => ((Below.refl _ _).alloc (Nat.le_refl _) o).alloc (by simp) p
  have R : Hid (∀ o, V.Row ((w.alloc o).alloc (.cells #[.int .i64 k] 3)) (some ⟨w.heap.size + 1, 0, none⟩) (N.iv [k])) := fun o => by
    have := N.vlit (w.alloc o) (N.iv [k]) 3
    rwa [show (w.alloc o).heap.size = w.heap.size + 1 by simp] at this
  go_enter Try.func23, Try.ntmps23
  go_wp2
  refine bodyPost_ret (v := .agg #[.int .i64 6, .string ⟨#[]⟩, .slice (some ⟨w.heap.size + 1, 0, none⟩) 1 1, .int .i64 0, .string ⟨#[]⟩, .slice none 0 0, .int .u64 0]) ?_ rfl ⟨_, _, rfl, B.out _ _, R.out _⟩
  simp [results, Try.results23, go_sem]
/-! ### Values that stand -/
def Ar.gD (v : Value) (W : World) : Prop := ∃ dd : Ar.Dd, v = dd.v ∧ Ar.DOk W dd
def Ar.gK (v : Value) (W : World) : Prop := ∃ s : N.Src, v = .slice s.a s.x.length s.c ∧ N.ArgOk W s
def Ar.gN (v : Value) (W : World) : Prop := ∃ x : N.NArg, v = .agg #[.int .i64 x.h, .string x.t, .slice x.s.a x.s.x.length x.s.c] ∧ N.NOk W x
def Ar.gI (v : Value) (W : World) : Prop := ∃ (a : Option Addr) (c : Nat) (l : List Int), v = .slice a l.length c ∧ V.Row W a (N.iv l) ∧ l.length ≤ 5
def Ar.gS (v : Value) (W : World) : Prop := ∃ s : Ar.Src, v = .slice s.a s.x.length s.c ∧ Ar.ArgOk W s
def Ar.gd : Nat → Value → World → Prop
  | 0 => Ar.gD
  | 1 => Ar.gK
  | 2 => Ar.gN
  | 3 => Ar.gI
  | _ => Ar.gS
theorem Ar.gd_on {k : Nat} {v : Value} {W W' : World} (h : Ar.gd k v W) (hb : Below W.heap.size W W') : Ar.gd k v W' := by
  match k, h with
  | 0, ⟨dd, e, ok⟩ => exact ⟨dd, e, ok.on hb⟩
  | 1, ⟨s, e, ok⟩ => exact ⟨s, e, ⟨ok.row.below hb, ok.nil, ok.fits, ok.fit, ok.cap⟩⟩
  | 2, ⟨x, e, ok⟩ => exact ⟨x, e, ok.on hb⟩
  | 3, ⟨a, c, l, e, hr, hl⟩ => exact ⟨a, c, l, e, hr.below hb, hl⟩
  | _ + 4, ⟨s, e, ok⟩ => exact ⟨s, e, ok.on hb⟩
/-- What kind of value each operation makes. -/
def Ar.ekd : List Nat := [0, 0, 0, 1, 2, 0, 1, 2, 0, 1, 2, 0, 1, 2, 0, 3, 0, 3, 0, 3, 0, 3, 0, 3, 0, 0, 3, 0, 0, 3, 0, 0, 0, 0, 0, 0, 0, 0, 0, 3, 0, 3, 0, 4, 4]
def Ar.slot (i : Nat) : Nat := if i = 44 then 17 else 139 + i
theorem Ar.slot_inj : ∀ i j, i < 45 → j < 45 → Ar.slot i = Ar.slot j → i = j := fun i j hi hj h => by
  unfold Ar.slot at h
  split at h <;> split at h <;> omega
theorem Ar.nok0 (W : World) : N.NOk W ⟨0, ⟨#[]⟩, ⟨none, 0, []⟩⟩ :=
  ⟨by show (-9223372036854775808 : Int) ≤ 0; omega, by show (0 : Int) < _; omega, by show (0 : Nat) ≤ _; omega, ⟨N.row_nil _ _, fun _ => rfl, fun m hm => (by cases hm), Nat.zero_le _, Nat.le_refl _⟩⟩
/-- A deed without a node. -/
theorem Ar.gD_plain {k : Int} {t : ByteArray} {a : Option Addr} {n c : Nat} {l : List Int} {h : Nat} {W : World} (ht : t.size ≤ 1000) (hn : l.length = n) (hl : n ≤ 5) (hr : V.Row W a (N.iv l)) (hh : h ≤ 18446744073709551615) :
    Ar.gD (.agg #[.int .i64 k, .string t, .slice a n c, .int .i64 0, .string ⟨#[]⟩, .slice none 0 0, .int .u64 (h : Int)]) W := by
  subst hn
  exact ⟨⟨k, t, a, c, l, ⟨0, ⟨#[]⟩, ⟨none, 0, []⟩⟩, h⟩, rfl, ⟨by show t.size ≤ _; omega, hr, by show l.length ≤ _; omega, Ar.nok0 W, hh⟩⟩
theorem Ar.gD_node {x : N.NArg} {W : World} (ok : N.NOk W x) :
    Ar.gD (.agg #[.int .i64 4, .string ⟨#[]⟩, .slice none 0 0, .int .i64 x.h, .string x.t, .slice x.s.a x.s.x.length x.s.c, .int .u64 0]) W :=
  ⟨⟨4, ⟨#[]⟩, none, 0, [], x, 0⟩, rfl, ⟨by show (0 : Nat) ≤ _; omega, fun i v hv => (by simp [N.iv] at hv), by show (0 : Nat) ≤ _; omega, ok, by show (0 : Nat) ≤ _; omega⟩⟩
def Ar.d7 (d : Ar.Dd) : List Value := [.int .i64 d.kind, .string d.text, .slice d.lo d.l.length d.lc, .int .i64 d.x.h, .string d.x.t, .slice d.x.s.a d.x.s.x.length d.x.s.c, .int .u64 (d.h : Int)]
/-- A row of deeds that has just been made. -/
theorem Ar.gS_of {W : World} (l : List Ar.Dd) (T : TypeId) (hl : l.length ≤ 1000) (ok : ∀ d ∈ l, Ar.DOk W d) (r : Array Value) (hr : ∀ i d, l[i]? = some d → ∀ j v, (Ar.d7 d)[j]? = some v → r[i * 7 + j]? = some v) :
    Ar.gS (.slice (some ⟨W.heap.size, 0, none⟩) l.length l.length) (W.alloc (.cells r T)) := by
  have hb : Below W.heap.size W (W.alloc (.cells r T)) := (Below.refl _ _).alloc (Nat.le_refl _) _
  refine ⟨⟨some ⟨W.heap.size, 0, none⟩, l.length, l⟩, rfl, ⟨fun i d hd => ?_, fun d hd => ⟨(ok d hd).on hb, Ar.node_at ((ok d hd).on hb).node⟩, (fun e => by cases e), by show l.length ≤ _; omega, Nat.le_refl _⟩⟩
  have k : ∀ (j : Nat) (u : Value), (Ar.d7 d)[j]? = some u → (W.alloc (.cells r T)).cell? ⟨W.heap.size, i * 7 + j, none⟩ = some u := fun j u hu => by
    rw [Lib.cell_of_heap (heap_alloc_new W _)]
    exact hr i d hd j u hu
  refine ⟨W.heap.size, 0, rfl, by simp, ?_, ?_, ?_, ?_, ?_, ?_, ?_⟩
  all_goals rw [Nat.zero_add]
  · exact k 0 _ rfl
  · exact k 1 _ rfl
  · exact k 2 _ rfl
  · exact k 3 _ rfl
  · exact k 4 _ rfl
  · exact k 5 _ rfl
  · exact k 6 _ rfl
theorem Try.infoDeed13 : (Try.prog.info? 46).map (fun i => (i.zero, i.size)) = some (some (.agg #[.int .i64 0, .string ⟨#[]⟩, .slice none 0 0, .int .i64 0, .string ⟨#[]⟩, .slice none 0 0, .int .u64 0]), 7) := by kernel_rfl
theorem Ar.hop_deeds {o : Oper} {a : Act} {W : World} {K : Act → World → Prop} {Q : Exit → Act → World → Prop} {parts : Array (Nat × Operand)} (ho : o.op = .buildSlice 54 26 parts) (l : List Ar.Dd) (hl : l.length = 26)
    (hp : (parts.map fun (i, x) => (i, a.eval x)).toList = ((l.map Ar.Dd.v).zipIdx 0).map fun x => (x.2, x.1)) (ok : ∀ d ∈ l, Ar.DOk W d)
    (h : ∀ r, Ar.gS (.slice (some ⟨W.heap.size, 0, none⟩) 26 26) (W.alloc (.cells r 46)) → K (a.put o.dst (.slice (some ⟨W.heap.size, 0, none⟩) 26 26)) (W.alloc (.cells r 46))) : o.wp Try.prog a W K Q := by
  obtain ⟨ie, hi, hzz⟩ := Option.map_eq_some_iff.1 Try.infoDeed13
  simp only [Prod.mk.injEq] at hzz
  obtain ⟨hz, hs⟩ := hzz
  obtain ⟨r, hr, hsz, hk⟩ := Great.fill_dense (s := 7) (by decide) (l.map Ar.Dd.v) 0 ((Array.range (26 * 7)).map ((Value.agg #[.int .i64 0, .string ⟨#[]⟩, .slice none 0 0, .int .i64 0, .string ⟨#[]⟩, .slice none 0 0, .int .u64 0]).cells[· % (Value.agg #[.int .i64 0, .string ⟨#[]⟩, .slice none 0 0, .int .i64 0, .string ⟨#[]⟩, .slice none 0 0, .int .u64 0]).cells.size]!))
    (fun v hv => by obtain ⟨d, _, rfl⟩ := List.mem_map.1 hv; rfl) (by rw [List.length_map, hl]; simp)
  refine wp_buildSlice 54 46 26 parts ho r ie _ Try.underlying54 hi hz (by rw [hs]; decide) (by rw [hs]; decide) (by rw [hs, hp]; exact hr) (h r ?_)
  have g := Ar.gS_of (W := W) l 46 (by omega) ok r (fun i d hd j v hv => by
    have hi26 : i < 26 := by have := (List.getElem?_eq_some_iff.1 hd).1; omega
    have hj7 : j < 7 := (List.getElem?_eq_some_iff.1 hv).1
    rw [hk (i * 7 + j), if_pos (by rw [List.length_map, hl]; omega)]
    rw [show (i * 7 + j) / 7 - 0 = i by omega, show (i * 7 + j) % 7 = j by omega, List.getElem?_map, hd]
    show (Ar.Dd.v d).cells[j]? = some v
    have e : (Ar.Dd.v d).cells = (Ar.d7 d).toArray := rfl
    rw [e]
    simpa using hv)
  rwa [hl] at g
/-! ### What stands before the second loop -/
def Ar.leafD : Ar.Dd := ⟨0, ⟨#[48, 49, 50, 51, 52, 53, 54, 55, 56, 57, 97, 98, 99, 100, 101, 102]⟩, none, 0, [], ⟨0, ⟨#[]⟩, ⟨none, 0, []⟩⟩, 0⟩
def Ar.shortD : Ar.Dd := ⟨0, ⟨#[97]⟩, none, 0, [], ⟨0, ⟨#[]⟩, ⟨none, 0, []⟩⟩, 0⟩
def Ar.kl1 : List N.K := [⟨65536, 16, 16, 0⟩, ⟨65537, 16, 16, 0⟩]
def Ar.kl2 : List N.K := [⟨65536, 16, 16, 0⟩, ⟨65537, 15, 15, 0⟩]
def Ar.kl3 : List N.K := [⟨65537, 15, 15, 0⟩, ⟨65545, 16, 16, 0⟩]
structure Ar.Ex (h : Nat) (W : World) : Prop where
  lt : h + 6 ≤ W.heap.size
  leaf : ∀ j v, (Ar.d7 Ar.leafD)[j]? = some v → W.cell? ⟨h, j, none⟩ = some v
  short : ∀ j v, (Ar.d7 Ar.shortD)[j]? = some v → W.cell? ⟨h + 1, j, none⟩ = some v
  k1 : N.Row W (some ⟨h + 1 + 1 + 1, 0, none⟩) Ar.kl1
  k2 : N.Row W (some ⟨h + 1 + 1 + 1 + 1, 0, none⟩) Ar.kl2
  k3 : N.Row W (some ⟨h + 1 + 1 + 1 + 1 + 1, 0, none⟩) Ar.kl3
theorem Ar.Ex.on {h : Nat} {W W' : World} (x : Ar.Ex h W) (hb : Below W.heap.size W W') : Ar.Ex h W' :=
  ⟨Nat.le_trans x.lt hb.size, fun j v hv => ((D.bcell hb).1 _ _ (by have := x.lt; omega)).trans (x.leaf j v hv), fun j v hv => ((D.bcell hb).1 _ _ (by have := x.lt; omega)).trans (x.short j v hv), x.k1.below hb, x.k2.below hb, x.k3.below hb⟩
theorem Ar.lit7 (W : World) (d : Ar.Dd) (T : TypeId) {h : Nat} (hh : W.heap.size = h) : ∀ j v, (Ar.d7 d)[j]? = some v → (W.alloc (.cells (Ar.d7 d).toArray T)).cell? ⟨h, j, none⟩ = some v := fun j v hv => by
  subst hh
  rw [Lib.cell_of_heap (heap_alloc_new W _)]
  simpa using hv
theorem Ar.ex_all {w : World} (h : Nat) (hh : w.heap.size = h) (o3 : Obj) (T1 T2 : TypeId) (c1 c2 c4 c5 c6 : Array Value) (e1 : (Ar.d7 Ar.leafD).toArray = c1) (e2 : (Ar.d7 Ar.shortD).toArray = c2) (e4 : (N.cells Ar.kl1).toArray = c4) (e5 : (N.cells Ar.kl2).toArray = c5) (e6 : (N.cells Ar.kl3).toArray = c6) {R : World → Prop}
    (H : ∀ V0 : World, Hid (Below w.heap.size w V0) → Hid (Ar.Ex h V0) → R V0) : R ((((((w.alloc (.cells c1 T1)).alloc (.cells c2 T2)).alloc o3).alloc (.cells c4 50)).alloc (.cells c5 50)).alloc (.cells c6 50)) := by
  subst e1
  subst e2
  subst e4
  subst e5
  subst e6
  have s1 : ∀ (W : World) (o : Obj) (n : Nat), W.heap.size = n → (W.alloc o).heap.size = n + 1 := fun W o n e => by simp [e]
  have bl : ∀ (W : World) (o : Obj), Below W.heap.size W (W.alloc o) := fun W o => (Below.refl _ _).alloc (Nat.le_refl _) o
  obtain ⟨W1, hW1⟩ : ∃ W1, w.alloc (.cells (Ar.d7 Ar.leafD).toArray T1) = W1 := ⟨_, rfl⟩
  have z1 : W1.heap.size = h + 1 := hW1 ▸ s1 _ _ _ hh
  have L1 : ∀ j v, (Ar.d7 Ar.leafD)[j]? = some v → W1.cell? ⟨h, j, none⟩ = some v := hW1 ▸ Ar.lit7 w Ar.leafD T1 hh
  have B1 : Below w.heap.size w W1 := hW1 ▸ bl _ _
  rw [hW1]
  obtain ⟨W2, hW2⟩ : ∃ W2, W1.alloc (.cells (Ar.d7 Ar.shortD).toArray T2) = W2 := ⟨_, rfl⟩
  have z2 : W2.heap.size = h + 1 + 1 := hW2 ▸ s1 _ _ _ z1
  have L2 : ∀ j v, (Ar.d7 Ar.shortD)[j]? = some v → W2.cell? ⟨h + 1, j, none⟩ = some v := hW2 ▸ Ar.lit7 W1 Ar.shortD T2 z1
  have B2 : Below W1.heap.size W1 W2 := hW2 ▸ bl _ _
  rw [hW2]
  obtain ⟨W3, hW3⟩ : ∃ W3, W2.alloc o3 = W3 := ⟨_, rfl⟩
  have z3 : W3.heap.size = h + 1 + 1 + 1 := hW3 ▸ s1 _ _ _ z2
  have B3 : Below W2.heap.size W2 W3 := hW3 ▸ bl _ _
  rw [hW3]
  obtain ⟨W4, hW4⟩ : ∃ W4, W3.alloc (.cells (N.cells Ar.kl1).toArray 50) = W4 := ⟨_, rfl⟩
  have z4 : W4.heap.size = h + 1 + 1 + 1 + 1 := hW4 ▸ s1 _ _ _ z3
  have L4 : N.Row W4 (some ⟨h + 1 + 1 + 1, 0, none⟩) Ar.kl1 := by have := N.row_lit W3 Ar.kl1; rw [z3, hW4] at this; exact this
  have B4 : Below W3.heap.size W3 W4 := hW4 ▸ bl _ _
  rw [hW4]
  obtain ⟨W5, hW5⟩ : ∃ W5, W4.alloc (.cells (N.cells Ar.kl2).toArray 50) = W5 := ⟨_, rfl⟩
  have z5 : W5.heap.size = h + 1 + 1 + 1 + 1 + 1 := hW5 ▸ s1 _ _ _ z4
  have L5 : N.Row W5 (some ⟨h + 1 + 1 + 1 + 1, 0, none⟩) Ar.kl2 := by have := N.row_lit W4 Ar.kl2; rw [z4, hW5] at this; exact this
  have B5 : Below W4.heap.size W4 W5 := hW5 ▸ bl _ _
  rw [hW5]
  obtain ⟨W6, hW6⟩ : ∃ W6, W5.alloc (.cells (N.cells Ar.kl3).toArray 50) = W6 := ⟨_, rfl⟩
  have z6 : W6.heap.size = h + 1 + 1 + 1 + 1 + 1 + 1 := hW6 ▸ s1 _ _ _ z5
  have L6 : N.Row W6 (some ⟨h + 1 + 1 + 1 + 1 + 1, 0, none⟩) Ar.kl3 := by have := N.row_lit W5 Ar.kl3; rw [z5, hW6] at this; exact this
  have B6 : Below W5.heap.size W5 W6 := hW6 ▸ bl _ _
  rw [hW6]
  have P4 := Ar.bt B5 B6
  have P3 := Ar.bt B4 P4
  have P2 := Ar.bt B3 P3
  have P1 := Ar.bt B2 P2
  refine H W6 (Ar.bt B1 P1) ⟨by omega, fun j v hv => ((D.bcell P1).1 _ _ (by omega)).trans (L1 j v hv), fun j v hv => ((D.bcell P2).1 _ _ (by omega)).trans (L2 j v hv), L4.below P4, L5.below B6, L6⟩
theorem Ar.slot_ne {s : Nat} (h1 : s < 139) (h2 : s ≠ 17) : ∀ i, i < 45 → Ar.slot i ≠ s := fun i hi => by
  unfold Ar.slot; split <;> omega
theorem Ar.slot_lt : ∀ i, i < 45 → Ar.slot i < 195 := fun i hi => by unfold Ar.slot; split <;> omega
theorem Ar.kids_ok {W : World} {a : Addr} {l : List N.K} (hr : N.Row W (some a) l) (hl : l.length = 2) (hf : ∀ m ∈ l, N.Fit m) : Ar.gK (.slice (some a) 2 2) W :=
  ⟨⟨some a, 2, l⟩, by show Value.slice _ 2 2 = .slice _ l.length 2; rw [hl], ⟨hr, (fun e => (by cases e)), hf, by show l.length * 32 ≤ _; omega, by show l.length ≤ 2; omega⟩⟩
theorem Ar.fit_all : ∀ m ∈ Ar.kl1 ++ Ar.kl2 ++ Ar.kl3, N.Fit m := by
  intro m hm
  simp only [Ar.kl1, Ar.kl2, Ar.kl3, List.cons_append, List.nil_append, List.mem_cons, List.not_mem_nil, or_false] at hm
  rcases hm with rfl | rfl | rfl | rfl | rfl | rfl
  all_goals exact ⟨by decide, by decide, by decide, by decide, by decide, by decide, by decide⟩
theorem Ar.Ex.gk {h : Nat} {W : World} (x : Ar.Ex h W) : Ar.gK (.slice (some ⟨h + 1 + 1 + 1, 0, none⟩) 2 2) W ∧ Ar.gK (.slice (some ⟨h + 1 + 1 + 1 + 1, 0, none⟩) 2 2) W ∧ Ar.gK (.slice (some ⟨h + 1 + 1 + 1 + 1 + 1, 0, none⟩) 2 2) W :=
  ⟨Ar.kids_ok x.k1 rfl (fun m hm => Ar.fit_all m (by simp [hm])), Ar.kids_ok x.k2 rfl (fun m hm => Ar.fit_all m (by simp [hm])), Ar.kids_ok x.k3 rfl (fun m hm => Ar.fit_all m (by simp [hm]))⟩
/-- What the operations of the drawn region may count on. -/
def Ar.ExB (w : World) (h : Nat) (W : World) : Prop := Below w.heap.size w W ∧ Ar.Ex h W
theorem Ar.ExB.on {w W W' : World} {h : Nat} (b : Ar.ExB w h W) (hb : Below W.heap.size W W') : Ar.ExB w h W' := ⟨Ar.bt b.1 hb, b.2.on hb⟩
def Ar.ExG (i : Nat) (v : Value) (W : World) : Prop := Ar.gd (Ar.ekd.getD i 0) v W
theorem Ar.leaf_ok (W : World) : Ar.DOk W Ar.leafD := ⟨by decide, fun i v hv => (by simp [N.iv, Ar.leafD] at hv), by decide, Ar.nok0 W, by decide⟩
theorem Ar.short_ok (W : World) : Ar.DOk W Ar.shortD := ⟨by decide, fun i v hv => (by simp [N.iv, Ar.shortD] at hv), by decide, Ar.nok0 W, by decide⟩
theorem Ar.nok_s {W : World} {k : Int} (hk : 0 ≤ k ∧ k ≤ 2) {s : N.Src} (ok : N.ArgOk W s) : N.NOk W ⟨k, ⟨#[]⟩, s⟩ :=
  ⟨by show (-9223372036854775808 : Int) ≤ k; omega, by show k < (9223372036854775808 : Int); omega, by show (0 : Nat) ≤ _; omega, ok⟩
theorem Ar.at_get {a : Act} {k : Nat} {v : Value} (h : a.tmps[k]? = some v) : a.tmps.getD k undef = v := by rw [Array.getD_eq_getD_getElem?, h]; rfl
theorem Ar.al (W : World) (o : Obj) : Below W.heap.size W (W.alloc o) := (Below.refl _ _).alloc (Nat.le_refl _) o
theorem Ar.row0 (W : World) (ao : Option Addr) : V.Row W ao (N.iv []) := fun i v hv => (by simp [N.iv] at hv)
theorem Ar.fill45 (a : Act) (vs : Nat → Value) : Gw.fill a Ar.slot vs 45 = ((((((((((((((((((((((((((((((((((((((((((((a.put (some 139) (vs 0)).put (some 140) (vs 1)).put (some 141) (vs 2)).put (some 142) (vs 3)).put (some 143) (vs 4)).put (some 144) (vs 5)).put (some 145) (vs 6)).put (some 146) (vs 7)).put (some 147) (vs 8)).put (some 148) (vs 9)).put (some 149) (vs 10)).put (some 150) (vs 11)).put (some 151) (vs 12)).put (some 152) (vs 13)).put (some 153) (vs 14)).put (some 154) (vs 15)).put (some 155) (vs 16)).put (some 156) (vs 17)).put (some 157) (vs 18)).put (some 158) (vs 19)).put (some 159) (vs 20)).put (some 160) (vs 21)).put (some 161) (vs 22)).put (some 162) (vs 23)).put (some 163) (vs 24)).put (some 164) (vs 25)).put (some 165) (vs 26)).put (some 166) (vs 27)).put (some 167) (vs 28)).put (some 168) (vs 29)).put (some 169) (vs 30)).put (some 170) (vs 31)).put (some 171) (vs 32)).put (some 172) (vs 33)).put (some 173) (vs 34)).put (some 174) (vs 35)).put (some 175) (vs 36)).put (some 176) (vs 37)).put (some 177) (vs 38)).put (some 178) (vs 39)).put (some 179) (vs 40)).put (some 180) (vs 41)).put (some 181) (vs 42)).put (some 182) (vs 43)).put (some 17) (vs 44) := rfl
end Go.Proofs.Ytniccjbcchdkoaa
/- ArLaws7 -/
namespace Go.Proofs.Ytniccjbcchdkoaa
open Go.RowKit

theorem Ar.box3 (w : World) (h : Int) (t : ByteArray) (v : Value) (T : TypeId) : let W := w.alloc (.cells #[.int .i64 h, .string t, v] T); W.cell? ⟨w.heap.size, 0, none⟩ = some (.int .i64 h) ∧ W.cell? ⟨w.heap.size, 1, none⟩ = some (.string t) ∧ W.cell? ⟨w.heap.size, 2, none⟩ = some v := by
  refine ⟨?_, ?_, ?_⟩ <;> (rw [Lib.cell_of_heap (heap_alloc_new w _)]; rfl)
set_option maxRecDepth 100000 in
set_option maxHeartbeats 8000000 in
theorem arenaExamples_walk (w : World) : Calls Try.prog 3 #[] w fun e w' => e = .returned (.bool true) ∧ Below w.heap.size w w' := by
  have H1 := Lib.hid (nilAlloc13 0 ⟨#[97]⟩ (.slice none 0 0))
  have H2 := Lib.hid (nilGet13 65536)
  have H3 := Lib.hid nilSlots13
  have H4 := N.hEq (h := 0) (k := 0) (s := ⟨#[]⟩) (t := ⟨#[]⟩) (a := []) (b := []) (by decide) true (by simp)
  have H5 := Lib.hid (nilFree13 65536)
  have H6 := Lib.hid (nilLive13 65536)
  have H7 := Lib.hid nilHandles13
  have H8 := Lib.hid nilStats13
  have HK := Lib.hid (awake13_any PA.pa)
  have HM : Hid (∀ (n g : Int) (W : World), (-9223372036854775808 ≤ n ∧ n < 9223372036854775808) → (0 ≤ g ∧ g ≤ 18446744073709551615) → Calls Try.prog 20 #[.int .i64 n, .int .u64 g] W fun e w' => e = .returned (.bool true) ∧ Below W.heap.size W w') := fun n g W hn hg => arenaMakes_walk PA.pa n g W hn.1 hn.2 hg.1 hg.2
  have HP : Hid (∀ (n g : Int) (s : Ar.Src) (W : World), (-9223372036854775808 ≤ n ∧ n < 9223372036854775808) → (-9223372036854775808 ≤ g ∧ g < 9223372036854775808) → Ar.ArgOk W s → Calls Try.prog 24 #[.int .i64 n, .int .i64 g, .slice s.a s.x.length s.c] W fun e w' => e = .returned (.bool true) ∧ Below W.heap.size W w') := fun n g s W hn hg hs => arenaPlays_walk PA.pa n g s W hn.1 hn.2 hg.1 hg.2 hs
  have B0 : Hid (Below w.heap.size w w) := Below.refl _ _
  go_enter Try.func3, Try.ntmps3
  go_wp2_with fail
  refine (H1.out _).mono ?_
  rintro e w1 ⟨rfl, hb⟩
  have B1 := Lib.hid (Ar.bt B0.out hb)
  clear hb B0 H1
  go_wp2_with fail
  refine (H2.out _).mono ?_
  rintro e w2 ⟨v, rfl, hm⟩
  obtain ⟨uo, uc, hu, _⟩ := hm.src
  have hu : v = .slice uo 0 uc := hu
  subst hu
  have B2 := Lib.hid (Ar.bt B1.out hm.below)
  clear hm B1 H2
  go_upto_region 4 with (fail)
  obtain ⟨c0, c1, c2⟩ := Ar.box3 w2 0 ⟨#[]⟩ (.slice uo 0 uc) 30
  have B3 := Lib.hid (B2.out.alloc B2.out.size (.cells #[.int .i64 0, .string ⟨#[]⟩, .slice uo 0 uc] 30))
  generalize w2.alloc (.cells #[.int .i64 0, .string ⟨#[]⟩, .slice uo 0 uc] 30) = w3 at B3 c0 c1 c2 ⊢
  clear B2
  go_wp2_with fail
  refine (H3.out _).mono ?_
  rintro e w4 ⟨rfl, rfl⟩
  clear H3
  go_wp2_with fail
  refine (H4.out _ _ _ _ _ (N.row_nil _ _) (N.row_nil _ _)).mono ?_
  rintro e w5 ⟨rfl, hb⟩
  have B5 := Lib.hid (Ar.bt B3.out hb)
  clear hb B3 H4 c0 c1 c2
  go_wp2_with fail
  refine (H5.out _).mono ?_
  rintro e w6 ⟨rfl, hb⟩
  have B6 := Lib.hid (Ar.bt B5.out hb)
  clear hb B5 H5
  go_wp2_with fail
  refine (H6.out _).mono ?_
  rintro e w7 ⟨rfl, rfl⟩
  clear H6
  go_wp2_with fail
  refine (H7.out _).mono ?_
  rintro e w7 ⟨rfl, rfl⟩
  clear H7
  go_wp2_with fail
  refine (H8.out _).mono ?_
  rintro e w8 ⟨rfl, hb⟩
  have B8 := Lib.hid (Ar.bt B6.out hb)
  clear hb B6 H8
  go_upto_region 8 with (fail)
  have R8 := Lib.hid (N.vlit w8 (N.iv [-1, 0, 1, 16384, 16385]) 3)
  have B9 := Lib.hid (B8.out.alloc B8.out.size (.cells (N.iv [-1, 0, 1, 16384, 16385]).toArray 3))
  obtain ⟨g, hg⟩ : ∃ g, w8.heap.size = g := ⟨_, rfl⟩
  (try rw [hg])
  rw [hg] at R8
  change Code.wp _ _ _ _ (w8.alloc (.cells (N.iv [-1, 0, 1, 16384, 16385]).toArray 3))
  generalize w8.alloc (.cells (N.iv [-1, 0, 1, 16384, 16385]).toArray 3) = w9 at B9 R8 ⊢
  clear B8 hg
  go_wp2
  go_loopw [9] (fun u wx => ∃ i : Nat, i ≤ 5 ∧ u = .int .i64 i ∧ Hid (Below w9.heap.size w9 wx)) (fun u _ => 5 - (intOf u).toNat)
  case atStart => exact ⟨0, by omega, rfl, Below.refl _ _⟩
  case round =>
    obtain ⟨i, hi, rfl, hx⟩ := hrel
    by_cases hli : i < 5
    · have hi2 : (i : Int) < 5 := by omega
      have I0 : Hid (i < 5) := hli
      obtain ⟨n, hn, hnb⟩ : ∃ n : Int, (N.iv [-1, 0, 1, 16384, 16385])[i]? = some (.int .i64 n) ∧ Hid (-9223372036854775808 ≤ n ∧ n < 9223372036854775808) := by
        rcases (show i = 0 ∨ i = 1 ∨ i = 2 ∨ i = 3 ∨ i = 4 by omega) with rfl | rfl | rfl | rfl | rfl
        all_goals exact ⟨_, rfl, by show _ ∧ _; omega⟩
      obtain ⟨b, o, e1, hbl, hc⟩ := R8.out i _ hn
      injection e1 with e1
      injection e1 with e1 e2
      subst e1
      subst e2
      rw [Nat.zero_add] at hc
      have C := fun (W : World) (hW : Below w9.heap.size w9 W) => ((D.bcell hW).1 _ _ hbl).trans hc
      have C := Lib.hid C
      clear hn hi hli hc
      have c0 := C.out _ hx.out
      go_wp2_with fail
      refine (HM.out n 1 _ hnb.out (by omega)).mono ?_
      rintro e v1 ⟨rfl, hb⟩
      have X1 := Lib.hid (Ar.bt hx.out hb)
      clear hb hx c0
      have c0 := C.out _ X1.out
      go_wp2_with fail
      refine (HM.out n 0 _ hnb.out (by omega)).mono ?_
      rintro e v2 ⟨rfl, hb⟩
      have X2 := Lib.hid (Ar.bt X1.out hb)
      clear hb X1 c0
      have c0 := C.out _ X2.out
      go_wp2_with fail
      refine (HM.out n 4294967295 _ hnb.out (by omega)).mono ?_
      rintro e v3 ⟨rfl, hb⟩
      have X3 := Lib.hid (Ar.bt X2.out hb)
      clear hb X2 c0
      have c0 := C.out _ X3.out
      go_wp2_with fail
      refine (HM.out n 4294967296 _ hnb.out (by omega)).mono ?_
      rintro e v4 ⟨rfl, hb⟩
      have X4 := Lib.hid (Ar.bt X3.out hb)
      clear hb X3 c0
      go_wp2
      go_roundw
      case rel => exact ⟨i + 1, by have := I0.out; omega, by go_num, X4⟩
      case measure => have := I0.out; simp [intOf]; omega
    · obtain rfl : i = 5 := by omega
      rw [show ((5 : Nat) : Int) = 5 from rfl]
      have BA := Lib.hid (Ar.bt B9.out hx.out)
      clear hx hi hli R8 B9 HM
      go_upto_region 18 with (fail)
      obtain ⟨h, hh⟩ : ∃ h, wr.heap.size = h := ⟨_, rfl⟩
      (try simp only [hh])
      refine Ar.ex_all h hh _ _ _ _ _ _ _ _ rfl rfl rfl rfl rfl (R := fun V => Code.wp _ _ _ _ V) ?_
      intro V0 hV EX
      have EB : Hid (Ar.ExB w h V0) := ⟨Ar.bt BA.out hV.out, EX.out⟩
      clear hV EX BA hh
      go_wp2
      go_loopw [16, 17, 18] (fun u _ _ wx => ∃ n : Nat, 1 ≤ n ∧ n ≤ 8 ∧ u = .int .i64 n ∧ Hid (Ar.ExB w h wx)) (fun u _ _ _ => 8 - (intOf u).toNat)
      case atStart => exact ⟨1, by omega, by omega, rfl, EB⟩
      case round =>
        clear EB
        obtain ⟨n, hn1, hn8, rfl, hE⟩ := hrel
        by_cases hln : n < 8
        · have hnI : (n : Int) < 8 := by omega
          have N0 : Hid (1 ≤ n ∧ n < 8) := ⟨hn1, hln⟩
          clear hn1 hn8 hln
          go_upto_region 21 with (fail)
          go_cut [17] (fun v wx => ∃ s : Ar.Src, v = .slice s.a s.x.length s.c ∧ Hid (Ar.ExB w h wx ∧ Ar.ArgOk wx s))
          case first =>
            refine Gw.region (by kernel_rfl) Ar.slot 45 (Ar.ExB w h) Ar.ExG rfl Ar.slot_inj (fun i hi => Ar.slot_lt i hi) (by kernel_rfl) (fun i v W W' hg hb hw => Ar.gd_on hg hw) (hE.out.on (Below.refl _ _).drew) ?_ ?_
            · skip
              refine ⟨?_, ?_, ?_, ?_, ?_, ?_, ?_, ?_, ?_, ?_, ?_, ?_, ?_, ?_, ?_, ?_, ?_, ?_, ?_, ?_, ?_, ?_, ?_, ?_, ?_, ?_, ?_, ?_, ?_, ?_, ?_, ?_, ?_, ?_, ?_, ?_, ?_, ?_, ?_, ?_, ?_, ?_, ?_, ?_, ?_, trivial⟩
              · refine ⟨rfl, rfl, fun a W K hc hB hK => ?_⟩
                have e10 := Ar.at_get ((hc.old 10 (Ar.slot_ne (by decide) (by decide))).trans (rfl : _ = some (Value.pointer (some ⟨h, 0, none⟩))))
                have x0 := hB.2.leaf 0 _ rfl
                have x1 := hB.2.leaf 1 _ rfl
                have x2 := hB.2.leaf 2 _ rfl
                have x3 := hB.2.leaf 3 _ rfl
                have x4 := hB.2.leaf 4 _ rfl
                have x5 := hB.2.leaf 5 _ rfl
                have x6 := hB.2.leaf 6 _ rfl
                clear hc
                go_simp
                exact hK.out _ _ hB (Below.refl _ _) ⟨Ar.leafD, rfl, Ar.leaf_ok _⟩
              · refine ⟨rfl, rfl, fun a W K hc hB hK => ?_⟩
                have e10 := Ar.at_get ((hc.old 10 (Ar.slot_ne (by decide) (by decide))).trans (rfl : _ = some (Value.pointer (some ⟨h, 0, none⟩))))
                have x0 := hB.2.leaf 0 _ rfl
                have x1 := hB.2.leaf 1 _ rfl
                have x2 := hB.2.leaf 2 _ rfl
                have x3 := hB.2.leaf 3 _ rfl
                have x4 := hB.2.leaf 4 _ rfl
                have x5 := hB.2.leaf 5 _ rfl
                have x6 := hB.2.leaf 6 _ rfl
                clear hc
                go_simp
                exact hK.out _ _ hB (Below.refl _ _) ⟨Ar.leafD, rfl, Ar.leaf_ok _⟩
              · refine ⟨rfl, rfl, fun a W K hc hB hK => ?_⟩
                have e10 := Ar.at_get ((hc.old 11 (Ar.slot_ne (by decide) (by decide))).trans (rfl : _ = some (Value.pointer (some ⟨h + 1, 0, none⟩))))
                have x0 := hB.2.short 0 _ rfl
                have x1 := hB.2.short 1 _ rfl
                have x2 := hB.2.short 2 _ rfl
                have x3 := hB.2.short 3 _ rfl
                have x4 := hB.2.short 4 _ rfl
                have x5 := hB.2.short 5 _ rfl
                have x6 := hB.2.short 6 _ rfl
                clear hc
                go_simp
                exact hK.out _ _ hB (Below.refl _ _) ⟨Ar.shortD, rfl, Ar.short_ok _⟩
              · refine ⟨rfl, rfl, fun a W K hc hB hK => ?_⟩
                have e10 := Ar.at_get ((hc.old 13 (Ar.slot_ne (by decide) (by decide))).trans (rfl : _ = some (Value.slice (some ⟨h + 1 + 1 + 1, 0, none⟩) 2 2)))
                clear hc
                go_simp
                exact hK.out _ _ hB (Below.refl _ _) hB.2.gk.1
              · refine ⟨rfl, rfl, fun a W K hc hB hK => ?_⟩
                obtain ⟨v, tv, gv⟩ := hc.dep ⟨3, .data⟩ (by simp) rfl
                have yv : a.tmps[142]? = some v := tv
                have ev := Ar.at_get yv
                obtain ⟨s, rfl, ok⟩ : Ar.gK v W := gv
                clear hc tv
                go_simp
                exact hK.out _ _ hB (Below.refl _ _) ⟨⟨1, ⟨#[]⟩, s⟩, rfl, Ar.nok_s (by omega) ok⟩
              · refine ⟨rfl, rfl, fun a W K hc hB hK => ?_⟩
                obtain ⟨v, tv, gv⟩ := hc.dep ⟨4, .data⟩ (by simp) rfl
                have yv : a.tmps[143]? = some v := tv
                have ev := Ar.at_get yv
                obtain ⟨x, rfl, ok⟩ : Ar.gN v W := gv
                clear hc tv
                go_simp
                go_at_call 21
                refine (raw13_any _ _ _ _ _ W).mono ?_
                rintro e w2 ⟨rfl, hb⟩
                exact hK.out _ _ (hB.on hb) hb (Ar.gD_node (ok.on hb))
              · refine ⟨rfl, rfl, fun a W K hc hB hK => ?_⟩
                have e10 := Ar.at_get ((hc.old 14 (Ar.slot_ne (by decide) (by decide))).trans (rfl : _ = some (Value.slice (some ⟨h + 1 + 1 + 1 + 1, 0, none⟩) 2 2)))
                clear hc
                go_simp
                exact hK.out _ _ hB (Below.refl _ _) hB.2.gk.2.1
              · refine ⟨rfl, rfl, fun a W K hc hB hK => ?_⟩
                obtain ⟨v, tv, gv⟩ := hc.dep ⟨6, .data⟩ (by simp) rfl
                have yv : a.tmps[145]? = some v := tv
                have ev := Ar.at_get yv
                obtain ⟨s, rfl, ok⟩ : Ar.gK v W := gv
                clear hc tv
                go_simp
                exact hK.out _ _ hB (Below.refl _ _) ⟨⟨1, ⟨#[]⟩, s⟩, rfl, Ar.nok_s (by omega) ok⟩
              · refine ⟨rfl, rfl, fun a W K hc hB hK => ?_⟩
                obtain ⟨v, tv, gv⟩ := hc.dep ⟨7, .data⟩ (by simp) rfl
                have yv : a.tmps[146]? = some v := tv
                have ev := Ar.at_get yv
                obtain ⟨x, rfl, ok⟩ : Ar.gN v W := gv
                clear hc tv
                go_simp
                go_at_call 21
                refine (raw13_any _ _ _ _ _ W).mono ?_
                rintro e w2 ⟨rfl, hb⟩
                exact hK.out _ _ (hB.on hb) hb (Ar.gD_node (ok.on hb))
              · refine ⟨rfl, rfl, fun a W K hc hB hK => ?_⟩
                have e10 := Ar.at_get ((hc.old 15 (Ar.slot_ne (by decide) (by decide))).trans (rfl : _ = some (Value.slice (some ⟨h + 1 + 1 + 1 + 1 + 1, 0, none⟩) 2 2)))
                clear hc
                go_simp
                exact hK.out _ _ hB (Below.refl _ _) hB.2.gk.2.2
              · refine ⟨rfl, rfl, fun a W K hc hB hK => ?_⟩
                obtain ⟨v, tv, gv⟩ := hc.dep ⟨9, .data⟩ (by simp) rfl
                have yv : a.tmps[148]? = some v := tv
                have ev := Ar.at_get yv
                obtain ⟨s, rfl, ok⟩ : Ar.gK v W := gv
                clear hc tv
                go_simp
                exact hK.out _ _ hB (Below.refl _ _) ⟨⟨1, ⟨#[]⟩, s⟩, rfl, Ar.nok_s (by omega) ok⟩
              · refine ⟨rfl, rfl, fun a W K hc hB hK => ?_⟩
                obtain ⟨v, tv, gv⟩ := hc.dep ⟨10, .data⟩ (by simp) rfl
                have yv : a.tmps[149]? = some v := tv
                have ev := Ar.at_get yv
                obtain ⟨x, rfl, ok⟩ : Ar.gN v W := gv
                clear hc tv
                go_simp
                go_at_call 21
                refine (raw13_any _ _ _ _ _ W).mono ?_
                rintro e w2 ⟨rfl, hb⟩
                exact hK.out _ _ (hB.on hb) hb (Ar.gD_node (ok.on hb))
              · refine ⟨rfl, rfl, fun a W K hc hB hK => ?_⟩
                have e10 := Ar.at_get ((hc.old 13 (Ar.slot_ne (by decide) (by decide))).trans (rfl : _ = some (Value.slice (some ⟨h + 1 + 1 + 1, 0, none⟩) 2 2)))
                clear hc
                go_simp
                exact hK.out _ _ hB (Below.refl _ _) hB.2.gk.1
              · refine ⟨rfl, rfl, fun a W K hc hB hK => ?_⟩
                obtain ⟨v, tv, gv⟩ := hc.dep ⟨12, .data⟩ (by simp) rfl
                have yv : a.tmps[151]? = some v := tv
                have ev := Ar.at_get yv
                obtain ⟨s, rfl, ok⟩ : Ar.gK v W := gv
                clear hc tv
                go_simp
                exact hK.out _ _ hB (Below.refl _ _) ⟨⟨2, ⟨#[]⟩, s⟩, rfl, Ar.nok_s (by omega) ok⟩
              · refine ⟨rfl, rfl, fun a W K hc hB hK => ?_⟩
                obtain ⟨v, tv, gv⟩ := hc.dep ⟨13, .data⟩ (by simp) rfl
                have yv : a.tmps[152]? = some v := tv
                have ev := Ar.at_get yv
                obtain ⟨x, rfl, ok⟩ : Ar.gN v W := gv
                clear hc tv
                go_simp
                go_at_call 21
                refine (raw13_any _ _ _ _ _ W).mono ?_
                rintro e w2 ⟨rfl, hb⟩
                exact hK.out _ _ (hB.on hb) hb (Ar.gD_node (ok.on hb))
              · refine ⟨rfl, rfl, fun a W K hc hB hK => ?_⟩
                clear hc
                go_simp
                exact hK.out _ _ (hB.on (Ar.al _ _)) (Ar.al _ _) ⟨_, _, [0, 2], rfl, N.vlit W (N.iv [0, 2]) _, by decide⟩
              · refine ⟨rfl, rfl, fun a W K hc hB hK => ?_⟩
                obtain ⟨v, tv, gv⟩ := hc.dep ⟨15, .data⟩ (by simp) rfl
                have yv : a.tmps[154]? = some v := tv
                have ev := Ar.at_get yv
                obtain ⟨ra, rc, rl, rfl, hr, hl⟩ : Ar.gI v W := gv
                clear hc tv
                go_simp
                go_at_call 22
                refine (inner13_any _ _ _ W).mono ?_
                rintro e w2 ⟨rfl, hb⟩
                exact hK.out _ _ (hB.on hb) hb (Ar.gD_plain (t := ⟨#[]⟩) (h := 0) (by decide) rfl hl (hr.below hb) (by decide))
              · refine ⟨rfl, rfl, fun a W K hc hB hK => ?_⟩
                clear hc
                go_simp
                exact hK.out _ _ (hB.on (Ar.al _ _)) (Ar.al _ _) ⟨_, _, [0, 1, 0, 1], rfl, N.vlit W (N.iv [0, 1, 0, 1]) _, by decide⟩
              · refine ⟨rfl, rfl, fun a W K hc hB hK => ?_⟩
                obtain ⟨v, tv, gv⟩ := hc.dep ⟨17, .data⟩ (by simp) rfl
                have yv : a.tmps[156]? = some v := tv
                have ev := Ar.at_get yv
                obtain ⟨ra, rc, rl, rfl, hr, hl⟩ : Ar.gI v W := gv
                clear hc tv
                go_simp
                go_at_call 22
                refine (inner13_any _ _ _ W).mono ?_
                rintro e w2 ⟨rfl, hb⟩
                exact hK.out _ _ (hB.on hb) hb (Ar.gD_plain (t := ⟨#[]⟩) (h := 0) (by decide) rfl hl (hr.below hb) (by decide))
              · refine ⟨rfl, rfl, fun a W K hc hB hK => ?_⟩
                clear hc
                go_simp
                exact hK.out _ _ (hB.on (Ar.al _ _)) (Ar.al _ _) ⟨_, _, [0, 1, 0, 1, 0], rfl, N.vlit W (N.iv [0, 1, 0, 1, 0]) _, by decide⟩
              · refine ⟨rfl, rfl, fun a W K hc hB hK => ?_⟩
                obtain ⟨v, tv, gv⟩ := hc.dep ⟨19, .data⟩ (by simp) rfl
                have yv : a.tmps[158]? = some v := tv
                have ev := Ar.at_get yv
                obtain ⟨ra, rc, rl, rfl, hr, hl⟩ : Ar.gI v W := gv
                clear hc tv
                go_simp
                go_at_call 22
                refine (inner13_any _ _ _ W).mono ?_
                rintro e w2 ⟨rfl, hb⟩
                exact hK.out _ _ (hB.on hb) hb (Ar.gD_plain (t := ⟨#[]⟩) (h := 0) (by decide) rfl hl (hr.below hb) (by decide))
              · refine ⟨rfl, rfl, fun a W K hc hB hK => ?_⟩
                clear hc
                go_simp
                exact hK.out _ _ (hB.on (Ar.al _ _)) (Ar.al _ _) ⟨_, _, [3, 3], rfl, N.vlit W (N.iv [3, 3]) _, by decide⟩
              · refine ⟨rfl, rfl, fun a W K hc hB hK => ?_⟩
                obtain ⟨v, tv, gv⟩ := hc.dep ⟨21, .data⟩ (by simp) rfl
                have yv : a.tmps[160]? = some v := tv
                have ev := Ar.at_get yv
                obtain ⟨ra, rc, rl, rfl, hr, hl⟩ : Ar.gI v W := gv
                clear hc tv
                go_simp
                go_at_call 22
                refine (inner13_any _ _ _ W).mono ?_
                rintro e w2 ⟨rfl, hb⟩
                exact hK.out _ _ (hB.on hb) hb (Ar.gD_plain (t := ⟨#[]⟩) (h := 0) (by decide) rfl hl (hr.below hb) (by decide))
              · refine ⟨rfl, rfl, fun a W K hc hB hK => ?_⟩
                clear hc
                go_simp
                exact hK.out _ _ (hB.on (Ar.al _ _)) (Ar.al _ _) ⟨_, _, [3, 0], rfl, N.vlit W (N.iv [3, 0]) _, by decide⟩
              · refine ⟨rfl, rfl, fun a W K hc hB hK => ?_⟩
                obtain ⟨v, tv, gv⟩ := hc.dep ⟨23, .data⟩ (by simp) rfl
                have yv : a.tmps[162]? = some v := tv
                have ev := Ar.at_get yv
                obtain ⟨ra, rc, rl, rfl, hr, hl⟩ : Ar.gI v W := gv
                clear hc tv
                go_simp
                go_at_call 22
                refine (inner13_any _ _ _ W).mono ?_
                rintro e w2 ⟨rfl, hb⟩
                exact hK.out _ _ (hB.on hb) hb (Ar.gD_plain (t := ⟨#[]⟩) (h := 0) (by decide) rfl hl (hr.below hb) (by decide))
              · refine ⟨rfl, rfl, fun a W K hc hB hK => ?_⟩
                clear hc
                go_simp
                go_at_call 23
                refine (free13_is 3 W).mono ?_
                rintro e w2 ⟨g2, c2, rfl, hb, hr⟩
                exact hK.out _ _ (hB.on hb) hb (Ar.gD_plain (t := ⟨#[]⟩) (l := [3]) (h := 0) (by decide) rfl (by decide) hr (by decide))
              · refine ⟨rfl, rfl, fun a W K hc hB hK => ?_⟩
                clear hc
                go_simp
                exact hK.out _ _ (hB.on (Ar.al _ _)) (Ar.al _ _) ⟨_, _, [3, 3], rfl, N.vlit W (N.iv [3, 3]) _, by decide⟩
              · refine ⟨rfl, rfl, fun a W K hc hB hK => ?_⟩
                obtain ⟨v, tv, gv⟩ := hc.dep ⟨26, .data⟩ (by simp) rfl
                have yv : a.tmps[165]? = some v := tv
                have ev := Ar.at_get yv
                obtain ⟨ra, rc, rl, rfl, hr, hl⟩ : Ar.gI v W := gv
                clear hc tv
                go_simp
                go_at_call 22
                refine (inner13_any _ _ _ W).mono ?_
                rintro e w2 ⟨rfl, hb⟩
                exact hK.out _ _ (hB.on hb) hb (Ar.gD_plain (t := ⟨#[]⟩) (h := 0) (by decide) rfl hl (hr.below hb) (by decide))
              · refine ⟨rfl, rfl, fun a W K hc hB hK => ?_⟩
                clear hc
                go_simp
                go_at_call 23
                refine (free13_is 0 W).mono ?_
                rintro e w2 ⟨g2, c2, rfl, hb, hr⟩
                exact hK.out _ _ (hB.on hb) hb (Ar.gD_plain (t := ⟨#[]⟩) (l := [0]) (h := 0) (by decide) rfl (by decide) hr (by decide))
              · refine ⟨rfl, rfl, fun a W K hc hB hK => ?_⟩
                clear hc
                go_simp
                exact hK.out _ _ (hB.on (Ar.al _ _)) (Ar.al _ _) ⟨_, _, [0, 1], rfl, N.vlit W (N.iv [0, 1]) _, by decide⟩
              · refine ⟨rfl, rfl, fun a W K hc hB hK => ?_⟩
                obtain ⟨v, tv, gv⟩ := hc.dep ⟨29, .data⟩ (by simp) rfl
                have yv : a.tmps[168]? = some v := tv
                have ev := Ar.at_get yv
                obtain ⟨ra, rc, rl, rfl, hr, hl⟩ : Ar.gI v W := gv
                clear hc tv
                go_simp
                go_at_call 22
                refine (inner13_any _ _ _ W).mono ?_
                rintro e w2 ⟨rfl, hb⟩
                exact hK.out _ _ (hB.on hb) hb (Ar.gD_plain (t := ⟨#[]⟩) (h := 0) (by decide) rfl hl (hr.below hb) (by decide))
              · refine ⟨rfl, rfl, fun a W K hc hB hK => ?_⟩
                clear hc
                go_simp
                go_at_call 23
                refine (free13_is 0 W).mono ?_
                rintro e w2 ⟨g2, c2, rfl, hb, hr⟩
                exact hK.out _ _ (hB.on hb) hb (Ar.gD_plain (t := ⟨#[]⟩) (l := [0]) (h := 0) (by decide) rfl (by decide) hr (by decide))
              · refine ⟨rfl, rfl, fun a W K hc hB hK => ?_⟩
                have e10 := Ar.at_get ((hc.old 10 (Ar.slot_ne (by decide) (by decide))).trans (rfl : _ = some (Value.pointer (some ⟨h, 0, none⟩))))
                have x0 := hB.2.leaf 0 _ rfl
                have x1 := hB.2.leaf 1 _ rfl
                have x2 := hB.2.leaf 2 _ rfl
                have x3 := hB.2.leaf 3 _ rfl
                have x4 := hB.2.leaf 4 _ rfl
                have x5 := hB.2.leaf 5 _ rfl
                have x6 := hB.2.leaf 6 _ rfl
                clear hc
                go_simp
                exact hK.out _ _ hB (Below.refl _ _) ⟨Ar.leafD, rfl, Ar.leaf_ok _⟩
              · refine ⟨rfl, rfl, fun a W K hc hB hK => ?_⟩
                have e10 := Ar.at_get ((hc.old 10 (Ar.slot_ne (by decide) (by decide))).trans (rfl : _ = some (Value.pointer (some ⟨h, 0, none⟩))))
                have x0 := hB.2.leaf 0 _ rfl
                have x1 := hB.2.leaf 1 _ rfl
                have x2 := hB.2.leaf 2 _ rfl
                have x3 := hB.2.leaf 3 _ rfl
                have x4 := hB.2.leaf 4 _ rfl
                have x5 := hB.2.leaf 5 _ rfl
                have x6 := hB.2.leaf 6 _ rfl
                clear hc
                go_simp
                exact hK.out _ _ hB (Below.refl _ _) ⟨Ar.leafD, rfl, Ar.leaf_ok _⟩
              · refine ⟨rfl, rfl, fun a W K hc hB hK => ?_⟩
                have e10 := Ar.at_get ((hc.old 10 (Ar.slot_ne (by decide) (by decide))).trans (rfl : _ = some (Value.pointer (some ⟨h, 0, none⟩))))
                have x0 := hB.2.leaf 0 _ rfl
                have x1 := hB.2.leaf 1 _ rfl
                have x2 := hB.2.leaf 2 _ rfl
                have x3 := hB.2.leaf 3 _ rfl
                have x4 := hB.2.leaf 4 _ rfl
                have x5 := hB.2.leaf 5 _ rfl
                have x6 := hB.2.leaf 6 _ rfl
                clear hc
                go_simp
                exact hK.out _ _ hB (Below.refl _ _) ⟨Ar.leafD, rfl, Ar.leaf_ok _⟩
              · refine ⟨rfl, rfl, fun a W K hc hB hK => ?_⟩
                have e10 := Ar.at_get ((hc.old 10 (Ar.slot_ne (by decide) (by decide))).trans (rfl : _ = some (Value.pointer (some ⟨h, 0, none⟩))))
                have x0 := hB.2.leaf 0 _ rfl
                have x1 := hB.2.leaf 1 _ rfl
                have x2 := hB.2.leaf 2 _ rfl
                have x3 := hB.2.leaf 3 _ rfl
                have x4 := hB.2.leaf 4 _ rfl
                have x5 := hB.2.leaf 5 _ rfl
                have x6 := hB.2.leaf 6 _ rfl
                clear hc
                go_simp
                exact hK.out _ _ hB (Below.refl _ _) ⟨Ar.leafD, rfl, Ar.leaf_ok _⟩
              · refine ⟨rfl, rfl, fun a W K hc hB hK => ?_⟩
                have e10 := Ar.at_get ((hc.old 10 (Ar.slot_ne (by decide) (by decide))).trans (rfl : _ = some (Value.pointer (some ⟨h, 0, none⟩))))
                have x0 := hB.2.leaf 0 _ rfl
                have x1 := hB.2.leaf 1 _ rfl
                have x2 := hB.2.leaf 2 _ rfl
                have x3 := hB.2.leaf 3 _ rfl
                have x4 := hB.2.leaf 4 _ rfl
                have x5 := hB.2.leaf 5 _ rfl
                have x6 := hB.2.leaf 6 _ rfl
                clear hc
                go_simp
                exact hK.out _ _ hB (Below.refl _ _) ⟨Ar.leafD, rfl, Ar.leaf_ok _⟩
              · refine ⟨rfl, rfl, fun a W K hc hB hK => ?_⟩
                clear hc
                go_simp
                exact hK.out _ _ hB (Below.refl _ _) (Ar.gD_plain (t := ⟨#[]⟩) (l := []) (h := 65536) (by decide) rfl (by decide) (Ar.row0 _ _) (by decide))
              · refine ⟨rfl, rfl, fun a W K hc hB hK => ?_⟩
                clear hc
                go_simp
                exact hK.out _ _ hB (Below.refl _ _) (Ar.gD_plain (t := ⟨#[]⟩) (l := []) (h := 0) (by decide) rfl (by decide) (Ar.row0 _ _) (by decide))
              · refine ⟨rfl, rfl, fun a W K hc hB hK => ?_⟩
                clear hc
                go_simp
                exact hK.out _ _ (hB.on (Ar.al _ _)) (Ar.al _ _) ⟨_, _, [0], rfl, N.vlit W (N.iv [0]) _, by decide⟩
              · refine ⟨rfl, rfl, fun a W K hc hB hK => ?_⟩
                obtain ⟨v, tv, gv⟩ := hc.dep ⟨39, .data⟩ (by simp) rfl
                have yv : a.tmps[178]? = some v := tv
                have ev := Ar.at_get yv
                obtain ⟨ra, rc, rl, rfl, hr, hl⟩ : Ar.gI v W := gv
                clear hc tv
                go_simp
                exact hK.out _ _ hB (Below.refl _ _) (Ar.gD_plain (t := ⟨#[]⟩) (h := 0) (by decide) rfl hl hr (by decide))
              · refine ⟨rfl, rfl, fun a W K hc hB hK => ?_⟩
                clear hc
                go_simp
                exact hK.out _ _ (hB.on (Ar.al _ _)) (Ar.al _ _) ⟨_, _, [1], rfl, N.vlit W (N.iv [1]) _, by decide⟩
              · refine ⟨rfl, rfl, fun a W K hc hB hK => ?_⟩
                obtain ⟨v, tv, gv⟩ := hc.dep ⟨41, .data⟩ (by simp) rfl
                have yv : a.tmps[180]? = some v := tv
                have ev := Ar.at_get yv
                obtain ⟨ra, rc, rl, rfl, hr, hl⟩ : Ar.gI v W := gv
                clear hc tv
                go_simp
                exact hK.out _ _ hB (Below.refl _ _) (Ar.gD_plain (t := ⟨#[]⟩) (h := 0) (by decide) rfl hl hr (by decide))
              · refine ⟨rfl, rfl, fun a W K hc hB hK => ?_⟩
                obtain ⟨v0, t0, g0⟩ := hc.dep ⟨0, .data⟩ (by simp) rfl
                have e0 := Ar.at_get (show a.tmps[139]? = some v0 from t0)
                obtain ⟨d0, rfl, o0⟩ : Ar.gD v0 W := g0
                clear t0
                obtain ⟨v1, t1, g1⟩ := hc.dep ⟨1, .data⟩ (by simp) rfl
                have e1 := Ar.at_get (show a.tmps[140]? = some v1 from t1)
                obtain ⟨d1, rfl, o1⟩ : Ar.gD v1 W := g1
                clear t1
                obtain ⟨v2, t2, g2⟩ := hc.dep ⟨2, .data⟩ (by simp) rfl
                have e2 := Ar.at_get (show a.tmps[141]? = some v2 from t2)
                obtain ⟨d2, rfl, o2⟩ : Ar.gD v2 W := g2
                clear t2
                obtain ⟨v3, t3, g3⟩ := hc.dep ⟨5, .data⟩ (by simp) rfl
                have e3 := Ar.at_get (show a.tmps[144]? = some v3 from t3)
                obtain ⟨d3, rfl, o3⟩ : Ar.gD v3 W := g3
                clear t3
                obtain ⟨v4, t4, g4⟩ := hc.dep ⟨8, .data⟩ (by simp) rfl
                have e4 := Ar.at_get (show a.tmps[147]? = some v4 from t4)
                obtain ⟨d4, rfl, o4⟩ : Ar.gD v4 W := g4
                clear t4
                obtain ⟨v5, t5, g5⟩ := hc.dep ⟨11, .data⟩ (by simp) rfl
                have e5 := Ar.at_get (show a.tmps[150]? = some v5 from t5)
                obtain ⟨d5, rfl, o5⟩ : Ar.gD v5 W := g5
                clear t5
                obtain ⟨v6, t6, g6⟩ := hc.dep ⟨14, .data⟩ (by simp) rfl
                have e6 := Ar.at_get (show a.tmps[153]? = some v6 from t6)
                obtain ⟨d6, rfl, o6⟩ : Ar.gD v6 W := g6
                clear t6
                obtain ⟨v7, t7, g7⟩ := hc.dep ⟨16, .data⟩ (by simp) rfl
                have e7 := Ar.at_get (show a.tmps[155]? = some v7 from t7)
                obtain ⟨d7, rfl, o7⟩ : Ar.gD v7 W := g7
                clear t7
                obtain ⟨v8, t8, g8⟩ := hc.dep ⟨18, .data⟩ (by simp) rfl
                have e8 := Ar.at_get (show a.tmps[157]? = some v8 from t8)
                obtain ⟨d8, rfl, o8⟩ : Ar.gD v8 W := g8
                clear t8
                obtain ⟨v9, t9, g9⟩ := hc.dep ⟨20, .data⟩ (by simp) rfl
                have e9 := Ar.at_get (show a.tmps[159]? = some v9 from t9)
                obtain ⟨d9, rfl, o9⟩ : Ar.gD v9 W := g9
                clear t9
                obtain ⟨v10, t10, g10⟩ := hc.dep ⟨22, .data⟩ (by simp) rfl
                have e10 := Ar.at_get (show a.tmps[161]? = some v10 from t10)
                obtain ⟨d10, rfl, o10⟩ : Ar.gD v10 W := g10
                clear t10
                obtain ⟨v11, t11, g11⟩ := hc.dep ⟨24, .data⟩ (by simp) rfl
                have e11 := Ar.at_get (show a.tmps[163]? = some v11 from t11)
                obtain ⟨d11, rfl, o11⟩ : Ar.gD v11 W := g11
                clear t11
                obtain ⟨v12, t12, g12⟩ := hc.dep ⟨25, .data⟩ (by simp) rfl
                have e12 := Ar.at_get (show a.tmps[164]? = some v12 from t12)
                obtain ⟨d12, rfl, o12⟩ : Ar.gD v12 W := g12
                clear t12
                obtain ⟨v13, t13, g13⟩ := hc.dep ⟨27, .data⟩ (by simp) rfl
                have e13 := Ar.at_get (show a.tmps[166]? = some v13 from t13)
                obtain ⟨d13, rfl, o13⟩ : Ar.gD v13 W := g13
                clear t13
                obtain ⟨v14, t14, g14⟩ := hc.dep ⟨28, .data⟩ (by simp) rfl
                have e14 := Ar.at_get (show a.tmps[167]? = some v14 from t14)
                obtain ⟨d14, rfl, o14⟩ : Ar.gD v14 W := g14
                clear t14
                obtain ⟨v15, t15, g15⟩ := hc.dep ⟨30, .data⟩ (by simp) rfl
                have e15 := Ar.at_get (show a.tmps[169]? = some v15 from t15)
                obtain ⟨d15, rfl, o15⟩ : Ar.gD v15 W := g15
                clear t15
                obtain ⟨v16, t16, g16⟩ := hc.dep ⟨31, .data⟩ (by simp) rfl
                have e16 := Ar.at_get (show a.tmps[170]? = some v16 from t16)
                obtain ⟨d16, rfl, o16⟩ : Ar.gD v16 W := g16
                clear t16
                obtain ⟨v17, t17, g17⟩ := hc.dep ⟨32, .data⟩ (by simp) rfl
                have e17 := Ar.at_get (show a.tmps[171]? = some v17 from t17)
                obtain ⟨d17, rfl, o17⟩ : Ar.gD v17 W := g17
                clear t17
                obtain ⟨v18, t18, g18⟩ := hc.dep ⟨33, .data⟩ (by simp) rfl
                have e18 := Ar.at_get (show a.tmps[172]? = some v18 from t18)
                obtain ⟨d18, rfl, o18⟩ : Ar.gD v18 W := g18
                clear t18
                obtain ⟨v19, t19, g19⟩ := hc.dep ⟨34, .data⟩ (by simp) rfl
                have e19 := Ar.at_get (show a.tmps[173]? = some v19 from t19)
                obtain ⟨d19, rfl, o19⟩ : Ar.gD v19 W := g19
                clear t19
                obtain ⟨v20, t20, g20⟩ := hc.dep ⟨35, .data⟩ (by simp) rfl
                have e20 := Ar.at_get (show a.tmps[174]? = some v20 from t20)
                obtain ⟨d20, rfl, o20⟩ : Ar.gD v20 W := g20
                clear t20
                obtain ⟨v21, t21, g21⟩ := hc.dep ⟨36, .data⟩ (by simp) rfl
                have e21 := Ar.at_get (show a.tmps[175]? = some v21 from t21)
                obtain ⟨d21, rfl, o21⟩ : Ar.gD v21 W := g21
                clear t21
                obtain ⟨v22, t22, g22⟩ := hc.dep ⟨37, .data⟩ (by simp) rfl
                have e22 := Ar.at_get (show a.tmps[176]? = some v22 from t22)
                obtain ⟨d22, rfl, o22⟩ : Ar.gD v22 W := g22
                clear t22
                obtain ⟨v23, t23, g23⟩ := hc.dep ⟨38, .data⟩ (by simp) rfl
                have e23 := Ar.at_get (show a.tmps[177]? = some v23 from t23)
                obtain ⟨d23, rfl, o23⟩ : Ar.gD v23 W := g23
                clear t23
                obtain ⟨v24, t24, g24⟩ := hc.dep ⟨40, .data⟩ (by simp) rfl
                have e24 := Ar.at_get (show a.tmps[179]? = some v24 from t24)
                obtain ⟨d24, rfl, o24⟩ : Ar.gD v24 W := g24
                clear t24
                obtain ⟨v25, t25, g25⟩ := hc.dep ⟨42, .data⟩ (by simp) rfl
                have e25 := Ar.at_get (show a.tmps[181]? = some v25 from t25)
                obtain ⟨d25, rfl, o25⟩ : Ar.gD v25 W := g25
                clear t25
                clear hc
                refine Ar.hop_deeds rfl [d0, d1, d2, d3, d4, d5, d6, d7, d8, d9, d10, d11, d12, d13, d14, d15, d16, d17, d18, d19, d20, d21, d22, d23, d24, d25] rfl ?_ (fun d hd => ?_) (fun r hr => hK.out _ _ (hB.on (Ar.al _ _)) (Ar.al _ _) hr)
                · rw [Array.toList_map]
                  show [(0, a.tmps.getD 139 undef), (1, a.tmps.getD 140 undef), (2, a.tmps.getD 141 undef), (3, a.tmps.getD 144 undef), (4, a.tmps.getD 147 undef), (5, a.tmps.getD 150 undef), (6, a.tmps.getD 153 undef), (7, a.tmps.getD 155 undef), (8, a.tmps.getD 157 undef), (9, a.tmps.getD 159 undef), (10, a.tmps.getD 161 undef), (11, a.tmps.getD 163 undef), (12, a.tmps.getD 164 undef), (13, a.tmps.getD 166 undef), (14, a.tmps.getD 167 undef), (15, a.tmps.getD 169 undef), (16, a.tmps.getD 170 undef), (17, a.tmps.getD 171 undef), (18, a.tmps.getD 172 undef), (19, a.tmps.getD 173 undef), (20, a.tmps.getD 174 undef), (21, a.tmps.getD 175 undef), (22, a.tmps.getD 176 undef), (23, a.tmps.getD 177 undef), (24, a.tmps.getD 179 undef), (25, a.tmps.getD 181 undef)] = [(0, d0.v), (1, d1.v), (2, d2.v), (3, d3.v), (4, d4.v), (5, d5.v), (6, d6.v), (7, d7.v), (8, d8.v), (9, d9.v), (10, d10.v), (11, d11.v), (12, d12.v), (13, d13.v), (14, d14.v), (15, d15.v), (16, d16.v), (17, d17.v), (18, d18.v), (19, d19.v), (20, d20.v), (21, d21.v), (22, d22.v), (23, d23.v), (24, d24.v), (25, d25.v)]
                  rw [e0, e1, e2, e3, e4, e5, e6, e7, e8, e9, e10, e11, e12, e13, e14, e15, e16, e17, e18, e19, e20, e21, e22, e23, e24, e25]
                · simp only [List.mem_cons, List.not_mem_nil, or_false] at hd
                  rcases hd with rfl | rfl | rfl | rfl | rfl | rfl | rfl | rfl | rfl | rfl | rfl | rfl | rfl | rfl | rfl | rfl | rfl | rfl | rfl | rfl | rfl | rfl | rfl | rfl | rfl | rfl
                  · exact o0
                  · exact o1
                  · exact o2
                  · exact o3
                  · exact o4
                  · exact o5
                  · exact o6
                  · exact o7
                  · exact o8
                  · exact o9
                  · exact o10
                  · exact o11
                  · exact o12
                  · exact o13
                  · exact o14
                  · exact o15
                  · exact o16
                  · exact o17
                  · exact o18
                  · exact o19
                  · exact o20
                  · exact o21
                  · exact o22
                  · exact o23
                  · exact o24
                  · exact o25
              · refine ⟨rfl, rfl, fun a W K hc hB hK => ?_⟩
                obtain ⟨v, tv, gv⟩ := hc.dep ⟨43, .data⟩ (by simp) rfl
                have yv : a.tmps[182]? = some v := tv
                have ev := Ar.at_get yv
                obtain ⟨s, rfl, ok⟩ : Ar.gS v W := gv
                clear hc tv
                go_simp
                exact hK.out _ _ hB (Below.refl _ _) ⟨s, rfl, ok⟩
            · intro vs W hB hG
              obtain ⟨s, hs, ok⟩ : Ar.gS (vs 44) W := hG 44 (by decide)
              have R := Lib.hid (And.intro hB ok)
              clear hB hG ok
              rw [Ar.fill45, hs]
              generalize vs 0 = q0
              generalize vs 1 = q1
              generalize vs 2 = q2
              generalize vs 3 = q3
              generalize vs 4 = q4
              generalize vs 5 = q5
              generalize vs 6 = q6
              generalize vs 7 = q7
              generalize vs 8 = q8
              generalize vs 9 = q9
              generalize vs 10 = q10
              generalize vs 11 = q11
              generalize vs 12 = q12
              generalize vs 13 = q13
              generalize vs 14 = q14
              generalize vs 15 = q15
              generalize vs 16 = q16
              generalize vs 17 = q17
              generalize vs 18 = q18
              generalize vs 19 = q19
              generalize vs 20 = q20
              generalize vs 21 = q21
              generalize vs 22 = q22
              generalize vs 23 = q23
              generalize vs 24 = q24
              generalize vs 25 = q25
              generalize vs 26 = q26
              generalize vs 27 = q27
              generalize vs 28 = q28
              generalize vs 29 = q29
              generalize vs 30 = q30
              generalize vs 31 = q31
              generalize vs 32 = q32
              generalize vs 33 = q33
              generalize vs 34 = q34
              generalize vs 35 = q35
              generalize vs 36 = q36
              generalize vs 37 = q37
              generalize vs 38 = q38
              generalize vs 39 = q39
              generalize vs 40 = q40
              generalize vs 41 = q41
              generalize vs 42 = q42
              generalize vs 43 = q43
              simp only [Act.put, List.setIfInBounds_toArray, List.set_cons_zero, List.set_cons_succ]
              go_wp2_with fail
              go_meet
              case rel => exact ⟨s, rfl, R⟩
          case rest =>
          obtain ⟨s, rfl, hS⟩ := hcut
          obtain ⟨w10, rfl⟩ : ∃ w10 : World, w10 = wc := ⟨_, rfl⟩
          clear hE
          go_wp2
          go_loopw [18] (fun u wx => ∃ j : Nat, j ≤ 3 ∧ u = .int .i64 j ∧ Hid (Ar.ExB w h wx ∧ Ar.ArgOk wx s)) (fun u _ => 3 - (intOf u).toNat)
          case atStart => exact ⟨0, by omega, rfl, hS⟩
          case round =>
            clear hS
            obtain ⟨j, hj, rfl, hX⟩ := hrel
            by_cases hlj : j < 3
            · have hjI : (j : Int) < 3 := by omega
              have J0 : Hid (j < 3) := hlj
              clear hj hlj
              go_wp2_with fail
              refine (HP.out (n : Int) (j : Int) s _ (by have := N0.out; omega) (by have := J0.out; omega) hX.out.2).mono ?_
              rintro e w11 ⟨rfl, hb⟩
              have X2 : Hid (Ar.ExB w h w11 ∧ Ar.ArgOk w11 s) := ⟨hX.out.1.on hb, hX.out.2.on hb⟩
              clear hb hX
              go_wp2
              go_roundw
              case rel => exact ⟨j + 1, by have := J0.out; omega, by go_num, X2⟩
              case measure => have := J0.out; simp [intOf]; omega
            · obtain rfl : j = 3 := by omega
              have E3 : Hid (Ar.ExB w h wr) := hX.out.1
              clear hX hj hlj
              go_wp2
              go_roundw
              case rel => exact ⟨n + 1, by have := N0.out; omega, by have := N0.out; omega, by go_num, E3⟩
              case measure => have := N0.out; simp [intOf]; omega
        · obtain rfl : n = 8 := by omega
          rw [show ((8 : Nat) : Int) = 8 from rfl]
          have B8 := Lib.hid hE.out.1
          clear hE hn1 hn8 hln
          go_wp2_with fail
          refine (HK.out _).mono ?_
          rintro e w12 ⟨rfl, hb⟩
          have BZ := Lib.hid (Ar.bt B8.out hb)
          clear hb B8
          go_wp2
          go_ret
          exact ⟨rfl, BZ.out⟩
end Go.Proofs.Ytniccjbcchdkoaa
