/- Texts joined: ShiftMove ShiftPos ShiftRest -/
import Derived.Test.YtmbgcbgbdjiacaaPackQs
import Derived.Test.YtmbgcbgbdjiacaaShiftRaw
import Derived.Test.YtmbgcbgbdjiacaaDeltaLen
/- ShiftMove -/
namespace Go.Proofs.Ytmbgcbgbdjiacaa
open Go.RowKit

def D.mvE (a : List D.Q) (p g : Int) : Int := if 1 < g then 2 else if p < 0 ∨ (D.inL a : Int) < p then 3 else 0
def D.mvV (a : List D.Q) (p g : Int) : Int := if D.mvE a p g = 0 then (if g = 0 then (D.lft a p.toNat : Int) else (D.rgt a p.toNat : Int)) else 0
def S.MoveEnd (a : List D.Q) (p g : Int) (w : World) (e : Ending) (w' : World) : Prop := e = .returned (.tuple #[.int .i64 (D.mvV a p g), .int .i64 (D.mvE a p g)]) ∧ Below w.heap.size w w'
theorem S.move_end {a : List D.Q} {p g v k : Int} {w w' : World} (h : D.mvE a p g = k) (hv : D.mvV a p g = v) (hb : Below w.heap.size w w') : S.MoveEnd a p g w (.returned (.tuple #[.int .i64 v, .int .i64 k])) w' := ⟨by rw [h, hv], hb⟩
theorem D.mvV_bad {a : List D.Q} {p g : Int} (h : D.mvE a p g ≠ 0) : D.mvV a p g = 0 := if_neg h
/-- An iterator over the ranges of a, whatever was made since. -/
def S.Src (w : World) (gf : Nat) (lb : Array Value) (a : List D.Q) : Prop := ∀ W q, Below w.heap.size w W → w.heap.size ≤ q → q < W.heap.size → It.Seq Try.prog gf lb S.encs (fun k => k = q) (D.spans 0 0 a) W
theorem S.ask_left (gf : Nat) (lb : Array Value) (heg : ∀ args w, (callFunc gf args).run Try.prog w = .ok (.enter gf args) w) (a : List D.Q) (hp : D.allPos a = true) (hi : D.inL a ≤ 1048576) (ho : D.outL a ≤ 1048576) (w W : World) (hs : S.Src w gf lb a) (hb : Below w.heap.size w W) (q p : Nat) (hq : w.heap.size ≤ q) (h : S.Pos q p 0 W) (hpb : p ≤ 1048576) :
    Calls Try.prog 92 #[.func (.func gf) #[] lb, .func (.func 93) #[.pointer (some ⟨q, 0, none⟩)] #[]] W fun e W' => (∃ v, e = .returned v) ∧ S.Pos q p (D.lft a p) W' ∧ Below q W W' := by
  have := ask_any gf 93 q lb heg (enters_of Try.func93 (by kernel_rfl) rfl) (D.spans 0 0 a) (D.stL p) (fun m V => S.Pos q p m V) 0 W W (Below.refl _ _) (hs W q hb hq h.lt) h.lt (It.stable_block _ h.lt)
    (fun m x V hx hP => left_any q p m x V hP hpb (D.spans_bd a 0 0 x hx).1 (by have := D.spans_bd a 0 0 x hx; omega) (by have := D.spans_bd a 0 0 x hx; omega)) h
  rwa [D.asks_lft a hp p] at this
theorem S.ask_right (gf : Nat) (lb : Array Value) (heg : ∀ args w, (callFunc gf args).run Try.prog w = .ok (.enter gf args) w) (a : List D.Q) (hp : D.allPos a = true) (hi : D.inL a ≤ 1048576) (ho : D.outL a ≤ 1048576) (w W : World) (hs : S.Src w gf lb a) (hb : Below w.heap.size w W) (q p : Nat) (hq : w.heap.size ≤ q) (h : S.Pos q p (D.outL a) W) (hpb : p ≤ 1048576) :
    Calls Try.prog 92 #[.func (.func gf) #[] lb, .func (.func 94) #[.pointer (some ⟨q, 0, none⟩)] #[]] W fun e W' => (∃ v, e = .returned v) ∧ S.Pos q p (D.rgt a p) W' ∧ Below q W W' := by
  have := ask_any gf 94 q lb heg (enters_of Try.func94 (by kernel_rfl) rfl) (D.spans 0 0 a) (D.stR p) (fun m V => S.Pos q p m V) (D.outL a) W W (Below.refl _ _) (hs W q hb hq h.lt) h.lt (It.stable_block _ h.lt)
    (fun m x V hx hP => right_any q p m x V hP hpb (D.spans_bd a 0 0 x hx).1 (by have := D.spans_bd a 0 0 x hx; omega) (by have := D.spans_bd a 0 0 x hx; omega)) h
  rwa [D.asks_rgt a hp p] at this
set_option maxRecDepth 100000 in
set_option maxHeartbeats 2000000 in
theorem move_any (gf : Nat) (lb : Array Value) (heg : ∀ args w, (callFunc gf args).run Try.prog w = .ok (.enter gf args) w) (a : List D.Q) (hp : D.allPos a = true) (hi : D.inL a ≤ 1048576) (ho : D.outL a ≤ 1048576) (w : World) (hs : S.Src w gf lb a) (p g : Int) (g0 : 0 ≤ g) :
    Calls Try.prog 64 #[.func (.func gf) #[] lb, .int .i64 p, .int .u8 g, .int .i64 (D.inL a), .int .i64 (D.outL a)] w (S.MoveEnd a p g w) := by
  have HL := Lib.hid (S.ask_left gf lb heg a hp hi ho w)
  have HR := Lib.hid (S.ask_right gf lb heg a hp hi ho w)
  have HS := Lib.hid hs
  clear heg hs hp
  by_cases hg : 1 < g
  · have R1 : Hid (∀ w', Below w.heap.size w w' → S.MoveEnd a p g w (.returned (.tuple #[.int .i64 0, .int .i64 2])) w') := fun w' h => S.move_end (if_pos hg) (D.mvV_bad (by rw [show D.mvE a p g = 2 from if_pos hg]; decide)) h
    have q0 : (g != 0) = true := by simp; omega
    have q1 : (g != 1) = true := by simp; omega
    clear HL HR HS
    generalize D.inL a = n at hi
    generalize D.outL a = m at ho
    go_enter Try.func64, Try.ntmps64
    go_wp2
    go_ret2
    exact R1.out _ (Below.refl _ _)
  · by_cases hr : p < 0 ∨ (D.inL a : Int) < p
    · have e3 : D.mvE a p g = 3 := by unfold D.mvE; rw [if_neg hg, if_pos hr]
      have R1 : Hid (∀ w', Below w.heap.size w w' → S.MoveEnd a p g w (.returned (.tuple #[.int .i64 0, .int .i64 3])) w') := fun w' h => S.move_end e3 (D.mvV_bad (by rw [e3]; decide)) h
      clear HL HR HS e3
      generalize D.inL a = n at hi hr
      generalize D.outL a = m at ho
      have h01 : g = 0 ∨ g = 1 := by omega
      rcases hr with hr | hr
      all_goals
        rcases h01 with rfl | rfl
        all_goals
          try (have hr2 : ¬ p < 0 := by omega)
          go_enter Try.func64, Try.ntmps64
          go_wp2
          go_ret2
          exact R1.out _ (Below.refl _ _)
    · have e0 : D.mvE a p g = 0 := by unfold D.mvE; rw [if_neg hg, if_neg hr]
      have p0 : 0 ≤ p := by omega
      have p1 : p ≤ (D.inL a : Int) := by omega
      obtain ⟨k, rfl⟩ := Int.eq_ofNat_of_zero_le p0
      have hkb : k ≤ 1048576 := by omega
      have hN : S.Pos w.heap.size k 0 (w.alloc (.cells #[.int .i64 k, .int .i64 0] 128)) := World.alloc_heap_new w _
      have hB : Below w.heap.size w (w.alloc (.cells #[.int .i64 k, .int .i64 0] 128)) := (Below.refl _ _).alloc (Nat.le_refl _) _
      have h01 : g = 0 ∨ g = 1 := by omega
      rcases h01 with rfl | rfl
      · have H := Lib.hid (HL.out _ HS.out hB w.heap.size k (Nat.le_refl _) hN hkb)
        have R1 : Hid (∀ w', Below w.heap.size w w' → S.MoveEnd a k 0 w (.returned (.tuple #[.int .i64 (D.lft a k : Nat), .int .i64 0])) w') := fun w' h => S.move_end e0 (by unfold D.mvV; rw [if_pos e0, if_pos rfl]; rfl) h
        have HB := Lib.hid hB
        clear HL HR HS hN hB e0 hr hg
        generalize D.inL a = n at hi p1
        generalize D.outL a = m at ho
        generalize D.lft a k = z at H R1
        have p2 : ¬ (k : Int) < 0 := by omega
        have p3 : ¬ (n : Int) < (k : Int) := by omega
        clear p0 p1
        go_enter Try.func64, Try.ntmps64
        go_wp2_with fail
        refine H.out.mono ?_
        rintro e w1 ⟨⟨v, rfl⟩, hP, hb⟩
        have R2 := Lib.hid (R1.out w1 (HB.out.trans hb))
        obtain ⟨c0, c1, cf⟩ := hP.cells
        clear hP hb
        go_wp2
        go_ret2
        exact R2.out
      · have H := Lib.hid (HR.out _ HS.out ((Below.refl _ _).alloc (Nat.le_refl _) _) w.heap.size k (Nat.le_refl _) (World.alloc_heap_new w (.cells #[.int .i64 k, .int .i64 (D.outL a : Nat)] 128)) hkb)
        have R1 : Hid (∀ w', Below w.heap.size w w' → S.MoveEnd a k 1 w (.returned (.tuple #[.int .i64 (D.rgt a k : Nat), .int .i64 0])) w') := fun w' h => S.move_end e0 (by unfold D.mvV; rw [if_pos e0, if_neg (by decide)]; rfl) h
        have HB := Lib.hid ((Below.refl w.heap.size w).alloc (Nat.le_refl _) (.cells #[.int .i64 k, .int .i64 (D.outL a : Nat)] 128))
        clear HL HR HS hN hB e0 hr hg
        generalize D.inL a = n at hi p1
        generalize D.outL a = m at ho H HB
        generalize D.rgt a k = z at H R1
        have p2 : ¬ (k : Int) < 0 := by omega
        have p3 : ¬ (n : Int) < (k : Int) := by omega
        clear p0 p1
        go_enter Try.func64, Try.ntmps64
        go_wp2_with fail
        refine H.out.mono ?_
        rintro e w1 ⟨⟨v, rfl⟩, hP, hb⟩
        have R2 := Lib.hid (R1.out w1 (HB.out.trans hb))
        obtain ⟨c0, c1, cf⟩ := hP.cells
        clear hP hb
        go_wp2
        go_ret2
        exact R2.out
end Go.Proofs.Ytmbgcbgbdjiacaa
/- ShiftPos -/
namespace Go.Proofs.Ytmbgcbgbdjiacaa
open Go.RowKit

/-- The iterator over a valid delta's pieces, and the one that swaps them. -/
theorem S.src_pieces {w w1 : World} {ao : Option Addr} {cap : Nat} {a : List D.Q} (hr : D.Row w ao (a.map D.raw)) (hb : Below w.heap.size w w1) (hp : D.allPos a = true) (hi : D.inL a ≤ 1048576) (ho : D.outL a ≤ 1048576) (hl : a.length ≤ 4096) :
    S.Src (w1.alloc (.cells #[.slice ao a.length cap] 39)) 95 #[.pointer (some ⟨w1.heap.size, 0, none⟩)] a := fun W q hW hq hlt => by
  have hs := hb.size
  have hc : W.cell? ⟨w1.heap.size, 0, none⟩ = some (.slice ao a.length cap) := (hW.cell (p := ⟨w1.heap.size, 0, none⟩) (by simp)).trans (Lib.cell_of_heap (World.alloc_heap_new w1 _) 0)
  simp only [World.size_alloc] at hq
  refine pieces_seq w1.heap.size ao cap a _ W hc (hr.below (hb.trans (((Below.refl w1.heap.size w1).alloc (Nat.le_refl _) _).mono hs) |>.trans (hW.mono (by simp; omega)))) ?_ (fun k h => by subst h; exact hlt) hp hi ho hl
  rintro b o e hne rfl
  cases hm : a.map D.raw with
  | nil => exact hne hm
  | cons p r =>
    obtain ⟨b', o', e', hlt', _⟩ := hr 0 p (by rw [hm]; rfl)
    rw [e] at e'
    cases e'
    omega
theorem D.swp_in (a : List D.Q) : D.inL (D.swp a) = D.outL a := (D.swp_len a).1
theorem D.swp_out (a : List D.Q) : D.outL (D.swp a) = D.inL a := (D.swp_len a).2
theorem D.mv_pos {x : List D.P} (h : D.chk x = 0) (p g : Int) : D.posE x p g = D.mvE (D.qs x) p g ∧ D.posV x p g = D.mvV (D.qs x) p g := by
  have e : D.posE x p g = D.mvE (D.qs x) p g := if_pos h
  exact ⟨e, by unfold D.posV D.mvV; rw [e]⟩
theorem D.mv_bck {x : List D.P} (h : D.chk x = 0) (p g : Int) : D.bckE x p g = D.mvE (D.swp (D.qs x)) p g ∧ D.bckV x p g = D.mvV (D.swp (D.qs x)) p g := by
  have e : D.bckE x p g = D.mvE (D.swp (D.qs x)) p g := by unfold D.bckE D.mvE; rw [if_pos h, D.swp_in]
  exact ⟨e, by unfold D.bckV D.mvV; rw [e]⟩
def S.PosEnd (x : List D.P) (p g : Int) (w : World) (e : Ending) (w' : World) : Prop := e = .returned (.tuple #[.int .i64 (D.posV x p g), .int .i64 (D.posE x p g)]) ∧ Below w.heap.size w w'
def S.BckEnd (x : List D.P) (p g : Int) (w : World) (e : Ending) (w' : World) : Prop := e = .returned (.tuple #[.int .i64 (D.bckV x p g), .int .i64 (D.bckE x p g)]) ∧ Below w.heap.size w w'
set_option maxRecDepth 100000 in
set_option maxHeartbeats 2000000 in
theorem position_any (ao : Option Addr) (c : Nat) (x : List D.P) (p g : Int) (g0 : 0 ≤ g) (w : World) (hr : D.Row w ao x) (hx : D.Bd x) :
    Calls Try.prog 40 #[.slice ao x.length c, .int .i64 p, .int .u8 g] w (S.PosEnd x p g w) := by
  have H1 := Lib.hid (lengths_any ao c x w hx.1 hr hx.2)
  unfold D.LenEnd at H1
  by_cases h0 : D.chk x = 0
  · obtain ⟨hx2, pa, _, bl, bi, bo⟩ := D.valid_qs h0
    obtain ⟨m1, m2⟩ := D.mv_pos h0 p g
    obtain ⟨l1, l2⟩ := D.len_qs h0
    rw [h0, l1, l2] at H1
    obtain ⟨a, ha⟩ : ∃ a, D.qs x = a := ⟨_, rfl⟩
    rw [ha] at hx2 pa bi bo l1 l2 m1 m2 H1
    have hr' : D.Row w ao (a.map D.raw) := by rw [hx2]; exact hr
    have hlen : x.length = a.length := by rw [← hx2, List.length_map]
    rw [hlen] at H1 bl ⊢
    have HM : Hid (∀ W gf lb, (∀ args w, (callFunc gf args).run Try.prog w = .ok (.enter gf args) w) → S.Src W gf lb a → Calls Try.prog 64 #[.func (.func gf) #[] lb, .int .i64 p, .int .u8 g, .int .i64 (D.inL a), .int .i64 (D.outL a)] W (S.MoveEnd a p g W)) := fun W gf lb he hs => by
      have := move_any gf lb he a pa bi bo W hs p g g0
      exact this
    have R1 : Hid (∀ w', Below w.heap.size w w' → S.PosEnd x p g w (.returned (.tuple #[.int .i64 (D.mvV a p g), .int .i64 (D.mvE a p g)])) w') := fun w' h => ⟨by rw [m1, m2], h⟩
    have HX := Lib.hid (And.intro hr' (And.intro pa (And.intro bi (And.intro bo bl))))
    clear hx2 pa bl l1 l2 m1 m2 hr hr' hx h0 ha hlen
    go_enter Try.func40, Try.ntmps40
    go_wp2_with fail
    refine H1.out.mono ?_
    rintro e w1 ⟨rfl, hb⟩
    obtain ⟨hr', pa, bi2, bo2, bl⟩ := HX.out
    have HS := Lib.hid (S.src_pieces (w1 := w1) (cap := c) hr' hb pa bi2 bo2 bl)
    have HB := Lib.hid ((hb.trans (((Below.refl w1.heap.size w1).alloc (Nat.le_refl _) (.cells #[.slice ao a.length c] 39)).mono hb.size)))
    clear hb hr' pa bi2 bo2 bl
    go_wp2_with fail
    refine (pieces_any _ _ _ _).mono ?_
    rintro e w2 ⟨rfl, rfl⟩
    go_wp2_with fail
    refine (HM.out _ _ _ (enters_of Try.func95 (by kernel_rfl) rfl) HS.out).mono ?_
    rintro e w4 ⟨rfl, hb⟩
    have R2 := Lib.hid (R1.out _ (HB.out.trans (hb.mono HB.out.size)))
    clear hb
    generalize D.mvE a p g = k1 at R2 ⊢
    generalize D.mvV a p g = k2 at R2 ⊢
    go_wp2
    go_ret2
    exact R2.out
  · have q : (D.chk x != 0) = true := by simpa using h0
    have e1 : D.posE x p g = D.chk x := if_neg h0
    have e2 : D.posV x p g = 0 := if_neg (by rw [e1]; exact h0)
    have R1 : Hid (∀ w', Below w.heap.size w w' → S.PosEnd x p g w (.returned (.tuple #[.int .i64 0, .int .i64 (D.chk x)])) w') := fun w' h => ⟨by rw [e1, e2], h⟩
    clear e1 e2 hr hx h0
    generalize D.chk x = k at q R1 H1
    generalize D.lenI x = k2 at H1
    generalize D.lenO x = k3 at H1
    go_enter Try.func40, Try.ntmps40
    go_wp2_with fail
    refine H1.out.mono ?_
    rintro e w1 ⟨rfl, hb⟩
    have R2 := Lib.hid (R1.out w1 hb)
    clear hb
    go_wp2
    go_ret2
    exact R2.out
end Go.Proofs.Ytmbgcbgbdjiacaa
/- ShiftRest -/
namespace Go.Proofs.Ytmbgcbgbdjiacaa
open Go.RowKit

/-- The iterator over a valid delta's pieces, made behind the block of what asks. -/
theorem S.seq_behind {w w1 : World} {ao : Option Addr} {cap : Nat} {a : List D.Q} (O : Obj) (hr : D.Row w ao (a.map D.raw)) (hb : Below w.heap.size w w1) (hp : D.allPos a = true) (hi : D.inL a ≤ 1048576) (ho : D.outL a ≤ 1048576) (hl : a.length ≤ 4096) :
    It.Seq Try.prog 95 #[.pointer (some ⟨w1.heap.size + 1, 0, none⟩)] S.encs (fun k => k = w1.heap.size) (D.spans 0 0 a) ((w1.alloc O).alloc (.cells #[.slice ao a.length cap] 39)) := by
  have hs := hb.size
  have hc : ((w1.alloc O).alloc (.cells #[.slice ao a.length cap] 39)).cell? ⟨w1.heap.size + 1, 0, none⟩ = some (.slice ao a.length cap) := by
    have := Lib.cell_of_heap (World.alloc_heap_new (w1.alloc O) (.cells #[.slice ao a.length cap] 39)) 0
    rw [World.size_alloc] at this
    exact this
  refine pieces_seq (w1.heap.size + 1) ao cap a _ _ hc (hr.below (hb.trans ((((Below.refl w1.heap.size w1).alloc (Nat.le_refl _) _).alloc (by simp) _).mono hs))) ?_ (fun k h => by subst h; simp; omega) hp hi ho hl
  rintro b o e hne rfl
  cases hm : a.map D.raw with
  | nil => exact hne hm
  | cons p r =>
    obtain ⟨b', o', e', hlt', _⟩ := hr 0 p (by rw [hm]; rfl)
    rw [e] at e'
    cases e'
    omega
def S.KepEnd (x : List D.P) (p : Int) (w : World) (e : Ending) (w' : World) : Prop := e = .returned (.tuple #[.int .i64 (D.kepV x p), .bool (D.kepI x p), .int .i64 (D.kepE x p)]) ∧ Below w.heap.size w w'
def S.RngEnd (x : List D.P) (f t : Int) (w : World) (e : Ending) (w' : World) : Prop := e = .returned (.tuple #[.int .i64 (D.rngA x f t), .int .i64 (D.rngB x f t), .int .i64 (D.rngE x f t)]) ∧ Below w.heap.size w w'
def S.ExtEnd (x : List D.P) (w : World) (e : Ending) (w' : World) : Prop := e = .returned (.tuple #[.int .i64 (D.xtF x), .int .i64 (D.xtT x), .int .i64 (D.xtF x), .int .i64 (D.xtE x), .int .i64 (D.chk x)]) ∧ Below w.heap.size w w'
end Go.Proofs.Ytmbgcbgbdjiacaa
