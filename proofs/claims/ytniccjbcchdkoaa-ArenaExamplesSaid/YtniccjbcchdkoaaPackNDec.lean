/- Texts joined: NodeDec1 NodeDec2 NodeDec3 -/
import Derived.Test.YtniccjbcchdkoaaPackNFind
import Derived.Deep.RegionLaw
/- NodeDec1 -/
namespace Go.Proofs.Ytniccjbcchdkoaa
open Go.RowKit

theorem N.or_byte (m c : Nat) (hm : m < 1099511627776) (hc : c < 256) : bits .or .u64 ((m : Int) * 256) (c : Int) = ((256 * m + c : Nat) : Int) := by
  have := H.or_u64 (2 ^ 8 * m) c (by omega) (by omega)
  rw [← Nat.two_pow_add_eq_or_of_lt (by omega)] at this
  rw [show ((m : Int) * 256) = ((2 ^ 8 * m : Nat) : Int) by omega, this]
/-- What lies in decodeKid's two boxes: what is left of the string, and a kid's four cells. -/
structure N.Dk (w W : World) (s : ByteArray) : Prop where
  c0 : W.cell? ⟨w.heap.size, 0, none⟩ = some (.string s)
  f0 : W.frozen? ⟨w.heap.size, 0, none⟩ = false
  k0 : W.cell? ⟨w.heap.size + 1, 0, none⟩ = some (.int .u64 0)
  k1 : W.cell? ⟨w.heap.size + 1, 1, none⟩ = some (.int .i64 0)
  k2 : W.cell? ⟨w.heap.size + 1, 2, none⟩ = some (.int .i64 0)
  k3 : W.cell? ⟨w.heap.size + 1, 3, none⟩ = some (.int .i64 0)
  g0 : W.frozen? ⟨w.heap.size + 1, 0, none⟩ = false
  g1 : W.frozen? ⟨w.heap.size + 1, 1, none⟩ = false
  g2 : W.frozen? ⟨w.heap.size + 1, 2, none⟩ = false
  g3 : W.frozen? ⟨w.heap.size + 1, 3, none⟩ = false
  below : Below w.heap.size w W
theorem N.Dk.next {w W : World} {s : ByteArray} (h : N.Dk w W s) (s' : ByteArray) : N.Dk w (W.setCell ⟨w.heap.size, 0, none⟩ (.string s')) s' := by
  have c := h.c0
  refine ⟨?_, by rw [World.frozen?_setCell]; exact h.f0, ?_, ?_, ?_, ?_, by rw [World.frozen?_setCell]; exact h.g0, by rw [World.frozen?_setCell]; exact h.g1, by rw [World.frozen?_setCell]; exact h.g2, by rw [World.frozen?_setCell]; exact h.g3, h.below.setCell (p := ⟨w.heap.size, 0, none⟩) (Nat.le_refl _) _⟩
  · rw [World.cell?_setCell_same' _ _ _ (by rw [c]; rfl)]
  · rw [World.cell?_setCell_other _ _ _ _ (by simp)]; exact h.k0
  · rw [World.cell?_setCell_other _ _ _ _ (by simp)]; exact h.k1
  · rw [World.cell?_setCell_other _ _ _ _ (by simp)]; exact h.k2
  · rw [World.cell?_setCell_other _ _ _ _ (by simp)]; exact h.k3
theorem N.extract_end (t : ByteArray) (n : Nat) (h : n ≤ t.size) : (t.extract n t.size).data.toList = t.data.toList.drop n := by
  have hl : t.data.toList.length = t.size := by simp
  have e := D.part_bytes t n (t.size - n)
  rw [show n + (t.size - n) = t.size by omega, List.take_of_length_le (by rw [List.length_drop]; omega)] at e
  exact e
theorem N.extract_to (s : ByteArray) (n : Nat) (h : n ≤ s.size) : (s.extract n s.size).data.toList = s.data.toList.drop n ∧ (s.extract n s.size).size = s.size - n := by
  have e := N.extract_end s n h
  refine ⟨e, ?_⟩
  rw [← N.len_data, e, List.length_drop, N.len_data]
end Go.Proofs.Ytniccjbcchdkoaa
/- NodeDec2 -/
namespace Go.Proofs.Ytniccjbcchdkoaa
open Go.RowKit

/-- What Decode answers, as a node. -/
def N.dcX (s : List UInt8) : N.Nd := (N.dec s).getD ⟨0, [], []⟩
def N.dcE (s : List UInt8) : Int := if (N.dec s).isSome then 0 else 4
def N.DcEnd (s : List UInt8) (w : World) (e : Ending) (w' : World) : Prop := ∃ v, e = .returned (.tuple #[N.nv (N.dcX s).h ⟨(N.dcX s).t.toArray⟩ v, .int .i64 (N.dcE s)]) ∧ N.Made (N.dcX s).ks w v w'
theorem N.DcEnd.no {s : List UInt8} {w w' : World} (h : N.dec s = none) (hb : Below w.heap.size w w') : N.DcEnd s w (.returned (.tuple #[.agg #[.int .i64 0, .string ⟨#[]⟩, .slice none 0 0], .int .i64 4])) w' := by
  unfold N.DcEnd N.dcX N.dcE
  rw [h]
  exact ⟨.slice none 0 0, rfl, N.Made.nil w hb⟩
theorem N.DcEnd.yes {s : List UInt8} {x : N.Nd} {w w' : World} {v : Value} {t : ByteArray} (h : N.dec s = some x) (ht : t = ⟨x.t.toArray⟩) (hm : N.Made x.ks w v w') : N.DcEnd s w (.returned (.tuple #[.agg #[.int .i64 x.h, .string t, v], .int .i64 0])) w' := by
  unfold N.DcEnd N.dcX N.dcE
  rw [h, ht]
  exact ⟨v, rfl, hm⟩
theorem N.enc_len {x : N.Nd} (h : N.chk x = 0) : (N.enc x).length ≤ 49 ∧ 1 ≤ (N.enc x).length := by
  have h2 : ∀ m : List N.K, (m.flatMap N.encK).length = m.length * 12 := by
    intro m
    induction m with
    | nil => rfl
    | cons p m ih => rw [List.flatMap_cons, List.length_append, N.encK_len, ih, List.length_cons]; omega
  unfold N.enc
  rw [if_pos h, List.length_cons, List.length_append, h2]
  rcases N.chk_cases h with k | k
  · have h1 := k.t2; rw [k.ks]; simp; omega
  · have h1 := k.k4; rw [k.t]; simp; omega
theorem N.dec_long {s : List UInt8} (h : s.length < 1 ∨ 49 < s.length) : N.dec s = none := by
  cases hd : N.dec s with
  | none => rfl
  | some x =>
    obtain ⟨h1, h2⟩ := N.enc_dec hd
    have := N.enc_len h1
    rw [h2] at this; omega
/-- The two boxes: the result, and the node that is put together; its row of children. -/
structure N.Dv (w0 : World) (bx : Nat) (h : Int) (t : ByteArray) (K : List N.K) (br : Nat) (v : Value) (W : World) : Prop where
  box : W.heap[bx]? = some (.cells #[.int .i64 h, .string t, v] 30 (0, 0))
  own : W.ownsRow w0.heap.size 50 4 v K.length (N.cells K)
  nx : v.ownBlock ≠ some bx
  res : W.heap[br]? = some (.cells #[.int .i64 0, .string ⟨#[]⟩, .slice none 0 0] 30 (0, 0))
  nr : v.ownBlock ≠ some br
  ne : br ≠ bx
  gx : w0.heap.size ≤ bx
  gr : w0.heap.size ≤ br
  below : Below w0.heap.size w0 W
theorem N.Dv.on {w0 : World} {bx : Nat} {h : Int} {t : ByteArray} {K : List N.K} {br : Nat} {v : Value} {W W' : World} (x : N.Dv w0 bx h t K br v W) (hb : Below W.heap.size W W') : N.Dv w0 bx h t K br v W' :=
  ⟨(hb.block _ (Array.getElem?_eq_some_iff.1 x.box).1).trans x.box, D.own_below x.own hb, x.nx, (hb.block _ (Array.getElem?_eq_some_iff.1 x.res).1).trans x.res, x.nr, x.ne, x.gx, x.gr, x.below.trans (hb.mono x.below.size)⟩
theorem N.Dv.drew {w0 : World} {bx : Nat} {h : Int} {t : ByteArray} {K : List N.K} {br : Nat} {v : Value} {W : World} (x : N.Dv w0 bx h t K br v W) : N.Dv w0 bx h t K br v W.drew := x.on (Below.refl _ _).drew
theorem N.Dv.alloc {w0 : World} {bx : Nat} {h : Int} {t : ByteArray} {K : List N.K} {br : Nat} {v : Value} {W : World} (x : N.Dv w0 bx h t K br v W) (o : Obj) : N.Dv w0 bx h t K br v (W.alloc o) := x.on ((Below.refl _ _).alloc (Nat.le_refl _) o)
theorem N.Dv.cells {w0 : World} {bx : Nat} {h : Int} {t : ByteArray} {K : List N.K} {br : Nat} {v : Value} {W : World} (x : N.Dv w0 bx h t K br v W) : W.cell? ⟨bx, 0, none⟩ = some (.int .i64 h) ∧ W.cell? ⟨bx, 1, none⟩ = some (.string t) ∧ W.cell? ⟨bx, 2, none⟩ = some v ∧ W.frozen? ⟨bx, 1, none⟩ = false ∧ W.frozen? ⟨bx, 2, none⟩ = false :=
  ⟨Lib.cell_of_heap x.box 0, Lib.cell_of_heap x.box 1, Lib.cell_of_heap x.box 2, frozen_of_row _ _ _ _ _ x.box, frozen_of_row _ _ _ _ _ x.box⟩
theorem N.Dv.own_ {w0 : World} {bx : Nat} {h : Int} {t : ByteArray} {K : List N.K} {br : Nat} {v : Value} {W : World} (x : N.Dv w0 bx h t K br v W) : N.Own W br (.int .i64 0) (.string ⟨#[]⟩) (.slice none 0 0) :=
  ⟨(Array.getElem?_eq_some_iff.1 x.res).1, Lib.cell_of_heap x.res 0, Lib.cell_of_heap x.res 1, Lib.cell_of_heap x.res 2, frozen_of_row _ _ _ _ _ x.res, frozen_of_row _ _ _ _ _ x.res, frozen_of_row _ _ _ _ _ x.res⟩
theorem N.Dv.form {w0 : World} {bx : Nat} {h : Int} {t : ByteArray} {K : List N.K} {br : Nat} {v : Value} {W : World} (x : N.Dv w0 bx h t K br v W) : ∃ vo vc, v = .slice vo K.length vc ∧ N.Row W vo K := by
  obtain ⟨ao, c, e, hr, _⟩ := (⟨x.own, x.below⟩ : N.Made K w0 v W).src
  exact ⟨ao, c, e, hr⟩
/-- The result is stored: the row of children stays. -/
theorem N.Dv.fin {w0 : World} {bx : Nat} {h : Int} {t : ByteArray} {K : List N.K} {br : Nat} {v : Value} {W : World} (x : N.Dv w0 bx h t K br v W) (p q r : Value) : N.Made K w0 v (N.put3 W br p q r) := by
  have step : ∀ {V : World} (o : Nat) (z : Value), N.Made K w0 v V → N.Made K w0 v (V.setCell ⟨br, o, none⟩ z) := fun {V} o z m => by
    refine ⟨m.own.kept (row := some br) ⟨rfl, rfl, rfl, by simp [World.setCell], fun j _ hj => Below.heap_setCell _ _ _ _ (fun e => hj (by simpa using e))⟩ (.inr x.nr), m.below.setCell (p := ⟨br, o, none⟩) x.gr z⟩
  exact step 2 r (step 1 q (step 0 p ⟨x.own, x.below⟩))
/-- A text is stored. -/
theorem N.Dv.text {w0 : World} {bx : Nat} {h : Int} {t : ByteArray} {K : List N.K} {br : Nat} {v : Value} {W : World} (x : N.Dv w0 bx h t K br v W) (t' : ByteArray) : N.Dv w0 bx h t' K br v (W.setCell ⟨bx, 1, none⟩ (.string t')) := by
  have hset : ∀ j, j ≠ bx → (W.setCell ⟨bx, 1, none⟩ (.string t')).heap[j]? = W.heap[j]? := fun j hj => Below.heap_setCell _ _ _ _ hj
  refine ⟨(heap_setCell_same W bx 1 _ _ _ x.box).trans rfl, ?_, x.nx, (hset br x.ne).trans x.res, x.nr, x.ne, x.gx, x.gr, x.below.setCell (p := ⟨bx, 1, none⟩) x.gx _⟩
  exact x.own.kept (row := some bx) ⟨rfl, rfl, rfl, by simp [World.setCell], fun j _ hj => hset j (fun e => hj (by rw [e]))⟩ (.inr x.nx)
/-- A child is appended, and the row stored. -/
theorem N.Dv.put {w0 : World} {bx : Nat} {h : Int} {t : ByteArray} {K : List N.K} {br : Nat} {v v' : Value} {W w3 : World} {p : N.K} (x : N.Dv w0 bx h t K br v W)
    (hO : w3.ownsRow w0.heap.size 50 4 v' (K ++ [p]).length (N.cells (K ++ [p]))) (hg : W.grownBy w3 v.ownBlock) (ha : v'.ownBlock = v.ownBlock ∨ ∃ g, v'.ownBlock = some g ∧ W.heap.size ≤ g) :
    N.Dv w0 bx h t (K ++ [p]) br v' (w3.setCell ⟨bx, 2, none⟩ v') := by
  have lb := (Array.getElem?_eq_some_iff.1 x.box).1
  have lr := (Array.getElem?_eq_some_iff.1 x.res).1
  have hb3 := (hg.block _ lb (fun e => x.nx e.symm)).trans x.box
  have hr3 := (hg.block _ lr (fun e => x.nr e.symm)).trans x.res
  have key : ∀ k, k < W.heap.size → v.ownBlock ≠ some k → v'.ownBlock ≠ some k := fun k hk hv => by
    rcases ha with ha | ⟨g, ha, hz⟩
    · rw [ha]; exact hv
    · rw [ha]; intro e; injection e with e; omega
  have hset : ∀ j, j ≠ bx → (w3.setCell ⟨bx, 2, none⟩ v').heap[j]? = w3.heap[j]? := fun j hj => Below.heap_setCell _ _ _ _ hj
  refine ⟨(heap_setCell_same w3 bx 2 _ _ _ hb3).trans rfl, ?_, key _ lb x.nx, (hset br x.ne).trans hr3, key _ lr x.nr, x.ne, x.gx, x.gr, ?_⟩
  · exact hO.kept (row := some bx) ⟨rfl, rfl, rfl, by simp [World.setCell], fun j _ hj => hset j (fun e => hj (by rw [e]))⟩ (.inr (key _ lb x.nx))
  · exact (x.below.grown hg x.below.size (fun j hj => (x.own.lt j hj).1)).setCell (p := ⟨bx, 2, none⟩) x.gx _
theorem N.Dv.new (w : World) (h : Int) (t : ByteArray) : N.Dv w (w.heap.size + 1) h t [] w.heap.size (.slice none 0 0) ((w.alloc (.cells #[.int .i64 0, .string ⟨#[]⟩, .slice none 0 0] 30)).alloc (.cells #[.int .i64 h, .string t, .slice none 0 0] 30)) := by
  have e := heap_alloc_new (w.alloc (.cells #[.int .i64 0, .string ⟨#[]⟩, .slice none 0 0] 30)) (.cells #[.int .i64 h, .string t, .slice none 0 0] 30)
  rw [World.size_alloc] at e
  refine ⟨e, World.ownsRow_nil _ _ _ _, by simp [Value.ownBlock], (Below.heap_alloc _ _ _ (by simp)).trans (heap_alloc_new w _), by simp [Value.ownBlock], by omega, by omega, Nat.le_refl _, ((Below.refl _ _).alloc (Nat.le_refl _) _).alloc (by simp) _⟩
/-- The node whose first byte is c and whose rest is r, when K has been read and r' is left. -/
def N.Lft (c : UInt8) (r : List UInt8) (t : ByteArray) (K : List N.K) (r' : List UInt8) : Prop := N.mk c r = (N.kids r').map fun ks => ⟨(c.toNat : Int), t.data.toList, K ++ ks⟩
theorem N.Lft.zero {r : ByteArray} : N.Lft 0 r.data.toList r [] [] := by
  unfold N.Lft N.mk
  rw [if_pos (show UInt8.toNat 0 = 0 from rfl), N.kids_nil]; rfl
theorem N.Lft.start {c : UInt8} {r : List UInt8} (h : c.toNat ≠ 0) : N.Lft c r ⟨#[]⟩ [] r := by
  unfold N.Lft N.mk
  rw [if_neg h]; rfl
theorem N.Lft.next {c : UInt8} {r : List UInt8} {t : ByteArray} {K : List N.K} {r' : List UInt8} (h : N.Lft c r t K r') (hl : 12 ≤ r'.length) : N.Lft c r t (K ++ [N.decK (r'.take 12)]) (r'.drop 12) := by
  unfold N.Lft at *
  rw [h, N.kids_more hl, Option.map_map]
  congr 1
  funext ks
  simp
theorem N.Lft.short {c : UInt8} {r : List UInt8} {t : ByteArray} {K : List N.K} {r' : List UInt8} (h : N.Lft c r t K r') (hl : r'.length < 12) (h0 : r' ≠ []) : N.dec (c :: r) = none := by
  unfold N.Lft at h
  rw [N.dec_cons, h, N.kids_short h0 hl]; rfl
theorem N.Lft.done {c : UInt8} {r : List UInt8} {t : ByteArray} {K : List N.K} (h : N.Lft c r t K []) : N.dec (c :: r) = if N.chk (N.nd (c.toNat : Int) t K) = 0 then some (N.nd (c.toNat : Int) t K) else none := by
  unfold N.Lft at h
  rw [N.dec_cons, h, N.kids_nil]
  show (some (⟨(c.toNat : Int), t.data.toList, K ++ []⟩ : N.Nd)).bind _ = _
  rw [List.append_nil]; rfl
theorem N.decK_fit (s : List UInt8) : N.Fit (N.decK s) := by
  have vb : ∀ (l : List UInt8) (n : Nat), l.length ≤ n → N.val l < 256 ^ n := fun l n hl =>
    Nat.lt_of_lt_of_le (N.val_lt l) (Nat.pow_le_pow_right (by decide) hl)
  have h6 := vb (s.take 6) 6 (List.length_take_le _ _)
  have h1 := vb ((s.drop 6).take 2) 2 (List.length_take_le _ _)
  have h2 := vb ((s.drop 8).take 2) 2 (List.length_take_le _ _)
  have h3 := vb ((s.drop 10).take 2) 2 (List.length_take_le _ _)
  unfold N.decK
  refine ⟨?_, ?_, ?_, ?_, ?_, ?_, ?_⟩ <;> dsimp only <;> omega
end Go.Proofs.Ytniccjbcchdkoaa
/- NodeDec3 -/
namespace Go.Proofs.Ytniccjbcchdkoaa
open Go.RowKit

def N.strLen : Value → Nat
  | .string s => s.size
  | _ => 0
theorem N.cons_of (s : ByteArray) (h : 0 < s.size) : ∃ c : UInt8, s.data.toList = c :: (s.extract 1 s.size).data.toList ∧ s[0].toNat = c.toNat := by
  obtain ⟨e, _⟩ := N.extract_to s 1 h
  have hl : 0 < s.data.toList.length := by rw [N.len_data]; exact h
  refine ⟨s.data.toList[0], ?_, rfl⟩
  rw [e, ← List.drop_eq_getElem_cons hl, List.drop_zero]
end Go.Proofs.Ytniccjbcchdkoaa
