/- The contracts of apply: Apply, Removed (a strings.Builder that a closure writes), skip. -/
import Derived.Test.YtdilkoogjkabfaaApplyBuild
import Derived.Test.YtdilkoogjkabfaaApplyLib
namespace Go.Proofs.Ytdilkoogjkabfaa
open Go.RowKit

set_option maxRecDepth 100000 in
theorem A.bld_below {B b : Nat} {bs : List Value} {W W' : World} (h : Lib.IsBuilderF 67 5 B b bs W) (hb : Below W.heap.size W W') : Lib.IsBuilderF 67 5 B b bs W' := by
  have key : ∀ p, Lib.BuilderAtF 67 5 B b p bs W → Lib.BuilderAtF 67 5 B b p bs W' := fun p h => by
    have hlt := h.lt
    obtain ⟨hB, v, hbk, hown, hne⟩ := h
    exact ⟨hB, v, (hb.block b hlt).trans hbk, hown.kept (row := none) ⟨hb.os, hb.tape, hb.output, hb.size, fun k hk _ => hb.block k hk⟩ (by cases v.ownBlock <;> simp), hne⟩
  exact h.elim (fun x => .inl (key _ x)) (fun x => .inr (key _ x))
set_option maxRecDepth 100000 in
theorem A.bld_lt {B b : Nat} {bs : List Value} {W : World} (h : Lib.IsBuilderF 67 5 B b bs W) : b < W.heap.size := h.elim (fun x => x.lt) (fun x => x.lt)
/-- A builder that holds the bytes F k. -/
def A.BS (w : World) (F : Nat → List UInt8) (k : Nat) (W : World) : Prop := Lib.IsBuilderF 67 5 w.heap.size w.heap.size (D.bytesL (F k)) W ∧ Below w.heap.size w W
/-- What belongs to it: its block, and rows of bytes. -/
def A.BR (b : Nat) (W : World) (j : Nat) : Prop := j = b ∨ ∃ c fz, W.heap[j]? = some (.cells c 5 fz)
set_option maxRecDepth 100000 in
theorem A.BS.on (w : World) (F : Nat → List UInt8) (k : Nat) (W W' : World) (h : A.BS w F k W) (hb : Below W.heap.size W W') : A.BS w F k W' ∧ ∀ j, j < W.heap.size → ¬ A.BR w.heap.size W j → ¬ A.BR w.heap.size W' j := by
  refine ⟨⟨A.bld_below h.1 hb, h.2.trans (hb.mono h.2.size)⟩, fun j hj hn hr => hn ?_⟩
  rcases hr with hr | ⟨c, fz, hr⟩
  · exact .inl hr
  · exact .inr ⟨c, fz, by rw [← hr]; exact (hb.block j hj).symm⟩
set_option maxRecDepth 100000 in
theorem A.BS.new (w : World) (F : Nat → List UInt8) (k : Nat) (W : World) (c : Array Value) (T : TypeId) (h : A.BS w F k W) (hT : T = 47 ∨ T = 74) : ¬ A.BR w.heap.size (W.alloc (.cells c T)) W.heap.size := by
  have hlt := A.bld_lt h.1
  rintro (hr | ⟨c', fz, hr⟩)
  · omega
  · rw [heap_alloc_new W] at hr
    simp only [Option.some.injEq, Obj.cells.injEq] at hr
    rcases hT with rfl | rfl
    · exact absurd hr.2.1 (by decide)
    · exact absurd hr.2.1 (by decide)
/-- What a write leaves. -/
theorem A.BS.wrote {w : World} {F : Nat → List UInt8} {k : Nat} {W w' : World} (x : ByteArray) (h : A.BS w F k W) (hF : F (k + 1) = F k ++ x.data.toList) (h1 : Lib.BuilderAtF 67 5 w.heap.size w.heap.size (.pointer (some ⟨w.heap.size, 0, none⟩)) (D.bytesL (F k) ++ Lib.strCells x) w') (h2 : Below w.heap.size W w') (h3 : Lib.OthersKept 5 (some w.heap.size) W w') (h4 : W.heap.size ≤ w'.heap.size) :
    A.Step (A.BS w F) (A.BR w.heap.size) k W (.returned (.tuple #[])) w' := by
  refine ⟨rfl, ⟨.inr ?_, h.2.trans h2⟩, h4, fun j hj hn => ?_⟩
  · rw [hF, D.bytesL_append, ← D.bytesL_str]; exact h1
  · obtain ⟨ob, hob⟩ : ∃ ob, W.heap[j]? = some ob := ⟨W.heap[j], Array.getElem?_eq_getElem hj⟩
    have hk := h3 j ob hob (fun e => hn (.inl (Option.some.inj e))) (fun c fz e => hn (.inr ⟨c, fz, by rw [hob, e]⟩))
    refine ⟨by rw [hk, hob], ?_⟩
    rintro (hr | ⟨c, fz, hr⟩)
    · exact hn (.inl hr)
    · exact hn (.inr ⟨c, fz, by rw [hob, ← hk, hr]⟩)
set_option maxRecDepth 100000 in
theorem A.BS.stay {w : World} {F : Nat → List UInt8} {k : Nat} {W : World} (h : A.BS w F k W) (hF : F (k + 1) = F k) : A.Step (A.BS w F) (A.BR w.heap.size) k W (.returned (.tuple #[])) W :=
  ⟨rfl, ⟨by rw [hF]; exact h.1, h.2⟩, Nat.le_refl _, fun _ _ hn => ⟨rfl, hn⟩⟩
set_option maxRecDepth 100000 in
theorem A.bytes_len (x : List UInt8) : (D.bytesL x).length = x.length := by unfold D.bytesL; rw [List.length_map]
set_option maxRecDepth 100000 in
set_option maxHeartbeats 1000000 in
theorem applyAdd_any (w : World) (F : Nat → List UInt8) (k : Nat) (x : ByteArray) (W : World) (h : A.BS w F k W) (hF : F (k + 1) = F k ++ x.data.toList) (hl : (F k).length + x.size ≤ 1000000000) :
    Calls Try.prog 48 #[.string x, .pointer (some ⟨w.heap.size, 0, none⟩)] W (A.Step (A.BS w F) (A.BR w.heap.size) k W) := by
  have HW := Lib.hid (writeString_any w.heap.size w.heap.size (D.bytesL (F k)) x W h.1 (by rw [A.bytes_len]; exact hl) h.2.size)
  have HR : Hid (∀ w', Lib.BuilderAtF 67 5 w.heap.size w.heap.size (.pointer (some ⟨w.heap.size, 0, none⟩)) (D.bytesL (F k) ++ Lib.strCells x) w' → Below w.heap.size W w' → Lib.OthersKept 5 (some w.heap.size) W w' → W.heap.size ≤ w'.heap.size → A.Step (A.BS w F) (A.BR w.heap.size) k W (.returned (.tuple #[])) w') := fun w' h1 h2 h3 h4 => h.wrote x hF h1 h2 h3 h4
  clear h hF hl
  go_enter Try.func48, Try.ntmps48
  go_wp2_with fail
  refine HW.out.mono ?_
  rintro e w1 ⟨rfl, h1, h2, h3, h4⟩
  have R := Lib.hid (HR.out w1 h1 h2 h3 h4)
  clear h1 h2 h3 h4
  go_wp2
  go_end0
  exact R.out
set_option maxRecDepth 100000 in
theorem skip_any (w : World) (F : Nat → List UInt8) (k : Nat) (x : ByteArray) (W : World) (h : A.BS w F k W) (hF : F (k + 1) = F k) :
    Calls Try.prog 50 #[.string x] W (A.Step (A.BS w F) (A.BR w.heap.size) k W) := by
  have R := Lib.hid (h.stay hF)
  clear h hF
  go_enter Try.func50, Try.ntmps50
  go_wp2
  go_end0
  exact R.out
set_option maxRecDepth 100000 in
theorem A.enters_apply : A.Enters 48 := enters_of Try.func48 (by kernel_rfl) rfl
set_option maxRecDepth 100000 in
theorem A.enters_skip : A.Enters 50 := enters_of Try.func50 (by kernel_rfl) rfl
set_option maxRecDepth 100000 in
theorem A.part_len (S : List UInt8) (a : List D.Q) (k : Nat) (q : D.Q) (hq : a[k]? = some q) (hi : D.inL a ≤ 1048576) : (D.part S a k q).length ≤ 1048576 := by
  obtain ⟨_, h⟩ := D.inL_take_le a k q hq
  unfold D.part
  rw [List.length_take]
  omega
set_option maxRecDepth 100000 in
theorem A.size_of {x : ByteArray} {l : List UInt8} (h : x.data.toList = l) : x.size = l.length := by rw [← h]; simp
set_option maxRecDepth 100000 in
theorem A.acc_apply (w : World) (S : List UInt8) (a : List D.Q) (hi : D.inL a ≤ 1048576) (ho : D.outL a ≤ 1048576) (hS : S.length ≤ 1048576) :
    A.Acc w S a 48 48 50 #[.pointer (some ⟨w.heap.size, 0, none⟩)] #[.pointer (some ⟨w.heap.size, 0, none⟩)] #[] (A.BS w fun k => D.apl S (a.take k)) (A.BR w.heap.size) where
  below := fun _ _ h => h.2
  on := A.BS.on w _
  new := A.BS.new w _
  ek := A.enters_apply
  ei := A.enters_apply
  er := A.enters_skip
  stepR := fun k n x W hq hx h => by
    have h1 := D.apl_take_len S a k
    have h2 := A.part_len S a k _ hq hi
    have h3 := A.size_of hx
    refine applyAdd_any w (fun k => D.apl S (a.take k)) k x W h ?_ (by omega)
    rw [D.apl_snoc S a k _ hq, hx]
    simp [D.txt1, D.isR]
  stepI := fun k t W hq h => by
    have h1 := D.apl_take_len S a k
    have h2 : D.out1 (.I t) ≤ D.outL a := D.out1_le a k _ hq
    have h3 : (⟨t.toArray⟩ : ByteArray).size = t.length := D.size_l t
    simp only [D.out1] at h2
    refine applyAdd_any w (fun k => D.apl S (a.take k)) k ⟨t.toArray⟩ W h ?_ (by omega)
    rw [D.apl_snoc S a k _ hq]
    simp [D.txt1, D.isR]
  stepD := fun k n x W hq _ h => by
    refine skip_any w (fun k => D.apl S (a.take k)) k x W h ?_
    rw [D.apl_snoc S a k _ hq]
    simp [D.txt1, D.isR]
set_option maxRecDepth 100000 in
set_option maxHeartbeats 2000000 in
theorem apply_any (s : ByteArray) (ao : Option Addr) (cap : Nat) (l : List D.P) (w : World) (hs : s.size ≤ 140737488351232) (hn : l.length ≤ maxLen) (hr : D.Row w ao l) (ht : ∀ p ∈ l, p.t.size ≤ 140737488351232) :
    Calls Try.prog 24 #[.string s, .slice ao l.length cap] w (fun e w' => e = .returned (.tuple #[.string ⟨(D.resP s.data.toList l).toArray⟩, .int .i64 (D.fitE s.data.toList l)]) ∧ Below w.heap.size w w') := by
  obtain ⟨a, ha⟩ : ∃ a, a = if D.fitE s.data.toList l = 0 then D.qs l else [] := ⟨_, rfl⟩
  have hacc : A.Acc w s.data.toList a 48 48 50 #[.pointer (some ⟨w.heap.size, 0, none⟩)] #[.pointer (some ⟨w.heap.size, 0, none⟩)] #[] (A.BS w fun k => D.apl s.data.toList (a.take k)) (A.BR w.heap.size) ∧ (D.fitE s.data.toList l = 0 → a = D.qs l) ∧ D.apl s.data.toList (a.take (if D.fitE s.data.toList l = 0 then l.length else 0)) = D.resP s.data.toList l := by
    by_cases hf : D.fitE s.data.toList l = 0
    · rw [if_pos hf] at ha
      subst ha
      obtain ⟨h0, h1⟩ := D.fitE_zero hf
      obtain ⟨_, _, h3, _, h5, h6⟩ := D.valid_qs h0
      refine ⟨A.acc_apply w _ _ h5 h6 (by omega), fun _ => rfl, ?_⟩
      rw [if_pos hf, D.resP_eq hf, ← h3, List.take_length]
    · rw [if_neg hf] at ha
      subst ha
      refine ⟨?_, fun e => absurd e hf, ?_⟩
      · exact ⟨fun _ _ h => h.2, A.BS.on w _, A.BS.new w _, A.enters_apply, A.enters_apply, A.enters_skip, fun k n x W hq => by simp at hq, fun k t W hq => by simp at hq, fun k n x W hq => by simp at hq⟩
      · rw [if_neg hf, List.take_nil]
        unfold D.resP
        rw [if_neg hf]; rfl
  have h0 : A.BS w (fun k => D.apl s.data.toList (a.take k)) 0 (w.alloc (.cells #[.pointer none, .slice none 0 0] 67)) :=
    ⟨Lib.IsBuilderF.of (Lib.fresh_isBuilder _ _ w), (Below.refl _ _).alloc (Nat.le_refl _) _⟩
  have HB := build_any s ao cap l w _ _ _ _ _ _ _ _ _ hs hn hr ht a hacc.2.1 hacc.1 h0
  unfold A.BuildEnd at HB
  have HX : Hid (∀ W, A.BS w (fun k => D.apl s.data.toList (a.take k)) (if D.fitE s.data.toList l = 0 then l.length else 0) W → Calls Try.prog 52 #[.pointer (some ⟨w.heap.size, 0, none⟩)] W (fun e w' => e = .returned (.string ⟨(D.resP s.data.toList l).toArray⟩) ∧ Below w.heap.size w w')) := fun W h => by
    unfold A.BS at h
    dsimp only at h
    rw [hacc.2.2] at h
    exact (A.string_k w.heap.size w.heap.size (D.resP s.data.toList l) W h.1 h.2.size).mono fun e w' hh => ⟨hh.1, h.2.trans hh.2.2.1⟩
  generalize D.fitE s.data.toList l = c at HB HX ⊢
  have HB := Lib.hid HB
  clear ha hacc h0 hr ht hn hs
  go_enter Try.func24, Try.ntmps24
  go_wp2_with fail
  refine HB.out.mono ?_
  rintro e w1 ⟨rfl, hI⟩
  have HY := Lib.hid (HX.out w1 hI)
  clear hI
  go_wp2_with fail
  refine HY.out.mono ?_
  rintro e w2 ⟨rfl, hb⟩
  go_wp2
  go_ret2
  exact ⟨rfl, hb⟩
end Go.Proofs.Ytdilkoogjkabfaa
