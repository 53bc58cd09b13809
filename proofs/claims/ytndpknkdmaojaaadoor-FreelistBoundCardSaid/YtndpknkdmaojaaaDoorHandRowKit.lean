/- What the rows of stage 10 share: the listed tables as they are laid, bounds of arguments. -/
import Derived.Test.YtndpknkdmaojaaaDoorRows
import Derived.Test.YtndpknkdmaojaaaDoorCards
import Derived.Test.YtndpknkdmaojaaaDoorTie
import Derived.Test.YtndpknkdmaojaaaDoorHandPkg4
import Derived.ProofKit
import Derived.LaidMore
import Derived.OpenShut
import Derived.Stop.Joined
import Derived.Lib.LaidTab
import Derived.Lay
import Derived.SizedLaws
import Derived.Lib.SmallJoins
import Derived.Lib.LaidU8
import Derived.Carry
namespace Go.Proofs.YtndpknkdmaojaaaDoor
open Go Go.ChangeShapes Go.WideShapes Go.ChangeAt Go.WideMaps Go.WideElems Go.RowKit

theorem Tryd.own : ownKnob Tryd.prog.godebug = none := by kernel_rfl
theorem Tryd.laidOut : laidOutB Tryd.prog = true := by kernel_rfl
theorem H.u64_bd {a : Int} (h : (Lit.int .u64 a).wf = true) : 0 ≤ a ∧ a ≤ 18446744073709551615 := by
  simp only [Lit.wf, Bool.and_eq_true, decide_eq_true_eq] at h
  have h1 : (0 : Int) ≤ a := h.1
  have h2 : a ≤ (18446744073709551615 : Int) := h.2
  omega
theorem H.i64_bd {a : Int} (h : (Lit.int .i64 a).wf = true) : -9223372036854775808 ≤ a ∧ a < 9223372036854775808 := by
  simp only [Lit.wf, Bool.and_eq_true, decide_eq_true_eq] at h
  have h1 : (-9223372036854775808 : Int) ≤ a := h.1
  have h2 : a ≤ (9223372036854775807 : Int) := h.2
  omega
theorem H.string_reach {H : Type} {ts : List TypeId} {ds : List (DataW H)} (h : (DataW.weightsEach Tryd.prog ts ds).all (· ≤ reachBytes) = true) {j : Nat} {t : TypeId} {s : ByteArray} (ht : ts[j]? = some t) (hd : ds[j]? = some (.lit (.string s.data.toList))) : s.size ≤ 140737488351232 := by
  have := sized_string h ht hd
  have e : s.data.toList.length = s.size := by simp
  rw [e] at this
  exact this
def H.laid : List (String × DataW Unit) := Rows.freelistPlaysRow.laid
theorem H.tab3 {W : World} {x y z : String × DataW Unit} (h : laidMet Tryd.prog [x, y, z] W) : laidMet Tryd.prog [z] W := by
  obtain ⟨ps, h1, hnd, hb⟩ := h
  obtain ⟨_, _, _, _, p1, q1, _, _, _, _, h2, rfl⟩ := h1
  obtain ⟨_, _, _, _, p2, q2, _, _, _, _, h3, rfl⟩ := h2
  refine ⟨q2, h3, ?_, fun b off hm => hb b off (by simp [hm])⟩
  exact (List.nodup_append.1 (List.nodup_append.1 hnd).2.1).2.1
theorem H.pow_of_laid {W : World} (h : laidMetH Tryd.prog H.laid W) : H.Pow W.heap.size W := by
  rw [MakeChecks.laidMetH_plain _ _ _ (by kernel_rfl)] at h
  have h3 := H.tab3 (z := (H.tab, Rows.laid_internal_strconv_uint64pow10)) h
  have hg : Tryd.prog.globalNamed H.tab = some 0 := by kernel_rfl
  have ht := Lib.tabIs_of_head (rest := []) (k := .u64) (zs := Lib.pow10Tab) hg (t := 88) (e := 28) (n := 20) (by kernel_rfl) Tryd.underlying88 Tryd.underlying28 (by kernel_rfl) (by kernel_rfl) h3
  exact Lib.tabBelow_of_tabIs ht
theorem H.shaped (os : Os) (args : Array Value) : ((World.laidAll Tryd.prog os H.laid).forCall (fun _ _ => 0) ⟨#[], args, []⟩).Shaped Tryd.prog := World.shaped_of_ZipB (by kernel_rfl) (by kernel_rfl)
theorem H.laid_met (os : Os) (args : Array Value) : laidMetH Tryd.prog H.laid ((World.laidAll Tryd.prog os H.laid).forCall (fun _ _ => 0) ⟨#[], args, []⟩).memory := by
  rw [MakeChecks.laidMetH_plain _ _ _ (by kernel_rfl)]
  exact laidMet_laidAll _ (by kernel_rfl) (by kernel_rfl)
end Go.Proofs.YtndpknkdmaojaaaDoor
