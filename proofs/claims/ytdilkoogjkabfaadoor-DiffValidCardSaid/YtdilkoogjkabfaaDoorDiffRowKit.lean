/- What the row of DiffValid wants: the table as it is laid, and the witness's world. -/
import Derived.Test.YtdilkoogjkabfaaDoorRows
import Derived.Test.YtdilkoogjkabfaaDoorCards
import Derived.Test.YtdilkoogjkabfaaDoorTie
import Derived.Test.YtdilkoogjkabfaaDoorRunesDec
import Derived.ProofKit
import Derived.LaidMore
import Derived.OpenShut
import Derived.Stop.Joined
import Derived.Lib.LaidTab
import Derived.Lay
import Derived.SizedLaws
namespace Go.Proofs.YtdilkoogjkabfaaDoor
open Go Go.ChangeShapes Go.WideShapes Go.ChangeAt Go.WideMaps Go.WideElems Go.RowKit

theorem Tryd.own : ownKnob Tryd.prog.godebug = none := by kernel_rfl
def U.laid : List (String × DataW Unit) := Rows.diffValidRow.laid
def U.tabName : String := Rows.diffValidRow.named.headD ""
theorem U.tab_of_laid {W : World} (h : laidMetH Tryd.prog U.laid W) : U.Tab W := by
  rw [MakeChecks.laidMetH_plain _ _ _ (by kernel_rfl)] at h
  have hg : Tryd.prog.globalNamed U.tabName = some 0 := by kernel_rfl
  have ht := Lib.tabIs_of_head (rest := []) (k := .i64) (zs := [0, 0, 192, 224, 240]) hg (t := 47) (e := 3) (n := 5) (by kernel_rfl) Tryd.underlying47 Tryd.underlying3 (by kernel_rfl) (by kernel_rfl) h
  have c : ∀ i, i < 5 → W.cell? ⟨0, i, none⟩ = some (.int .i64 ([0, 0, 192, 224, 240].getD i 0)) := fun i hi => ht.cell hg i hi
  refine ⟨c 0 (by omega), c 1 (by omega), c 2 (by omega), c 3 (by omega), c 4 (by omega), ?_⟩
  have := c 0 (by omega)
  simp only [World.cell?] at this
  rcases Nat.lt_or_ge 0 W.heap.size with h | h
  · exact h
  · rw [Array.getElem?_eq_none h] at this; simp at this
theorem U.shaped (os : Os) (args : Array Value) : ((World.laidAll Tryd.prog os U.laid).forCall (fun _ _ => 0) ⟨#[], args, []⟩).Shaped Tryd.prog := World.shaped_of_ZipB (by kernel_rfl) (by kernel_rfl)
theorem U.laid_met (os : Os) (args : Array Value) : laidMetH Tryd.prog U.laid ((World.laidAll Tryd.prog os U.laid).forCall (fun _ _ => 0) ⟨#[], args, []⟩).memory := by
  rw [MakeChecks.laidMetH_plain _ _ _ (by kernel_rfl)]
  exact laidMet_laidAll _ (by kernel_rfl) (by kernel_rfl)
theorem U.reach {H : Type} {ts : List TypeId} {ds : List (DataW H)} (h : (DataW.weightsEach Tryd.prog ts ds).all (· ≤ reachBytes) = true) {j : Nat} {t : TypeId} {s : ByteArray} (ht : ts[j]? = some t) (hd : ds[j]? = some (.lit (.string s.data.toList))) :
    s.size ≤ 140737488351232 := by
  have := sized_string h ht hd
  rw [U.len] at this
  exact this
end Go.Proofs.YtdilkoogjkabfaaDoor
