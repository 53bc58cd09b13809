/-
  No cell of these rows narrows 'for every input' (looked for: loops, veiled, ifaces, maps, wideKeys, modest, calm, conditions, laid).
  DERIVED. THE GIVEN ROWS OF THIS SEAT. 9 by the template 'for every input the law returns true; each argument reads behind the call as it read before'; 0 by the template 'total and deterministic' (their statements: YteondigaklonpaaTotals.lean).
  GIVEN WITH THE SEED: the statements are not yours to turn. If you find one false, say at which input.
  Laid BY PROGRAM, IN A SANDBOX (cutbox-rows.mjs): the forced cells as the released guide's own fill.sh prints them over the translation 1f0de6e35c18fee9… (all of the seat's roots in one cut). By AI agents, Wed Nov 11 2026. No macro, syntax, notation, axiom, sorry.
-/
import Derived.Test.YteondigaklonpaaChecked
import GoSem.Claim
import GoSem.ClaimJoined
import GoSem.ClaimMapViews
import Derived.JoinedTies
import Derived.KernelRfl
namespace Go.Proofs.Yteondigaklonpaa
/- THE CELL 'sum', in the pinned program and in every row, IS THE sha256 OF THE DUMP (.gsa) THAT YteondigaklonpaaProg.lean LOADS. Nothing in Lean hashes anything: it is a label: what it is worth is what the hold of that sum in a sandbox is worth. -/
noncomputable def Try.pinned : Pinned := { name := "yteondigaklonpaa", sum := "1f0de6e35c18fee93bd1b37c0ea40d2b2682c59f9fdf7bc5a8b1d82f6eb361eb", checked := Try.checked }
namespace Rows
def none {H : Type} : Left H := { results := [], args := [] }

/-- 'quartolaw05.ComposeDoes': WHATEVER THE INPUT: true; the input reads as it did. -/
def composeDoesSpec : ChangeSpec := { name := "composeDoes", fn := fun _ => fun
  | [d1, d2] => { results := [.lit (.bool true)], args := [d1, d2] }
  | _ => none }
def composeDoesRow : OpenClaim := { program := "yteondigaklonpaa", sum := "1f0de6e35c18fee93bd1b37c0ea40d2b2682c59f9fdf7bc5a8b1d82f6eb361eb", func := "quarto/quartolaw05.ComposeDoes", spec := "composeDoes", unfollowed := true, recurses := true, apart := false }
def ComposeDoesSaid : Prop := composeDoesRow.holds Try.pinned (OpenSpec.ofChange composeDoesSpec)

/-- ITS FALSE NEIGHBOUR: 'it returns false'. Refute it at one input. -/
def composeDoesWrong : ChangeSpec := { name := "composeDoes", fn := fun _ => fun
  | [d1, d2] => { results := [.lit (.bool false)], args := [d1, d2] }
  | _ => none }
def ComposeDoesWrongFalsely : Prop := composeDoesRow.holds Try.pinned (OpenSpec.ofChange composeDoesWrong)

/-- 'quartolaw05.ComposeAll': WHATEVER THE INPUT: true; the input reads as it did. -/
def composeAllSpec : ChangeSpec := { name := "composeAll", fn := fun _ => fun
  | [d1, d2] => { results := [.lit (.bool true)], args := [d1, d2] }
  | _ => none }
def composeAllRow : OpenClaim := { program := "yteondigaklonpaa", sum := "1f0de6e35c18fee93bd1b37c0ea40d2b2682c59f9fdf7bc5a8b1d82f6eb361eb", func := "quarto/quartolaw05.ComposeAll", spec := "composeAll", unfollowed := true, recurses := true, apart := false }
def ComposeAllSaid : Prop := composeAllRow.holds Try.pinned (OpenSpec.ofChange composeAllSpec)

/-- ITS FALSE NEIGHBOUR: 'it returns false'. Refute it at one input. -/
def composeAllWrong : ChangeSpec := { name := "composeAll", fn := fun _ => fun
  | [d1, d2] => { results := [.lit (.bool false)], args := [d1, d2] }
  | _ => none }
def ComposeAllWrongFalsely : Prop := composeAllRow.holds Try.pinned (OpenSpec.ofChange composeAllWrong)

/-- 'quartolaw05.ComposeSplits': WHATEVER THE INPUT: true; the input reads as it did. -/
def composeSplitsSpec : ChangeSpec := { name := "composeSplits", fn := fun _ => fun
  | [d] => { results := [.lit (.bool true)], args := [d] }
  | _ => none }
def composeSplitsRow : OpenClaim := { program := "yteondigaklonpaa", sum := "1f0de6e35c18fee93bd1b37c0ea40d2b2682c59f9fdf7bc5a8b1d82f6eb361eb", func := "quarto/quartolaw05.ComposeSplits", spec := "composeSplits", unfollowed := true, recurses := true, apart := false }
def ComposeSplitsSaid : Prop := composeSplitsRow.holds Try.pinned (OpenSpec.ofChange composeSplitsSpec)

/-- ITS FALSE NEIGHBOUR: 'it returns false'. Refute it at one input. -/
def composeSplitsWrong : ChangeSpec := { name := "composeSplits", fn := fun _ => fun
  | [d] => { results := [.lit (.bool false)], args := [d] }
  | _ => none }
def ComposeSplitsWrongFalsely : Prop := composeSplitsRow.holds Try.pinned (OpenSpec.ofChange composeSplitsWrong)

/-- 'quartolaw05.ComposeApplies': WHATEVER THE INPUT: true; the input reads as it did. -/
def composeAppliesSpec : ChangeSpec := { name := "composeApplies", fn := fun _ => fun
  | [d1, d2, d3] => { results := [.lit (.bool true)], args := [d1, d2, d3] }
  | _ => none }
def composeAppliesRow : OpenClaim := { program := "yteondigaklonpaa", sum := "1f0de6e35c18fee93bd1b37c0ea40d2b2682c59f9fdf7bc5a8b1d82f6eb361eb", func := "quarto/quartolaw05.ComposeApplies", spec := "composeApplies", inPlace := ["internal/abi.NoEscape"], unfollowed := true, recurses := true, apart := false }
def ComposeAppliesSaid : Prop := composeAppliesRow.holds Try.pinned (OpenSpec.ofChange composeAppliesSpec)

/-- ITS FALSE NEIGHBOUR: 'it returns false'. Refute it at one input. -/
def composeAppliesWrong : ChangeSpec := { name := "composeApplies", fn := fun _ => fun
  | [d1, d2, d3] => { results := [.lit (.bool false)], args := [d1, d2, d3] }
  | _ => none }
def ComposeAppliesWrongFalsely : Prop := composeAppliesRow.holds Try.pinned (OpenSpec.ofChange composeAppliesWrong)

/-- 'quartolaw05.ComposeGroups': WHATEVER THE INPUT: true; the input reads as it did. -/
def composeGroupsSpec : ChangeSpec := { name := "composeGroups", fn := fun _ => fun
  | [d1, d2, d3] => { results := [.lit (.bool true)], args := [d1, d2, d3] }
  | _ => none }
def composeGroupsRow : OpenClaim := { program := "yteondigaklonpaa", sum := "1f0de6e35c18fee93bd1b37c0ea40d2b2682c59f9fdf7bc5a8b1d82f6eb361eb", func := "quarto/quartolaw05.ComposeGroups", spec := "composeGroups", unfollowed := true, recurses := true, apart := false }
def ComposeGroupsSaid : Prop := composeGroupsRow.holds Try.pinned (OpenSpec.ofChange composeGroupsSpec)

/-- ITS FALSE NEIGHBOUR: 'it returns false'. Refute it at one input. -/
def composeGroupsWrong : ChangeSpec := { name := "composeGroups", fn := fun _ => fun
  | [d1, d2, d3] => { results := [.lit (.bool false)], args := [d1, d2, d3] }
  | _ => none }
def ComposeGroupsWrongFalsely : Prop := composeGroupsRow.holds Try.pinned (OpenSpec.ofChange composeGroupsWrong)

/-- 'quartolaw05.ComposeNeutral': WHATEVER THE INPUT: true; the input reads as it did. -/
def composeNeutralSpec : ChangeSpec := { name := "composeNeutral", fn := fun _ => fun
  | [d] => { results := [.lit (.bool true)], args := [d] }
  | _ => none }
def composeNeutralRow : OpenClaim := { program := "yteondigaklonpaa", sum := "1f0de6e35c18fee93bd1b37c0ea40d2b2682c59f9fdf7bc5a8b1d82f6eb361eb", func := "quarto/quartolaw05.ComposeNeutral", spec := "composeNeutral", unfollowed := true, recurses := true, apart := false }
def ComposeNeutralSaid : Prop := composeNeutralRow.holds Try.pinned (OpenSpec.ofChange composeNeutralSpec)

/-- ITS FALSE NEIGHBOUR: 'it returns false'. Refute it at one input. -/
def composeNeutralWrong : ChangeSpec := { name := "composeNeutral", fn := fun _ => fun
  | [d] => { results := [.lit (.bool false)], args := [d] }
  | _ => none }
def ComposeNeutralWrongFalsely : Prop := composeNeutralRow.holds Try.pinned (OpenSpec.ofChange composeNeutralWrong)

/-- 'quartolaw05.ComposeBack': WHATEVER THE INPUT: true; the input reads as it did. -/
def composeBackSpec : ChangeSpec := { name := "composeBack", fn := fun _ => fun
  | [d1, d2, d3] => { results := [.lit (.bool true)], args := [d1, d2, d3] }
  | _ => none }
def composeBackRow : OpenClaim := { program := "yteondigaklonpaa", sum := "1f0de6e35c18fee93bd1b37c0ea40d2b2682c59f9fdf7bc5a8b1d82f6eb361eb", func := "quarto/quartolaw05.ComposeBack", spec := "composeBack", inPlace := ["internal/abi.NoEscape"], unfollowed := true, recurses := true, apart := false }
def ComposeBackSaid : Prop := composeBackRow.holds Try.pinned (OpenSpec.ofChange composeBackSpec)

/-- ITS FALSE NEIGHBOUR: 'it returns false'. Refute it at one input. -/
def composeBackWrong : ChangeSpec := { name := "composeBack", fn := fun _ => fun
  | [d1, d2, d3] => { results := [.lit (.bool false)], args := [d1, d2, d3] }
  | _ => none }
def ComposeBackWrongFalsely : Prop := composeBackRow.holds Try.pinned (OpenSpec.ofChange composeBackWrong)

/-- 'quartolaw05.ComposeCounts': WHATEVER THE INPUT: true; the input reads as it did. -/
def composeCountsSpec : ChangeSpec := { name := "composeCounts", fn := fun _ => fun
  | [d1, d2] => { results := [.lit (.bool true)], args := [d1, d2] }
  | _ => none }
def composeCountsRow : OpenClaim := { program := "yteondigaklonpaa", sum := "1f0de6e35c18fee93bd1b37c0ea40d2b2682c59f9fdf7bc5a8b1d82f6eb361eb", func := "quarto/quartolaw05.ComposeCounts", spec := "composeCounts", unfollowed := true, recurses := true, apart := false }
def ComposeCountsSaid : Prop := composeCountsRow.holds Try.pinned (OpenSpec.ofChange composeCountsSpec)

/-- ITS FALSE NEIGHBOUR: 'it returns false'. Refute it at one input. -/
def composeCountsWrong : ChangeSpec := { name := "composeCounts", fn := fun _ => fun
  | [d1, d2] => { results := [.lit (.bool false)], args := [d1, d2] }
  | _ => none }
def ComposeCountsWrongFalsely : Prop := composeCountsRow.holds Try.pinned (OpenSpec.ofChange composeCountsWrong)

/-- 'quartolaw05.ComposeFolds': WHATEVER THE INPUT: true; the input reads as it did. -/
def composeFoldsSpec : ChangeSpec := { name := "composeFolds", fn := fun _ => fun
  | [d1, d2, d3] => { results := [.lit (.bool true)], args := [d1, d2, d3] }
  | _ => none }
def composeFoldsRow : OpenClaim := { program := "yteondigaklonpaa", sum := "1f0de6e35c18fee93bd1b37c0ea40d2b2682c59f9fdf7bc5a8b1d82f6eb361eb", func := "quarto/quartolaw05.ComposeFolds", spec := "composeFolds", unfollowed := true, recurses := true, apart := false }
def ComposeFoldsSaid : Prop := composeFoldsRow.holds Try.pinned (OpenSpec.ofChange composeFoldsSpec)

/-- ITS FALSE NEIGHBOUR: 'it returns false'. Refute it at one input. -/
def composeFoldsWrong : ChangeSpec := { name := "composeFolds", fn := fun _ => fun
  | [d1, d2, d3] => { results := [.lit (.bool false)], args := [d1, d2, d3] }
  | _ => none }
def ComposeFoldsWrongFalsely : Prop := composeFoldsRow.holds Try.pinned (OpenSpec.ofChange composeFoldsWrong)

/- THE SECOND FORM. 'bulk': how many values and letters a reading holds, each counted each time it is reached (what is shared counts as often as it is met; a slice's spare places count too). A statement '..UptoSaid' is the law's where the arguments, and the package variables that the reading takes, are together of bulk at most 1048576: NARROWER than '..Said'. Prove '..Said' where nothing that the law and all that it calls make is longer than what came in: it says more and counts as full. Else prove '..UptoSaid'. A law counts once. -/
mutual
def uptoBulk {H : Type} : DataW H → Nat
  | .lit (.string bytes) => bytes.length + 1
  | .lit _ => 1
  | .nil => 1
  | .ptr d => uptoBulk d + 1
  | .slice elems spare => uptoBulkAll elems + uptoBulkAll spare + 1
  | .agg parts => uptoBulkAll parts + 1
  | .iface _ d => uptoBulk d + 1
  | .map entries => uptoBulkEntries entries + 1
  | .held _ => 1
def uptoBulkAll {H : Type} : List (DataW H) → Nat
  | [] => 0
  | d :: r => uptoBulk d + uptoBulkAll r
def uptoBulkEntries {H : Type} : List (Lit × DataW H) → Nat
  | [] => 0
  | x :: r => uptoBulkEntry x + uptoBulkEntries r
def uptoBulkEntry {H : Type} : Lit × DataW H → Nat
  | (.string bytes, d) => bytes.length + uptoBulk d + 1
  | (_, d) => uptoBulk d + 1
 end
def uptoSmall : (H : Type) → List (DataW H) → Bool := fun _ ds => decide (uptoBulkAll ds ≤ 1048576)
def OpenSpec.upto (s : _root_.Go.ChangeSpec) : _root_.Go.OpenSpec := { _root_.Go.OpenSpec.ofChange s with cond := some uptoSmall }

/-- 'quartolaw05.ComposeDoes', WHERE WHAT IT READS IS OF BULK AT MOST 1048576: true; the input reads as it did. -/
def composeDoesUptoRow : OpenClaim := { program := "yteondigaklonpaa", sum := "1f0de6e35c18fee93bd1b37c0ea40d2b2682c59f9fdf7bc5a8b1d82f6eb361eb", func := "quarto/quartolaw05.ComposeDoes", spec := "composeDoes", unfollowed := true, recurses := true, apart := false, narrowed := true }
def ComposeDoesUptoSaid : Prop := composeDoesUptoRow.holds Try.pinned (OpenSpec.upto composeDoesSpec)

/-- 'quartolaw05.ComposeAll', WHERE WHAT IT READS IS OF BULK AT MOST 1048576: true; the input reads as it did. -/
def composeAllUptoRow : OpenClaim := { program := "yteondigaklonpaa", sum := "1f0de6e35c18fee93bd1b37c0ea40d2b2682c59f9fdf7bc5a8b1d82f6eb361eb", func := "quarto/quartolaw05.ComposeAll", spec := "composeAll", unfollowed := true, recurses := true, apart := false, narrowed := true }
def ComposeAllUptoSaid : Prop := composeAllUptoRow.holds Try.pinned (OpenSpec.upto composeAllSpec)

/-- 'quartolaw05.ComposeSplits', WHERE WHAT IT READS IS OF BULK AT MOST 1048576: true; the input reads as it did. -/
def composeSplitsUptoRow : OpenClaim := { program := "yteondigaklonpaa", sum := "1f0de6e35c18fee93bd1b37c0ea40d2b2682c59f9fdf7bc5a8b1d82f6eb361eb", func := "quarto/quartolaw05.ComposeSplits", spec := "composeSplits", unfollowed := true, recurses := true, apart := false, narrowed := true }
def ComposeSplitsUptoSaid : Prop := composeSplitsUptoRow.holds Try.pinned (OpenSpec.upto composeSplitsSpec)

/-- 'quartolaw05.ComposeApplies', WHERE WHAT IT READS IS OF BULK AT MOST 1048576: true; the input reads as it did. -/
def composeAppliesUptoRow : OpenClaim := { program := "yteondigaklonpaa", sum := "1f0de6e35c18fee93bd1b37c0ea40d2b2682c59f9fdf7bc5a8b1d82f6eb361eb", func := "quarto/quartolaw05.ComposeApplies", spec := "composeApplies", inPlace := ["internal/abi.NoEscape"], unfollowed := true, recurses := true, apart := false, narrowed := true }
def ComposeAppliesUptoSaid : Prop := composeAppliesUptoRow.holds Try.pinned (OpenSpec.upto composeAppliesSpec)

/-- 'quartolaw05.ComposeGroups', WHERE WHAT IT READS IS OF BULK AT MOST 1048576: true; the input reads as it did. -/
def composeGroupsUptoRow : OpenClaim := { program := "yteondigaklonpaa", sum := "1f0de6e35c18fee93bd1b37c0ea40d2b2682c59f9fdf7bc5a8b1d82f6eb361eb", func := "quarto/quartolaw05.ComposeGroups", spec := "composeGroups", unfollowed := true, recurses := true, apart := false, narrowed := true }
def ComposeGroupsUptoSaid : Prop := composeGroupsUptoRow.holds Try.pinned (OpenSpec.upto composeGroupsSpec)

/-- 'quartolaw05.ComposeNeutral', WHERE WHAT IT READS IS OF BULK AT MOST 1048576: true; the input reads as it did. -/
def composeNeutralUptoRow : OpenClaim := { program := "yteondigaklonpaa", sum := "1f0de6e35c18fee93bd1b37c0ea40d2b2682c59f9fdf7bc5a8b1d82f6eb361eb", func := "quarto/quartolaw05.ComposeNeutral", spec := "composeNeutral", unfollowed := true, recurses := true, apart := false, narrowed := true }
def ComposeNeutralUptoSaid : Prop := composeNeutralUptoRow.holds Try.pinned (OpenSpec.upto composeNeutralSpec)

/-- 'quartolaw05.ComposeBack', WHERE WHAT IT READS IS OF BULK AT MOST 1048576: true; the input reads as it did. -/
def composeBackUptoRow : OpenClaim := { program := "yteondigaklonpaa", sum := "1f0de6e35c18fee93bd1b37c0ea40d2b2682c59f9fdf7bc5a8b1d82f6eb361eb", func := "quarto/quartolaw05.ComposeBack", spec := "composeBack", inPlace := ["internal/abi.NoEscape"], unfollowed := true, recurses := true, apart := false, narrowed := true }
def ComposeBackUptoSaid : Prop := composeBackUptoRow.holds Try.pinned (OpenSpec.upto composeBackSpec)

/-- 'quartolaw05.ComposeCounts', WHERE WHAT IT READS IS OF BULK AT MOST 1048576: true; the input reads as it did. -/
def composeCountsUptoRow : OpenClaim := { program := "yteondigaklonpaa", sum := "1f0de6e35c18fee93bd1b37c0ea40d2b2682c59f9fdf7bc5a8b1d82f6eb361eb", func := "quarto/quartolaw05.ComposeCounts", spec := "composeCounts", unfollowed := true, recurses := true, apart := false, narrowed := true }
def ComposeCountsUptoSaid : Prop := composeCountsUptoRow.holds Try.pinned (OpenSpec.upto composeCountsSpec)

/-- 'quartolaw05.ComposeFolds', WHERE WHAT IT READS IS OF BULK AT MOST 1048576: true; the input reads as it did. -/
def composeFoldsUptoRow : OpenClaim := { program := "yteondigaklonpaa", sum := "1f0de6e35c18fee93bd1b37c0ea40d2b2682c59f9fdf7bc5a8b1d82f6eb361eb", func := "quarto/quartolaw05.ComposeFolds", spec := "composeFolds", unfollowed := true, recurses := true, apart := false, narrowed := true }
def ComposeFoldsUptoSaid : Prop := composeFoldsUptoRow.holds Try.pinned (OpenSpec.upto composeFoldsSpec)

end Rows
end Go.Proofs.Yteondigaklonpaa
