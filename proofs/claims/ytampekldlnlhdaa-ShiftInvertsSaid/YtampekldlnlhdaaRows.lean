/-
  No cell of these rows narrows 'for every input' (looked for: loops, veiled, ifaces, maps, wideKeys, modest, calm, conditions, laid).
  DERIVED. THE GIVEN ROWS OF THIS SEAT. 10 by the template 'for every input the law returns true; each argument reads behind the call as it read before'; 0 by the template 'total and deterministic' (their statements: YtampekldlnlhdaaTotals.lean).
  GIVEN WITH THE SEED: the statements are not yours to turn. If you find one false, say at which input.
  Laid BY PROGRAM, IN A SANDBOX (cutbox-rows.mjs): the forced cells as the released guide's own fill.sh prints them over the translation 43456af5c0978f67… (all of the seat's roots in one cut). By AI agents, Wed Nov 11 2026. No macro, syntax, notation, axiom, sorry.
-/
import Derived.Test.YtampekldlnlhdaaChecked
import GoSem.Claim
import GoSem.ClaimJoined
import GoSem.ClaimMapViews
import Derived.JoinedTies
import Derived.KernelRfl
namespace Go.Proofs.Ytampekldlnlhdaa
/- THE CELL 'sum', in the pinned program and in every row, IS THE sha256 OF THE DUMP (.gsa) THAT YtampekldlnlhdaaProg.lean LOADS. Nothing in Lean hashes anything: it is a label: what it is worth is what the hold of that sum in a sandbox is worth. -/
noncomputable def Try.pinned : Pinned := { name := "ytampekldlnlhdaa", sum := "43456af5c0978f67361d5193cb6544bd62cc04d7088c2d4f516fd716182c2e1f", checked := Try.checked }
namespace Rows
def none {H : Type} : Left H := { results := [], args := [] }

/-- 'quartolaw06.ShiftMoves': WHATEVER THE INPUT: true; the input reads as it did. -/
def shiftMovesSpec : ChangeSpec := { name := "shiftMoves", fn := fun _ => fun
  | [d1, d2, d3] => { results := [.lit (.bool true)], args := [d1, d2, d3] }
  | _ => none }
def shiftMovesRow : OpenClaim := { program := "ytampekldlnlhdaa", sum := "43456af5c0978f67361d5193cb6544bd62cc04d7088c2d4f516fd716182c2e1f", func := "quarto/quartolaw06.ShiftMoves", spec := "shiftMoves", unfollowed := true, recurses := true, apart := false }
def ShiftMovesSaid : Prop := shiftMovesRow.holds Try.pinned (OpenSpec.ofChange shiftMovesSpec)

/-- ITS FALSE NEIGHBOUR: 'it returns false'. Refute it at one input. -/
def shiftMovesWrong : ChangeSpec := { name := "shiftMoves", fn := fun _ => fun
  | [d1, d2, d3] => { results := [.lit (.bool false)], args := [d1, d2, d3] }
  | _ => none }
def ShiftMovesWrongFalsely : Prop := shiftMovesRow.holds Try.pinned (OpenSpec.ofChange shiftMovesWrong)

/-- 'quartolaw06.ShiftKeeps': WHATEVER THE INPUT: true; the input reads as it did. -/
def shiftKeepsSpec : ChangeSpec := { name := "shiftKeeps", fn := fun _ => fun
  | [d1, d2] => { results := [.lit (.bool true)], args := [d1, d2] }
  | _ => none }
def shiftKeepsRow : OpenClaim := { program := "ytampekldlnlhdaa", sum := "43456af5c0978f67361d5193cb6544bd62cc04d7088c2d4f516fd716182c2e1f", func := "quarto/quartolaw06.ShiftKeeps", spec := "shiftKeeps", unfollowed := true, recurses := true, apart := false }
def ShiftKeepsSaid : Prop := shiftKeepsRow.holds Try.pinned (OpenSpec.ofChange shiftKeepsSpec)

/-- ITS FALSE NEIGHBOUR: 'it returns false'. Refute it at one input. -/
def shiftKeepsWrong : ChangeSpec := { name := "shiftKeeps", fn := fun _ => fun
  | [d1, d2] => { results := [.lit (.bool false)], args := [d1, d2] }
  | _ => none }
def ShiftKeepsWrongFalsely : Prop := shiftKeepsRow.holds Try.pinned (OpenSpec.ofChange shiftKeepsWrong)

/-- 'quartolaw06.ShiftRanges': WHATEVER THE INPUT: true; the input reads as it did. -/
def shiftRangesSpec : ChangeSpec := { name := "shiftRanges", fn := fun _ => fun
  | [d1, d2, d3] => { results := [.lit (.bool true)], args := [d1, d2, d3] }
  | _ => none }
def shiftRangesRow : OpenClaim := { program := "ytampekldlnlhdaa", sum := "43456af5c0978f67361d5193cb6544bd62cc04d7088c2d4f516fd716182c2e1f", func := "quarto/quartolaw06.ShiftRanges", spec := "shiftRanges", unfollowed := true, recurses := true, apart := false }
def ShiftRangesSaid : Prop := shiftRangesRow.holds Try.pinned (OpenSpec.ofChange shiftRangesSpec)

/-- ITS FALSE NEIGHBOUR: 'it returns false'. Refute it at one input. -/
def shiftRangesWrong : ChangeSpec := { name := "shiftRanges", fn := fun _ => fun
  | [d1, d2, d3] => { results := [.lit (.bool false)], args := [d1, d2, d3] }
  | _ => none }
def ShiftRangesWrongFalsely : Prop := shiftRangesRow.holds Try.pinned (OpenSpec.ofChange shiftRangesWrong)

/-- 'quartolaw06.ShiftExtent': WHATEVER THE INPUT: true; the input reads as it did. -/
def shiftExtentSpec : ChangeSpec := { name := "shiftExtent", fn := fun _ => fun
  | [d] => { results := [.lit (.bool true)], args := [d] }
  | _ => none }
def shiftExtentRow : OpenClaim := { program := "ytampekldlnlhdaa", sum := "43456af5c0978f67361d5193cb6544bd62cc04d7088c2d4f516fd716182c2e1f", func := "quarto/quartolaw06.ShiftExtent", spec := "shiftExtent", unfollowed := true, recurses := true, apart := false }
def ShiftExtentSaid : Prop := shiftExtentRow.holds Try.pinned (OpenSpec.ofChange shiftExtentSpec)

/-- ITS FALSE NEIGHBOUR: 'it returns false'. Refute it at one input. -/
def shiftExtentWrong : ChangeSpec := { name := "shiftExtent", fn := fun _ => fun
  | [d] => { results := [.lit (.bool false)], args := [d] }
  | _ => none }
def ShiftExtentWrongFalsely : Prop := shiftExtentRow.holds Try.pinned (OpenSpec.ofChange shiftExtentWrong)

/-- 'quartolaw06.ShiftGaps': WHATEVER THE INPUT: true; the input reads as it did. -/
def shiftGapsSpec : ChangeSpec := { name := "shiftGaps", fn := fun _ => fun
  | [d1, d2] => { results := [.lit (.bool true)], args := [d1, d2] }
  | _ => none }
def shiftGapsRow : OpenClaim := { program := "ytampekldlnlhdaa", sum := "43456af5c0978f67361d5193cb6544bd62cc04d7088c2d4f516fd716182c2e1f", func := "quarto/quartolaw06.ShiftGaps", spec := "shiftGaps", unfollowed := true, recurses := true, apart := false }
def ShiftGapsSaid : Prop := shiftGapsRow.holds Try.pinned (OpenSpec.ofChange shiftGapsSpec)

/-- ITS FALSE NEIGHBOUR: 'it returns false'. Refute it at one input. -/
def shiftGapsWrong : ChangeSpec := { name := "shiftGaps", fn := fun _ => fun
  | [d1, d2] => { results := [.lit (.bool false)], args := [d1, d2] }
  | _ => none }
def ShiftGapsWrongFalsely : Prop := shiftGapsRow.holds Try.pinned (OpenSpec.ofChange shiftGapsWrong)

/-- 'quartolaw06.ShiftOrders': WHATEVER THE INPUT: true; the input reads as it did. -/
def shiftOrdersSpec : ChangeSpec := { name := "shiftOrders", fn := fun _ => fun
  | [d1, d2, d3] => { results := [.lit (.bool true)], args := [d1, d2, d3] }
  | _ => none }
def shiftOrdersRow : OpenClaim := { program := "ytampekldlnlhdaa", sum := "43456af5c0978f67361d5193cb6544bd62cc04d7088c2d4f516fd716182c2e1f", func := "quarto/quartolaw06.ShiftOrders", spec := "shiftOrders", unfollowed := true, recurses := true, apart := false }
def ShiftOrdersSaid : Prop := shiftOrdersRow.holds Try.pinned (OpenSpec.ofChange shiftOrdersSpec)

/-- ITS FALSE NEIGHBOUR: 'it returns false'. Refute it at one input. -/
def shiftOrdersWrong : ChangeSpec := { name := "shiftOrders", fn := fun _ => fun
  | [d1, d2, d3] => { results := [.lit (.bool false)], args := [d1, d2, d3] }
  | _ => none }
def ShiftOrdersWrongFalsely : Prop := shiftOrdersRow.holds Try.pinned (OpenSpec.ofChange shiftOrdersWrong)

/-- 'quartolaw06.ShiftAdjoint': WHATEVER THE INPUT: true; the input reads as it did. -/
def shiftAdjointSpec : ChangeSpec := { name := "shiftAdjoint", fn := fun _ => fun
  | [d1, d2, d3] => { results := [.lit (.bool true)], args := [d1, d2, d3] }
  | _ => none }
def shiftAdjointRow : OpenClaim := { program := "ytampekldlnlhdaa", sum := "43456af5c0978f67361d5193cb6544bd62cc04d7088c2d4f516fd716182c2e1f", func := "quarto/quartolaw06.ShiftAdjoint", spec := "shiftAdjoint", unfollowed := true, recurses := true, apart := false }
def ShiftAdjointSaid : Prop := shiftAdjointRow.holds Try.pinned (OpenSpec.ofChange shiftAdjointSpec)

/-- ITS FALSE NEIGHBOUR: 'it returns false'. Refute it at one input. -/
def shiftAdjointWrong : ChangeSpec := { name := "shiftAdjoint", fn := fun _ => fun
  | [d1, d2, d3] => { results := [.lit (.bool false)], args := [d1, d2, d3] }
  | _ => none }
def ShiftAdjointWrongFalsely : Prop := shiftAdjointRow.holds Try.pinned (OpenSpec.ofChange shiftAdjointWrong)

/-- 'quartolaw06.ShiftComposes': WHATEVER THE INPUT: true; the input reads as it did. -/
def shiftComposesSpec : ChangeSpec := { name := "shiftComposes", fn := fun _ => fun
  | [d1, d2, d3] => { results := [.lit (.bool true)], args := [d1, d2, d3] }
  | _ => none }
def shiftComposesRow : OpenClaim := { program := "ytampekldlnlhdaa", sum := "43456af5c0978f67361d5193cb6544bd62cc04d7088c2d4f516fd716182c2e1f", func := "quarto/quartolaw06.ShiftComposes", spec := "shiftComposes", unfollowed := true, recurses := true, apart := false }
def ShiftComposesSaid : Prop := shiftComposesRow.holds Try.pinned (OpenSpec.ofChange shiftComposesSpec)

/-- ITS FALSE NEIGHBOUR: 'it returns false'. Refute it at one input. -/
def shiftComposesWrong : ChangeSpec := { name := "shiftComposes", fn := fun _ => fun
  | [d1, d2, d3] => { results := [.lit (.bool false)], args := [d1, d2, d3] }
  | _ => none }
def ShiftComposesWrongFalsely : Prop := shiftComposesRow.holds Try.pinned (OpenSpec.ofChange shiftComposesWrong)

/-- 'quartolaw06.ShiftInverts': WHATEVER THE INPUT: true; the input reads as it did. -/
def shiftInvertsSpec : ChangeSpec := { name := "shiftInverts", fn := fun _ => fun
  | [d1, d2, d3, d4] => { results := [.lit (.bool true)], args := [d1, d2, d3, d4] }
  | _ => none }
def shiftInvertsRow : OpenClaim := { program := "ytampekldlnlhdaa", sum := "43456af5c0978f67361d5193cb6544bd62cc04d7088c2d4f516fd716182c2e1f", func := "quarto/quartolaw06.ShiftInverts", spec := "shiftInverts", unfollowed := true, recurses := true, apart := false }
def ShiftInvertsSaid : Prop := shiftInvertsRow.holds Try.pinned (OpenSpec.ofChange shiftInvertsSpec)

/-- ITS FALSE NEIGHBOUR: 'it returns false'. Refute it at one input. -/
def shiftInvertsWrong : ChangeSpec := { name := "shiftInverts", fn := fun _ => fun
  | [d1, d2, d3, d4] => { results := [.lit (.bool false)], args := [d1, d2, d3, d4] }
  | _ => none }
def ShiftInvertsWrongFalsely : Prop := shiftInvertsRow.holds Try.pinned (OpenSpec.ofChange shiftInvertsWrong)

/-- 'quartolaw06.ShiftOutside': WHATEVER THE INPUT: true; the input reads as it did. -/
def shiftOutsideSpec : ChangeSpec := { name := "shiftOutside", fn := fun _ => fun
  | [d1, d2, d3] => { results := [.lit (.bool true)], args := [d1, d2, d3] }
  | _ => none }
def shiftOutsideRow : OpenClaim := { program := "ytampekldlnlhdaa", sum := "43456af5c0978f67361d5193cb6544bd62cc04d7088c2d4f516fd716182c2e1f", func := "quarto/quartolaw06.ShiftOutside", spec := "shiftOutside", inPlace := ["internal/abi.NoEscape"], unfollowed := true, recurses := true, apart := false }
def ShiftOutsideSaid : Prop := shiftOutsideRow.holds Try.pinned (OpenSpec.ofChange shiftOutsideSpec)

/-- ITS FALSE NEIGHBOUR: 'it returns false'. Refute it at one input. -/
def shiftOutsideWrong : ChangeSpec := { name := "shiftOutside", fn := fun _ => fun
  | [d1, d2, d3] => { results := [.lit (.bool false)], args := [d1, d2, d3] }
  | _ => none }
def ShiftOutsideWrongFalsely : Prop := shiftOutsideRow.holds Try.pinned (OpenSpec.ofChange shiftOutsideWrong)

/- THE SECOND FORM. 'bulk': how many values and letters a reading holds, each counted each time it is reached (what is shared counts as often as it is met; a slice's spare places count too). A statement '..UptoSaid' is the law's where the arguments, and the package variables that the reading takes, are together of bulk at most 1048576: NARROWER than '..Said'. Prove '..Said' where nothing that the law and all that it calls make is longer than what came in: it says more and counts as full. Else prove '..UptoSaid'. A law counts once. -/
mutual
def uptoBulk {H : Type} : DataW H → Nat
  | .lit (.string bytes) => bytes.length + 1
  | .lit _ => 1
  | .nil => 1
  | .ptr d => uptoBulk d + 1
  | .slice elems spare => uptoBulkAll elems + uptoBulkAll spare + 1
  | .agg parts => uptoBulkAll parts + 1
  | .iface _ d => uptoBulk d + 1
  | .map entries => uptoBulkEntries entries + 1
  | .held _ => 1
def uptoBulkAll {H : Type} : List (DataW H) → Nat
  | [] => 0
  | d :: r => uptoBulk d + uptoBulkAll r
def uptoBulkEntries {H : Type} : List (Lit × DataW H) → Nat
  | [] => 0
  | x :: r => uptoBulkEntry x + uptoBulkEntries r
def uptoBulkEntry {H : Type} : Lit × DataW H → Nat
  | (.string bytes, d) => bytes.length + uptoBulk d + 1
  | (_, d) => uptoBulk d + 1
 end
def uptoSmall : (H : Type) → List (DataW H) → Bool := fun _ ds => decide (uptoBulkAll ds ≤ 1048576)
def OpenSpec.upto (s : _root_.Go.ChangeSpec) : _root_.Go.OpenSpec := { _root_.Go.OpenSpec.ofChange s with cond := some uptoSmall }

/-- 'quartolaw06.ShiftMoves', WHERE WHAT IT READS IS OF BULK AT MOST 1048576: true; the input reads as it did. -/
def shiftMovesUptoRow : OpenClaim := { program := "ytampekldlnlhdaa", sum := "43456af5c0978f67361d5193cb6544bd62cc04d7088c2d4f516fd716182c2e1f", func := "quarto/quartolaw06.ShiftMoves", spec := "shiftMoves", unfollowed := true, recurses := true, apart := false, narrowed := true }
def ShiftMovesUptoSaid : Prop := shiftMovesUptoRow.holds Try.pinned (OpenSpec.upto shiftMovesSpec)

/-- 'quartolaw06.ShiftKeeps', WHERE WHAT IT READS IS OF BULK AT MOST 1048576: true; the input reads as it did. -/
def shiftKeepsUptoRow : OpenClaim := { program := "ytampekldlnlhdaa", sum := "43456af5c0978f67361d5193cb6544bd62cc04d7088c2d4f516fd716182c2e1f", func := "quarto/quartolaw06.ShiftKeeps", spec := "shiftKeeps", unfollowed := true, recurses := true, apart := false, narrowed := true }
def ShiftKeepsUptoSaid : Prop := shiftKeepsUptoRow.holds Try.pinned (OpenSpec.upto shiftKeepsSpec)

/-- 'quartolaw06.ShiftRanges', WHERE WHAT IT READS IS OF BULK AT MOST 1048576: true; the input reads as it did. -/
def shiftRangesUptoRow : OpenClaim := { program := "ytampekldlnlhdaa", sum := "43456af5c0978f67361d5193cb6544bd62cc04d7088c2d4f516fd716182c2e1f", func := "quarto/quartolaw06.ShiftRanges", spec := "shiftRanges", unfollowed := true, recurses := true, apart := false, narrowed := true }
def ShiftRangesUptoSaid : Prop := shiftRangesUptoRow.holds Try.pinned (OpenSpec.upto shiftRangesSpec)

/-- 'quartolaw06.ShiftExtent', WHERE WHAT IT READS IS OF BULK AT MOST 1048576: true; the input reads as it did. -/
def shiftExtentUptoRow : OpenClaim := { program := "ytampekldlnlhdaa", sum := "43456af5c0978f67361d5193cb6544bd62cc04d7088c2d4f516fd716182c2e1f", func := "quarto/quartolaw06.ShiftExtent", spec := "shiftExtent", unfollowed := true, recurses := true, apart := false, narrowed := true }
def ShiftExtentUptoSaid : Prop := shiftExtentUptoRow.holds Try.pinned (OpenSpec.upto shiftExtentSpec)

/-- 'quartolaw06.ShiftGaps', WHERE WHAT IT READS IS OF BULK AT MOST 1048576: true; the input reads as it did. -/
def shiftGapsUptoRow : OpenClaim := { program := "ytampekldlnlhdaa", sum := "43456af5c0978f67361d5193cb6544bd62cc04d7088c2d4f516fd716182c2e1f", func := "quarto/quartolaw06.ShiftGaps", spec := "shiftGaps", unfollowed := true, recurses := true, apart := false, narrowed := true }
def ShiftGapsUptoSaid : Prop := shiftGapsUptoRow.holds Try.pinned (OpenSpec.upto shiftGapsSpec)

/-- 'quartolaw06.ShiftOrders', WHERE WHAT IT READS IS OF BULK AT MOST 1048576: true; the input reads as it did. -/
def shiftOrdersUptoRow : OpenClaim := { program := "ytampekldlnlhdaa", sum := "43456af5c0978f67361d5193cb6544bd62cc04d7088c2d4f516fd716182c2e1f", func := "quarto/quartolaw06.ShiftOrders", spec := "shiftOrders", unfollowed := true, recurses := true, apart := false, narrowed := true }
def ShiftOrdersUptoSaid : Prop := shiftOrdersUptoRow.holds Try.pinned (OpenSpec.upto shiftOrdersSpec)

/-- 'quartolaw06.ShiftAdjoint', WHERE WHAT IT READS IS OF BULK AT MOST 1048576: true; the input reads as it did. -/
def shiftAdjointUptoRow : OpenClaim := { program := "ytampekldlnlhdaa", sum := "43456af5c0978f67361d5193cb6544bd62cc04d7088c2d4f516fd716182c2e1f", func := "quarto/quartolaw06.ShiftAdjoint", spec := "shiftAdjoint", unfollowed := true, recurses := true, apart := false, narrowed := true }
def ShiftAdjointUptoSaid : Prop := shiftAdjointUptoRow.holds Try.pinned (OpenSpec.upto shiftAdjointSpec)

/-- 'quartolaw06.ShiftComposes', WHERE WHAT IT READS IS OF BULK AT MOST 1048576: true; the input reads as it did. -/
def shiftComposesUptoRow : OpenClaim := { program := "ytampekldlnlhdaa", sum := "43456af5c0978f67361d5193cb6544bd62cc04d7088c2d4f516fd716182c2e1f", func := "quarto/quartolaw06.ShiftComposes", spec := "shiftComposes", unfollowed := true, recurses := true, apart := false, narrowed := true }
def ShiftComposesUptoSaid : Prop := shiftComposesUptoRow.holds Try.pinned (OpenSpec.upto shiftComposesSpec)

/-- 'quartolaw06.ShiftInverts', WHERE WHAT IT READS IS OF BULK AT MOST 1048576: true; the input reads as it did. -/
def shiftInvertsUptoRow : OpenClaim := { program := "ytampekldlnlhdaa", sum := "43456af5c0978f67361d5193cb6544bd62cc04d7088c2d4f516fd716182c2e1f", func := "quarto/quartolaw06.ShiftInverts", spec := "shiftInverts", unfollowed := true, recurses := true, apart := false, narrowed := true }
def ShiftInvertsUptoSaid : Prop := shiftInvertsUptoRow.holds Try.pinned (OpenSpec.upto shiftInvertsSpec)

/-- 'quartolaw06.ShiftOutside', WHERE WHAT IT READS IS OF BULK AT MOST 1048576: true; the input reads as it did. -/
def shiftOutsideUptoRow : OpenClaim := { program := "ytampekldlnlhdaa", sum := "43456af5c0978f67361d5193cb6544bd62cc04d7088c2d4f516fd716182c2e1f", func := "quarto/quartolaw06.ShiftOutside", spec := "shiftOutside", inPlace := ["internal/abi.NoEscape"], unfollowed := true, recurses := true, apart := false, narrowed := true }
def ShiftOutsideUptoSaid : Prop := shiftOutsideUptoRow.holds Try.pinned (OpenSpec.upto shiftOutsideSpec)

end Rows
end Go.Proofs.Ytampekldlnlhdaa
