/-
  No cell of these rows narrows 'for every input' (looked for: loops, veiled, ifaces, maps, wideKeys, modest, calm, conditions, laid).
  DERIVED. THE GIVEN ROWS OF THIS SEAT. 9 by the template 'for every input the law returns true; each argument reads behind the call as it read before'; 0 by the template 'total and deterministic' (their statements: YtdpjnhmnmpmkmaaTotals.lean).
  GIVEN WITH THE SEED: the statements are not yours to turn. If you find one false, say at which input.
  Laid BY PROGRAM, IN A SANDBOX (cutbox-rows.mjs): the forced cells as the released guide's own fill.sh prints them over the translation 487cae7bf777292f… (all of the seat's roots in one cut). By AI agents, Wed Nov 11 2026. No macro, syntax, notation, axiom, sorry.
-/
import Derived.Test.YtdpjnhmnmpmkmaaChecked
import GoSem.Claim
import GoSem.ClaimJoined
import GoSem.ClaimMapViews
import Derived.JoinedTies
import Derived.KernelRfl
namespace Go.Proofs.Ytdpjnhmnmpmkmaa
/- THE CELL 'sum', in the pinned program and in every row, IS THE sha256 OF THE DUMP (.gsa) THAT YtdpjnhmnmpmkmaaProg.lean LOADS. Nothing in Lean hashes anything: it is a label: what it is worth is what the hold of that sum in a sandbox is worth. -/
noncomputable def Try.pinned : Pinned := { name := "ytdpjnhmnmpmkmaa", sum := "487cae7bf777292fd8cd8e1d8198889ee827e5168be1656e69e9715e68e4ec32", checked := Try.checked }
namespace Rows
def none {H : Type} : Left H := { results := [], args := [] }

/-- 'quartolaw04.ApplyDoes': WHATEVER THE INPUT: true; the input reads as it did. -/
def applyDoesSpec : ChangeSpec := { name := "applyDoes", fn := fun _ => fun
  | [d1, d2] => { results := [.lit (.bool true)], args := [d1, d2] }
  | _ => none }
def applyDoesRow : OpenClaim := { program := "ytdpjnhmnmpmkmaa", sum := "487cae7bf777292fd8cd8e1d8198889ee827e5168be1656e69e9715e68e4ec32", func := "quarto/quartolaw04.ApplyDoes", spec := "applyDoes", inPlace := ["internal/abi.NoEscape"], unfollowed := true, recurses := true, apart := false }
def ApplyDoesSaid : Prop := applyDoesRow.holds Try.pinned (OpenSpec.ofChange applyDoesSpec)

/-- ITS FALSE NEIGHBOUR: 'it returns false'. Refute it at one input. -/
def applyDoesWrong : ChangeSpec := { name := "applyDoes", fn := fun _ => fun
  | [d1, d2] => { results := [.lit (.bool false)], args := [d1, d2] }
  | _ => none }
def ApplyDoesWrongFalsely : Prop := applyDoesRow.holds Try.pinned (OpenSpec.ofChange applyDoesWrong)

/-- 'quartolaw04.ApplyInserted': WHATEVER THE INPUT: true; the input reads as it did. -/
def applyInsertedSpec : ChangeSpec := { name := "applyInserted", fn := fun _ => fun
  | [d] => { results := [.lit (.bool true)], args := [d] }
  | _ => none }
def applyInsertedRow : OpenClaim := { program := "ytdpjnhmnmpmkmaa", sum := "487cae7bf777292fd8cd8e1d8198889ee827e5168be1656e69e9715e68e4ec32", func := "quarto/quartolaw04.ApplyInserted", spec := "applyInserted", inPlace := ["internal/abi.NoEscape"], unfollowed := true, recurses := true, apart := false }
def ApplyInsertedSaid : Prop := applyInsertedRow.holds Try.pinned (OpenSpec.ofChange applyInsertedSpec)

/-- ITS FALSE NEIGHBOUR: 'it returns false'. Refute it at one input. -/
def applyInsertedWrong : ChangeSpec := { name := "applyInserted", fn := fun _ => fun
  | [d] => { results := [.lit (.bool false)], args := [d] }
  | _ => none }
def ApplyInsertedWrongFalsely : Prop := applyInsertedRow.holds Try.pinned (OpenSpec.ofChange applyInsertedWrong)

/-- 'quartolaw04.ApplyInverts': WHATEVER THE INPUT: true; the input reads as it did. -/
def applyInvertsSpec : ChangeSpec := { name := "applyInverts", fn := fun _ => fun
  | [d1, d2] => { results := [.lit (.bool true)], args := [d1, d2] }
  | _ => none }
def applyInvertsRow : OpenClaim := { program := "ytdpjnhmnmpmkmaa", sum := "487cae7bf777292fd8cd8e1d8198889ee827e5168be1656e69e9715e68e4ec32", func := "quarto/quartolaw04.ApplyInverts", spec := "applyInverts", inPlace := ["internal/abi.NoEscape"], unfollowed := true, recurses := true, apart := false }
def ApplyInvertsSaid : Prop := applyInvertsRow.holds Try.pinned (OpenSpec.ofChange applyInvertsSpec)

/-- ITS FALSE NEIGHBOUR: 'it returns false'. Refute it at one input. -/
def applyInvertsWrong : ChangeSpec := { name := "applyInverts", fn := fun _ => fun
  | [d1, d2] => { results := [.lit (.bool false)], args := [d1, d2] }
  | _ => none }
def ApplyInvertsWrongFalsely : Prop := applyInvertsRow.holds Try.pinned (OpenSpec.ofChange applyInvertsWrong)

/-- 'quartolaw04.ApplyMakes': WHATEVER THE INPUT: true; the input reads as it did. -/
def applyMakesSpec : ChangeSpec := { name := "applyMakes", fn := fun _ => fun
  | [d1, d2, d3, d4] => { results := [.lit (.bool true)], args := [d1, d2, d3, d4] }
  | _ => none }
def applyMakesRow : OpenClaim := { program := "ytdpjnhmnmpmkmaa", sum := "487cae7bf777292fd8cd8e1d8198889ee827e5168be1656e69e9715e68e4ec32", func := "quarto/quartolaw04.ApplyMakes", spec := "applyMakes", inPlace := ["internal/abi.NoEscape"], unfollowed := true, recurses := true, apart := false }
def ApplyMakesSaid : Prop := applyMakesRow.holds Try.pinned (OpenSpec.ofChange applyMakesSpec)

/-- ITS FALSE NEIGHBOUR: 'it returns false'. Refute it at one input. -/
def applyMakesWrong : ChangeSpec := { name := "applyMakes", fn := fun _ => fun
  | [d1, d2, d3, d4] => { results := [.lit (.bool false)], args := [d1, d2, d3, d4] }
  | _ => none }
def ApplyMakesWrongFalsely : Prop := applyMakesRow.holds Try.pinned (OpenSpec.ofChange applyMakesWrong)

/-- 'quartolaw04.ApplyBack': WHATEVER THE INPUT: true; the input reads as it did. -/
def applyBackSpec : ChangeSpec := { name := "applyBack", fn := fun _ => fun
  | [d1, d2] => { results := [.lit (.bool true)], args := [d1, d2] }
  | _ => none }
def applyBackRow : OpenClaim := { program := "ytdpjnhmnmpmkmaa", sum := "487cae7bf777292fd8cd8e1d8198889ee827e5168be1656e69e9715e68e4ec32", func := "quarto/quartolaw04.ApplyBack", spec := "applyBack", inPlace := ["internal/abi.NoEscape"], unfollowed := true, recurses := true, apart := false }
def ApplyBackSaid : Prop := applyBackRow.holds Try.pinned (OpenSpec.ofChange applyBackSpec)

/-- ITS FALSE NEIGHBOUR: 'it returns false'. Refute it at one input. -/
def applyBackWrong : ChangeSpec := { name := "applyBack", fn := fun _ => fun
  | [d1, d2] => { results := [.lit (.bool false)], args := [d1, d2] }
  | _ => none }
def ApplyBackWrongFalsely : Prop := applyBackRow.holds Try.pinned (OpenSpec.ofChange applyBackWrong)

/-- 'quartolaw04.ApplySame': WHATEVER THE INPUT: true; the input reads as it did. -/
def applySameSpec : ChangeSpec := { name := "applySame", fn := fun _ => fun
  | [d1, d2, d3] => { results := [.lit (.bool true)], args := [d1, d2, d3] }
  | _ => none }
def applySameRow : OpenClaim := { program := "ytdpjnhmnmpmkmaa", sum := "487cae7bf777292fd8cd8e1d8198889ee827e5168be1656e69e9715e68e4ec32", func := "quarto/quartolaw04.ApplySame", spec := "applySame", inPlace := ["internal/abi.NoEscape"], unfollowed := true, recurses := true, apart := false }
def ApplySameSaid : Prop := applySameRow.holds Try.pinned (OpenSpec.ofChange applySameSpec)

/-- ITS FALSE NEIGHBOUR: 'it returns false'. Refute it at one input. -/
def applySameWrong : ChangeSpec := { name := "applySame", fn := fun _ => fun
  | [d1, d2, d3] => { results := [.lit (.bool false)], args := [d1, d2, d3] }
  | _ => none }
def ApplySameWrongFalsely : Prop := applySameRow.holds Try.pinned (OpenSpec.ofChange applySameWrong)

/-- 'quartolaw04.ApplyTells': WHATEVER THE INPUT: true; the input reads as it did. -/
def applyTellsSpec : ChangeSpec := { name := "applyTells", fn := fun _ => fun
  | [d1, d2] => { results := [.lit (.bool true)], args := [d1, d2] }
  | _ => none }
def applyTellsRow : OpenClaim := { program := "ytdpjnhmnmpmkmaa", sum := "487cae7bf777292fd8cd8e1d8198889ee827e5168be1656e69e9715e68e4ec32", func := "quarto/quartolaw04.ApplyTells", spec := "applyTells", inPlace := ["internal/abi.NoEscape"], unfollowed := true, recurses := true, apart := false }
def ApplyTellsSaid : Prop := applyTellsRow.holds Try.pinned (OpenSpec.ofChange applyTellsSpec)

/-- ITS FALSE NEIGHBOUR: 'it returns false'. Refute it at one input. -/
def applyTellsWrong : ChangeSpec := { name := "applyTells", fn := fun _ => fun
  | [d1, d2] => { results := [.lit (.bool false)], args := [d1, d2] }
  | _ => none }
def ApplyTellsWrongFalsely : Prop := applyTellsRow.holds Try.pinned (OpenSpec.ofChange applyTellsWrong)

/-- 'quartolaw04.ApplyParts': WHATEVER THE INPUT: true; the input reads as it did. -/
def applyPartsSpec : ChangeSpec := { name := "applyParts", fn := fun _ => fun
  | [d1, d2, d3, d4] => { results := [.lit (.bool true)], args := [d1, d2, d3, d4] }
  | _ => none }
def applyPartsRow : OpenClaim := { program := "ytdpjnhmnmpmkmaa", sum := "487cae7bf777292fd8cd8e1d8198889ee827e5168be1656e69e9715e68e4ec32", func := "quarto/quartolaw04.ApplyParts", spec := "applyParts", inPlace := ["internal/abi.NoEscape"], unfollowed := true, recurses := true, apart := false }
def ApplyPartsSaid : Prop := applyPartsRow.holds Try.pinned (OpenSpec.ofChange applyPartsSpec)

/-- ITS FALSE NEIGHBOUR: 'it returns false'. Refute it at one input. -/
def applyPartsWrong : ChangeSpec := { name := "applyParts", fn := fun _ => fun
  | [d1, d2, d3, d4] => { results := [.lit (.bool false)], args := [d1, d2, d3, d4] }
  | _ => none }
def ApplyPartsWrongFalsely : Prop := applyPartsRow.holds Try.pinned (OpenSpec.ofChange applyPartsWrong)

/-- 'quartolaw04.ApplyEdits': WHATEVER THE INPUT: true; the input reads as it did. -/
def applyEditsSpec : ChangeSpec := { name := "applyEdits", fn := fun _ => fun
  | [d1, d2, d3, d4] => { results := [.lit (.bool true)], args := [d1, d2, d3, d4] }
  | _ => none }
def applyEditsRow : OpenClaim := { program := "ytdpjnhmnmpmkmaa", sum := "487cae7bf777292fd8cd8e1d8198889ee827e5168be1656e69e9715e68e4ec32", func := "quarto/quartolaw04.ApplyEdits", spec := "applyEdits", inPlace := ["internal/abi.NoEscape"], unfollowed := true, recurses := true, apart := false }
def ApplyEditsSaid : Prop := applyEditsRow.holds Try.pinned (OpenSpec.ofChange applyEditsSpec)

/-- ITS FALSE NEIGHBOUR: 'it returns false'. Refute it at one input. -/
def applyEditsWrong : ChangeSpec := { name := "applyEdits", fn := fun _ => fun
  | [d1, d2, d3, d4] => { results := [.lit (.bool false)], args := [d1, d2, d3, d4] }
  | _ => none }
def ApplyEditsWrongFalsely : Prop := applyEditsRow.holds Try.pinned (OpenSpec.ofChange applyEditsWrong)

/- THE SECOND FORM. 'bulk': how many values and letters a reading holds, each counted each time it is reached (what is shared counts as often as it is met; a slice's spare places count too). A statement '..UptoSaid' is the law's where the arguments, and the package variables that the reading takes, are together of bulk at most 1048576: NARROWER than '..Said'. Prove '..Said' where nothing that the law and all that it calls make is longer than what came in: it says more and counts as full. Else prove '..UptoSaid'. A law counts once. -/
mutual
def uptoBulk {H : Type} : DataW H → Nat
  | .lit (.string bytes) => bytes.length + 1
  | .lit _ => 1
  | .nil => 1
  | .ptr d => uptoBulk d + 1
  | .slice elems spare => uptoBulkAll elems + uptoBulkAll spare + 1
  | .agg parts => uptoBulkAll parts + 1
  | .iface _ d => uptoBulk d + 1
  | .map entries => uptoBulkEntries entries + 1
  | .held _ => 1
def uptoBulkAll {H : Type} : List (DataW H) → Nat
  | [] => 0
  | d :: r => uptoBulk d + uptoBulkAll r
def uptoBulkEntries {H : Type} : List (Lit × DataW H) → Nat
  | [] => 0
  | x :: r => uptoBulkEntry x + uptoBulkEntries r
def uptoBulkEntry {H : Type} : Lit × DataW H → Nat
  | (.string bytes, d) => bytes.length + uptoBulk d + 1
  | (_, d) => uptoBulk d + 1
 end
def uptoSmall : (H : Type) → List (DataW H) → Bool := fun _ ds => decide (uptoBulkAll ds ≤ 1048576)
def OpenSpec.upto (s : _root_.Go.ChangeSpec) : _root_.Go.OpenSpec := { _root_.Go.OpenSpec.ofChange s with cond := some uptoSmall }

/-- 'quartolaw04.ApplyDoes', WHERE WHAT IT READS IS OF BULK AT MOST 1048576: true; the input reads as it did. -/
def applyDoesUptoRow : OpenClaim := { program := "ytdpjnhmnmpmkmaa", sum := "487cae7bf777292fd8cd8e1d8198889ee827e5168be1656e69e9715e68e4ec32", func := "quarto/quartolaw04.ApplyDoes", spec := "applyDoes", inPlace := ["internal/abi.NoEscape"], unfollowed := true, recurses := true, apart := false, narrowed := true }
def ApplyDoesUptoSaid : Prop := applyDoesUptoRow.holds Try.pinned (OpenSpec.upto applyDoesSpec)

/-- 'quartolaw04.ApplyInserted', WHERE WHAT IT READS IS OF BULK AT MOST 1048576: true; the input reads as it did. -/
def applyInsertedUptoRow : OpenClaim := { program := "ytdpjnhmnmpmkmaa", sum := "487cae7bf777292fd8cd8e1d8198889ee827e5168be1656e69e9715e68e4ec32", func := "quarto/quartolaw04.ApplyInserted", spec := "applyInserted", inPlace := ["internal/abi.NoEscape"], unfollowed := true, recurses := true, apart := false, narrowed := true }
def ApplyInsertedUptoSaid : Prop := applyInsertedUptoRow.holds Try.pinned (OpenSpec.upto applyInsertedSpec)

/-- 'quartolaw04.ApplyInverts', WHERE WHAT IT READS IS OF BULK AT MOST 1048576: true; the input reads as it did. -/
def applyInvertsUptoRow : OpenClaim := { program := "ytdpjnhmnmpmkmaa", sum := "487cae7bf777292fd8cd8e1d8198889ee827e5168be1656e69e9715e68e4ec32", func := "quarto/quartolaw04.ApplyInverts", spec := "applyInverts", inPlace := ["internal/abi.NoEscape"], unfollowed := true, recurses := true, apart := false, narrowed := true }
def ApplyInvertsUptoSaid : Prop := applyInvertsUptoRow.holds Try.pinned (OpenSpec.upto applyInvertsSpec)

/-- 'quartolaw04.ApplyMakes', WHERE WHAT IT READS IS OF BULK AT MOST 1048576: true; the input reads as it did. -/
def applyMakesUptoRow : OpenClaim := { program := "ytdpjnhmnmpmkmaa", sum := "487cae7bf777292fd8cd8e1d8198889ee827e5168be1656e69e9715e68e4ec32", func := "quarto/quartolaw04.ApplyMakes", spec := "applyMakes", inPlace := ["internal/abi.NoEscape"], unfollowed := true, recurses := true, apart := false, narrowed := true }
def ApplyMakesUptoSaid : Prop := applyMakesUptoRow.holds Try.pinned (OpenSpec.upto applyMakesSpec)

/-- 'quartolaw04.ApplyBack', WHERE WHAT IT READS IS OF BULK AT MOST 1048576: true; the input reads as it did. -/
def applyBackUptoRow : OpenClaim := { program := "ytdpjnhmnmpmkmaa", sum := "487cae7bf777292fd8cd8e1d8198889ee827e5168be1656e69e9715e68e4ec32", func := "quarto/quartolaw04.ApplyBack", spec := "applyBack", inPlace := ["internal/abi.NoEscape"], unfollowed := true, recurses := true, apart := false, narrowed := true }
def ApplyBackUptoSaid : Prop := applyBackUptoRow.holds Try.pinned (OpenSpec.upto applyBackSpec)

/-- 'quartolaw04.ApplySame', WHERE WHAT IT READS IS OF BULK AT MOST 1048576: true; the input reads as it did. -/
def applySameUptoRow : OpenClaim := { program := "ytdpjnhmnmpmkmaa", sum := "487cae7bf777292fd8cd8e1d8198889ee827e5168be1656e69e9715e68e4ec32", func := "quarto/quartolaw04.ApplySame", spec := "applySame", inPlace := ["internal/abi.NoEscape"], unfollowed := true, recurses := true, apart := false, narrowed := true }
def ApplySameUptoSaid : Prop := applySameUptoRow.holds Try.pinned (OpenSpec.upto applySameSpec)

/-- 'quartolaw04.ApplyTells', WHERE WHAT IT READS IS OF BULK AT MOST 1048576: true; the input reads as it did. -/
def applyTellsUptoRow : OpenClaim := { program := "ytdpjnhmnmpmkmaa", sum := "487cae7bf777292fd8cd8e1d8198889ee827e5168be1656e69e9715e68e4ec32", func := "quarto/quartolaw04.ApplyTells", spec := "applyTells", inPlace := ["internal/abi.NoEscape"], unfollowed := true, recurses := true, apart := false, narrowed := true }
def ApplyTellsUptoSaid : Prop := applyTellsUptoRow.holds Try.pinned (OpenSpec.upto applyTellsSpec)

/-- 'quartolaw04.ApplyParts', WHERE WHAT IT READS IS OF BULK AT MOST 1048576: true; the input reads as it did. -/
def applyPartsUptoRow : OpenClaim := { program := "ytdpjnhmnmpmkmaa", sum := "487cae7bf777292fd8cd8e1d8198889ee827e5168be1656e69e9715e68e4ec32", func := "quarto/quartolaw04.ApplyParts", spec := "applyParts", inPlace := ["internal/abi.NoEscape"], unfollowed := true, recurses := true, apart := false, narrowed := true }
def ApplyPartsUptoSaid : Prop := applyPartsUptoRow.holds Try.pinned (OpenSpec.upto applyPartsSpec)

/-- 'quartolaw04.ApplyEdits', WHERE WHAT IT READS IS OF BULK AT MOST 1048576: true; the input reads as it did. -/
def applyEditsUptoRow : OpenClaim := { program := "ytdpjnhmnmpmkmaa", sum := "487cae7bf777292fd8cd8e1d8198889ee827e5168be1656e69e9715e68e4ec32", func := "quarto/quartolaw04.ApplyEdits", spec := "applyEdits", inPlace := ["internal/abi.NoEscape"], unfollowed := true, recurses := true, apart := false, narrowed := true }
def ApplyEditsUptoSaid : Prop := applyEditsUptoRow.holds Try.pinned (OpenSpec.upto applyEditsSpec)

end Rows
end Go.Proofs.Ytdpjnhmnmpmkmaa
