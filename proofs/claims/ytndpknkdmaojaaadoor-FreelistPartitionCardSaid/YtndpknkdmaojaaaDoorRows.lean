/-
  NARROWER THAN 'FOR EVERY INPUT', by the rows' own cells (each row's printed sentence says how): FreelistPlays: laid · FreelistMakes: laid · FreelistExamples: laid · FreelistPartition: laid · FreelistFresh: laid · FreelistBound: laid · FreelistStack: laid.
  DERIVED. THE GIVEN ROWS OF THIS SEAT. 7 by the template 'for every input the law returns true; each argument reads behind the call as it read before'; 0 by the template 'total and deterministic' (their statements: YtndpknkdmaojaaaDoorTotals.lean).
  GIVEN WITH THE SEED: the statements are not yours to turn. If you find one false, say at which input.
  Laid BY PROGRAM, IN A SANDBOX (cutbox-rows.mjs): the forced cells as the released guide's own fill.sh prints them over the translation 03fdb8368c47d1fb… (all of the seat's roots in one cut). By AI agents, Wed Nov 11 2026. No macro, syntax, notation, axiom, sorry.
-/
import Derived.Test.YtndpknkdmaojaaaDoorChecked
import GoSem.Claim
import GoSem.ClaimJoined
import GoSem.ClaimMapViews
import Derived.JoinedTies
import Derived.KernelRfl
namespace Go.Proofs.YtndpknkdmaojaaaDoor
/- THE CELL 'sum', in the pinned program and in every row, IS THE sha256 OF THE DUMP (.gsa) THAT YtndpknkdmaojaaaDoorProg.lean LOADS. Nothing in Lean hashes anything: it is a label: what it is worth is what the hold of that sum in a sandbox is worth. -/
noncomputable def Tryd.pinned : Pinned := { name := "ytndpknkdmaojaaadoor", sum := "03fdb8368c47d1fb8d1d2f85bd9008d28d05017cc10e70c2012a50e59f65528a", checked := Tryd.checked }
namespace Rows
def none {H : Type} : Left H := { results := [], args := [] }

/- WHAT THE LISTED PACKAGE-LEVEL VARIABLES READ AS WHEN THE CALL BEGINS. Each datum BY PROGRAM (the guide's laid-datum.mjs) off the statement by which the dump's own 'gosem.cut.vars' lays the variable. In a bare row this is a premise. The card (YtndpknkdmaojaaaDoorCards.lean) ties it to the program's text. -/
def laid_math_bits_deBruijn32tab {H : Type} : DataW H := .agg [.lit (.int .u8 0), .lit (.int .u8 1), .lit (.int .u8 28), .lit (.int .u8 2), .lit (.int .u8 29), .lit (.int .u8 14), .lit (.int .u8 24), .lit (.int .u8 3), .lit (.int .u8 30), .lit (.int .u8 22), .lit (.int .u8 20), .lit (.int .u8 15), .lit (.int .u8 25), .lit (.int .u8 17), .lit (.int .u8 4), .lit (.int .u8 8), .lit (.int .u8 31), .lit (.int .u8 27), .lit (.int .u8 13), .lit (.int .u8 23), .lit (.int .u8 21), .lit (.int .u8 19), .lit (.int .u8 16), .lit (.int .u8 7), .lit (.int .u8 26), .lit (.int .u8 12), .lit (.int .u8 18), .lit (.int .u8 6), .lit (.int .u8 11), .lit (.int .u8 5), .lit (.int .u8 10), .lit (.int .u8 9)]
def laid_math_bits_deBruijn64tab {H : Type} : DataW H := .agg [.lit (.int .u8 0), .lit (.int .u8 1), .lit (.int .u8 56), .lit (.int .u8 2), .lit (.int .u8 57), .lit (.int .u8 49), .lit (.int .u8 28), .lit (.int .u8 3), .lit (.int .u8 61), .lit (.int .u8 58), .lit (.int .u8 42), .lit (.int .u8 50), .lit (.int .u8 38), .lit (.int .u8 29), .lit (.int .u8 17), .lit (.int .u8 4), .lit (.int .u8 62), .lit (.int .u8 47), .lit (.int .u8 59), .lit (.int .u8 36), .lit (.int .u8 45), .lit (.int .u8 43), .lit (.int .u8 51), .lit (.int .u8 22), .lit (.int .u8 53), .lit (.int .u8 39), .lit (.int .u8 33), .lit (.int .u8 30), .lit (.int .u8 24), .lit (.int .u8 18), .lit (.int .u8 12), .lit (.int .u8 5), .lit (.int .u8 63), .lit (.int .u8 55), .lit (.int .u8 48), .lit (.int .u8 27), .lit (.int .u8 60), .lit (.int .u8 41), .lit (.int .u8 37), .lit (.int .u8 16), .lit (.int .u8 46), .lit (.int .u8 35), .lit (.int .u8 44), .lit (.int .u8 21), .lit (.int .u8 52), .lit (.int .u8 32), .lit (.int .u8 23), .lit (.int .u8 11), .lit (.int .u8 54), .lit (.int .u8 26), .lit (.int .u8 40), .lit (.int .u8 15), .lit (.int .u8 34), .lit (.int .u8 20), .lit (.int .u8 31), .lit (.int .u8 10), .lit (.int .u8 25), .lit (.int .u8 14), .lit (.int .u8 19), .lit (.int .u8 9), .lit (.int .u8 13), .lit (.int .u8 8), .lit (.int .u8 7), .lit (.int .u8 6)]
def laid_internal_strconv_uint64pow10 {H : Type} : DataW H := .agg [.lit (.int .u64 1), .lit (.int .u64 10), .lit (.int .u64 100), .lit (.int .u64 1000), .lit (.int .u64 10000), .lit (.int .u64 100000), .lit (.int .u64 1000000), .lit (.int .u64 10000000), .lit (.int .u64 100000000), .lit (.int .u64 1000000000), .lit (.int .u64 10000000000), .lit (.int .u64 100000000000), .lit (.int .u64 1000000000000), .lit (.int .u64 10000000000000), .lit (.int .u64 100000000000000), .lit (.int .u64 1000000000000000), .lit (.int .u64 10000000000000000), .lit (.int .u64 100000000000000000), .lit (.int .u64 1000000000000000000), .lit (.int .u64 10000000000000000000)]

/-- 'quartolaw11.FreelistPlays': WHATEVER THE INPUT: true; the input reads as it did. -/
def freelistPlaysSpec : ChangeSpec := { name := "freelistPlays", fn := fun _ => fun
  | [d1, d2, d3] => { results := [.lit (.bool true)], args := [d1, d2, d3] }
  | _ => none }
def freelistPlaysRow : OpenClaim := { program := "ytndpknkdmaojaaadoor", sum := "03fdb8368c47d1fb8d1d2f85bd9008d28d05017cc10e70c2012a50e59f65528a", func := "quarto/quartolaw11.FreelistPlays", spec := "freelistPlays", named := ["internal/strconv.uint64pow10", "math/bits.deBruijn32tab", "math/bits.deBruijn64tab"], apart := false, laid := [("math/bits.deBruijn32tab", laid_math_bits_deBruijn32tab), ("math/bits.deBruijn64tab", laid_math_bits_deBruijn64tab), ("internal/strconv.uint64pow10", laid_internal_strconv_uint64pow10)] }
def FreelistPlaysSaid : Prop := freelistPlaysRow.holds Tryd.pinned (OpenSpec.ofChange freelistPlaysSpec)

/-- ITS FALSE NEIGHBOUR: 'it returns false'. Refute it at one input. -/
def freelistPlaysWrong : ChangeSpec := { name := "freelistPlays", fn := fun _ => fun
  | [d1, d2, d3] => { results := [.lit (.bool false)], args := [d1, d2, d3] }
  | _ => none }
def FreelistPlaysWrongFalsely : Prop := freelistPlaysRow.holds Tryd.pinned (OpenSpec.ofChange freelistPlaysWrong)

/-- 'quartolaw11.FreelistMakes': WHATEVER THE INPUT: true; the input reads as it did. -/
def freelistMakesSpec : ChangeSpec := { name := "freelistMakes", fn := fun _ => fun
  | [d1, d2] => { results := [.lit (.bool true)], args := [d1, d2] }
  | _ => none }
def freelistMakesRow : OpenClaim := { program := "ytndpknkdmaojaaadoor", sum := "03fdb8368c47d1fb8d1d2f85bd9008d28d05017cc10e70c2012a50e59f65528a", func := "quarto/quartolaw11.FreelistMakes", spec := "freelistMakes", named := ["internal/strconv.uint64pow10", "math/bits.deBruijn32tab", "math/bits.deBruijn64tab"], apart := false, laid := [("math/bits.deBruijn32tab", laid_math_bits_deBruijn32tab), ("math/bits.deBruijn64tab", laid_math_bits_deBruijn64tab), ("internal/strconv.uint64pow10", laid_internal_strconv_uint64pow10)] }
def FreelistMakesSaid : Prop := freelistMakesRow.holds Tryd.pinned (OpenSpec.ofChange freelistMakesSpec)

/-- ITS FALSE NEIGHBOUR: 'it returns false'. Refute it at one input. -/
def freelistMakesWrong : ChangeSpec := { name := "freelistMakes", fn := fun _ => fun
  | [d1, d2] => { results := [.lit (.bool false)], args := [d1, d2] }
  | _ => none }
def FreelistMakesWrongFalsely : Prop := freelistMakesRow.holds Tryd.pinned (OpenSpec.ofChange freelistMakesWrong)

/-- 'quartolaw11.FreelistExamples': WHATEVER THE INPUT: true; the input reads as it did. -/
def freelistExamplesSpec : ChangeSpec := { name := "freelistExamples", fn := fun _ => fun
  | [] => { results := [.lit (.bool true)], args := [] }
  | _ => none }
def freelistExamplesRow : OpenClaim := { program := "ytndpknkdmaojaaadoor", sum := "03fdb8368c47d1fb8d1d2f85bd9008d28d05017cc10e70c2012a50e59f65528a", func := "quarto/quartolaw11.FreelistExamples", spec := "freelistExamples", named := ["internal/strconv.uint64pow10", "math/bits.deBruijn32tab", "math/bits.deBruijn64tab"], apart := false, laid := [("math/bits.deBruijn32tab", laid_math_bits_deBruijn32tab), ("math/bits.deBruijn64tab", laid_math_bits_deBruijn64tab), ("internal/strconv.uint64pow10", laid_internal_strconv_uint64pow10)] }
def FreelistExamplesSaid : Prop := freelistExamplesRow.holds Tryd.pinned (OpenSpec.ofChange freelistExamplesSpec)

/-- ITS FALSE NEIGHBOUR: 'it returns false'. Refute it at one input. -/
def freelistExamplesWrong : ChangeSpec := { name := "freelistExamples", fn := fun _ => fun
  | [] => { results := [.lit (.bool false)], args := [] }
  | _ => none }
def FreelistExamplesWrongFalsely : Prop := freelistExamplesRow.holds Tryd.pinned (OpenSpec.ofChange freelistExamplesWrong)

/-- 'quartolaw11.FreelistPartition': WHATEVER THE INPUT: true; the input reads as it did. -/
def freelistPartitionSpec : ChangeSpec := { name := "freelistPartition", fn := fun _ => fun
  | [d1, d2, d3] => { results := [.lit (.bool true)], args := [d1, d2, d3] }
  | _ => none }
def freelistPartitionRow : OpenClaim := { program := "ytndpknkdmaojaaadoor", sum := "03fdb8368c47d1fb8d1d2f85bd9008d28d05017cc10e70c2012a50e59f65528a", func := "quarto/quartolaw11.FreelistPartition", spec := "freelistPartition", named := ["internal/strconv.uint64pow10", "math/bits.deBruijn32tab", "math/bits.deBruijn64tab"], apart := false, laid := [("math/bits.deBruijn32tab", laid_math_bits_deBruijn32tab), ("math/bits.deBruijn64tab", laid_math_bits_deBruijn64tab), ("internal/strconv.uint64pow10", laid_internal_strconv_uint64pow10)] }
def FreelistPartitionSaid : Prop := freelistPartitionRow.holds Tryd.pinned (OpenSpec.ofChange freelistPartitionSpec)

/-- ITS FALSE NEIGHBOUR: 'it returns false'. Refute it at one input. -/
def freelistPartitionWrong : ChangeSpec := { name := "freelistPartition", fn := fun _ => fun
  | [d1, d2, d3] => { results := [.lit (.bool false)], args := [d1, d2, d3] }
  | _ => none }
def FreelistPartitionWrongFalsely : Prop := freelistPartitionRow.holds Tryd.pinned (OpenSpec.ofChange freelistPartitionWrong)

/-- 'quartolaw11.FreelistFresh': WHATEVER THE INPUT: true; the input reads as it did. -/
def freelistFreshSpec : ChangeSpec := { name := "freelistFresh", fn := fun _ => fun
  | [d1, d2, d3] => { results := [.lit (.bool true)], args := [d1, d2, d3] }
  | _ => none }
def freelistFreshRow : OpenClaim := { program := "ytndpknkdmaojaaadoor", sum := "03fdb8368c47d1fb8d1d2f85bd9008d28d05017cc10e70c2012a50e59f65528a", func := "quarto/quartolaw11.FreelistFresh", spec := "freelistFresh", named := ["internal/strconv.uint64pow10", "math/bits.deBruijn32tab", "math/bits.deBruijn64tab"], apart := false, laid := [("math/bits.deBruijn32tab", laid_math_bits_deBruijn32tab), ("math/bits.deBruijn64tab", laid_math_bits_deBruijn64tab), ("internal/strconv.uint64pow10", laid_internal_strconv_uint64pow10)] }
def FreelistFreshSaid : Prop := freelistFreshRow.holds Tryd.pinned (OpenSpec.ofChange freelistFreshSpec)

/-- ITS FALSE NEIGHBOUR: 'it returns false'. Refute it at one input. -/
def freelistFreshWrong : ChangeSpec := { name := "freelistFresh", fn := fun _ => fun
  | [d1, d2, d3] => { results := [.lit (.bool false)], args := [d1, d2, d3] }
  | _ => none }
def FreelistFreshWrongFalsely : Prop := freelistFreshRow.holds Tryd.pinned (OpenSpec.ofChange freelistFreshWrong)

/-- 'quartolaw11.FreelistBound': WHATEVER THE INPUT: true; the input reads as it did. -/
def freelistBoundSpec : ChangeSpec := { name := "freelistBound", fn := fun _ => fun
  | [d1, d2, d3] => { results := [.lit (.bool true)], args := [d1, d2, d3] }
  | _ => none }
def freelistBoundRow : OpenClaim := { program := "ytndpknkdmaojaaadoor", sum := "03fdb8368c47d1fb8d1d2f85bd9008d28d05017cc10e70c2012a50e59f65528a", func := "quarto/quartolaw11.FreelistBound", spec := "freelistBound", named := ["internal/strconv.uint64pow10", "math/bits.deBruijn32tab", "math/bits.deBruijn64tab"], apart := false, laid := [("math/bits.deBruijn32tab", laid_math_bits_deBruijn32tab), ("math/bits.deBruijn64tab", laid_math_bits_deBruijn64tab), ("internal/strconv.uint64pow10", laid_internal_strconv_uint64pow10)] }
def FreelistBoundSaid : Prop := freelistBoundRow.holds Tryd.pinned (OpenSpec.ofChange freelistBoundSpec)

/-- ITS FALSE NEIGHBOUR: 'it returns false'. Refute it at one input. -/
def freelistBoundWrong : ChangeSpec := { name := "freelistBound", fn := fun _ => fun
  | [d1, d2, d3] => { results := [.lit (.bool false)], args := [d1, d2, d3] }
  | _ => none }
def FreelistBoundWrongFalsely : Prop := freelistBoundRow.holds Tryd.pinned (OpenSpec.ofChange freelistBoundWrong)

/-- 'quartolaw11.FreelistStack': WHATEVER THE INPUT: true; the input reads as it did. -/
def freelistStackSpec : ChangeSpec := { name := "freelistStack", fn := fun _ => fun
  | [d1, d2, d3] => { results := [.lit (.bool true)], args := [d1, d2, d3] }
  | _ => none }
def freelistStackRow : OpenClaim := { program := "ytndpknkdmaojaaadoor", sum := "03fdb8368c47d1fb8d1d2f85bd9008d28d05017cc10e70c2012a50e59f65528a", func := "quarto/quartolaw11.FreelistStack", spec := "freelistStack", named := ["internal/strconv.uint64pow10", "math/bits.deBruijn32tab", "math/bits.deBruijn64tab"], apart := false, laid := [("math/bits.deBruijn32tab", laid_math_bits_deBruijn32tab), ("math/bits.deBruijn64tab", laid_math_bits_deBruijn64tab), ("internal/strconv.uint64pow10", laid_internal_strconv_uint64pow10)] }
def FreelistStackSaid : Prop := freelistStackRow.holds Tryd.pinned (OpenSpec.ofChange freelistStackSpec)

/-- ITS FALSE NEIGHBOUR: 'it returns false'. Refute it at one input. -/
def freelistStackWrong : ChangeSpec := { name := "freelistStack", fn := fun _ => fun
  | [d1, d2, d3] => { results := [.lit (.bool false)], args := [d1, d2, d3] }
  | _ => none }
def FreelistStackWrongFalsely : Prop := freelistStackRow.holds Tryd.pinned (OpenSpec.ofChange freelistStackWrong)

/- THE SECOND FORM. 'bulk': how many values and letters a reading holds, each counted each time it is reached (what is shared counts as often as it is met; a slice's spare places count too). A statement '..UptoSaid' is the law's where the arguments, and the package variables that the reading takes, are together of bulk at most 1048576: NARROWER than '..Said'. Prove '..Said' where nothing that the law and all that it calls make is longer than what came in: it says more and counts as full. Else prove '..UptoSaid'. A law counts once. -/
mutual
def uptoBulk {H : Type} : DataW H → Nat
  | .lit (.string bytes) => bytes.length + 1
  | .lit _ => 1
  | .nil => 1
  | .ptr d => uptoBulk d + 1
  | .slice elems spare => uptoBulkAll elems + uptoBulkAll spare + 1
  | .agg parts => uptoBulkAll parts + 1
  | .iface _ d => uptoBulk d + 1
  | .map entries => uptoBulkEntries entries + 1
  | .held _ => 1
def uptoBulkAll {H : Type} : List (DataW H) → Nat
  | [] => 0
  | d :: r => uptoBulk d + uptoBulkAll r
def uptoBulkEntries {H : Type} : List (Lit × DataW H) → Nat
  | [] => 0
  | x :: r => uptoBulkEntry x + uptoBulkEntries r
def uptoBulkEntry {H : Type} : Lit × DataW H → Nat
  | (.string bytes, d) => bytes.length + uptoBulk d + 1
  | (_, d) => uptoBulk d + 1
 end
def uptoSmall : (H : Type) → List (DataW H) → Bool := fun _ ds => decide (uptoBulkAll ds ≤ 1048576)
def OpenSpec.upto (s : _root_.Go.ChangeSpec) : _root_.Go.OpenSpec := { _root_.Go.OpenSpec.ofChange s with cond := some uptoSmall }

/-- 'quartolaw11.FreelistPlays', WHERE WHAT IT READS IS OF BULK AT MOST 1048576: true; the input reads as it did. -/
def freelistPlaysUptoRow : OpenClaim := { program := "ytndpknkdmaojaaadoor", sum := "03fdb8368c47d1fb8d1d2f85bd9008d28d05017cc10e70c2012a50e59f65528a", func := "quarto/quartolaw11.FreelistPlays", spec := "freelistPlays", named := ["internal/strconv.uint64pow10", "math/bits.deBruijn32tab", "math/bits.deBruijn64tab"], apart := false, laid := [("math/bits.deBruijn32tab", laid_math_bits_deBruijn32tab), ("math/bits.deBruijn64tab", laid_math_bits_deBruijn64tab), ("internal/strconv.uint64pow10", laid_internal_strconv_uint64pow10)], narrowed := true }
def FreelistPlaysUptoSaid : Prop := freelistPlaysUptoRow.holds Tryd.pinned (OpenSpec.upto freelistPlaysSpec)

/-- 'quartolaw11.FreelistMakes', WHERE WHAT IT READS IS OF BULK AT MOST 1048576: true; the input reads as it did. -/
def freelistMakesUptoRow : OpenClaim := { program := "ytndpknkdmaojaaadoor", sum := "03fdb8368c47d1fb8d1d2f85bd9008d28d05017cc10e70c2012a50e59f65528a", func := "quarto/quartolaw11.FreelistMakes", spec := "freelistMakes", named := ["internal/strconv.uint64pow10", "math/bits.deBruijn32tab", "math/bits.deBruijn64tab"], apart := false, laid := [("math/bits.deBruijn32tab", laid_math_bits_deBruijn32tab), ("math/bits.deBruijn64tab", laid_math_bits_deBruijn64tab), ("internal/strconv.uint64pow10", laid_internal_strconv_uint64pow10)], narrowed := true }
def FreelistMakesUptoSaid : Prop := freelistMakesUptoRow.holds Tryd.pinned (OpenSpec.upto freelistMakesSpec)

/-- 'quartolaw11.FreelistExamples', WHERE WHAT IT READS IS OF BULK AT MOST 1048576: true; the input reads as it did. -/
def freelistExamplesUptoRow : OpenClaim := { program := "ytndpknkdmaojaaadoor", sum := "03fdb8368c47d1fb8d1d2f85bd9008d28d05017cc10e70c2012a50e59f65528a", func := "quarto/quartolaw11.FreelistExamples", spec := "freelistExamples", named := ["internal/strconv.uint64pow10", "math/bits.deBruijn32tab", "math/bits.deBruijn64tab"], apart := false, laid := [("math/bits.deBruijn32tab", laid_math_bits_deBruijn32tab), ("math/bits.deBruijn64tab", laid_math_bits_deBruijn64tab), ("internal/strconv.uint64pow10", laid_internal_strconv_uint64pow10)], narrowed := true }
def FreelistExamplesUptoSaid : Prop := freelistExamplesUptoRow.holds Tryd.pinned (OpenSpec.upto freelistExamplesSpec)

/-- 'quartolaw11.FreelistPartition', WHERE WHAT IT READS IS OF BULK AT MOST 1048576: true; the input reads as it did. -/
def freelistPartitionUptoRow : OpenClaim := { program := "ytndpknkdmaojaaadoor", sum := "03fdb8368c47d1fb8d1d2f85bd9008d28d05017cc10e70c2012a50e59f65528a", func := "quarto/quartolaw11.FreelistPartition", spec := "freelistPartition", named := ["internal/strconv.uint64pow10", "math/bits.deBruijn32tab", "math/bits.deBruijn64tab"], apart := false, laid := [("math/bits.deBruijn32tab", laid_math_bits_deBruijn32tab), ("math/bits.deBruijn64tab", laid_math_bits_deBruijn64tab), ("internal/strconv.uint64pow10", laid_internal_strconv_uint64pow10)], narrowed := true }
def FreelistPartitionUptoSaid : Prop := freelistPartitionUptoRow.holds Tryd.pinned (OpenSpec.upto freelistPartitionSpec)

/-- 'quartolaw11.FreelistFresh', WHERE WHAT IT READS IS OF BULK AT MOST 1048576: true; the input reads as it did. -/
def freelistFreshUptoRow : OpenClaim := { program := "ytndpknkdmaojaaadoor", sum := "03fdb8368c47d1fb8d1d2f85bd9008d28d05017cc10e70c2012a50e59f65528a", func := "quarto/quartolaw11.FreelistFresh", spec := "freelistFresh", named := ["internal/strconv.uint64pow10", "math/bits.deBruijn32tab", "math/bits.deBruijn64tab"], apart := false, laid := [("math/bits.deBruijn32tab", laid_math_bits_deBruijn32tab), ("math/bits.deBruijn64tab", laid_math_bits_deBruijn64tab), ("internal/strconv.uint64pow10", laid_internal_strconv_uint64pow10)], narrowed := true }
def FreelistFreshUptoSaid : Prop := freelistFreshUptoRow.holds Tryd.pinned (OpenSpec.upto freelistFreshSpec)

/-- 'quartolaw11.FreelistBound', WHERE WHAT IT READS IS OF BULK AT MOST 1048576: true; the input reads as it did. -/
def freelistBoundUptoRow : OpenClaim := { program := "ytndpknkdmaojaaadoor", sum := "03fdb8368c47d1fb8d1d2f85bd9008d28d05017cc10e70c2012a50e59f65528a", func := "quarto/quartolaw11.FreelistBound", spec := "freelistBound", named := ["internal/strconv.uint64pow10", "math/bits.deBruijn32tab", "math/bits.deBruijn64tab"], apart := false, laid := [("math/bits.deBruijn32tab", laid_math_bits_deBruijn32tab), ("math/bits.deBruijn64tab", laid_math_bits_deBruijn64tab), ("internal/strconv.uint64pow10", laid_internal_strconv_uint64pow10)], narrowed := true }
def FreelistBoundUptoSaid : Prop := freelistBoundUptoRow.holds Tryd.pinned (OpenSpec.upto freelistBoundSpec)

/-- 'quartolaw11.FreelistStack', WHERE WHAT IT READS IS OF BULK AT MOST 1048576: true; the input reads as it did. -/
def freelistStackUptoRow : OpenClaim := { program := "ytndpknkdmaojaaadoor", sum := "03fdb8368c47d1fb8d1d2f85bd9008d28d05017cc10e70c2012a50e59f65528a", func := "quarto/quartolaw11.FreelistStack", spec := "freelistStack", named := ["internal/strconv.uint64pow10", "math/bits.deBruijn32tab", "math/bits.deBruijn64tab"], apart := false, laid := [("math/bits.deBruijn32tab", laid_math_bits_deBruijn32tab), ("math/bits.deBruijn64tab", laid_math_bits_deBruijn64tab), ("internal/strconv.uint64pow10", laid_internal_strconv_uint64pow10)], narrowed := true }
def FreelistStackUptoSaid : Prop := freelistStackUptoRow.holds Tryd.pinned (OpenSpec.upto freelistStackSpec)

end Rows
end Go.Proofs.YtndpknkdmaojaaaDoor
