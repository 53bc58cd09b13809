/-
  DERIVED. GIVEN WITH THE SEED: THE CARDS: each row of YtdilkoogjkabfaaDoorRows.lean that lists a variable, with what it lists TIED to the program's text (the seventh form; the later family's looks); each row that meets fmt, with fmt's text TOLD by the authors' own Lean function (tested against real Go, not proved from fmt's source: count such statements apart). THE CARD IS WHAT COUNTS. Prove the row's statement (the work); the ties are given (YtdilkoogjkabfaaDoorTie.lean); close each card by the builder's one call (the guide's Derived/Test/ToyasCard.lean, 'card_holds'). Laid BY PROGRAM, IN A SANDBOX (cutbox-door.mjs). By AI agents, Wed Nov 11 2026. No macro, syntax, notation, axiom, sorry.
-/
import Derived.Test.YtdilkoogjkabfaaDoorRows
import GoSem.ClaimSeven
namespace Go.Proofs.YtdilkoogjkabfaaDoor
namespace Rows

/-- THE TIED CARD OF 'quartolaw08.DiffValid'. -/
def diffValidCard : Claim7 := { stood := { row := diffValidRow, standIns := [], harness := (true, "5dd24ee1434a547e7e89eb235024b6d12d2cccacb05fde301c04a8b9716f4b09"), looks := false }, kinds := [], alts := [], laidByText := true, laidKinds := [.data], laidTests := true, laidLooks := .later }
def DiffValidCardSaid : Prop := Claim7.holds Tryd.pinned (.plain (OpenSpec.ofChange diffValidSpec)) diffValidCard

/-- THE SECOND FORM's CARD OF 'quartolaw08.DiffValid'. -/
def diffValidUptoCard : Claim7 := { stood := { row := diffValidUptoRow, standIns := [], harness := (true, "5dd24ee1434a547e7e89eb235024b6d12d2cccacb05fde301c04a8b9716f4b09"), looks := false }, kinds := [], alts := [], laidByText := true, laidKinds := [.data], laidTests := true, laidLooks := .later }
def DiffValidUptoCardSaid : Prop := Claim7.holds Tryd.pinned (.plain (OpenSpec.upto diffValidSpec)) diffValidUptoCard
end Rows
end Go.Proofs.YtdilkoogjkabfaaDoor
