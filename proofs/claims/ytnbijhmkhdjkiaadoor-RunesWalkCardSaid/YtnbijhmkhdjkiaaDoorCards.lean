/-
  DERIVED. GIVEN WITH THE SEED: THE CARDS: each row of YtnbijhmkhdjkiaaDoorRows.lean that lists a variable, with what it lists TIED to the program's text (the seventh form; the later family's looks); each row that meets fmt, with fmt's text TOLD by the authors' own Lean function (tested against real Go, not proved from fmt's source: count such statements apart). THE CARD IS WHAT COUNTS. Prove the row's statement (the work); the ties are given (YtnbijhmkhdjkiaaDoorTie.lean); close each card by the builder's one call (the guide's Derived/Test/ToyasCard.lean, 'card_holds'). Laid BY PROGRAM, IN A SANDBOX (cutbox-door.mjs). By AI agents, Wed Nov 11 2026. No macro, syntax, notation, axiom, sorry.
-/
import Derived.Test.YtnbijhmkhdjkiaaDoorRows
import GoSem.ClaimSeven
namespace Go.Proofs.YtnbijhmkhdjkiaaDoor
namespace Rows

/-- THE TIED CARD OF 'quartolaw01.RunesChecks'. -/
def runesChecksCard : Claim7 := { stood := { row := runesChecksRow, standIns := [], harness := (true, "bd78e6b7aa8b9f0df5df5270ac276197825c00d44dac4b210c81b34bd9de93b0"), looks := false }, kinds := [], alts := [], laidByText := true, laidKinds := [.data], laidTests := true, laidLooks := .later }
def RunesChecksCardSaid : Prop := Claim7.holds Tryd.pinned (.plain (OpenSpec.ofChange runesChecksSpec)) runesChecksCard

/-- THE TIED CARD OF 'quartolaw01.RunesDecodes'. -/
def runesDecodesCard : Claim7 := { stood := { row := runesDecodesRow, standIns := [], harness := (true, "bd78e6b7aa8b9f0df5df5270ac276197825c00d44dac4b210c81b34bd9de93b0"), looks := false }, kinds := [], alts := [], laidByText := true, laidKinds := [.data], laidTests := true, laidLooks := .later }
def RunesDecodesCardSaid : Prop := Claim7.holds Tryd.pinned (.plain (OpenSpec.ofChange runesDecodesSpec)) runesDecodesCard

/-- THE TIED CARD OF 'quartolaw01.RunesEncodes'. -/
def runesEncodesCard : Claim7 := { stood := { row := runesEncodesRow, standIns := [], harness := (true, "bd78e6b7aa8b9f0df5df5270ac276197825c00d44dac4b210c81b34bd9de93b0"), looks := false }, kinds := [], alts := [], laidByText := true, laidKinds := [.data], laidTests := true, laidLooks := .later }
def RunesEncodesCardSaid : Prop := Claim7.holds Tryd.pinned (.plain (OpenSpec.ofChange runesEncodesSpec)) runesEncodesCard

/-- THE TIED CARD OF 'quartolaw01.RunesSteps'. -/
def runesStepsCard : Claim7 := { stood := { row := runesStepsRow, standIns := [], harness := (true, "bd78e6b7aa8b9f0df5df5270ac276197825c00d44dac4b210c81b34bd9de93b0"), looks := false }, kinds := [], alts := [], laidByText := true, laidKinds := [.data], laidTests := true, laidLooks := .later }
def RunesStepsCardSaid : Prop := Claim7.holds Tryd.pinned (.plain (OpenSpec.ofChange runesStepsSpec)) runesStepsCard

/-- THE TIED CARD OF 'quartolaw01.RunesRound'. -/
def runesRoundCard : Claim7 := { stood := { row := runesRoundRow, standIns := [], harness := (true, "bd78e6b7aa8b9f0df5df5270ac276197825c00d44dac4b210c81b34bd9de93b0"), looks := false }, kinds := [], alts := [], laidByText := true, laidKinds := [.data], laidTests := true, laidLooks := .later }
def RunesRoundCardSaid : Prop := Claim7.holds Tryd.pinned (.plain (OpenSpec.ofChange runesRoundSpec)) runesRoundCard

/-- THE TIED CARD OF 'quartolaw01.RunesWalk'. -/
def runesWalkCard : Claim7 := { stood := { row := runesWalkRow, standIns := [], harness := (true, "bd78e6b7aa8b9f0df5df5270ac276197825c00d44dac4b210c81b34bd9de93b0"), looks := false }, kinds := [], alts := [], laidByText := true, laidKinds := [.data], laidTests := true, laidLooks := .later }
def RunesWalkCardSaid : Prop := Claim7.holds Tryd.pinned (.plain (OpenSpec.ofChange runesWalkSpec)) runesWalkCard

/-- THE TIED CARD OF 'quartolaw01.RunesParts'. -/
def runesPartsCard : Claim7 := { stood := { row := runesPartsRow, standIns := [], harness := (true, "bd78e6b7aa8b9f0df5df5270ac276197825c00d44dac4b210c81b34bd9de93b0"), looks := false }, kinds := [], alts := [], laidByText := true, laidKinds := [.data], laidTests := true, laidLooks := .later }
def RunesPartsCardSaid : Prop := Claim7.holds Tryd.pinned (.plain (OpenSpec.ofChange runesPartsSpec)) runesPartsCard

/-- THE TIED CARD OF 'quartolaw01.RunesOrder'. -/
def runesOrderCard : Claim7 := { stood := { row := runesOrderRow, standIns := [], harness := (true, "bd78e6b7aa8b9f0df5df5270ac276197825c00d44dac4b210c81b34bd9de93b0"), looks := false }, kinds := [], alts := [], laidByText := true, laidKinds := [.data], laidTests := true, laidLooks := .later }
def RunesOrderCardSaid : Prop := Claim7.holds Tryd.pinned (.plain (OpenSpec.ofChange runesOrderSpec)) runesOrderCard

/-- THE TIED CARD OF 'quartolaw01.RunesClips'. -/
def runesClipsCard : Claim7 := { stood := { row := runesClipsRow, standIns := [], harness := (true, "bd78e6b7aa8b9f0df5df5270ac276197825c00d44dac4b210c81b34bd9de93b0"), looks := false }, kinds := [], alts := [], laidByText := true, laidKinds := [.data], laidTests := true, laidLooks := .later }
def RunesClipsCardSaid : Prop := Claim7.holds Tryd.pinned (.plain (OpenSpec.ofChange runesClipsSpec)) runesClipsCard

/-- THE SECOND FORM's CARD OF 'quartolaw01.RunesChecks'. -/
def runesChecksUptoCard : Claim7 := { stood := { row := runesChecksUptoRow, standIns := [], harness := (true, "bd78e6b7aa8b9f0df5df5270ac276197825c00d44dac4b210c81b34bd9de93b0"), looks := false }, kinds := [], alts := [], laidByText := true, laidKinds := [.data], laidTests := true, laidLooks := .later }
def RunesChecksUptoCardSaid : Prop := Claim7.holds Tryd.pinned (.plain (OpenSpec.upto runesChecksSpec)) runesChecksUptoCard

/-- THE SECOND FORM's CARD OF 'quartolaw01.RunesDecodes'. -/
def runesDecodesUptoCard : Claim7 := { stood := { row := runesDecodesUptoRow, standIns := [], harness := (true, "bd78e6b7aa8b9f0df5df5270ac276197825c00d44dac4b210c81b34bd9de93b0"), looks := false }, kinds := [], alts := [], laidByText := true, laidKinds := [.data], laidTests := true, laidLooks := .later }
def RunesDecodesUptoCardSaid : Prop := Claim7.holds Tryd.pinned (.plain (OpenSpec.upto runesDecodesSpec)) runesDecodesUptoCard

/-- THE SECOND FORM's CARD OF 'quartolaw01.RunesEncodes'. -/
def runesEncodesUptoCard : Claim7 := { stood := { row := runesEncodesUptoRow, standIns := [], harness := (true, "bd78e6b7aa8b9f0df5df5270ac276197825c00d44dac4b210c81b34bd9de93b0"), looks := false }, kinds := [], alts := [], laidByText := true, laidKinds := [.data], laidTests := true, laidLooks := .later }
def RunesEncodesUptoCardSaid : Prop := Claim7.holds Tryd.pinned (.plain (OpenSpec.upto runesEncodesSpec)) runesEncodesUptoCard

/-- THE SECOND FORM's CARD OF 'quartolaw01.RunesSteps'. -/
def runesStepsUptoCard : Claim7 := { stood := { row := runesStepsUptoRow, standIns := [], harness := (true, "bd78e6b7aa8b9f0df5df5270ac276197825c00d44dac4b210c81b34bd9de93b0"), looks := false }, kinds := [], alts := [], laidByText := true, laidKinds := [.data], laidTests := true, laidLooks := .later }
def RunesStepsUptoCardSaid : Prop := Claim7.holds Tryd.pinned (.plain (OpenSpec.upto runesStepsSpec)) runesStepsUptoCard

/-- THE SECOND FORM's CARD OF 'quartolaw01.RunesRound'. -/
def runesRoundUptoCard : Claim7 := { stood := { row := runesRoundUptoRow, standIns := [], harness := (true, "bd78e6b7aa8b9f0df5df5270ac276197825c00d44dac4b210c81b34bd9de93b0"), looks := false }, kinds := [], alts := [], laidByText := true, laidKinds := [.data], laidTests := true, laidLooks := .later }
def RunesRoundUptoCardSaid : Prop := Claim7.holds Tryd.pinned (.plain (OpenSpec.upto runesRoundSpec)) runesRoundUptoCard

/-- THE SECOND FORM's CARD OF 'quartolaw01.RunesWalk'. -/
def runesWalkUptoCard : Claim7 := { stood := { row := runesWalkUptoRow, standIns := [], harness := (true, "bd78e6b7aa8b9f0df5df5270ac276197825c00d44dac4b210c81b34bd9de93b0"), looks := false }, kinds := [], alts := [], laidByText := true, laidKinds := [.data], laidTests := true, laidLooks := .later }
def RunesWalkUptoCardSaid : Prop := Claim7.holds Tryd.pinned (.plain (OpenSpec.upto runesWalkSpec)) runesWalkUptoCard

/-- THE SECOND FORM's CARD OF 'quartolaw01.RunesParts'. -/
def runesPartsUptoCard : Claim7 := { stood := { row := runesPartsUptoRow, standIns := [], harness := (true, "bd78e6b7aa8b9f0df5df5270ac276197825c00d44dac4b210c81b34bd9de93b0"), looks := false }, kinds := [], alts := [], laidByText := true, laidKinds := [.data], laidTests := true, laidLooks := .later }
def RunesPartsUptoCardSaid : Prop := Claim7.holds Tryd.pinned (.plain (OpenSpec.upto runesPartsSpec)) runesPartsUptoCard

/-- THE SECOND FORM's CARD OF 'quartolaw01.RunesOrder'. -/
def runesOrderUptoCard : Claim7 := { stood := { row := runesOrderUptoRow, standIns := [], harness := (true, "bd78e6b7aa8b9f0df5df5270ac276197825c00d44dac4b210c81b34bd9de93b0"), looks := false }, kinds := [], alts := [], laidByText := true, laidKinds := [.data], laidTests := true, laidLooks := .later }
def RunesOrderUptoCardSaid : Prop := Claim7.holds Tryd.pinned (.plain (OpenSpec.upto runesOrderSpec)) runesOrderUptoCard

/-- THE SECOND FORM's CARD OF 'quartolaw01.RunesClips'. -/
def runesClipsUptoCard : Claim7 := { stood := { row := runesClipsUptoRow, standIns := [], harness := (true, "bd78e6b7aa8b9f0df5df5270ac276197825c00d44dac4b210c81b34bd9de93b0"), looks := false }, kinds := [], alts := [], laidByText := true, laidKinds := [.data], laidTests := true, laidLooks := .later }
def RunesClipsUptoCardSaid : Prop := Claim7.holds Tryd.pinned (.plain (OpenSpec.upto runesClipsSpec)) runesClipsUptoCard
end Rows
end Go.Proofs.YtnbijhmkhdjkiaaDoor
