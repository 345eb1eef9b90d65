/-
  DERIVED. GIVEN WITH THE SEED: THE CARDS: each row of YtgeokeffondmhaaGreatDoorRows.lean that lists a variable, with what it lists TIED to the program's text (the seventh form; the later family's looks); each row that meets fmt, with fmt's text TOLD by the authors' own Lean function (tested against real Go, not proved from fmt's source: count such statements apart). THE CARD IS WHAT COUNTS. Prove the row's statement (the work); the ties are given (YtgeokeffondmhaaGreatDoorTie.lean); close each card by the builder's one call (the guide's Derived/Test/ToyasCard.lean, 'card_holds'). Laid BY PROGRAM, IN A SANDBOX (cutbox-door.mjs). By AI agents, Wed Nov 11 2026. No macro, syntax, notation, axiom, sorry.
-/
import Derived.Test.YtgeokeffondmhaaGreatDoorRows
import GoSem.ClaimSeven
namespace Go.Proofs.YtgeokeffondmhaaGreatDoor
namespace Rows

/-- THE TIED CARD OF 'toruslaw02.WholeMatches'. -/
def wholeMatchesCard : Claim7 := { stood := { row := wholeMatchesRow, standIns := [], harness := (true, "fe7dc75dc1282d9090c9df59e0547cc6bd91e05fb1b171e083802fb816730247"), looks := true }, kinds := [], alts := [], laidByText := true, laidKinds := [.data, .data, .data, .sentinel, .sentinel], laidTests := true, laidLooks := .later }
def WholeMatchesCardSaid : Prop := Claim7.holds Tryz.pinned (.plain (OpenSpec.ofChange wholeMatchesSpec)) wholeMatchesCard

/-- THE TIED CARD OF 'toruslaw02.WholePowersMatch'. -/
def wholePowersMatchCard : Claim7 := { stood := { row := wholePowersMatchRow, standIns := [], harness := (true, "fe7dc75dc1282d9090c9df59e0547cc6bd91e05fb1b171e083802fb816730247"), looks := true }, kinds := [], alts := [], laidByText := true, laidKinds := [.data, .data, .data], laidTests := true, laidLooks := .later }
def WholePowersMatchCardSaid : Prop := Claim7.holds Tryz.pinned (.plain (OpenSpec.ofChange wholePowersMatchSpec)) wholePowersMatchCard

/-- THE TIED CARD OF 'toruslaw02.WholeDivision'. -/
def wholeDivisionCard : Claim7 := { stood := { row := wholeDivisionRow, standIns := [], harness := (true, "fe7dc75dc1282d9090c9df59e0547cc6bd91e05fb1b171e083802fb816730247"), looks := true }, kinds := [], alts := [], laidByText := true, laidKinds := [.data, .data, .data], laidTests := true, laidLooks := .later }
def WholeDivisionCardSaid : Prop := Claim7.holds Tryz.pinned (.plain (OpenSpec.ofChange wholeDivisionSpec)) wholeDivisionCard

/-- THE TIED CARD OF 'toruslaw02.WholeOrder'. -/
def wholeOrderCard : Claim7 := { stood := { row := wholeOrderRow, standIns := [], harness := (true, "fe7dc75dc1282d9090c9df59e0547cc6bd91e05fb1b171e083802fb816730247"), looks := true }, kinds := [], alts := [], laidByText := true, laidKinds := [.data, .data, .data], laidTests := true, laidLooks := .later }
def WholeOrderCardSaid : Prop := Claim7.holds Tryz.pinned (.plain (OpenSpec.ofChange wholeOrderSpec)) wholeOrderCard

/-- THE TIED CARD OF 'toruslaw02.WholePowers'. -/
def wholePowersCard : Claim7 := { stood := { row := wholePowersRow, standIns := [], harness := (true, "fe7dc75dc1282d9090c9df59e0547cc6bd91e05fb1b171e083802fb816730247"), looks := true }, kinds := [], alts := [], laidByText := true, laidKinds := [.data, .data, .data], laidTests := true, laidLooks := .later }
def WholePowersCardSaid : Prop := Claim7.holds Tryz.pinned (.plain (OpenSpec.ofChange wholePowersSpec)) wholePowersCard

/-- THE TIED CARD OF 'toruslaw02.WholeExamples'. -/
def wholeExamplesCard : Claim7 := { stood := { row := wholeExamplesRow, standIns := [], harness := (true, "fe7dc75dc1282d9090c9df59e0547cc6bd91e05fb1b171e083802fb816730247"), looks := true }, kinds := [], alts := [], laidByText := true, laidKinds := [.data, .data, .data, .sentinel, .sentinel], laidTests := true, laidLooks := .later }
def WholeExamplesCardSaid : Prop := Claim7.holds Tryz.pinned (.plain (OpenSpec.ofChange wholeExamplesSpec)) wholeExamplesCard

/-- THE SECOND FORM's CARD OF 'toruslaw02.WholeMatches'. -/
def wholeMatchesUptoCard : Claim7 := { stood := { row := wholeMatchesUptoRow, standIns := [], harness := (true, "fe7dc75dc1282d9090c9df59e0547cc6bd91e05fb1b171e083802fb816730247"), looks := true }, kinds := [], alts := [], laidByText := true, laidKinds := [.data, .data, .data, .sentinel, .sentinel], laidTests := true, laidLooks := .later }
def WholeMatchesUptoCardSaid : Prop := Claim7.holds Tryz.pinned (.plain (OpenSpec.upto wholeMatchesSpec)) wholeMatchesUptoCard

/-- THE SECOND FORM's CARD OF 'toruslaw02.WholePowersMatch'. -/
def wholePowersMatchUptoCard : Claim7 := { stood := { row := wholePowersMatchUptoRow, standIns := [], harness := (true, "fe7dc75dc1282d9090c9df59e0547cc6bd91e05fb1b171e083802fb816730247"), looks := true }, kinds := [], alts := [], laidByText := true, laidKinds := [.data, .data, .data], laidTests := true, laidLooks := .later }
def WholePowersMatchUptoCardSaid : Prop := Claim7.holds Tryz.pinned (.plain (OpenSpec.upto wholePowersMatchSpec)) wholePowersMatchUptoCard

/-- THE SECOND FORM's CARD OF 'toruslaw02.WholeDivision'. -/
def wholeDivisionUptoCard : Claim7 := { stood := { row := wholeDivisionUptoRow, standIns := [], harness := (true, "fe7dc75dc1282d9090c9df59e0547cc6bd91e05fb1b171e083802fb816730247"), looks := true }, kinds := [], alts := [], laidByText := true, laidKinds := [.data, .data, .data], laidTests := true, laidLooks := .later }
def WholeDivisionUptoCardSaid : Prop := Claim7.holds Tryz.pinned (.plain (OpenSpec.upto wholeDivisionSpec)) wholeDivisionUptoCard

/-- THE SECOND FORM's CARD OF 'toruslaw02.WholeOrder'. -/
def wholeOrderUptoCard : Claim7 := { stood := { row := wholeOrderUptoRow, standIns := [], harness := (true, "fe7dc75dc1282d9090c9df59e0547cc6bd91e05fb1b171e083802fb816730247"), looks := true }, kinds := [], alts := [], laidByText := true, laidKinds := [.data, .data, .data], laidTests := true, laidLooks := .later }
def WholeOrderUptoCardSaid : Prop := Claim7.holds Tryz.pinned (.plain (OpenSpec.upto wholeOrderSpec)) wholeOrderUptoCard

/-- THE SECOND FORM's CARD OF 'toruslaw02.WholePowers'. -/
def wholePowersUptoCard : Claim7 := { stood := { row := wholePowersUptoRow, standIns := [], harness := (true, "fe7dc75dc1282d9090c9df59e0547cc6bd91e05fb1b171e083802fb816730247"), looks := true }, kinds := [], alts := [], laidByText := true, laidKinds := [.data, .data, .data], laidTests := true, laidLooks := .later }
def WholePowersUptoCardSaid : Prop := Claim7.holds Tryz.pinned (.plain (OpenSpec.upto wholePowersSpec)) wholePowersUptoCard

/-- THE SECOND FORM's CARD OF 'toruslaw02.WholeExamples'. -/
def wholeExamplesUptoCard : Claim7 := { stood := { row := wholeExamplesUptoRow, standIns := [], harness := (true, "fe7dc75dc1282d9090c9df59e0547cc6bd91e05fb1b171e083802fb816730247"), looks := true }, kinds := [], alts := [], laidByText := true, laidKinds := [.data, .data, .data, .sentinel, .sentinel], laidTests := true, laidLooks := .later }
def WholeExamplesUptoCardSaid : Prop := Claim7.holds Tryz.pinned (.plain (OpenSpec.upto wholeExamplesSpec)) wholeExamplesUptoCard
end Rows
end Go.Proofs.YtgeokeffondmhaaGreatDoor
