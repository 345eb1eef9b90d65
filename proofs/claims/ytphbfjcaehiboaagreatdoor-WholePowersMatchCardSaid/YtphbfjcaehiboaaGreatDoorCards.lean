/-
  DERIVED. GIVEN WITH THE SEED: THE CARDS: each row of YtphbfjcaehiboaaGreatDoorRows.lean that lists a variable, with what it lists TIED to the program's text (the seventh form; the later family's looks); each row that meets fmt, with fmt's text TOLD by the authors' own Lean function (tested against real Go, not proved from fmt's source: count such statements apart). THE CARD IS WHAT COUNTS. Prove the row's statement (the work); the ties are given (YtphbfjcaehiboaaGreatDoorTie.lean); close each card by the builder's one call (the guide's Derived/Test/ToyasCard.lean, 'card_holds'). Laid BY PROGRAM, IN A SANDBOX (cutbox-door.mjs). By AI agents, Wed Nov 11 2026. No macro, syntax, notation, axiom, sorry.
-/
import Derived.Test.YtphbfjcaehiboaaGreatDoorRows
import GoSem.ClaimSeven
namespace Go.Proofs.YtphbfjcaehiboaaGreatDoor
namespace Rows

/-- THE TIED CARD OF 'toruslaw02.WholeMatches'. -/
def wholeMatchesCard : Claim7 := { stood := { row := wholeMatchesRow, standIns := [], harness := (true, "d41961884b75a3d4bc60ce289a2eb4c2b3cb98255d3849cdb972da31163491b4"), looks := true }, kinds := [], alts := [], laidByText := true, laidKinds := [.data, .data, .data, .sentinel, .sentinel], laidTests := true, laidLooks := .later }
def WholeMatchesCardSaid : Prop := Claim7.holds Tryz.pinned (.plain (OpenSpec.ofChange wholeMatchesSpec)) wholeMatchesCard

/-- THE TIED CARD OF 'toruslaw02.WholePowersMatch'. -/
def wholePowersMatchCard : Claim7 := { stood := { row := wholePowersMatchRow, standIns := [], harness := (true, "d41961884b75a3d4bc60ce289a2eb4c2b3cb98255d3849cdb972da31163491b4"), looks := true }, kinds := [], alts := [], laidByText := true, laidKinds := [.data, .data, .data], laidTests := true, laidLooks := .later }
def WholePowersMatchCardSaid : Prop := Claim7.holds Tryz.pinned (.plain (OpenSpec.ofChange wholePowersMatchSpec)) wholePowersMatchCard

/-- THE SECOND FORM's CARD OF 'toruslaw02.WholeMatches'. -/
def wholeMatchesUptoCard : Claim7 := { stood := { row := wholeMatchesUptoRow, standIns := [], harness := (true, "d41961884b75a3d4bc60ce289a2eb4c2b3cb98255d3849cdb972da31163491b4"), looks := true }, kinds := [], alts := [], laidByText := true, laidKinds := [.data, .data, .data, .sentinel, .sentinel], laidTests := true, laidLooks := .later }
def WholeMatchesUptoCardSaid : Prop := Claim7.holds Tryz.pinned (.plain (OpenSpec.upto wholeMatchesSpec)) wholeMatchesUptoCard

/-- THE SECOND FORM's CARD OF 'toruslaw02.WholePowersMatch'. -/
def wholePowersMatchUptoCard : Claim7 := { stood := { row := wholePowersMatchUptoRow, standIns := [], harness := (true, "d41961884b75a3d4bc60ce289a2eb4c2b3cb98255d3849cdb972da31163491b4"), looks := true }, kinds := [], alts := [], laidByText := true, laidKinds := [.data, .data, .data], laidTests := true, laidLooks := .later }
def WholePowersMatchUptoCardSaid : Prop := Claim7.holds Tryz.pinned (.plain (OpenSpec.upto wholePowersMatchSpec)) wholePowersMatchUptoCard
end Rows
end Go.Proofs.YtphbfjcaehiboaaGreatDoor
