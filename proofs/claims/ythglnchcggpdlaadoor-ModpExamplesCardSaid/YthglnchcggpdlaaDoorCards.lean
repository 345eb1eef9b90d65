/-
  DERIVED. GIVEN WITH THE SEED: THE CARDS: each row of YthglnchcggpdlaaDoorRows.lean that lists a variable, with what it lists TIED to the program's text (the seventh form; the later family's looks); each row that meets fmt, with fmt's text TOLD by the authors' own Lean function (tested against real Go, not proved from fmt's source: count such statements apart). THE CARD IS WHAT COUNTS. Prove the row's statement (the work); the ties are given (YthglnchcggpdlaaDoorTie.lean); close each card by the builder's one call (the guide's Derived/Test/ToyasCard.lean, 'card_holds'). Laid BY PROGRAM, IN A SANDBOX (cutbox-door.mjs). By AI agents, Wed Nov 11 2026. No macro, syntax, notation, axiom, sorry.
-/
import Derived.Test.YthglnchcggpdlaaDoorRows
import GoSem.ClaimSeven
namespace Go.Proofs.YthglnchcggpdlaaDoor
namespace Rows

/-- THE TIED CARD OF 'toruslaw01.ModpMatches'. -/
def modpMatchesCard : Claim7 := { stood := { row := modpMatchesRow, standIns := [], harness := (true, "7ec916ea1b14ff633240aec1ad738a3c829b434436df3d21299a6b00c2ed10e2"), looks := false }, kinds := [], alts := [], laidByText := true, laidKinds := [.data], laidTests := true, laidLooks := .later }
def ModpMatchesCardSaid : Prop := Claim7.holds Tryd.pinned (.plain (OpenSpec.ofChange modpMatchesSpec)) modpMatchesCard

/-- THE TIED CARD OF 'toruslaw01.ModpSums'. -/
def modpSumsCard : Claim7 := { stood := { row := modpSumsRow, standIns := [], harness := (true, "7ec916ea1b14ff633240aec1ad738a3c829b434436df3d21299a6b00c2ed10e2"), looks := false }, kinds := [], alts := [], laidByText := true, laidKinds := [.data], laidTests := true, laidLooks := .later }
def ModpSumsCardSaid : Prop := Claim7.holds Tryd.pinned (.plain (OpenSpec.ofChange modpSumsSpec)) modpSumsCard

/-- THE TIED CARD OF 'toruslaw01.ModpField'. -/
def modpFieldCard : Claim7 := { stood := { row := modpFieldRow, standIns := [], harness := (true, "7ec916ea1b14ff633240aec1ad738a3c829b434436df3d21299a6b00c2ed10e2"), looks := false }, kinds := [], alts := [], laidByText := true, laidKinds := [.data], laidTests := true, laidLooks := .later }
def ModpFieldCardSaid : Prop := Claim7.holds Tryd.pinned (.plain (OpenSpec.ofChange modpFieldSpec)) modpFieldCard

/-- THE TIED CARD OF 'toruslaw01.ModpPowers'. -/
def modpPowersCard : Claim7 := { stood := { row := modpPowersRow, standIns := [], harness := (true, "7ec916ea1b14ff633240aec1ad738a3c829b434436df3d21299a6b00c2ed10e2"), looks := false }, kinds := [], alts := [], laidByText := true, laidKinds := [.data], laidTests := true, laidLooks := .later }
def ModpPowersCardSaid : Prop := Claim7.holds Tryd.pinned (.plain (OpenSpec.ofChange modpPowersSpec)) modpPowersCard

/-- THE TIED CARD OF 'toruslaw01.ModpOrders'. -/
def modpOrdersCard : Claim7 := { stood := { row := modpOrdersRow, standIns := [], harness := (true, "7ec916ea1b14ff633240aec1ad738a3c829b434436df3d21299a6b00c2ed10e2"), looks := false }, kinds := [], alts := [], laidByText := true, laidKinds := [.data], laidTests := true, laidLooks := .later }
def ModpOrdersCardSaid : Prop := Claim7.holds Tryd.pinned (.plain (OpenSpec.ofChange modpOrdersSpec)) modpOrdersCard

/-- THE TIED CARD OF 'toruslaw01.ModpSquares'. -/
def modpSquaresCard : Claim7 := { stood := { row := modpSquaresRow, standIns := [], harness := (true, "7ec916ea1b14ff633240aec1ad738a3c829b434436df3d21299a6b00c2ed10e2"), looks := false }, kinds := [], alts := [], laidByText := true, laidKinds := [.data], laidTests := true, laidLooks := .later }
def ModpSquaresCardSaid : Prop := Claim7.holds Tryd.pinned (.plain (OpenSpec.ofChange modpSquaresSpec)) modpSquaresCard

/-- THE TIED CARD OF 'toruslaw01.ModpResidues'. -/
def modpResiduesCard : Claim7 := { stood := { row := modpResiduesRow, standIns := [], harness := (true, "7ec916ea1b14ff633240aec1ad738a3c829b434436df3d21299a6b00c2ed10e2"), looks := false }, kinds := [], alts := [], laidByText := true, laidKinds := [.data], laidTests := true, laidLooks := .later }
def ModpResiduesCardSaid : Prop := Claim7.holds Tryd.pinned (.plain (OpenSpec.ofChange modpResiduesSpec)) modpResiduesCard

/-- THE TIED CARD OF 'toruslaw01.ModpExamples'. -/
def modpExamplesCard : Claim7 := { stood := { row := modpExamplesRow, standIns := [], harness := (true, "7ec916ea1b14ff633240aec1ad738a3c829b434436df3d21299a6b00c2ed10e2"), looks := false }, kinds := [], alts := [], laidByText := true, laidKinds := [.data], laidTests := true, laidLooks := .later }
def ModpExamplesCardSaid : Prop := Claim7.holds Tryd.pinned (.plain (OpenSpec.ofChange modpExamplesSpec)) modpExamplesCard

/-- THE SECOND FORM's CARD OF 'toruslaw01.ModpMatches'. -/
def modpMatchesUptoCard : Claim7 := { stood := { row := modpMatchesUptoRow, standIns := [], harness := (true, "7ec916ea1b14ff633240aec1ad738a3c829b434436df3d21299a6b00c2ed10e2"), looks := false }, kinds := [], alts := [], laidByText := true, laidKinds := [.data], laidTests := true, laidLooks := .later }
def ModpMatchesUptoCardSaid : Prop := Claim7.holds Tryd.pinned (.plain (OpenSpec.upto modpMatchesSpec)) modpMatchesUptoCard

/-- THE SECOND FORM's CARD OF 'toruslaw01.ModpSums'. -/
def modpSumsUptoCard : Claim7 := { stood := { row := modpSumsUptoRow, standIns := [], harness := (true, "7ec916ea1b14ff633240aec1ad738a3c829b434436df3d21299a6b00c2ed10e2"), looks := false }, kinds := [], alts := [], laidByText := true, laidKinds := [.data], laidTests := true, laidLooks := .later }
def ModpSumsUptoCardSaid : Prop := Claim7.holds Tryd.pinned (.plain (OpenSpec.upto modpSumsSpec)) modpSumsUptoCard

/-- THE SECOND FORM's CARD OF 'toruslaw01.ModpField'. -/
def modpFieldUptoCard : Claim7 := { stood := { row := modpFieldUptoRow, standIns := [], harness := (true, "7ec916ea1b14ff633240aec1ad738a3c829b434436df3d21299a6b00c2ed10e2"), looks := false }, kinds := [], alts := [], laidByText := true, laidKinds := [.data], laidTests := true, laidLooks := .later }
def ModpFieldUptoCardSaid : Prop := Claim7.holds Tryd.pinned (.plain (OpenSpec.upto modpFieldSpec)) modpFieldUptoCard

/-- THE SECOND FORM's CARD OF 'toruslaw01.ModpPowers'. -/
def modpPowersUptoCard : Claim7 := { stood := { row := modpPowersUptoRow, standIns := [], harness := (true, "7ec916ea1b14ff633240aec1ad738a3c829b434436df3d21299a6b00c2ed10e2"), looks := false }, kinds := [], alts := [], laidByText := true, laidKinds := [.data], laidTests := true, laidLooks := .later }
def ModpPowersUptoCardSaid : Prop := Claim7.holds Tryd.pinned (.plain (OpenSpec.upto modpPowersSpec)) modpPowersUptoCard

/-- THE SECOND FORM's CARD OF 'toruslaw01.ModpOrders'. -/
def modpOrdersUptoCard : Claim7 := { stood := { row := modpOrdersUptoRow, standIns := [], harness := (true, "7ec916ea1b14ff633240aec1ad738a3c829b434436df3d21299a6b00c2ed10e2"), looks := false }, kinds := [], alts := [], laidByText := true, laidKinds := [.data], laidTests := true, laidLooks := .later }
def ModpOrdersUptoCardSaid : Prop := Claim7.holds Tryd.pinned (.plain (OpenSpec.upto modpOrdersSpec)) modpOrdersUptoCard

/-- THE SECOND FORM's CARD OF 'toruslaw01.ModpSquares'. -/
def modpSquaresUptoCard : Claim7 := { stood := { row := modpSquaresUptoRow, standIns := [], harness := (true, "7ec916ea1b14ff633240aec1ad738a3c829b434436df3d21299a6b00c2ed10e2"), looks := false }, kinds := [], alts := [], laidByText := true, laidKinds := [.data], laidTests := true, laidLooks := .later }
def ModpSquaresUptoCardSaid : Prop := Claim7.holds Tryd.pinned (.plain (OpenSpec.upto modpSquaresSpec)) modpSquaresUptoCard

/-- THE SECOND FORM's CARD OF 'toruslaw01.ModpResidues'. -/
def modpResiduesUptoCard : Claim7 := { stood := { row := modpResiduesUptoRow, standIns := [], harness := (true, "7ec916ea1b14ff633240aec1ad738a3c829b434436df3d21299a6b00c2ed10e2"), looks := false }, kinds := [], alts := [], laidByText := true, laidKinds := [.data], laidTests := true, laidLooks := .later }
def ModpResiduesUptoCardSaid : Prop := Claim7.holds Tryd.pinned (.plain (OpenSpec.upto modpResiduesSpec)) modpResiduesUptoCard

/-- THE SECOND FORM's CARD OF 'toruslaw01.ModpExamples'. -/
def modpExamplesUptoCard : Claim7 := { stood := { row := modpExamplesUptoRow, standIns := [], harness := (true, "7ec916ea1b14ff633240aec1ad738a3c829b434436df3d21299a6b00c2ed10e2"), looks := false }, kinds := [], alts := [], laidByText := true, laidKinds := [.data], laidTests := true, laidLooks := .later }
def ModpExamplesUptoCardSaid : Prop := Claim7.holds Tryd.pinned (.plain (OpenSpec.upto modpExamplesSpec)) modpExamplesUptoCard
end Rows
end Go.Proofs.YthglnchcggpdlaaDoor
