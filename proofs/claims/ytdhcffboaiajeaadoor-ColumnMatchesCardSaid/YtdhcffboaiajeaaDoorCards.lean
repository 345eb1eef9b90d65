/-
  DERIVED. GIVEN WITH THE SEED: THE CARDS: each row of YtdhcffboaiajeaaDoorRows.lean that lists a variable, with what it lists TIED to the program's text (the seventh form; the later family's looks); each row that meets fmt, with fmt's text TOLD by the authors' own Lean function (tested against real Go, not proved from fmt's source: count such statements apart). THE CARD IS WHAT COUNTS. Prove the row's statement (the work); the ties are given (YtdhcffboaiajeaaDoorTie.lean); close each card by the builder's one call (the guide's Derived/Test/ToyasCard.lean, 'card_holds'). Laid BY PROGRAM, IN A SANDBOX (cutbox-door.mjs). By AI agents, Wed Nov 11 2026. No macro, syntax, notation, axiom, sorry.
-/
import Derived.Test.YtdhcffboaiajeaaDoorRows
import GoSem.ClaimSeven
namespace Go.Proofs.YtdhcffboaiajeaaDoor
namespace Rows

/-- THE TIED CARD OF 'toruslaw04.ColumnMatches'. -/
def columnMatchesCard : Claim7 := { stood := { row := columnMatchesRow, standIns := [], harness := (true, "e98274d61d44f11ee2af42a3b36b8d95c384140bd74fb4571411f8205148a7a3"), looks := false }, kinds := [], alts := [], laidByText := true, laidKinds := [.data], laidTests := true, laidLooks := .later }
def ColumnMatchesCardSaid : Prop := Claim7.holds Tryd.pinned (.plain (OpenSpec.ofChange columnMatchesSpec)) columnMatchesCard

/-- THE TIED CARD OF 'toruslaw04.ColumnDenseMatches'. -/
def columnDenseMatchesCard : Claim7 := { stood := { row := columnDenseMatchesRow, standIns := [], harness := (true, "e98274d61d44f11ee2af42a3b36b8d95c384140bd74fb4571411f8205148a7a3"), looks := false }, kinds := [], alts := [], laidByText := true, laidKinds := [.data], laidTests := true, laidLooks := .later }
def ColumnDenseMatchesCardSaid : Prop := Claim7.holds Tryd.pinned (.plain (OpenSpec.ofChange columnDenseMatchesSpec)) columnDenseMatchesCard

/-- THE TIED CARD OF 'toruslaw04.ColumnListsMatch'. -/
def columnListsMatchCard : Claim7 := { stood := { row := columnListsMatchRow, standIns := [], harness := (true, "e98274d61d44f11ee2af42a3b36b8d95c384140bd74fb4571411f8205148a7a3"), looks := false }, kinds := [], alts := [], laidByText := true, laidKinds := [.data], laidTests := true, laidLooks := .later }
def ColumnListsMatchCardSaid : Prop := Claim7.holds Tryd.pinned (.plain (OpenSpec.ofChange columnListsMatchSpec)) columnListsMatchCard

/-- THE TIED CARD OF 'toruslaw04.ColumnSpace'. -/
def columnSpaceCard : Claim7 := { stood := { row := columnSpaceRow, standIns := [], harness := (true, "e98274d61d44f11ee2af42a3b36b8d95c384140bd74fb4571411f8205148a7a3"), looks := false }, kinds := [], alts := [], laidByText := true, laidKinds := [.data], laidTests := true, laidLooks := .later }
def ColumnSpaceCardSaid : Prop := Claim7.holds Tryd.pinned (.plain (OpenSpec.ofChange columnSpaceSpec)) columnSpaceCard

/-- THE TIED CARD OF 'toruslaw04.ColumnRest'. -/
def columnRestCard : Claim7 := { stood := { row := columnRestRow, standIns := [], harness := (true, "e98274d61d44f11ee2af42a3b36b8d95c384140bd74fb4571411f8205148a7a3"), looks := false }, kinds := [], alts := [], laidByText := true, laidKinds := [.data], laidTests := true, laidLooks := .later }
def ColumnRestCardSaid : Prop := Claim7.holds Tryd.pinned (.plain (OpenSpec.ofChange columnRestSpec)) columnRestCard

/-- THE TIED CARD OF 'toruslaw04.ColumnBasis'. -/
def columnBasisCard : Claim7 := { stood := { row := columnBasisRow, standIns := [], harness := (true, "e98274d61d44f11ee2af42a3b36b8d95c384140bd74fb4571411f8205148a7a3"), looks := false }, kinds := [], alts := [], laidByText := true, laidKinds := [.data], laidTests := true, laidLooks := .later }
def ColumnBasisCardSaid : Prop := Claim7.holds Tryd.pinned (.plain (OpenSpec.ofChange columnBasisSpec)) columnBasisCard

/-- THE TIED CARD OF 'toruslaw04.ColumnKernel'. -/
def columnKernelCard : Claim7 := { stood := { row := columnKernelRow, standIns := [], harness := (true, "e98274d61d44f11ee2af42a3b36b8d95c384140bd74fb4571411f8205148a7a3"), looks := false }, kinds := [], alts := [], laidByText := true, laidKinds := [.data], laidTests := true, laidLooks := .later }
def ColumnKernelCardSaid : Prop := Claim7.holds Tryd.pinned (.plain (OpenSpec.ofChange columnKernelSpec)) columnKernelCard

/-- THE TIED CARD OF 'toruslaw04.ColumnDense'. -/
def columnDenseCard : Claim7 := { stood := { row := columnDenseRow, standIns := [], harness := (true, "e98274d61d44f11ee2af42a3b36b8d95c384140bd74fb4571411f8205148a7a3"), looks := false }, kinds := [], alts := [], laidByText := true, laidKinds := [.data], laidTests := true, laidLooks := .later }
def ColumnDenseCardSaid : Prop := Claim7.holds Tryd.pinned (.plain (OpenSpec.ofChange columnDenseSpec)) columnDenseCard

/-- THE TIED CARD OF 'toruslaw04.ColumnExamples'. -/
def columnExamplesCard : Claim7 := { stood := { row := columnExamplesRow, standIns := [], harness := (true, "e98274d61d44f11ee2af42a3b36b8d95c384140bd74fb4571411f8205148a7a3"), looks := false }, kinds := [], alts := [], laidByText := true, laidKinds := [.data], laidTests := true, laidLooks := .later }
def ColumnExamplesCardSaid : Prop := Claim7.holds Tryd.pinned (.plain (OpenSpec.ofChange columnExamplesSpec)) columnExamplesCard

/-- THE SECOND FORM's CARD OF 'toruslaw04.ColumnMatches'. -/
def columnMatchesUptoCard : Claim7 := { stood := { row := columnMatchesUptoRow, standIns := [], harness := (true, "e98274d61d44f11ee2af42a3b36b8d95c384140bd74fb4571411f8205148a7a3"), looks := false }, kinds := [], alts := [], laidByText := true, laidKinds := [.data], laidTests := true, laidLooks := .later }
def ColumnMatchesUptoCardSaid : Prop := Claim7.holds Tryd.pinned (.plain (OpenSpec.upto columnMatchesSpec)) columnMatchesUptoCard

/-- THE SECOND FORM's CARD OF 'toruslaw04.ColumnDenseMatches'. -/
def columnDenseMatchesUptoCard : Claim7 := { stood := { row := columnDenseMatchesUptoRow, standIns := [], harness := (true, "e98274d61d44f11ee2af42a3b36b8d95c384140bd74fb4571411f8205148a7a3"), looks := false }, kinds := [], alts := [], laidByText := true, laidKinds := [.data], laidTests := true, laidLooks := .later }
def ColumnDenseMatchesUptoCardSaid : Prop := Claim7.holds Tryd.pinned (.plain (OpenSpec.upto columnDenseMatchesSpec)) columnDenseMatchesUptoCard

/-- THE SECOND FORM's CARD OF 'toruslaw04.ColumnListsMatch'. -/
def columnListsMatchUptoCard : Claim7 := { stood := { row := columnListsMatchUptoRow, standIns := [], harness := (true, "e98274d61d44f11ee2af42a3b36b8d95c384140bd74fb4571411f8205148a7a3"), looks := false }, kinds := [], alts := [], laidByText := true, laidKinds := [.data], laidTests := true, laidLooks := .later }
def ColumnListsMatchUptoCardSaid : Prop := Claim7.holds Tryd.pinned (.plain (OpenSpec.upto columnListsMatchSpec)) columnListsMatchUptoCard

/-- THE SECOND FORM's CARD OF 'toruslaw04.ColumnSpace'. -/
def columnSpaceUptoCard : Claim7 := { stood := { row := columnSpaceUptoRow, standIns := [], harness := (true, "e98274d61d44f11ee2af42a3b36b8d95c384140bd74fb4571411f8205148a7a3"), looks := false }, kinds := [], alts := [], laidByText := true, laidKinds := [.data], laidTests := true, laidLooks := .later }
def ColumnSpaceUptoCardSaid : Prop := Claim7.holds Tryd.pinned (.plain (OpenSpec.upto columnSpaceSpec)) columnSpaceUptoCard

/-- THE SECOND FORM's CARD OF 'toruslaw04.ColumnRest'. -/
def columnRestUptoCard : Claim7 := { stood := { row := columnRestUptoRow, standIns := [], harness := (true, "e98274d61d44f11ee2af42a3b36b8d95c384140bd74fb4571411f8205148a7a3"), looks := false }, kinds := [], alts := [], laidByText := true, laidKinds := [.data], laidTests := true, laidLooks := .later }
def ColumnRestUptoCardSaid : Prop := Claim7.holds Tryd.pinned (.plain (OpenSpec.upto columnRestSpec)) columnRestUptoCard

/-- THE SECOND FORM's CARD OF 'toruslaw04.ColumnBasis'. -/
def columnBasisUptoCard : Claim7 := { stood := { row := columnBasisUptoRow, standIns := [], harness := (true, "e98274d61d44f11ee2af42a3b36b8d95c384140bd74fb4571411f8205148a7a3"), looks := false }, kinds := [], alts := [], laidByText := true, laidKinds := [.data], laidTests := true, laidLooks := .later }
def ColumnBasisUptoCardSaid : Prop := Claim7.holds Tryd.pinned (.plain (OpenSpec.upto columnBasisSpec)) columnBasisUptoCard

/-- THE SECOND FORM's CARD OF 'toruslaw04.ColumnKernel'. -/
def columnKernelUptoCard : Claim7 := { stood := { row := columnKernelUptoRow, standIns := [], harness := (true, "e98274d61d44f11ee2af42a3b36b8d95c384140bd74fb4571411f8205148a7a3"), looks := false }, kinds := [], alts := [], laidByText := true, laidKinds := [.data], laidTests := true, laidLooks := .later }
def ColumnKernelUptoCardSaid : Prop := Claim7.holds Tryd.pinned (.plain (OpenSpec.upto columnKernelSpec)) columnKernelUptoCard

/-- THE SECOND FORM's CARD OF 'toruslaw04.ColumnDense'. -/
def columnDenseUptoCard : Claim7 := { stood := { row := columnDenseUptoRow, standIns := [], harness := (true, "e98274d61d44f11ee2af42a3b36b8d95c384140bd74fb4571411f8205148a7a3"), looks := false }, kinds := [], alts := [], laidByText := true, laidKinds := [.data], laidTests := true, laidLooks := .later }
def ColumnDenseUptoCardSaid : Prop := Claim7.holds Tryd.pinned (.plain (OpenSpec.upto columnDenseSpec)) columnDenseUptoCard

/-- THE SECOND FORM's CARD OF 'toruslaw04.ColumnExamples'. -/
def columnExamplesUptoCard : Claim7 := { stood := { row := columnExamplesUptoRow, standIns := [], harness := (true, "e98274d61d44f11ee2af42a3b36b8d95c384140bd74fb4571411f8205148a7a3"), looks := false }, kinds := [], alts := [], laidByText := true, laidKinds := [.data], laidTests := true, laidLooks := .later }
def ColumnExamplesUptoCardSaid : Prop := Claim7.holds Tryd.pinned (.plain (OpenSpec.upto columnExamplesSpec)) columnExamplesUptoCard
end Rows
end Go.Proofs.YtdhcffboaiajeaaDoor
