/-
  DERIVED. GIVEN WITH THE SEED: THE CARDS: each row of YtgeokeffondmhaaDoorRows.lean that lists a variable, with what it lists TIED to the program's text (the seventh form; the later family's looks); each row that meets fmt, with fmt's text TOLD by the authors' own Lean function (tested against real Go, not proved from fmt's source: count such statements apart). THE CARD IS WHAT COUNTS. Prove the row's statement (the work); the ties are given (YtgeokeffondmhaaDoorTie.lean); close each card by the builder's one call (the guide's Derived/Test/ToyasCard.lean, 'card_holds'). Laid BY PROGRAM, IN A SANDBOX (cutbox-door.mjs). By AI agents, Wed Nov 11 2026. No macro, syntax, notation, axiom, sorry.
-/
import Derived.Test.YtgeokeffondmhaaDoorRows
import GoSem.ClaimSeven
namespace Go.Proofs.YtgeokeffondmhaaDoor
namespace Rows

/-- THE TIED CARD OF 'toruslaw02.WholeRing'. -/
def wholeRingCard : Claim7 := { stood := { row := wholeRingRow, standIns := [], harness := (true, "85424c30499a5e1fc5c3ab6b8cf279ad41bd5212edd145c43781f7ea955f3884"), looks := false }, kinds := [], alts := [], laidByText := true, laidKinds := [.data, .data, .data], laidTests := true, laidLooks := .later }
def WholeRingCardSaid : Prop := Claim7.holds Tryd.pinned (.plain (OpenSpec.ofChange wholeRingSpec)) wholeRingCard

/-- THE TIED CARD OF 'toruslaw02.WholeDivisors'. -/
def wholeDivisorsCard : Claim7 := { stood := { row := wholeDivisorsRow, standIns := [], harness := (true, "85424c30499a5e1fc5c3ab6b8cf279ad41bd5212edd145c43781f7ea955f3884"), looks := false }, kinds := [], alts := [], laidByText := true, laidKinds := [.data, .data, .data], laidTests := true, laidLooks := .later }
def WholeDivisorsCardSaid : Prop := Claim7.holds Tryd.pinned (.plain (OpenSpec.ofChange wholeDivisorsSpec)) wholeDivisorsCard

/-- THE SECOND FORM's CARD OF 'toruslaw02.WholeRing'. -/
def wholeRingUptoCard : Claim7 := { stood := { row := wholeRingUptoRow, standIns := [], harness := (true, "85424c30499a5e1fc5c3ab6b8cf279ad41bd5212edd145c43781f7ea955f3884"), looks := false }, kinds := [], alts := [], laidByText := true, laidKinds := [.data, .data, .data], laidTests := true, laidLooks := .later }
def WholeRingUptoCardSaid : Prop := Claim7.holds Tryd.pinned (.plain (OpenSpec.upto wholeRingSpec)) wholeRingUptoCard

/-- THE SECOND FORM's CARD OF 'toruslaw02.WholeDivisors'. -/
def wholeDivisorsUptoCard : Claim7 := { stood := { row := wholeDivisorsUptoRow, standIns := [], harness := (true, "85424c30499a5e1fc5c3ab6b8cf279ad41bd5212edd145c43781f7ea955f3884"), looks := false }, kinds := [], alts := [], laidByText := true, laidKinds := [.data, .data, .data], laidTests := true, laidLooks := .later }
def WholeDivisorsUptoCardSaid : Prop := Claim7.holds Tryd.pinned (.plain (OpenSpec.upto wholeDivisorsSpec)) wholeDivisorsUptoCard
end Rows
end Go.Proofs.YtgeokeffondmhaaDoor
