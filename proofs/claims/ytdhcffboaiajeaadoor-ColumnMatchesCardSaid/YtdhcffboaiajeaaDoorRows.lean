/-
  NARROWER THAN 'FOR EVERY INPUT', by the rows' own cells (each row's printed sentence says how): ColumnMatches: laid · ColumnDenseMatches: laid · ColumnListsMatch: laid · ColumnSpace: laid · ColumnRest: laid · ColumnBasis: laid · ColumnKernel: laid · ColumnDense: laid · ColumnExamples: laid.
  DERIVED. THE GIVEN ROWS OF THIS SEAT. 9 by the template 'for every input the law returns true; each argument reads behind the call as it read before'; 0 by the template 'total and deterministic' (their statements: YtdhcffboaiajeaaDoorTotals.lean).
  GIVEN WITH THE SEED: the statements are not yours to turn. If you find one false, say at which input.
  Laid BY PROGRAM, IN A SANDBOX (cutbox-rows.mjs): the forced cells as the released guide's own fill.sh prints them over the translation bfdd52909c0281b1… (all of the seat's roots in one cut). By AI agents, Wed Nov 11 2026. No macro, syntax, notation, axiom, sorry.
-/
import Derived.Test.YtdhcffboaiajeaaDoorChecked
import GoSem.Claim
import GoSem.ClaimJoined
import GoSem.ClaimMapViews
import Derived.JoinedTies
import Derived.KernelRfl
namespace Go.Proofs.YtdhcffboaiajeaaDoor
/- THE CELL 'sum', in the pinned program and in every row, IS THE sha256 OF THE DUMP (.gsa) THAT YtdhcffboaiajeaaDoorProg.lean LOADS. Nothing in Lean hashes anything: it is a label: what it is worth is what the hold of that sum in a sandbox is worth. -/
noncomputable def Tryd.pinned : Pinned := { name := "ytdhcffboaiajeaadoor", sum := "bfdd52909c0281b143bcbdd8232ca1ff7584ec61b224d617e98afcdfc868c58c", checked := Tryd.checked }
namespace Rows
def none {H : Type} : Left H := { results := [], args := [] }

/- WHAT THE LISTED PACKAGE-LEVEL VARIABLES READ AS WHEN THE CALL BEGINS. Each datum BY PROGRAM (the guide's laid-datum.mjs) off the statement by which the dump's own 'gosem.cut.vars' lays the variable. In a bare row this is a premise. The card (YtdhcffboaiajeaaDoorCards.lean) ties it to the program's text. -/
def laid_torus_modp_primes {H : Type} : DataW H := .agg [.lit (.int .u64 2891462833508853932), .lit (.int .u64 9223979663092122248), .lit (.int .u64 9234666804958202376), .lit (.int .u64 577166812715155618)]

/-- 'toruslaw04.ColumnMatches': WHATEVER THE INPUT: true; the input reads as it did. -/
def columnMatchesSpec : ChangeSpec := { name := "columnMatches", fn := fun _ => fun
  | [d1, d2, d3, d4, d5] => { results := [.lit (.bool true)], args := [d1, d2, d3, d4, d5] }
  | _ => none }
def columnMatchesRow : OpenClaim := { program := "ytdhcffboaiajeaadoor", sum := "bfdd52909c0281b143bcbdd8232ca1ff7584ec61b224d617e98afcdfc868c58c", func := "torus/toruslaw04.ColumnMatches", spec := "columnMatches", unfollowed := true, recurses := true, named := ["torus/modp.primes"], apart := false, laid := [("torus/modp.primes", laid_torus_modp_primes)] }
def ColumnMatchesSaid : Prop := columnMatchesRow.holds Tryd.pinned (OpenSpec.ofChange columnMatchesSpec)

/-- ITS FALSE NEIGHBOUR: 'it returns false'. Refute it at one input. -/
def columnMatchesWrong : ChangeSpec := { name := "columnMatches", fn := fun _ => fun
  | [d1, d2, d3, d4, d5] => { results := [.lit (.bool false)], args := [d1, d2, d3, d4, d5] }
  | _ => none }
def ColumnMatchesWrongFalsely : Prop := columnMatchesRow.holds Tryd.pinned (OpenSpec.ofChange columnMatchesWrong)

/-- 'toruslaw04.ColumnDenseMatches': WHATEVER THE INPUT: true; the input reads as it did. -/
def columnDenseMatchesSpec : ChangeSpec := { name := "columnDenseMatches", fn := fun _ => fun
  | [d1, d2, d3, d4] => { results := [.lit (.bool true)], args := [d1, d2, d3, d4] }
  | _ => none }
def columnDenseMatchesRow : OpenClaim := { program := "ytdhcffboaiajeaadoor", sum := "bfdd52909c0281b143bcbdd8232ca1ff7584ec61b224d617e98afcdfc868c58c", func := "torus/toruslaw04.ColumnDenseMatches", spec := "columnDenseMatches", unfollowed := true, recurses := true, named := ["torus/modp.primes"], apart := false, laid := [("torus/modp.primes", laid_torus_modp_primes)] }
def ColumnDenseMatchesSaid : Prop := columnDenseMatchesRow.holds Tryd.pinned (OpenSpec.ofChange columnDenseMatchesSpec)

/-- ITS FALSE NEIGHBOUR: 'it returns false'. Refute it at one input. -/
def columnDenseMatchesWrong : ChangeSpec := { name := "columnDenseMatches", fn := fun _ => fun
  | [d1, d2, d3, d4] => { results := [.lit (.bool false)], args := [d1, d2, d3, d4] }
  | _ => none }
def ColumnDenseMatchesWrongFalsely : Prop := columnDenseMatchesRow.holds Tryd.pinned (OpenSpec.ofChange columnDenseMatchesWrong)

/-- 'toruslaw04.ColumnListsMatch': WHATEVER THE INPUT: true; the input reads as it did. -/
def columnListsMatchSpec : ChangeSpec := { name := "columnListsMatch", fn := fun _ => fun
  | [d1, d2, d3] => { results := [.lit (.bool true)], args := [d1, d2, d3] }
  | _ => none }
def columnListsMatchRow : OpenClaim := { program := "ytdhcffboaiajeaadoor", sum := "bfdd52909c0281b143bcbdd8232ca1ff7584ec61b224d617e98afcdfc868c58c", func := "torus/toruslaw04.ColumnListsMatch", spec := "columnListsMatch", unfollowed := true, recurses := true, named := ["torus/modp.primes"], apart := false, laid := [("torus/modp.primes", laid_torus_modp_primes)] }
def ColumnListsMatchSaid : Prop := columnListsMatchRow.holds Tryd.pinned (OpenSpec.ofChange columnListsMatchSpec)

/-- ITS FALSE NEIGHBOUR: 'it returns false'. Refute it at one input. -/
def columnListsMatchWrong : ChangeSpec := { name := "columnListsMatch", fn := fun _ => fun
  | [d1, d2, d3] => { results := [.lit (.bool false)], args := [d1, d2, d3] }
  | _ => none }
def ColumnListsMatchWrongFalsely : Prop := columnListsMatchRow.holds Tryd.pinned (OpenSpec.ofChange columnListsMatchWrong)

/-- 'toruslaw04.ColumnSpace': WHATEVER THE INPUT: true; the input reads as it did. -/
def columnSpaceSpec : ChangeSpec := { name := "columnSpace", fn := fun _ => fun
  | [d1, d2, d3, d4] => { results := [.lit (.bool true)], args := [d1, d2, d3, d4] }
  | _ => none }
def columnSpaceRow : OpenClaim := { program := "ytdhcffboaiajeaadoor", sum := "bfdd52909c0281b143bcbdd8232ca1ff7584ec61b224d617e98afcdfc868c58c", func := "torus/toruslaw04.ColumnSpace", spec := "columnSpace", unfollowed := true, recurses := true, named := ["torus/modp.primes"], apart := false, laid := [("torus/modp.primes", laid_torus_modp_primes)] }
def ColumnSpaceSaid : Prop := columnSpaceRow.holds Tryd.pinned (OpenSpec.ofChange columnSpaceSpec)

/-- ITS FALSE NEIGHBOUR: 'it returns false'. Refute it at one input. -/
def columnSpaceWrong : ChangeSpec := { name := "columnSpace", fn := fun _ => fun
  | [d1, d2, d3, d4] => { results := [.lit (.bool false)], args := [d1, d2, d3, d4] }
  | _ => none }
def ColumnSpaceWrongFalsely : Prop := columnSpaceRow.holds Tryd.pinned (OpenSpec.ofChange columnSpaceWrong)

/-- 'toruslaw04.ColumnRest': WHATEVER THE INPUT: true; the input reads as it did. -/
def columnRestSpec : ChangeSpec := { name := "columnRest", fn := fun _ => fun
  | [d1, d2, d3] => { results := [.lit (.bool true)], args := [d1, d2, d3] }
  | _ => none }
def columnRestRow : OpenClaim := { program := "ytdhcffboaiajeaadoor", sum := "bfdd52909c0281b143bcbdd8232ca1ff7584ec61b224d617e98afcdfc868c58c", func := "torus/toruslaw04.ColumnRest", spec := "columnRest", unfollowed := true, recurses := true, named := ["torus/modp.primes"], apart := false, laid := [("torus/modp.primes", laid_torus_modp_primes)] }
def ColumnRestSaid : Prop := columnRestRow.holds Tryd.pinned (OpenSpec.ofChange columnRestSpec)

/-- ITS FALSE NEIGHBOUR: 'it returns false'. Refute it at one input. -/
def columnRestWrong : ChangeSpec := { name := "columnRest", fn := fun _ => fun
  | [d1, d2, d3] => { results := [.lit (.bool false)], args := [d1, d2, d3] }
  | _ => none }
def ColumnRestWrongFalsely : Prop := columnRestRow.holds Tryd.pinned (OpenSpec.ofChange columnRestWrong)

/-- 'toruslaw04.ColumnBasis': WHATEVER THE INPUT: true; the input reads as it did. -/
def columnBasisSpec : ChangeSpec := { name := "columnBasis", fn := fun _ => fun
  | [d1, d2, d3] => { results := [.lit (.bool true)], args := [d1, d2, d3] }
  | _ => none }
def columnBasisRow : OpenClaim := { program := "ytdhcffboaiajeaadoor", sum := "bfdd52909c0281b143bcbdd8232ca1ff7584ec61b224d617e98afcdfc868c58c", func := "torus/toruslaw04.ColumnBasis", spec := "columnBasis", unfollowed := true, recurses := true, named := ["torus/modp.primes"], apart := false, laid := [("torus/modp.primes", laid_torus_modp_primes)] }
def ColumnBasisSaid : Prop := columnBasisRow.holds Tryd.pinned (OpenSpec.ofChange columnBasisSpec)

/-- ITS FALSE NEIGHBOUR: 'it returns false'. Refute it at one input. -/
def columnBasisWrong : ChangeSpec := { name := "columnBasis", fn := fun _ => fun
  | [d1, d2, d3] => { results := [.lit (.bool false)], args := [d1, d2, d3] }
  | _ => none }
def ColumnBasisWrongFalsely : Prop := columnBasisRow.holds Tryd.pinned (OpenSpec.ofChange columnBasisWrong)

/-- 'toruslaw04.ColumnKernel': WHATEVER THE INPUT: true; the input reads as it did. -/
def columnKernelSpec : ChangeSpec := { name := "columnKernel", fn := fun _ => fun
  | [d1, d2] => { results := [.lit (.bool true)], args := [d1, d2] }
  | _ => none }
def columnKernelRow : OpenClaim := { program := "ytdhcffboaiajeaadoor", sum := "bfdd52909c0281b143bcbdd8232ca1ff7584ec61b224d617e98afcdfc868c58c", func := "torus/toruslaw04.ColumnKernel", spec := "columnKernel", unfollowed := true, recurses := true, named := ["torus/modp.primes"], apart := false, laid := [("torus/modp.primes", laid_torus_modp_primes)] }
def ColumnKernelSaid : Prop := columnKernelRow.holds Tryd.pinned (OpenSpec.ofChange columnKernelSpec)

/-- ITS FALSE NEIGHBOUR: 'it returns false'. Refute it at one input. -/
def columnKernelWrong : ChangeSpec := { name := "columnKernel", fn := fun _ => fun
  | [d1, d2] => { results := [.lit (.bool false)], args := [d1, d2] }
  | _ => none }
def ColumnKernelWrongFalsely : Prop := columnKernelRow.holds Tryd.pinned (OpenSpec.ofChange columnKernelWrong)

/-- 'toruslaw04.ColumnDense': WHATEVER THE INPUT: true; the input reads as it did. -/
def columnDenseSpec : ChangeSpec := { name := "columnDense", fn := fun _ => fun
  | [d1, d2, d3, d4] => { results := [.lit (.bool true)], args := [d1, d2, d3, d4] }
  | _ => none }
def columnDenseRow : OpenClaim := { program := "ytdhcffboaiajeaadoor", sum := "bfdd52909c0281b143bcbdd8232ca1ff7584ec61b224d617e98afcdfc868c58c", func := "torus/toruslaw04.ColumnDense", spec := "columnDense", unfollowed := true, recurses := true, named := ["torus/modp.primes"], apart := false, laid := [("torus/modp.primes", laid_torus_modp_primes)] }
def ColumnDenseSaid : Prop := columnDenseRow.holds Tryd.pinned (OpenSpec.ofChange columnDenseSpec)

/-- ITS FALSE NEIGHBOUR: 'it returns false'. Refute it at one input. -/
def columnDenseWrong : ChangeSpec := { name := "columnDense", fn := fun _ => fun
  | [d1, d2, d3, d4] => { results := [.lit (.bool false)], args := [d1, d2, d3, d4] }
  | _ => none }
def ColumnDenseWrongFalsely : Prop := columnDenseRow.holds Tryd.pinned (OpenSpec.ofChange columnDenseWrong)

/-- 'toruslaw04.ColumnExamples': WHATEVER THE INPUT: true; the input reads as it did. -/
def columnExamplesSpec : ChangeSpec := { name := "columnExamples", fn := fun _ => fun
  | [] => { results := [.lit (.bool true)], args := [] }
  | _ => none }
def columnExamplesRow : OpenClaim := { program := "ytdhcffboaiajeaadoor", sum := "bfdd52909c0281b143bcbdd8232ca1ff7584ec61b224d617e98afcdfc868c58c", func := "torus/toruslaw04.ColumnExamples", spec := "columnExamples", unfollowed := true, recurses := true, named := ["torus/modp.primes"], apart := false, laid := [("torus/modp.primes", laid_torus_modp_primes)] }
def ColumnExamplesSaid : Prop := columnExamplesRow.holds Tryd.pinned (OpenSpec.ofChange columnExamplesSpec)

/-- ITS FALSE NEIGHBOUR: 'it returns false'. Refute it at one input. -/
def columnExamplesWrong : ChangeSpec := { name := "columnExamples", fn := fun _ => fun
  | [] => { results := [.lit (.bool false)], args := [] }
  | _ => none }
def ColumnExamplesWrongFalsely : Prop := columnExamplesRow.holds Tryd.pinned (OpenSpec.ofChange columnExamplesWrong)

/- THE SECOND FORM. 'bulk': how many values and letters a reading holds, each counted each time it is reached (what is shared counts as often as it is met; a slice's spare places count too). A statement '..UptoSaid' is the law's where the arguments, and the package variables that the reading takes, are together of bulk at most 1048576: NARROWER than '..Said'. Prove '..Said' where nothing that the law and all that it calls make is longer than what came in: it says more and counts as full. Else prove '..UptoSaid'. A law counts once. -/
mutual
def uptoBulk {H : Type} : DataW H → Nat
  | .lit (.string bytes) => bytes.length + 1
  | .lit _ => 1
  | .nil => 1
  | .ptr d => uptoBulk d + 1
  | .slice elems spare => uptoBulkAll elems + uptoBulkAll spare + 1
  | .agg parts => uptoBulkAll parts + 1
  | .iface _ d => uptoBulk d + 1
  | .map entries => uptoBulkEntries entries + 1
  | .held _ => 1
def uptoBulkAll {H : Type} : List (DataW H) → Nat
  | [] => 0
  | d :: r => uptoBulk d + uptoBulkAll r
def uptoBulkEntries {H : Type} : List (Lit × DataW H) → Nat
  | [] => 0
  | x :: r => uptoBulkEntry x + uptoBulkEntries r
def uptoBulkEntry {H : Type} : Lit × DataW H → Nat
  | (.string bytes, d) => bytes.length + uptoBulk d + 1
  | (_, d) => uptoBulk d + 1
 end
def uptoSmall : (H : Type) → List (DataW H) → Bool := fun _ ds => decide (uptoBulkAll ds ≤ 1048576)
def OpenSpec.upto (s : _root_.Go.ChangeSpec) : _root_.Go.OpenSpec := { _root_.Go.OpenSpec.ofChange s with cond := some uptoSmall }

/-- 'toruslaw04.ColumnMatches', WHERE WHAT IT READS IS OF BULK AT MOST 1048576: true; the input reads as it did. -/
def columnMatchesUptoRow : OpenClaim := { program := "ytdhcffboaiajeaadoor", sum := "bfdd52909c0281b143bcbdd8232ca1ff7584ec61b224d617e98afcdfc868c58c", func := "torus/toruslaw04.ColumnMatches", spec := "columnMatches", unfollowed := true, recurses := true, named := ["torus/modp.primes"], apart := false, laid := [("torus/modp.primes", laid_torus_modp_primes)], narrowed := true }
def ColumnMatchesUptoSaid : Prop := columnMatchesUptoRow.holds Tryd.pinned (OpenSpec.upto columnMatchesSpec)

/-- 'toruslaw04.ColumnDenseMatches', WHERE WHAT IT READS IS OF BULK AT MOST 1048576: true; the input reads as it did. -/
def columnDenseMatchesUptoRow : OpenClaim := { program := "ytdhcffboaiajeaadoor", sum := "bfdd52909c0281b143bcbdd8232ca1ff7584ec61b224d617e98afcdfc868c58c", func := "torus/toruslaw04.ColumnDenseMatches", spec := "columnDenseMatches", unfollowed := true, recurses := true, named := ["torus/modp.primes"], apart := false, laid := [("torus/modp.primes", laid_torus_modp_primes)], narrowed := true }
def ColumnDenseMatchesUptoSaid : Prop := columnDenseMatchesUptoRow.holds Tryd.pinned (OpenSpec.upto columnDenseMatchesSpec)

/-- 'toruslaw04.ColumnListsMatch', WHERE WHAT IT READS IS OF BULK AT MOST 1048576: true; the input reads as it did. -/
def columnListsMatchUptoRow : OpenClaim := { program := "ytdhcffboaiajeaadoor", sum := "bfdd52909c0281b143bcbdd8232ca1ff7584ec61b224d617e98afcdfc868c58c", func := "torus/toruslaw04.ColumnListsMatch", spec := "columnListsMatch", unfollowed := true, recurses := true, named := ["torus/modp.primes"], apart := false, laid := [("torus/modp.primes", laid_torus_modp_primes)], narrowed := true }
def ColumnListsMatchUptoSaid : Prop := columnListsMatchUptoRow.holds Tryd.pinned (OpenSpec.upto columnListsMatchSpec)

/-- 'toruslaw04.ColumnSpace', WHERE WHAT IT READS IS OF BULK AT MOST 1048576: true; the input reads as it did. -/
def columnSpaceUptoRow : OpenClaim := { program := "ytdhcffboaiajeaadoor", sum := "bfdd52909c0281b143bcbdd8232ca1ff7584ec61b224d617e98afcdfc868c58c", func := "torus/toruslaw04.ColumnSpace", spec := "columnSpace", unfollowed := true, recurses := true, named := ["torus/modp.primes"], apart := false, laid := [("torus/modp.primes", laid_torus_modp_primes)], narrowed := true }
def ColumnSpaceUptoSaid : Prop := columnSpaceUptoRow.holds Tryd.pinned (OpenSpec.upto columnSpaceSpec)

/-- 'toruslaw04.ColumnRest', WHERE WHAT IT READS IS OF BULK AT MOST 1048576: true; the input reads as it did. -/
def columnRestUptoRow : OpenClaim := { program := "ytdhcffboaiajeaadoor", sum := "bfdd52909c0281b143bcbdd8232ca1ff7584ec61b224d617e98afcdfc868c58c", func := "torus/toruslaw04.ColumnRest", spec := "columnRest", unfollowed := true, recurses := true, named := ["torus/modp.primes"], apart := false, laid := [("torus/modp.primes", laid_torus_modp_primes)], narrowed := true }
def ColumnRestUptoSaid : Prop := columnRestUptoRow.holds Tryd.pinned (OpenSpec.upto columnRestSpec)

/-- 'toruslaw04.ColumnBasis', WHERE WHAT IT READS IS OF BULK AT MOST 1048576: true; the input reads as it did. -/
def columnBasisUptoRow : OpenClaim := { program := "ytdhcffboaiajeaadoor", sum := "bfdd52909c0281b143bcbdd8232ca1ff7584ec61b224d617e98afcdfc868c58c", func := "torus/toruslaw04.ColumnBasis", spec := "columnBasis", unfollowed := true, recurses := true, named := ["torus/modp.primes"], apart := false, laid := [("torus/modp.primes", laid_torus_modp_primes)], narrowed := true }
def ColumnBasisUptoSaid : Prop := columnBasisUptoRow.holds Tryd.pinned (OpenSpec.upto columnBasisSpec)

/-- 'toruslaw04.ColumnKernel', WHERE WHAT IT READS IS OF BULK AT MOST 1048576: true; the input reads as it did. -/
def columnKernelUptoRow : OpenClaim := { program := "ytdhcffboaiajeaadoor", sum := "bfdd52909c0281b143bcbdd8232ca1ff7584ec61b224d617e98afcdfc868c58c", func := "torus/toruslaw04.ColumnKernel", spec := "columnKernel", unfollowed := true, recurses := true, named := ["torus/modp.primes"], apart := false, laid := [("torus/modp.primes", laid_torus_modp_primes)], narrowed := true }
def ColumnKernelUptoSaid : Prop := columnKernelUptoRow.holds Tryd.pinned (OpenSpec.upto columnKernelSpec)

/-- 'toruslaw04.ColumnDense', WHERE WHAT IT READS IS OF BULK AT MOST 1048576: true; the input reads as it did. -/
def columnDenseUptoRow : OpenClaim := { program := "ytdhcffboaiajeaadoor", sum := "bfdd52909c0281b143bcbdd8232ca1ff7584ec61b224d617e98afcdfc868c58c", func := "torus/toruslaw04.ColumnDense", spec := "columnDense", unfollowed := true, recurses := true, named := ["torus/modp.primes"], apart := false, laid := [("torus/modp.primes", laid_torus_modp_primes)], narrowed := true }
def ColumnDenseUptoSaid : Prop := columnDenseUptoRow.holds Tryd.pinned (OpenSpec.upto columnDenseSpec)

/-- 'toruslaw04.ColumnExamples', WHERE WHAT IT READS IS OF BULK AT MOST 1048576: true; the input reads as it did. -/
def columnExamplesUptoRow : OpenClaim := { program := "ytdhcffboaiajeaadoor", sum := "bfdd52909c0281b143bcbdd8232ca1ff7584ec61b224d617e98afcdfc868c58c", func := "torus/toruslaw04.ColumnExamples", spec := "columnExamples", unfollowed := true, recurses := true, named := ["torus/modp.primes"], apart := false, laid := [("torus/modp.primes", laid_torus_modp_primes)], narrowed := true }
def ColumnExamplesUptoSaid : Prop := columnExamplesUptoRow.holds Tryd.pinned (OpenSpec.upto columnExamplesSpec)

end Rows
end Go.Proofs.YtdhcffboaiajeaaDoor
