/-
  NARROWER THAN 'FOR EVERY INPUT', by the rows' own cells (each row's printed sentence says how): ModpMatches: laid · ModpSums: laid · ModpField: laid · ModpPowers: laid · ModpOrders: laid · ModpSquares: laid · ModpResidues: laid · ModpExamples: laid.
  DERIVED. THE GIVEN ROWS OF THIS SEAT. 8 by the template 'for every input the law returns true; each argument reads behind the call as it read before'; 0 by the template 'total and deterministic' (their statements: YthglnchcggpdlaaDoorTotals.lean).
  GIVEN WITH THE SEED: the statements are not yours to turn. If you find one false, say at which input.
  Laid BY PROGRAM, IN A SANDBOX (cutbox-rows.mjs): the forced cells as the released guide's own fill.sh prints them over the translation 64037b8c1440801d… (all of the seat's roots in one cut). By AI agents, Wed Nov 11 2026. No macro, syntax, notation, axiom, sorry.
-/
import Derived.Test.YthglnchcggpdlaaDoorChecked
import GoSem.Claim
import GoSem.ClaimJoined
import GoSem.ClaimMapViews
import Derived.JoinedTies
import Derived.KernelRfl
namespace Go.Proofs.YthglnchcggpdlaaDoor
/- THE CELL 'sum', in the pinned program and in every row, IS THE sha256 OF THE DUMP (.gsa) THAT YthglnchcggpdlaaDoorProg.lean LOADS. Nothing in Lean hashes anything: it is a label: what it is worth is what the hold of that sum in a sandbox is worth. -/
noncomputable def Tryd.pinned : Pinned := { name := "ythglnchcggpdlaadoor", sum := "64037b8c1440801dfaeac3a7edb116c8691877a46bcd8050a80503b6d33bbafa", checked := Tryd.checked }
namespace Rows
def none {H : Type} : Left H := { results := [], args := [] }

/- WHAT THE LISTED PACKAGE-LEVEL VARIABLES READ AS WHEN THE CALL BEGINS. Each datum BY PROGRAM (the guide's laid-datum.mjs) off the statement by which the dump's own 'gosem.cut.vars' lays the variable. In a bare row this is a premise. The card (YthglnchcggpdlaaDoorCards.lean) ties it to the program's text. -/
def laid_torus_modp_primes {H : Type} : DataW H := .agg [.lit (.int .u64 2891462833508853932), .lit (.int .u64 9223979663092122248), .lit (.int .u64 9234666804958202376), .lit (.int .u64 577166812715155618)]

/-- 'toruslaw01.ModpMatches': WHATEVER THE INPUT: true; the input reads as it did. -/
def modpMatchesSpec : ChangeSpec := { name := "modpMatches", fn := fun _ => fun
  | [d1, d2, d3, d4] => { results := [.lit (.bool true)], args := [d1, d2, d3, d4] }
  | _ => none }
def modpMatchesRow : OpenClaim := { program := "ythglnchcggpdlaadoor", sum := "64037b8c1440801dfaeac3a7edb116c8691877a46bcd8050a80503b6d33bbafa", func := "torus/toruslaw01.ModpMatches", spec := "modpMatches", named := ["torus/modp.primes"], apart := false, laid := [("torus/modp.primes", laid_torus_modp_primes)] }
def ModpMatchesSaid : Prop := modpMatchesRow.holds Tryd.pinned (OpenSpec.ofChange modpMatchesSpec)

/-- ITS FALSE NEIGHBOUR: 'it returns false'. Refute it at one input. -/
def modpMatchesWrong : ChangeSpec := { name := "modpMatches", fn := fun _ => fun
  | [d1, d2, d3, d4] => { results := [.lit (.bool false)], args := [d1, d2, d3, d4] }
  | _ => none }
def ModpMatchesWrongFalsely : Prop := modpMatchesRow.holds Tryd.pinned (OpenSpec.ofChange modpMatchesWrong)

/-- 'toruslaw01.ModpSums': WHATEVER THE INPUT: true; the input reads as it did. -/
def modpSumsSpec : ChangeSpec := { name := "modpSums", fn := fun _ => fun
  | [d1, d2] => { results := [.lit (.bool true)], args := [d1, d2] }
  | _ => none }
def modpSumsRow : OpenClaim := { program := "ythglnchcggpdlaadoor", sum := "64037b8c1440801dfaeac3a7edb116c8691877a46bcd8050a80503b6d33bbafa", func := "torus/toruslaw01.ModpSums", spec := "modpSums", named := ["torus/modp.primes"], apart := false, laid := [("torus/modp.primes", laid_torus_modp_primes)] }
def ModpSumsSaid : Prop := modpSumsRow.holds Tryd.pinned (OpenSpec.ofChange modpSumsSpec)

/-- ITS FALSE NEIGHBOUR: 'it returns false'. Refute it at one input. -/
def modpSumsWrong : ChangeSpec := { name := "modpSums", fn := fun _ => fun
  | [d1, d2] => { results := [.lit (.bool false)], args := [d1, d2] }
  | _ => none }
def ModpSumsWrongFalsely : Prop := modpSumsRow.holds Tryd.pinned (OpenSpec.ofChange modpSumsWrong)

/-- 'toruslaw01.ModpField': WHATEVER THE INPUT: true; the input reads as it did. -/
def modpFieldSpec : ChangeSpec := { name := "modpField", fn := fun _ => fun
  | [d1, d2, d3, d4] => { results := [.lit (.bool true)], args := [d1, d2, d3, d4] }
  | _ => none }
def modpFieldRow : OpenClaim := { program := "ythglnchcggpdlaadoor", sum := "64037b8c1440801dfaeac3a7edb116c8691877a46bcd8050a80503b6d33bbafa", func := "torus/toruslaw01.ModpField", spec := "modpField", named := ["torus/modp.primes"], apart := false, laid := [("torus/modp.primes", laid_torus_modp_primes)] }
def ModpFieldSaid : Prop := modpFieldRow.holds Tryd.pinned (OpenSpec.ofChange modpFieldSpec)

/-- ITS FALSE NEIGHBOUR: 'it returns false'. Refute it at one input. -/
def modpFieldWrong : ChangeSpec := { name := "modpField", fn := fun _ => fun
  | [d1, d2, d3, d4] => { results := [.lit (.bool false)], args := [d1, d2, d3, d4] }
  | _ => none }
def ModpFieldWrongFalsely : Prop := modpFieldRow.holds Tryd.pinned (OpenSpec.ofChange modpFieldWrong)

/-- 'toruslaw01.ModpPowers': WHATEVER THE INPUT: true; the input reads as it did. -/
def modpPowersSpec : ChangeSpec := { name := "modpPowers", fn := fun _ => fun
  | [d1, d2, d3, d4] => { results := [.lit (.bool true)], args := [d1, d2, d3, d4] }
  | _ => none }
def modpPowersRow : OpenClaim := { program := "ythglnchcggpdlaadoor", sum := "64037b8c1440801dfaeac3a7edb116c8691877a46bcd8050a80503b6d33bbafa", func := "torus/toruslaw01.ModpPowers", spec := "modpPowers", named := ["torus/modp.primes"], apart := false, laid := [("torus/modp.primes", laid_torus_modp_primes)] }
def ModpPowersSaid : Prop := modpPowersRow.holds Tryd.pinned (OpenSpec.ofChange modpPowersSpec)

/-- ITS FALSE NEIGHBOUR: 'it returns false'. Refute it at one input. -/
def modpPowersWrong : ChangeSpec := { name := "modpPowers", fn := fun _ => fun
  | [d1, d2, d3, d4] => { results := [.lit (.bool false)], args := [d1, d2, d3, d4] }
  | _ => none }
def ModpPowersWrongFalsely : Prop := modpPowersRow.holds Tryd.pinned (OpenSpec.ofChange modpPowersWrong)

/-- 'toruslaw01.ModpOrders': WHATEVER THE INPUT: true; the input reads as it did. -/
def modpOrdersSpec : ChangeSpec := { name := "modpOrders", fn := fun _ => fun
  | [d1, d2, d3] => { results := [.lit (.bool true)], args := [d1, d2, d3] }
  | _ => none }
def modpOrdersRow : OpenClaim := { program := "ythglnchcggpdlaadoor", sum := "64037b8c1440801dfaeac3a7edb116c8691877a46bcd8050a80503b6d33bbafa", func := "torus/toruslaw01.ModpOrders", spec := "modpOrders", named := ["torus/modp.primes"], apart := false, laid := [("torus/modp.primes", laid_torus_modp_primes)] }
def ModpOrdersSaid : Prop := modpOrdersRow.holds Tryd.pinned (OpenSpec.ofChange modpOrdersSpec)

/-- ITS FALSE NEIGHBOUR: 'it returns false'. Refute it at one input. -/
def modpOrdersWrong : ChangeSpec := { name := "modpOrders", fn := fun _ => fun
  | [d1, d2, d3] => { results := [.lit (.bool false)], args := [d1, d2, d3] }
  | _ => none }
def ModpOrdersWrongFalsely : Prop := modpOrdersRow.holds Tryd.pinned (OpenSpec.ofChange modpOrdersWrong)

/-- 'toruslaw01.ModpSquares': WHATEVER THE INPUT: true; the input reads as it did. -/
def modpSquaresSpec : ChangeSpec := { name := "modpSquares", fn := fun _ => fun
  | [d1, d2] => { results := [.lit (.bool true)], args := [d1, d2] }
  | _ => none }
def modpSquaresRow : OpenClaim := { program := "ythglnchcggpdlaadoor", sum := "64037b8c1440801dfaeac3a7edb116c8691877a46bcd8050a80503b6d33bbafa", func := "torus/toruslaw01.ModpSquares", spec := "modpSquares", named := ["torus/modp.primes"], apart := false, laid := [("torus/modp.primes", laid_torus_modp_primes)] }
def ModpSquaresSaid : Prop := modpSquaresRow.holds Tryd.pinned (OpenSpec.ofChange modpSquaresSpec)

/-- ITS FALSE NEIGHBOUR: 'it returns false'. Refute it at one input. -/
def modpSquaresWrong : ChangeSpec := { name := "modpSquares", fn := fun _ => fun
  | [d1, d2] => { results := [.lit (.bool false)], args := [d1, d2] }
  | _ => none }
def ModpSquaresWrongFalsely : Prop := modpSquaresRow.holds Tryd.pinned (OpenSpec.ofChange modpSquaresWrong)

/-- 'toruslaw01.ModpResidues': WHATEVER THE INPUT: true; the input reads as it did. -/
def modpResiduesSpec : ChangeSpec := { name := "modpResidues", fn := fun _ => fun
  | [d1, d2, d3, d4] => { results := [.lit (.bool true)], args := [d1, d2, d3, d4] }
  | _ => none }
def modpResiduesRow : OpenClaim := { program := "ythglnchcggpdlaadoor", sum := "64037b8c1440801dfaeac3a7edb116c8691877a46bcd8050a80503b6d33bbafa", func := "torus/toruslaw01.ModpResidues", spec := "modpResidues", named := ["torus/modp.primes"], apart := false, laid := [("torus/modp.primes", laid_torus_modp_primes)] }
def ModpResiduesSaid : Prop := modpResiduesRow.holds Tryd.pinned (OpenSpec.ofChange modpResiduesSpec)

/-- ITS FALSE NEIGHBOUR: 'it returns false'. Refute it at one input. -/
def modpResiduesWrong : ChangeSpec := { name := "modpResidues", fn := fun _ => fun
  | [d1, d2, d3, d4] => { results := [.lit (.bool false)], args := [d1, d2, d3, d4] }
  | _ => none }
def ModpResiduesWrongFalsely : Prop := modpResiduesRow.holds Tryd.pinned (OpenSpec.ofChange modpResiduesWrong)

/-- 'toruslaw01.ModpExamples': WHATEVER THE INPUT: true; the input reads as it did. -/
def modpExamplesSpec : ChangeSpec := { name := "modpExamples", fn := fun _ => fun
  | [] => { results := [.lit (.bool true)], args := [] }
  | _ => none }
def modpExamplesRow : OpenClaim := { program := "ythglnchcggpdlaadoor", sum := "64037b8c1440801dfaeac3a7edb116c8691877a46bcd8050a80503b6d33bbafa", func := "torus/toruslaw01.ModpExamples", spec := "modpExamples", named := ["torus/modp.primes"], apart := false, laid := [("torus/modp.primes", laid_torus_modp_primes)] }
def ModpExamplesSaid : Prop := modpExamplesRow.holds Tryd.pinned (OpenSpec.ofChange modpExamplesSpec)

/-- ITS FALSE NEIGHBOUR: 'it returns false'. Refute it at one input. -/
def modpExamplesWrong : ChangeSpec := { name := "modpExamples", fn := fun _ => fun
  | [] => { results := [.lit (.bool false)], args := [] }
  | _ => none }
def ModpExamplesWrongFalsely : Prop := modpExamplesRow.holds Tryd.pinned (OpenSpec.ofChange modpExamplesWrong)

/- THE SECOND FORM. 'bulk': how many values and letters a reading holds, each counted each time it is reached (what is shared counts as often as it is met; a slice's spare places count too). A statement '..UptoSaid' is the law's where the arguments, and the package variables that the reading takes, are together of bulk at most 1048576: NARROWER than '..Said'. Prove '..Said' where nothing that the law and all that it calls make is longer than what came in: it says more and counts as full. Else prove '..UptoSaid'. A law counts once. -/
mutual
def uptoBulk {H : Type} : DataW H → Nat
  | .lit (.string bytes) => bytes.length + 1
  | .lit _ => 1
  | .nil => 1
  | .ptr d => uptoBulk d + 1
  | .slice elems spare => uptoBulkAll elems + uptoBulkAll spare + 1
  | .agg parts => uptoBulkAll parts + 1
  | .iface _ d => uptoBulk d + 1
  | .map entries => uptoBulkEntries entries + 1
  | .held _ => 1
def uptoBulkAll {H : Type} : List (DataW H) → Nat
  | [] => 0
  | d :: r => uptoBulk d + uptoBulkAll r
def uptoBulkEntries {H : Type} : List (Lit × DataW H) → Nat
  | [] => 0
  | x :: r => uptoBulkEntry x + uptoBulkEntries r
def uptoBulkEntry {H : Type} : Lit × DataW H → Nat
  | (.string bytes, d) => bytes.length + uptoBulk d + 1
  | (_, d) => uptoBulk d + 1
 end
def uptoSmall : (H : Type) → List (DataW H) → Bool := fun _ ds => decide (uptoBulkAll ds ≤ 1048576)
def OpenSpec.upto (s : _root_.Go.ChangeSpec) : _root_.Go.OpenSpec := { _root_.Go.OpenSpec.ofChange s with cond := some uptoSmall }

/-- 'toruslaw01.ModpMatches', WHERE WHAT IT READS IS OF BULK AT MOST 1048576: true; the input reads as it did. -/
def modpMatchesUptoRow : OpenClaim := { program := "ythglnchcggpdlaadoor", sum := "64037b8c1440801dfaeac3a7edb116c8691877a46bcd8050a80503b6d33bbafa", func := "torus/toruslaw01.ModpMatches", spec := "modpMatches", named := ["torus/modp.primes"], apart := false, laid := [("torus/modp.primes", laid_torus_modp_primes)], narrowed := true }
def ModpMatchesUptoSaid : Prop := modpMatchesUptoRow.holds Tryd.pinned (OpenSpec.upto modpMatchesSpec)

/-- 'toruslaw01.ModpSums', WHERE WHAT IT READS IS OF BULK AT MOST 1048576: true; the input reads as it did. -/
def modpSumsUptoRow : OpenClaim := { program := "ythglnchcggpdlaadoor", sum := "64037b8c1440801dfaeac3a7edb116c8691877a46bcd8050a80503b6d33bbafa", func := "torus/toruslaw01.ModpSums", spec := "modpSums", named := ["torus/modp.primes"], apart := false, laid := [("torus/modp.primes", laid_torus_modp_primes)], narrowed := true }
def ModpSumsUptoSaid : Prop := modpSumsUptoRow.holds Tryd.pinned (OpenSpec.upto modpSumsSpec)

/-- 'toruslaw01.ModpField', WHERE WHAT IT READS IS OF BULK AT MOST 1048576: true; the input reads as it did. -/
def modpFieldUptoRow : OpenClaim := { program := "ythglnchcggpdlaadoor", sum := "64037b8c1440801dfaeac3a7edb116c8691877a46bcd8050a80503b6d33bbafa", func := "torus/toruslaw01.ModpField", spec := "modpField", named := ["torus/modp.primes"], apart := false, laid := [("torus/modp.primes", laid_torus_modp_primes)], narrowed := true }
def ModpFieldUptoSaid : Prop := modpFieldUptoRow.holds Tryd.pinned (OpenSpec.upto modpFieldSpec)

/-- 'toruslaw01.ModpPowers', WHERE WHAT IT READS IS OF BULK AT MOST 1048576: true; the input reads as it did. -/
def modpPowersUptoRow : OpenClaim := { program := "ythglnchcggpdlaadoor", sum := "64037b8c1440801dfaeac3a7edb116c8691877a46bcd8050a80503b6d33bbafa", func := "torus/toruslaw01.ModpPowers", spec := "modpPowers", named := ["torus/modp.primes"], apart := false, laid := [("torus/modp.primes", laid_torus_modp_primes)], narrowed := true }
def ModpPowersUptoSaid : Prop := modpPowersUptoRow.holds Tryd.pinned (OpenSpec.upto modpPowersSpec)

/-- 'toruslaw01.ModpOrders', WHERE WHAT IT READS IS OF BULK AT MOST 1048576: true; the input reads as it did. -/
def modpOrdersUptoRow : OpenClaim := { program := "ythglnchcggpdlaadoor", sum := "64037b8c1440801dfaeac3a7edb116c8691877a46bcd8050a80503b6d33bbafa", func := "torus/toruslaw01.ModpOrders", spec := "modpOrders", named := ["torus/modp.primes"], apart := false, laid := [("torus/modp.primes", laid_torus_modp_primes)], narrowed := true }
def ModpOrdersUptoSaid : Prop := modpOrdersUptoRow.holds Tryd.pinned (OpenSpec.upto modpOrdersSpec)

/-- 'toruslaw01.ModpSquares', WHERE WHAT IT READS IS OF BULK AT MOST 1048576: true; the input reads as it did. -/
def modpSquaresUptoRow : OpenClaim := { program := "ythglnchcggpdlaadoor", sum := "64037b8c1440801dfaeac3a7edb116c8691877a46bcd8050a80503b6d33bbafa", func := "torus/toruslaw01.ModpSquares", spec := "modpSquares", named := ["torus/modp.primes"], apart := false, laid := [("torus/modp.primes", laid_torus_modp_primes)], narrowed := true }
def ModpSquaresUptoSaid : Prop := modpSquaresUptoRow.holds Tryd.pinned (OpenSpec.upto modpSquaresSpec)

/-- 'toruslaw01.ModpResidues', WHERE WHAT IT READS IS OF BULK AT MOST 1048576: true; the input reads as it did. -/
def modpResiduesUptoRow : OpenClaim := { program := "ythglnchcggpdlaadoor", sum := "64037b8c1440801dfaeac3a7edb116c8691877a46bcd8050a80503b6d33bbafa", func := "torus/toruslaw01.ModpResidues", spec := "modpResidues", named := ["torus/modp.primes"], apart := false, laid := [("torus/modp.primes", laid_torus_modp_primes)], narrowed := true }
def ModpResiduesUptoSaid : Prop := modpResiduesUptoRow.holds Tryd.pinned (OpenSpec.upto modpResiduesSpec)

/-- 'toruslaw01.ModpExamples', WHERE WHAT IT READS IS OF BULK AT MOST 1048576: true; the input reads as it did. -/
def modpExamplesUptoRow : OpenClaim := { program := "ythglnchcggpdlaadoor", sum := "64037b8c1440801dfaeac3a7edb116c8691877a46bcd8050a80503b6d33bbafa", func := "torus/toruslaw01.ModpExamples", spec := "modpExamples", named := ["torus/modp.primes"], apart := false, laid := [("torus/modp.primes", laid_torus_modp_primes)], narrowed := true }
def ModpExamplesUptoSaid : Prop := modpExamplesUptoRow.holds Tryd.pinned (OpenSpec.upto modpExamplesSpec)

end Rows
end Go.Proofs.YthglnchcggpdlaaDoor
