/-
  NARROWER THAN 'FOR EVERY INPUT', by the rows' own cells (each row's printed sentence says how): TableBuilds: laid · TableOpens: laid · TableFinds: laid · TableTurned: laid · TableOfNothing: laid · TableSplits: laid · TableOwn: laid.
  DERIVED. THE GIVEN ROWS OF THIS SEAT. 7 by the template 'for every input the law returns true; each argument reads behind the call as it read before'; 0 by the template 'total and deterministic' (their statements: YthohghnfiicndaaDoorTotals.lean).
  GIVEN WITH THE SEED: the statements are not yours to turn. If you find one false, say at which input.
  Laid BY PROGRAM, IN A SANDBOX (cutbox-rows.mjs): the forced cells as the released guide's own fill.sh prints them over the translation 4eec338b7ea6dafd… (all of the seat's roots in one cut). By AI agents, Wed Nov 11 2026. No macro, syntax, notation, axiom, sorry.
-/
import Derived.Test.YthohghnfiicndaaDoorChecked
import GoSem.Claim
import GoSem.ClaimJoined
import GoSem.ClaimMapViews
import Derived.JoinedTies
import Derived.KernelRfl
namespace Go.Proofs.YthohghnfiicndaaDoor
/- THE CELL 'sum', in the pinned program and in every row, IS THE sha256 OF THE DUMP (.gsa) THAT YthohghnfiicndaaDoorProg.lean LOADS. Nothing in Lean hashes anything: it is a label: what it is worth is what the hold of that sum in a sandbox is worth. -/
noncomputable def Tryd.pinned : Pinned := { name := "ythohghnfiicndaadoor", sum := "4eec338b7ea6dafddcc6af660fe12b087bac6c5966c60eed281de5b6de5d3871", checked := Tryd.checked }
namespace Rows
def none {H : Type} : Left H := { results := [], args := [] }

/- WHAT THE LISTED PACKAGE-LEVEL VARIABLES READ AS WHEN THE CALL BEGINS. Each datum BY PROGRAM (the guide's laid-datum.mjs) off the statement by which the dump's own 'gosem.cut.vars' lays the variable. In a bare row this is a premise. The card (YthohghnfiicndaaDoorCards.lean) ties it to the program's text. -/
def laid_burgess_octet_nibbles {H : Type} : DataW H := .agg [.lit (.int .u32 0), .lit (.int .u32 498536548), .lit (.int .u32 997073096), .lit (.int .u32 651767980), .lit (.int .u32 1994146192), .lit (.int .u32 1802195444), .lit (.int .u32 1303535960), .lit (.int .u32 1342533948), .lit (.int .u32 3988292384), .lit (.int .u32 4027552580), .lit (.int .u32 3604390888), .lit (.int .u32 3412177804), .lit (.int .u32 2607071920), .lit (.int .u32 2262029012), .lit (.int .u32 2685067896), .lit (.int .u32 3183342108)]

/-- 'burgesslaw8.TableBuilds': WHATEVER THE INPUT: true; the input reads as it did. -/
def tableBuildsSpec : ChangeSpec := { name := "tableBuilds", fn := fun _ => fun
  | [d] => { results := [.lit (.bool true)], args := [d] }
  | _ => none }
def tableBuildsRow : OpenClaim := { program := "ythohghnfiicndaadoor", sum := "4eec338b7ea6dafddcc6af660fe12b087bac6c5966c60eed281de5b6de5d3871", func := "burgess/burgesslaw8.TableBuilds", spec := "tableBuilds", unfollowed := true, recurses := true, named := ["burgess/octet.nibbles"], plainKeys := false, apart := false, laid := [("burgess/octet.nibbles", laid_burgess_octet_nibbles)] }
def TableBuildsSaid : Prop := tableBuildsRow.holds Tryd.pinned (OpenSpec.ofChange tableBuildsSpec)

/-- ITS FALSE NEIGHBOUR: 'it returns false'. Refute it at one input. -/
def tableBuildsWrong : ChangeSpec := { name := "tableBuilds", fn := fun _ => fun
  | [d] => { results := [.lit (.bool false)], args := [d] }
  | _ => none }
def TableBuildsWrongFalsely : Prop := tableBuildsRow.holds Tryd.pinned (OpenSpec.ofChange tableBuildsWrong)

/-- 'burgesslaw8.TableOpens': WHATEVER THE INPUT: true; the input reads as it did. -/
def tableOpensSpec : ChangeSpec := { name := "tableOpens", fn := fun _ => fun
  | [d1, d2, d3] => { results := [.lit (.bool true)], args := [d1, d2, d3] }
  | _ => none }
def tableOpensRow : OpenClaim := { program := "ythohghnfiicndaadoor", sum := "4eec338b7ea6dafddcc6af660fe12b087bac6c5966c60eed281de5b6de5d3871", func := "burgess/burgesslaw8.TableOpens", spec := "tableOpens", unfollowed := true, recurses := true, named := ["burgess/octet.nibbles"], plainKeys := false, apart := false, laid := [("burgess/octet.nibbles", laid_burgess_octet_nibbles)] }
def TableOpensSaid : Prop := tableOpensRow.holds Tryd.pinned (OpenSpec.ofChange tableOpensSpec)

/-- ITS FALSE NEIGHBOUR: 'it returns false'. Refute it at one input. -/
def tableOpensWrong : ChangeSpec := { name := "tableOpens", fn := fun _ => fun
  | [d1, d2, d3] => { results := [.lit (.bool false)], args := [d1, d2, d3] }
  | _ => none }
def TableOpensWrongFalsely : Prop := tableOpensRow.holds Tryd.pinned (OpenSpec.ofChange tableOpensWrong)

/-- 'burgesslaw8.TableFinds': WHATEVER THE INPUT: true; the input reads as it did. -/
def tableFindsSpec : ChangeSpec := { name := "tableFinds", fn := fun _ => fun
  | [d1, d2, d3, d4] => { results := [.lit (.bool true)], args := [d1, d2, d3, d4] }
  | _ => none }
def tableFindsRow : OpenClaim := { program := "ythohghnfiicndaadoor", sum := "4eec338b7ea6dafddcc6af660fe12b087bac6c5966c60eed281de5b6de5d3871", func := "burgess/burgesslaw8.TableFinds", spec := "tableFinds", unfollowed := true, recurses := true, named := ["burgess/octet.nibbles"], plainKeys := false, apart := false, laid := [("burgess/octet.nibbles", laid_burgess_octet_nibbles)] }
def TableFindsSaid : Prop := tableFindsRow.holds Tryd.pinned (OpenSpec.ofChange tableFindsSpec)

/-- ITS FALSE NEIGHBOUR: 'it returns false'. Refute it at one input. -/
def tableFindsWrong : ChangeSpec := { name := "tableFinds", fn := fun _ => fun
  | [d1, d2, d3, d4] => { results := [.lit (.bool false)], args := [d1, d2, d3, d4] }
  | _ => none }
def TableFindsWrongFalsely : Prop := tableFindsRow.holds Tryd.pinned (OpenSpec.ofChange tableFindsWrong)

/-- 'burgesslaw8.TableTurned': WHATEVER THE INPUT: true; the input reads as it did. -/
def tableTurnedSpec : ChangeSpec := { name := "tableTurned", fn := fun _ => fun
  | [d1, d2, d3] => { results := [.lit (.bool true)], args := [d1, d2, d3] }
  | _ => none }
def tableTurnedRow : OpenClaim := { program := "ythohghnfiicndaadoor", sum := "4eec338b7ea6dafddcc6af660fe12b087bac6c5966c60eed281de5b6de5d3871", func := "burgess/burgesslaw8.TableTurned", spec := "tableTurned", unfollowed := true, recurses := true, named := ["burgess/octet.nibbles"], plainKeys := false, apart := false, laid := [("burgess/octet.nibbles", laid_burgess_octet_nibbles)] }
def TableTurnedSaid : Prop := tableTurnedRow.holds Tryd.pinned (OpenSpec.ofChange tableTurnedSpec)

/-- ITS FALSE NEIGHBOUR: 'it returns false'. Refute it at one input. -/
def tableTurnedWrong : ChangeSpec := { name := "tableTurned", fn := fun _ => fun
  | [d1, d2, d3] => { results := [.lit (.bool false)], args := [d1, d2, d3] }
  | _ => none }
def TableTurnedWrongFalsely : Prop := tableTurnedRow.holds Tryd.pinned (OpenSpec.ofChange tableTurnedWrong)

/-- 'burgesslaw8.TableOfNothing': WHATEVER THE INPUT: true; the input reads as it did. -/
def tableOfNothingSpec : ChangeSpec := { name := "tableOfNothing", fn := fun _ => fun
  | [d1, d2] => { results := [.lit (.bool true)], args := [d1, d2] }
  | _ => none }
def tableOfNothingRow : OpenClaim := { program := "ythohghnfiicndaadoor", sum := "4eec338b7ea6dafddcc6af660fe12b087bac6c5966c60eed281de5b6de5d3871", func := "burgess/burgesslaw8.TableOfNothing", spec := "tableOfNothing", unfollowed := true, recurses := true, named := ["burgess/octet.nibbles"], plainKeys := false, apart := false, laid := [("burgess/octet.nibbles", laid_burgess_octet_nibbles)] }
def TableOfNothingSaid : Prop := tableOfNothingRow.holds Tryd.pinned (OpenSpec.ofChange tableOfNothingSpec)

/-- ITS FALSE NEIGHBOUR: 'it returns false'. Refute it at one input. -/
def tableOfNothingWrong : ChangeSpec := { name := "tableOfNothing", fn := fun _ => fun
  | [d1, d2] => { results := [.lit (.bool false)], args := [d1, d2] }
  | _ => none }
def TableOfNothingWrongFalsely : Prop := tableOfNothingRow.holds Tryd.pinned (OpenSpec.ofChange tableOfNothingWrong)

/-- 'burgesslaw8.TableSplits': WHATEVER THE INPUT: true; the input reads as it did. -/
def tableSplitsSpec : ChangeSpec := { name := "tableSplits", fn := fun _ => fun
  | [d1, d2, d3] => { results := [.lit (.bool true)], args := [d1, d2, d3] }
  | _ => none }
def tableSplitsRow : OpenClaim := { program := "ythohghnfiicndaadoor", sum := "4eec338b7ea6dafddcc6af660fe12b087bac6c5966c60eed281de5b6de5d3871", func := "burgess/burgesslaw8.TableSplits", spec := "tableSplits", unfollowed := true, recurses := true, named := ["burgess/octet.nibbles"], plainKeys := false, apart := false, laid := [("burgess/octet.nibbles", laid_burgess_octet_nibbles)] }
def TableSplitsSaid : Prop := tableSplitsRow.holds Tryd.pinned (OpenSpec.ofChange tableSplitsSpec)

/-- ITS FALSE NEIGHBOUR: 'it returns false'. Refute it at one input. -/
def tableSplitsWrong : ChangeSpec := { name := "tableSplits", fn := fun _ => fun
  | [d1, d2, d3] => { results := [.lit (.bool false)], args := [d1, d2, d3] }
  | _ => none }
def TableSplitsWrongFalsely : Prop := tableSplitsRow.holds Tryd.pinned (OpenSpec.ofChange tableSplitsWrong)

/-- 'burgesslaw8.TableOwn': WHATEVER THE INPUT: true; the input reads as it did. -/
def tableOwnSpec : ChangeSpec := { name := "tableOwn", fn := fun _ => fun
  | [d] => { results := [.lit (.bool true)], args := [d] }
  | _ => none }
def tableOwnRow : OpenClaim := { program := "ythohghnfiicndaadoor", sum := "4eec338b7ea6dafddcc6af660fe12b087bac6c5966c60eed281de5b6de5d3871", func := "burgess/burgesslaw8.TableOwn", spec := "tableOwn", unfollowed := true, recurses := true, named := ["burgess/octet.nibbles"], plainKeys := false, apart := false, laid := [("burgess/octet.nibbles", laid_burgess_octet_nibbles)] }
def TableOwnSaid : Prop := tableOwnRow.holds Tryd.pinned (OpenSpec.ofChange tableOwnSpec)

/-- ITS FALSE NEIGHBOUR: 'it returns false'. Refute it at one input. -/
def tableOwnWrong : ChangeSpec := { name := "tableOwn", fn := fun _ => fun
  | [d] => { results := [.lit (.bool false)], args := [d] }
  | _ => none }
def TableOwnWrongFalsely : Prop := tableOwnRow.holds Tryd.pinned (OpenSpec.ofChange tableOwnWrong)

/- THE SECOND FORM. 'bulk': how many values and letters a reading holds, each counted each time it is reached (what is shared counts as often as it is met; a slice's spare places count too). A statement '..UptoSaid' is the law's where the arguments, and the package variables that the reading takes, are together of bulk at most 1048576: NARROWER than '..Said'. Prove '..Said' where nothing that the law and all that it calls make is longer than what came in: it says more and counts as full. Else prove '..UptoSaid'. A law counts once. -/
mutual
def uptoBulk {H : Type} : DataW H → Nat
  | .lit (.string bytes) => bytes.length + 1
  | .lit _ => 1
  | .nil => 1
  | .ptr d => uptoBulk d + 1
  | .slice elems spare => uptoBulkAll elems + uptoBulkAll spare + 1
  | .agg parts => uptoBulkAll parts + 1
  | .iface _ d => uptoBulk d + 1
  | .map entries => uptoBulkEntries entries + 1
  | .held _ => 1
def uptoBulkAll {H : Type} : List (DataW H) → Nat
  | [] => 0
  | d :: r => uptoBulk d + uptoBulkAll r
def uptoBulkEntries {H : Type} : List (Lit × DataW H) → Nat
  | [] => 0
  | x :: r => uptoBulkEntry x + uptoBulkEntries r
def uptoBulkEntry {H : Type} : Lit × DataW H → Nat
  | (.string bytes, d) => bytes.length + uptoBulk d + 1
  | (_, d) => uptoBulk d + 1
 end
def uptoSmall : (H : Type) → List (DataW H) → Bool := fun _ ds => decide (uptoBulkAll ds ≤ 1048576)
def OpenSpec.upto (s : _root_.Go.ChangeSpec) : _root_.Go.OpenSpec := { _root_.Go.OpenSpec.ofChange s with cond := some uptoSmall }

/-- 'burgesslaw8.TableBuilds', WHERE WHAT IT READS IS OF BULK AT MOST 1048576: true; the input reads as it did. -/
def tableBuildsUptoRow : OpenClaim := { program := "ythohghnfiicndaadoor", sum := "4eec338b7ea6dafddcc6af660fe12b087bac6c5966c60eed281de5b6de5d3871", func := "burgess/burgesslaw8.TableBuilds", spec := "tableBuilds", unfollowed := true, recurses := true, named := ["burgess/octet.nibbles"], plainKeys := false, apart := false, laid := [("burgess/octet.nibbles", laid_burgess_octet_nibbles)], narrowed := true }
def TableBuildsUptoSaid : Prop := tableBuildsUptoRow.holds Tryd.pinned (OpenSpec.upto tableBuildsSpec)

/-- 'burgesslaw8.TableOpens', WHERE WHAT IT READS IS OF BULK AT MOST 1048576: true; the input reads as it did. -/
def tableOpensUptoRow : OpenClaim := { program := "ythohghnfiicndaadoor", sum := "4eec338b7ea6dafddcc6af660fe12b087bac6c5966c60eed281de5b6de5d3871", func := "burgess/burgesslaw8.TableOpens", spec := "tableOpens", unfollowed := true, recurses := true, named := ["burgess/octet.nibbles"], plainKeys := false, apart := false, laid := [("burgess/octet.nibbles", laid_burgess_octet_nibbles)], narrowed := true }
def TableOpensUptoSaid : Prop := tableOpensUptoRow.holds Tryd.pinned (OpenSpec.upto tableOpensSpec)

/-- 'burgesslaw8.TableFinds', WHERE WHAT IT READS IS OF BULK AT MOST 1048576: true; the input reads as it did. -/
def tableFindsUptoRow : OpenClaim := { program := "ythohghnfiicndaadoor", sum := "4eec338b7ea6dafddcc6af660fe12b087bac6c5966c60eed281de5b6de5d3871", func := "burgess/burgesslaw8.TableFinds", spec := "tableFinds", unfollowed := true, recurses := true, named := ["burgess/octet.nibbles"], plainKeys := false, apart := false, laid := [("burgess/octet.nibbles", laid_burgess_octet_nibbles)], narrowed := true }
def TableFindsUptoSaid : Prop := tableFindsUptoRow.holds Tryd.pinned (OpenSpec.upto tableFindsSpec)

/-- 'burgesslaw8.TableTurned', WHERE WHAT IT READS IS OF BULK AT MOST 1048576: true; the input reads as it did. -/
def tableTurnedUptoRow : OpenClaim := { program := "ythohghnfiicndaadoor", sum := "4eec338b7ea6dafddcc6af660fe12b087bac6c5966c60eed281de5b6de5d3871", func := "burgess/burgesslaw8.TableTurned", spec := "tableTurned", unfollowed := true, recurses := true, named := ["burgess/octet.nibbles"], plainKeys := false, apart := false, laid := [("burgess/octet.nibbles", laid_burgess_octet_nibbles)], narrowed := true }
def TableTurnedUptoSaid : Prop := tableTurnedUptoRow.holds Tryd.pinned (OpenSpec.upto tableTurnedSpec)

/-- 'burgesslaw8.TableOfNothing', WHERE WHAT IT READS IS OF BULK AT MOST 1048576: true; the input reads as it did. -/
def tableOfNothingUptoRow : OpenClaim := { program := "ythohghnfiicndaadoor", sum := "4eec338b7ea6dafddcc6af660fe12b087bac6c5966c60eed281de5b6de5d3871", func := "burgess/burgesslaw8.TableOfNothing", spec := "tableOfNothing", unfollowed := true, recurses := true, named := ["burgess/octet.nibbles"], plainKeys := false, apart := false, laid := [("burgess/octet.nibbles", laid_burgess_octet_nibbles)], narrowed := true }
def TableOfNothingUptoSaid : Prop := tableOfNothingUptoRow.holds Tryd.pinned (OpenSpec.upto tableOfNothingSpec)

/-- 'burgesslaw8.TableSplits', WHERE WHAT IT READS IS OF BULK AT MOST 1048576: true; the input reads as it did. -/
def tableSplitsUptoRow : OpenClaim := { program := "ythohghnfiicndaadoor", sum := "4eec338b7ea6dafddcc6af660fe12b087bac6c5966c60eed281de5b6de5d3871", func := "burgess/burgesslaw8.TableSplits", spec := "tableSplits", unfollowed := true, recurses := true, named := ["burgess/octet.nibbles"], plainKeys := false, apart := false, laid := [("burgess/octet.nibbles", laid_burgess_octet_nibbles)], narrowed := true }
def TableSplitsUptoSaid : Prop := tableSplitsUptoRow.holds Tryd.pinned (OpenSpec.upto tableSplitsSpec)

/-- 'burgesslaw8.TableOwn', WHERE WHAT IT READS IS OF BULK AT MOST 1048576: true; the input reads as it did. -/
def tableOwnUptoRow : OpenClaim := { program := "ythohghnfiicndaadoor", sum := "4eec338b7ea6dafddcc6af660fe12b087bac6c5966c60eed281de5b6de5d3871", func := "burgess/burgesslaw8.TableOwn", spec := "tableOwn", unfollowed := true, recurses := true, named := ["burgess/octet.nibbles"], plainKeys := false, apart := false, laid := [("burgess/octet.nibbles", laid_burgess_octet_nibbles)], narrowed := true }
def TableOwnUptoSaid : Prop := tableOwnUptoRow.holds Tryd.pinned (OpenSpec.upto tableOwnSpec)

end Rows
end Go.Proofs.YthohghnfiicndaaDoor
