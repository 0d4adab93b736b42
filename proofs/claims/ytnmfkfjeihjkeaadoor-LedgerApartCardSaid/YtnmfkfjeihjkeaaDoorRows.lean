/-
  NARROWER THAN 'FOR EVERY INPUT', by the rows' own cells (each row's printed sentence says how): KeepPlays: laid · KeepLast: laid · KeepOfNothing: laid · KeepApart: laid · LedgerJumps: laid · LedgerOfNothing: laid · LedgerTorn: laid · LedgerApart: laid.
  DERIVED. THE GIVEN ROWS OF THIS SEAT. 8 by the template 'for every input the law returns true; each argument reads behind the call as it read before'; 0 by the template 'total and deterministic' (their statements: YtnmfkfjeihjkeaaDoorTotals.lean).
  GIVEN WITH THE SEED: the statements are not yours to turn. If you find one false, say at which input.
  Laid BY PROGRAM, IN A SANDBOX (cutbox-rows.mjs): the forced cells as the released guide's own fill.sh prints them over the translation f4322ca684c1ceb9… (all of the seat's roots in one cut). By AI agents, Wed Nov 11 2026. No macro, syntax, notation, axiom, sorry.
-/
import Derived.Test.YtnmfkfjeihjkeaaDoorChecked
import GoSem.Claim
import GoSem.ClaimJoined
import GoSem.ClaimMapViews
import Derived.JoinedTies
import Derived.KernelRfl
namespace Go.Proofs.YtnmfkfjeihjkeaaDoor
/- THE CELL 'sum', in the pinned program and in every row, IS THE sha256 OF THE DUMP (.gsa) THAT YtnmfkfjeihjkeaaDoorProg.lean LOADS. Nothing in Lean hashes anything: it is a label: what it is worth is what the hold of that sum in a sandbox is worth. -/
noncomputable def Tryd.pinned : Pinned := { name := "ytnmfkfjeihjkeaadoor", sum := "f4322ca684c1ceb93142accfc7770482bc618de921113befe66c77b6a5a45b50", checked := Tryd.checked }
namespace Rows
def none {H : Type} : Left H := { results := [], args := [] }

/- WHAT THE LISTED PACKAGE-LEVEL VARIABLES READ AS WHEN THE CALL BEGINS. Each datum BY PROGRAM (the guide's laid-datum.mjs) off the statement by which the dump's own 'gosem.cut.vars' lays the variable. In a bare row this is a premise. The card (YtnmfkfjeihjkeaaDoorCards.lean) ties it to the program's text. -/
def laid_burgess_octet_nibbles {H : Type} : DataW H := .agg [.lit (.int .u32 0), .lit (.int .u32 498536548), .lit (.int .u32 997073096), .lit (.int .u32 651767980), .lit (.int .u32 1994146192), .lit (.int .u32 1802195444), .lit (.int .u32 1303535960), .lit (.int .u32 1342533948), .lit (.int .u32 3988292384), .lit (.int .u32 4027552580), .lit (.int .u32 3604390888), .lit (.int .u32 3412177804), .lit (.int .u32 2607071920), .lit (.int .u32 2262029012), .lit (.int .u32 2685067896), .lit (.int .u32 3183342108)]

/-- 'burgesslaw4.KeepPlays': WHATEVER THE INPUT: true; the input reads as it did. -/
def keepPlaysSpec : ChangeSpec := { name := "keepPlays", fn := fun _ => fun
  | [d1, d2] => { results := [.lit (.bool true)], args := [d1, d2] }
  | _ => none }
def keepPlaysRow : OpenClaim := { program := "ytnmfkfjeihjkeaadoor", sum := "f4322ca684c1ceb93142accfc7770482bc618de921113befe66c77b6a5a45b50", func := "burgess/burgesslaw4.KeepPlays", spec := "keepPlays", unfollowed := true, recurses := true, named := ["burgess/octet.nibbles"], apart := false, laid := [("burgess/octet.nibbles", laid_burgess_octet_nibbles)] }
def KeepPlaysSaid : Prop := keepPlaysRow.holds Tryd.pinned (OpenSpec.ofChange keepPlaysSpec)

/-- ITS FALSE NEIGHBOUR: 'it returns false'. Refute it at one input. -/
def keepPlaysWrong : ChangeSpec := { name := "keepPlays", fn := fun _ => fun
  | [d1, d2] => { results := [.lit (.bool false)], args := [d1, d2] }
  | _ => none }
def KeepPlaysWrongFalsely : Prop := keepPlaysRow.holds Tryd.pinned (OpenSpec.ofChange keepPlaysWrong)

/-- 'burgesslaw4.KeepLast': WHATEVER THE INPUT: true; the input reads as it did. -/
def keepLastSpec : ChangeSpec := { name := "keepLast", fn := fun _ => fun
  | [d1, d2, d3] => { results := [.lit (.bool true)], args := [d1, d2, d3] }
  | _ => none }
def keepLastRow : OpenClaim := { program := "ytnmfkfjeihjkeaadoor", sum := "f4322ca684c1ceb93142accfc7770482bc618de921113befe66c77b6a5a45b50", func := "burgess/burgesslaw4.KeepLast", spec := "keepLast", unfollowed := true, recurses := true, named := ["burgess/octet.nibbles"], apart := false, laid := [("burgess/octet.nibbles", laid_burgess_octet_nibbles)] }
def KeepLastSaid : Prop := keepLastRow.holds Tryd.pinned (OpenSpec.ofChange keepLastSpec)

/-- ITS FALSE NEIGHBOUR: 'it returns false'. Refute it at one input. -/
def keepLastWrong : ChangeSpec := { name := "keepLast", fn := fun _ => fun
  | [d1, d2, d3] => { results := [.lit (.bool false)], args := [d1, d2, d3] }
  | _ => none }
def KeepLastWrongFalsely : Prop := keepLastRow.holds Tryd.pinned (OpenSpec.ofChange keepLastWrong)

/-- 'burgesslaw4.KeepOfNothing': WHATEVER THE INPUT: true; the input reads as it did. -/
def keepOfNothingSpec : ChangeSpec := { name := "keepOfNothing", fn := fun _ => fun
  | [d1, d2] => { results := [.lit (.bool true)], args := [d1, d2] }
  | _ => none }
def keepOfNothingRow : OpenClaim := { program := "ytnmfkfjeihjkeaadoor", sum := "f4322ca684c1ceb93142accfc7770482bc618de921113befe66c77b6a5a45b50", func := "burgess/burgesslaw4.KeepOfNothing", spec := "keepOfNothing", unfollowed := true, recurses := true, named := ["burgess/octet.nibbles"], apart := false, laid := [("burgess/octet.nibbles", laid_burgess_octet_nibbles)] }
def KeepOfNothingSaid : Prop := keepOfNothingRow.holds Tryd.pinned (OpenSpec.ofChange keepOfNothingSpec)

/-- ITS FALSE NEIGHBOUR: 'it returns false'. Refute it at one input. -/
def keepOfNothingWrong : ChangeSpec := { name := "keepOfNothing", fn := fun _ => fun
  | [d1, d2] => { results := [.lit (.bool false)], args := [d1, d2] }
  | _ => none }
def KeepOfNothingWrongFalsely : Prop := keepOfNothingRow.holds Tryd.pinned (OpenSpec.ofChange keepOfNothingWrong)

/-- 'burgesslaw4.KeepApart': WHATEVER THE INPUT: true; the input reads as it did. -/
def keepApartSpec : ChangeSpec := { name := "keepApart", fn := fun _ => fun
  | [d1, d2, d3, d4] => { results := [.lit (.bool true)], args := [d1, d2, d3, d4] }
  | _ => none }
def keepApartRow : OpenClaim := { program := "ytnmfkfjeihjkeaadoor", sum := "f4322ca684c1ceb93142accfc7770482bc618de921113befe66c77b6a5a45b50", func := "burgess/burgesslaw4.KeepApart", spec := "keepApart", unfollowed := true, recurses := true, named := ["burgess/octet.nibbles"], apart := false, laid := [("burgess/octet.nibbles", laid_burgess_octet_nibbles)] }
def KeepApartSaid : Prop := keepApartRow.holds Tryd.pinned (OpenSpec.ofChange keepApartSpec)

/-- ITS FALSE NEIGHBOUR: 'it returns false'. Refute it at one input. -/
def keepApartWrong : ChangeSpec := { name := "keepApart", fn := fun _ => fun
  | [d1, d2, d3, d4] => { results := [.lit (.bool false)], args := [d1, d2, d3, d4] }
  | _ => none }
def KeepApartWrongFalsely : Prop := keepApartRow.holds Tryd.pinned (OpenSpec.ofChange keepApartWrong)

/-- 'burgesslaw5.LedgerJumps': WHATEVER THE INPUT: true; the input reads as it did. -/
def ledgerJumpsSpec : ChangeSpec := { name := "ledgerJumps", fn := fun _ => fun
  | [d1, d2, d3, d4] => { results := [.lit (.bool true)], args := [d1, d2, d3, d4] }
  | _ => none }
def ledgerJumpsRow : OpenClaim := { program := "ytnmfkfjeihjkeaadoor", sum := "f4322ca684c1ceb93142accfc7770482bc618de921113befe66c77b6a5a45b50", func := "burgess/burgesslaw5.LedgerJumps", spec := "ledgerJumps", unfollowed := true, recurses := true, named := ["burgess/octet.nibbles"], apart := false, laid := [("burgess/octet.nibbles", laid_burgess_octet_nibbles)] }
def LedgerJumpsSaid : Prop := ledgerJumpsRow.holds Tryd.pinned (OpenSpec.ofChange ledgerJumpsSpec)

/-- ITS FALSE NEIGHBOUR: 'it returns false'. Refute it at one input. -/
def ledgerJumpsWrong : ChangeSpec := { name := "ledgerJumps", fn := fun _ => fun
  | [d1, d2, d3, d4] => { results := [.lit (.bool false)], args := [d1, d2, d3, d4] }
  | _ => none }
def LedgerJumpsWrongFalsely : Prop := ledgerJumpsRow.holds Tryd.pinned (OpenSpec.ofChange ledgerJumpsWrong)

/-- 'burgesslaw5.LedgerOfNothing': WHATEVER THE INPUT: true; the input reads as it did. -/
def ledgerOfNothingSpec : ChangeSpec := { name := "ledgerOfNothing", fn := fun _ => fun
  | [d1, d2] => { results := [.lit (.bool true)], args := [d1, d2] }
  | _ => none }
def ledgerOfNothingRow : OpenClaim := { program := "ytnmfkfjeihjkeaadoor", sum := "f4322ca684c1ceb93142accfc7770482bc618de921113befe66c77b6a5a45b50", func := "burgess/burgesslaw5.LedgerOfNothing", spec := "ledgerOfNothing", unfollowed := true, recurses := true, named := ["burgess/octet.nibbles"], apart := false, laid := [("burgess/octet.nibbles", laid_burgess_octet_nibbles)] }
def LedgerOfNothingSaid : Prop := ledgerOfNothingRow.holds Tryd.pinned (OpenSpec.ofChange ledgerOfNothingSpec)

/-- ITS FALSE NEIGHBOUR: 'it returns false'. Refute it at one input. -/
def ledgerOfNothingWrong : ChangeSpec := { name := "ledgerOfNothing", fn := fun _ => fun
  | [d1, d2] => { results := [.lit (.bool false)], args := [d1, d2] }
  | _ => none }
def LedgerOfNothingWrongFalsely : Prop := ledgerOfNothingRow.holds Tryd.pinned (OpenSpec.ofChange ledgerOfNothingWrong)

/-- 'burgesslaw5.LedgerTorn': WHATEVER THE INPUT: true; the input reads as it did. -/
def ledgerTornSpec : ChangeSpec := { name := "ledgerTorn", fn := fun _ => fun
  | [d1, d2] => { results := [.lit (.bool true)], args := [d1, d2] }
  | _ => none }
def ledgerTornRow : OpenClaim := { program := "ytnmfkfjeihjkeaadoor", sum := "f4322ca684c1ceb93142accfc7770482bc618de921113befe66c77b6a5a45b50", func := "burgess/burgesslaw5.LedgerTorn", spec := "ledgerTorn", unfollowed := true, recurses := true, named := ["burgess/octet.nibbles"], apart := false, laid := [("burgess/octet.nibbles", laid_burgess_octet_nibbles)] }
def LedgerTornSaid : Prop := ledgerTornRow.holds Tryd.pinned (OpenSpec.ofChange ledgerTornSpec)

/-- ITS FALSE NEIGHBOUR: 'it returns false'. Refute it at one input. -/
def ledgerTornWrong : ChangeSpec := { name := "ledgerTorn", fn := fun _ => fun
  | [d1, d2] => { results := [.lit (.bool false)], args := [d1, d2] }
  | _ => none }
def LedgerTornWrongFalsely : Prop := ledgerTornRow.holds Tryd.pinned (OpenSpec.ofChange ledgerTornWrong)

/-- 'burgesslaw5.LedgerApart': WHATEVER THE INPUT: true; the input reads as it did. -/
def ledgerApartSpec : ChangeSpec := { name := "ledgerApart", fn := fun _ => fun
  | [d1, d2, d3, d4] => { results := [.lit (.bool true)], args := [d1, d2, d3, d4] }
  | _ => none }
def ledgerApartRow : OpenClaim := { program := "ytnmfkfjeihjkeaadoor", sum := "f4322ca684c1ceb93142accfc7770482bc618de921113befe66c77b6a5a45b50", func := "burgess/burgesslaw5.LedgerApart", spec := "ledgerApart", unfollowed := true, recurses := true, named := ["burgess/octet.nibbles"], apart := false, laid := [("burgess/octet.nibbles", laid_burgess_octet_nibbles)] }
def LedgerApartSaid : Prop := ledgerApartRow.holds Tryd.pinned (OpenSpec.ofChange ledgerApartSpec)

/-- ITS FALSE NEIGHBOUR: 'it returns false'. Refute it at one input. -/
def ledgerApartWrong : ChangeSpec := { name := "ledgerApart", fn := fun _ => fun
  | [d1, d2, d3, d4] => { results := [.lit (.bool false)], args := [d1, d2, d3, d4] }
  | _ => none }
def LedgerApartWrongFalsely : Prop := ledgerApartRow.holds Tryd.pinned (OpenSpec.ofChange ledgerApartWrong)

/- THE SECOND FORM. 'bulk': how many values and letters a reading holds, each counted each time it is reached (what is shared counts as often as it is met; a slice's spare places count too). A statement '..UptoSaid' is the law's where the arguments, and the package variables that the reading takes, are together of bulk at most 1048576: NARROWER than '..Said'. Prove '..Said' where nothing that the law and all that it calls make is longer than what came in: it says more and counts as full. Else prove '..UptoSaid'. A law counts once. -/
mutual
def uptoBulk {H : Type} : DataW H → Nat
  | .lit (.string bytes) => bytes.length + 1
  | .lit _ => 1
  | .nil => 1
  | .ptr d => uptoBulk d + 1
  | .slice elems spare => uptoBulkAll elems + uptoBulkAll spare + 1
  | .agg parts => uptoBulkAll parts + 1
  | .iface _ d => uptoBulk d + 1
  | .map entries => uptoBulkEntries entries + 1
  | .held _ => 1
def uptoBulkAll {H : Type} : List (DataW H) → Nat
  | [] => 0
  | d :: r => uptoBulk d + uptoBulkAll r
def uptoBulkEntries {H : Type} : List (Lit × DataW H) → Nat
  | [] => 0
  | x :: r => uptoBulkEntry x + uptoBulkEntries r
def uptoBulkEntry {H : Type} : Lit × DataW H → Nat
  | (.string bytes, d) => bytes.length + uptoBulk d + 1
  | (_, d) => uptoBulk d + 1
 end
def uptoSmall : (H : Type) → List (DataW H) → Bool := fun _ ds => decide (uptoBulkAll ds ≤ 1048576)
def OpenSpec.upto (s : _root_.Go.ChangeSpec) : _root_.Go.OpenSpec := { _root_.Go.OpenSpec.ofChange s with cond := some uptoSmall }

/-- 'burgesslaw4.KeepPlays', WHERE WHAT IT READS IS OF BULK AT MOST 1048576: true; the input reads as it did. -/
def keepPlaysUptoRow : OpenClaim := { program := "ytnmfkfjeihjkeaadoor", sum := "f4322ca684c1ceb93142accfc7770482bc618de921113befe66c77b6a5a45b50", func := "burgess/burgesslaw4.KeepPlays", spec := "keepPlays", unfollowed := true, recurses := true, named := ["burgess/octet.nibbles"], apart := false, laid := [("burgess/octet.nibbles", laid_burgess_octet_nibbles)], narrowed := true }
def KeepPlaysUptoSaid : Prop := keepPlaysUptoRow.holds Tryd.pinned (OpenSpec.upto keepPlaysSpec)

/-- 'burgesslaw4.KeepLast', WHERE WHAT IT READS IS OF BULK AT MOST 1048576: true; the input reads as it did. -/
def keepLastUptoRow : OpenClaim := { program := "ytnmfkfjeihjkeaadoor", sum := "f4322ca684c1ceb93142accfc7770482bc618de921113befe66c77b6a5a45b50", func := "burgess/burgesslaw4.KeepLast", spec := "keepLast", unfollowed := true, recurses := true, named := ["burgess/octet.nibbles"], apart := false, laid := [("burgess/octet.nibbles", laid_burgess_octet_nibbles)], narrowed := true }
def KeepLastUptoSaid : Prop := keepLastUptoRow.holds Tryd.pinned (OpenSpec.upto keepLastSpec)

/-- 'burgesslaw4.KeepOfNothing', WHERE WHAT IT READS IS OF BULK AT MOST 1048576: true; the input reads as it did. -/
def keepOfNothingUptoRow : OpenClaim := { program := "ytnmfkfjeihjkeaadoor", sum := "f4322ca684c1ceb93142accfc7770482bc618de921113befe66c77b6a5a45b50", func := "burgess/burgesslaw4.KeepOfNothing", spec := "keepOfNothing", unfollowed := true, recurses := true, named := ["burgess/octet.nibbles"], apart := false, laid := [("burgess/octet.nibbles", laid_burgess_octet_nibbles)], narrowed := true }
def KeepOfNothingUptoSaid : Prop := keepOfNothingUptoRow.holds Tryd.pinned (OpenSpec.upto keepOfNothingSpec)

/-- 'burgesslaw4.KeepApart', WHERE WHAT IT READS IS OF BULK AT MOST 1048576: true; the input reads as it did. -/
def keepApartUptoRow : OpenClaim := { program := "ytnmfkfjeihjkeaadoor", sum := "f4322ca684c1ceb93142accfc7770482bc618de921113befe66c77b6a5a45b50", func := "burgess/burgesslaw4.KeepApart", spec := "keepApart", unfollowed := true, recurses := true, named := ["burgess/octet.nibbles"], apart := false, laid := [("burgess/octet.nibbles", laid_burgess_octet_nibbles)], narrowed := true }
def KeepApartUptoSaid : Prop := keepApartUptoRow.holds Tryd.pinned (OpenSpec.upto keepApartSpec)

/-- 'burgesslaw5.LedgerJumps', WHERE WHAT IT READS IS OF BULK AT MOST 1048576: true; the input reads as it did. -/
def ledgerJumpsUptoRow : OpenClaim := { program := "ytnmfkfjeihjkeaadoor", sum := "f4322ca684c1ceb93142accfc7770482bc618de921113befe66c77b6a5a45b50", func := "burgess/burgesslaw5.LedgerJumps", spec := "ledgerJumps", unfollowed := true, recurses := true, named := ["burgess/octet.nibbles"], apart := false, laid := [("burgess/octet.nibbles", laid_burgess_octet_nibbles)], narrowed := true }
def LedgerJumpsUptoSaid : Prop := ledgerJumpsUptoRow.holds Tryd.pinned (OpenSpec.upto ledgerJumpsSpec)

/-- 'burgesslaw5.LedgerOfNothing', WHERE WHAT IT READS IS OF BULK AT MOST 1048576: true; the input reads as it did. -/
def ledgerOfNothingUptoRow : OpenClaim := { program := "ytnmfkfjeihjkeaadoor", sum := "f4322ca684c1ceb93142accfc7770482bc618de921113befe66c77b6a5a45b50", func := "burgess/burgesslaw5.LedgerOfNothing", spec := "ledgerOfNothing", unfollowed := true, recurses := true, named := ["burgess/octet.nibbles"], apart := false, laid := [("burgess/octet.nibbles", laid_burgess_octet_nibbles)], narrowed := true }
def LedgerOfNothingUptoSaid : Prop := ledgerOfNothingUptoRow.holds Tryd.pinned (OpenSpec.upto ledgerOfNothingSpec)

/-- 'burgesslaw5.LedgerTorn', WHERE WHAT IT READS IS OF BULK AT MOST 1048576: true; the input reads as it did. -/
def ledgerTornUptoRow : OpenClaim := { program := "ytnmfkfjeihjkeaadoor", sum := "f4322ca684c1ceb93142accfc7770482bc618de921113befe66c77b6a5a45b50", func := "burgess/burgesslaw5.LedgerTorn", spec := "ledgerTorn", unfollowed := true, recurses := true, named := ["burgess/octet.nibbles"], apart := false, laid := [("burgess/octet.nibbles", laid_burgess_octet_nibbles)], narrowed := true }
def LedgerTornUptoSaid : Prop := ledgerTornUptoRow.holds Tryd.pinned (OpenSpec.upto ledgerTornSpec)

/-- 'burgesslaw5.LedgerApart', WHERE WHAT IT READS IS OF BULK AT MOST 1048576: true; the input reads as it did. -/
def ledgerApartUptoRow : OpenClaim := { program := "ytnmfkfjeihjkeaadoor", sum := "f4322ca684c1ceb93142accfc7770482bc618de921113befe66c77b6a5a45b50", func := "burgess/burgesslaw5.LedgerApart", spec := "ledgerApart", unfollowed := true, recurses := true, named := ["burgess/octet.nibbles"], apart := false, laid := [("burgess/octet.nibbles", laid_burgess_octet_nibbles)], narrowed := true }
def LedgerApartUptoSaid : Prop := ledgerApartUptoRow.holds Tryd.pinned (OpenSpec.upto ledgerApartSpec)

end Rows
end Go.Proofs.YtnmfkfjeihjkeaaDoor
