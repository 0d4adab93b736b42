/-
  No cell of these rows narrows 'for every input' (looked for: loops, veiled, ifaces, maps, wideKeys, modest, calm, conditions, laid).
  DERIVED. THE GIVEN ROWS OF THIS SEAT. 9 by the template 'for every input the law returns true; each argument reads behind the call as it read before'; 0 by the template 'total and deterministic' (their statements: YtagchhcpmibelaaTotals.lean).
  GIVEN WITH THE SEED: the statements are not yours to turn. If you find one false, say at which input.
  Laid BY PROGRAM, IN A SANDBOX (cutbox-rows.mjs): the forced cells as the released guide's own fill.sh prints them over the translation 7af4be2fc7320425… (all of the seat's roots in one cut). By AI agents, Wed Nov 11 2026. No macro, syntax, notation, axiom, sorry.
-/
import Derived.Test.YtagchhcpmibelaaChecked
import GoSem.Claim
import GoSem.ClaimJoined
import GoSem.ClaimMapViews
import Derived.JoinedTies
import Derived.KernelRfl
namespace Go.Proofs.Ytagchhcpmibelaa
/- THE CELL 'sum', in the pinned program and in every row, IS THE sha256 OF THE DUMP (.gsa) THAT YtagchhcpmibelaaProg.lean LOADS. Nothing in Lean hashes anything: it is a label: what it is worth is what the hold of that sum in a sandbox is worth. -/
noncomputable def Try.pinned : Pinned := { name := "ytagchhcpmibelaa", sum := "7af4be2fc7320425ccc75581587fc450196e4a6a92deee461c6d2eb69dad4e73", checked := Try.checked }
namespace Rows
def none {H : Type} : Left H := { results := [], args := [] }

/-- 'burgesslaw3.DiskPlays': WHATEVER THE INPUT: true; the input reads as it did. -/
def diskPlaysSpec : ChangeSpec := { name := "diskPlays", fn := fun _ => fun
  | [d1, d2] => { results := [.lit (.bool true)], args := [d1, d2] }
  | _ => none }
def diskPlaysRow : OpenClaim := { program := "ytagchhcpmibelaa", sum := "7af4be2fc7320425ccc75581587fc450196e4a6a92deee461c6d2eb69dad4e73", func := "burgess/burgesslaw3.DiskPlays", spec := "diskPlays", unfollowed := true, recurses := true, plainKeys := false, apart := false }
def DiskPlaysSaid : Prop := diskPlaysRow.holds Try.pinned (OpenSpec.ofChange diskPlaysSpec)

/-- ITS FALSE NEIGHBOUR: 'it returns false'. Refute it at one input. -/
def diskPlaysWrong : ChangeSpec := { name := "diskPlays", fn := fun _ => fun
  | [d1, d2] => { results := [.lit (.bool false)], args := [d1, d2] }
  | _ => none }
def DiskPlaysWrongFalsely : Prop := diskPlaysRow.holds Try.pinned (OpenSpec.ofChange diskPlaysWrong)

/-- 'burgesslaw3.DiskKeeps': WHATEVER THE INPUT: true; the input reads as it did. -/
def diskKeepsSpec : ChangeSpec := { name := "diskKeeps", fn := fun _ => fun
  | [d1, d2, d3] => { results := [.lit (.bool true)], args := [d1, d2, d3] }
  | _ => none }
def diskKeepsRow : OpenClaim := { program := "ytagchhcpmibelaa", sum := "7af4be2fc7320425ccc75581587fc450196e4a6a92deee461c6d2eb69dad4e73", func := "burgess/burgesslaw3.DiskKeeps", spec := "diskKeeps", unfollowed := true, recurses := true, plainKeys := false, apart := false }
def DiskKeepsSaid : Prop := diskKeepsRow.holds Try.pinned (OpenSpec.ofChange diskKeepsSpec)

/-- ITS FALSE NEIGHBOUR: 'it returns false'. Refute it at one input. -/
def diskKeepsWrong : ChangeSpec := { name := "diskKeeps", fn := fun _ => fun
  | [d1, d2, d3] => { results := [.lit (.bool false)], args := [d1, d2, d3] }
  | _ => none }
def DiskKeepsWrongFalsely : Prop := diskKeepsRow.holds Try.pinned (OpenSpec.ofChange diskKeepsWrong)

/-- 'burgesslaw3.DiskFuses': WHATEVER THE INPUT: true; the input reads as it did. -/
def diskFusesSpec : ChangeSpec := { name := "diskFuses", fn := fun _ => fun
  | [d1, d2] => { results := [.lit (.bool true)], args := [d1, d2] }
  | _ => none }
def diskFusesRow : OpenClaim := { program := "ytagchhcpmibelaa", sum := "7af4be2fc7320425ccc75581587fc450196e4a6a92deee461c6d2eb69dad4e73", func := "burgess/burgesslaw3.DiskFuses", spec := "diskFuses", unfollowed := true, recurses := true, plainKeys := false, apart := false }
def DiskFusesSaid : Prop := diskFusesRow.holds Try.pinned (OpenSpec.ofChange diskFusesSpec)

/-- ITS FALSE NEIGHBOUR: 'it returns false'. Refute it at one input. -/
def diskFusesWrong : ChangeSpec := { name := "diskFuses", fn := fun _ => fun
  | [d1, d2] => { results := [.lit (.bool false)], args := [d1, d2] }
  | _ => none }
def DiskFusesWrongFalsely : Prop := diskFusesRow.holds Try.pinned (OpenSpec.ofChange diskFusesWrong)

/-- 'burgesslaw3.DiskOfNothing': WHATEVER THE INPUT: true; the input reads as it did. -/
def diskOfNothingSpec : ChangeSpec := { name := "diskOfNothing", fn := fun _ => fun
  | [d1, d2, d3] => { results := [.lit (.bool true)], args := [d1, d2, d3] }
  | _ => none }
def diskOfNothingRow : OpenClaim := { program := "ytagchhcpmibelaa", sum := "7af4be2fc7320425ccc75581587fc450196e4a6a92deee461c6d2eb69dad4e73", func := "burgess/burgesslaw3.DiskOfNothing", spec := "diskOfNothing", unfollowed := true, recurses := true, plainKeys := false, apart := false }
def DiskOfNothingSaid : Prop := diskOfNothingRow.holds Try.pinned (OpenSpec.ofChange diskOfNothingSpec)

/-- ITS FALSE NEIGHBOUR: 'it returns false'. Refute it at one input. -/
def diskOfNothingWrong : ChangeSpec := { name := "diskOfNothing", fn := fun _ => fun
  | [d1, d2, d3] => { results := [.lit (.bool false)], args := [d1, d2, d3] }
  | _ => none }
def DiskOfNothingWrongFalsely : Prop := diskOfNothingRow.holds Try.pinned (OpenSpec.ofChange diskOfNothingWrong)

/-- 'burgesslaw3.DiskRoom': WHATEVER THE INPUT: true; the input reads as it did. -/
def diskRoomSpec : ChangeSpec := { name := "diskRoom", fn := fun _ => fun
  | [d1, d2] => { results := [.lit (.bool true)], args := [d1, d2] }
  | _ => none }
def diskRoomRow : OpenClaim := { program := "ytagchhcpmibelaa", sum := "7af4be2fc7320425ccc75581587fc450196e4a6a92deee461c6d2eb69dad4e73", func := "burgess/burgesslaw3.DiskRoom", spec := "diskRoom", unfollowed := true, recurses := true, plainKeys := false, apart := false }
def DiskRoomSaid : Prop := diskRoomRow.holds Try.pinned (OpenSpec.ofChange diskRoomSpec)

/-- ITS FALSE NEIGHBOUR: 'it returns false'. Refute it at one input. -/
def diskRoomWrong : ChangeSpec := { name := "diskRoom", fn := fun _ => fun
  | [d1, d2] => { results := [.lit (.bool false)], args := [d1, d2] }
  | _ => none }
def DiskRoomWrongFalsely : Prop := diskRoomRow.holds Try.pinned (OpenSpec.ofChange diskRoomWrong)

/-- 'burgesslaw3.DiskNames': WHATEVER THE INPUT: true; the input reads as it did. -/
def diskNamesSpec : ChangeSpec := { name := "diskNames", fn := fun _ => fun
  | [d1, d2, d3, d4] => { results := [.lit (.bool true)], args := [d1, d2, d3, d4] }
  | _ => none }
def diskNamesRow : OpenClaim := { program := "ytagchhcpmibelaa", sum := "7af4be2fc7320425ccc75581587fc450196e4a6a92deee461c6d2eb69dad4e73", func := "burgess/burgesslaw3.DiskNames", spec := "diskNames", unfollowed := true, recurses := true, plainKeys := false, apart := false }
def DiskNamesSaid : Prop := diskNamesRow.holds Try.pinned (OpenSpec.ofChange diskNamesSpec)

/-- ITS FALSE NEIGHBOUR: 'it returns false'. Refute it at one input. -/
def diskNamesWrong : ChangeSpec := { name := "diskNames", fn := fun _ => fun
  | [d1, d2, d3, d4] => { results := [.lit (.bool false)], args := [d1, d2, d3, d4] }
  | _ => none }
def DiskNamesWrongFalsely : Prop := diskNamesRow.holds Try.pinned (OpenSpec.ofChange diskNamesWrong)

/-- 'burgesslaw3.DiskMany': WHATEVER THE INPUT: true; the input reads as it did. -/
def diskManySpec : ChangeSpec := { name := "diskMany", fn := fun _ => fun
  | [d1, d2, d3] => { results := [.lit (.bool true)], args := [d1, d2, d3] }
  | _ => none }
def diskManyRow : OpenClaim := { program := "ytagchhcpmibelaa", sum := "7af4be2fc7320425ccc75581587fc450196e4a6a92deee461c6d2eb69dad4e73", func := "burgess/burgesslaw3.DiskMany", spec := "diskMany", unfollowed := true, recurses := true, plainKeys := false, apart := false }
def DiskManySaid : Prop := diskManyRow.holds Try.pinned (OpenSpec.ofChange diskManySpec)

/-- ITS FALSE NEIGHBOUR: 'it returns false'. Refute it at one input. -/
def diskManyWrong : ChangeSpec := { name := "diskMany", fn := fun _ => fun
  | [d1, d2, d3] => { results := [.lit (.bool false)], args := [d1, d2, d3] }
  | _ => none }
def DiskManyWrongFalsely : Prop := diskManyRow.holds Try.pinned (OpenSpec.ofChange diskManyWrong)

/-- 'burgesslaw21.IndexBegins': WHATEVER THE INPUT: true; the input reads as it did. -/
def indexBeginsSpec : ChangeSpec := { name := "indexBegins", fn := fun _ => fun
  | [d1, d2] => { results := [.lit (.bool true)], args := [d1, d2] }
  | _ => none }
def indexBeginsRow : OpenClaim := { program := "ytagchhcpmibelaa", sum := "7af4be2fc7320425ccc75581587fc450196e4a6a92deee461c6d2eb69dad4e73", func := "burgess/burgesslaw21.IndexBegins", spec := "indexBegins", recurses := true, plainKeys := false, apart := false }
def IndexBeginsSaid : Prop := indexBeginsRow.holds Try.pinned (OpenSpec.ofChange indexBeginsSpec)

/-- ITS FALSE NEIGHBOUR: 'it returns false'. Refute it at one input. -/
def indexBeginsWrong : ChangeSpec := { name := "indexBegins", fn := fun _ => fun
  | [d1, d2] => { results := [.lit (.bool false)], args := [d1, d2] }
  | _ => none }
def IndexBeginsWrongFalsely : Prop := indexBeginsRow.holds Try.pinned (OpenSpec.ofChange indexBeginsWrong)

/-- 'burgesslaw21.IndexDiffs': WHATEVER THE INPUT: true; the input reads as it did. -/
def indexDiffsSpec : ChangeSpec := { name := "indexDiffs", fn := fun _ => fun
  | [d1, d2] => { results := [.lit (.bool true)], args := [d1, d2] }
  | _ => none }
def indexDiffsRow : OpenClaim := { program := "ytagchhcpmibelaa", sum := "7af4be2fc7320425ccc75581587fc450196e4a6a92deee461c6d2eb69dad4e73", func := "burgess/burgesslaw21.IndexDiffs", spec := "indexDiffs", inPlace := ["internal/bytealg.abigen_runtime_cmpstring"], unfollowed := true, recurses := true, plainKeys := false, apart := false }
def IndexDiffsSaid : Prop := indexDiffsRow.holds Try.pinned (OpenSpec.ofChange indexDiffsSpec)

/-- ITS FALSE NEIGHBOUR: 'it returns false'. Refute it at one input. -/
def indexDiffsWrong : ChangeSpec := { name := "indexDiffs", fn := fun _ => fun
  | [d1, d2] => { results := [.lit (.bool false)], args := [d1, d2] }
  | _ => none }
def IndexDiffsWrongFalsely : Prop := indexDiffsRow.holds Try.pinned (OpenSpec.ofChange indexDiffsWrong)

/- THE SECOND FORM. 'bulk': how many values and letters a reading holds, each counted each time it is reached (what is shared counts as often as it is met; a slice's spare places count too). A statement '..UptoSaid' is the law's where the arguments, and the package variables that the reading takes, are together of bulk at most 1048576: NARROWER than '..Said'. Prove '..Said' where nothing that the law and all that it calls make is longer than what came in: it says more and counts as full. Else prove '..UptoSaid'. A law counts once. -/
mutual
def uptoBulk {H : Type} : DataW H → Nat
  | .lit (.string bytes) => bytes.length + 1
  | .lit _ => 1
  | .nil => 1
  | .ptr d => uptoBulk d + 1
  | .slice elems spare => uptoBulkAll elems + uptoBulkAll spare + 1
  | .agg parts => uptoBulkAll parts + 1
  | .iface _ d => uptoBulk d + 1
  | .map entries => uptoBulkEntries entries + 1
  | .held _ => 1
def uptoBulkAll {H : Type} : List (DataW H) → Nat
  | [] => 0
  | d :: r => uptoBulk d + uptoBulkAll r
def uptoBulkEntries {H : Type} : List (Lit × DataW H) → Nat
  | [] => 0
  | x :: r => uptoBulkEntry x + uptoBulkEntries r
def uptoBulkEntry {H : Type} : Lit × DataW H → Nat
  | (.string bytes, d) => bytes.length + uptoBulk d + 1
  | (_, d) => uptoBulk d + 1
 end
def uptoSmall : (H : Type) → List (DataW H) → Bool := fun _ ds => decide (uptoBulkAll ds ≤ 1048576)
def OpenSpec.upto (s : _root_.Go.ChangeSpec) : _root_.Go.OpenSpec := { _root_.Go.OpenSpec.ofChange s with cond := some uptoSmall }

/-- 'burgesslaw3.DiskPlays', WHERE WHAT IT READS IS OF BULK AT MOST 1048576: true; the input reads as it did. -/
def diskPlaysUptoRow : OpenClaim := { program := "ytagchhcpmibelaa", sum := "7af4be2fc7320425ccc75581587fc450196e4a6a92deee461c6d2eb69dad4e73", func := "burgess/burgesslaw3.DiskPlays", spec := "diskPlays", unfollowed := true, recurses := true, plainKeys := false, apart := false, narrowed := true }
def DiskPlaysUptoSaid : Prop := diskPlaysUptoRow.holds Try.pinned (OpenSpec.upto diskPlaysSpec)

/-- 'burgesslaw3.DiskKeeps', WHERE WHAT IT READS IS OF BULK AT MOST 1048576: true; the input reads as it did. -/
def diskKeepsUptoRow : OpenClaim := { program := "ytagchhcpmibelaa", sum := "7af4be2fc7320425ccc75581587fc450196e4a6a92deee461c6d2eb69dad4e73", func := "burgess/burgesslaw3.DiskKeeps", spec := "diskKeeps", unfollowed := true, recurses := true, plainKeys := false, apart := false, narrowed := true }
def DiskKeepsUptoSaid : Prop := diskKeepsUptoRow.holds Try.pinned (OpenSpec.upto diskKeepsSpec)

/-- 'burgesslaw3.DiskFuses', WHERE WHAT IT READS IS OF BULK AT MOST 1048576: true; the input reads as it did. -/
def diskFusesUptoRow : OpenClaim := { program := "ytagchhcpmibelaa", sum := "7af4be2fc7320425ccc75581587fc450196e4a6a92deee461c6d2eb69dad4e73", func := "burgess/burgesslaw3.DiskFuses", spec := "diskFuses", unfollowed := true, recurses := true, plainKeys := false, apart := false, narrowed := true }
def DiskFusesUptoSaid : Prop := diskFusesUptoRow.holds Try.pinned (OpenSpec.upto diskFusesSpec)

/-- 'burgesslaw3.DiskOfNothing', WHERE WHAT IT READS IS OF BULK AT MOST 1048576: true; the input reads as it did. -/
def diskOfNothingUptoRow : OpenClaim := { program := "ytagchhcpmibelaa", sum := "7af4be2fc7320425ccc75581587fc450196e4a6a92deee461c6d2eb69dad4e73", func := "burgess/burgesslaw3.DiskOfNothing", spec := "diskOfNothing", unfollowed := true, recurses := true, plainKeys := false, apart := false, narrowed := true }
def DiskOfNothingUptoSaid : Prop := diskOfNothingUptoRow.holds Try.pinned (OpenSpec.upto diskOfNothingSpec)

/-- 'burgesslaw3.DiskRoom', WHERE WHAT IT READS IS OF BULK AT MOST 1048576: true; the input reads as it did. -/
def diskRoomUptoRow : OpenClaim := { program := "ytagchhcpmibelaa", sum := "7af4be2fc7320425ccc75581587fc450196e4a6a92deee461c6d2eb69dad4e73", func := "burgess/burgesslaw3.DiskRoom", spec := "diskRoom", unfollowed := true, recurses := true, plainKeys := false, apart := false, narrowed := true }
def DiskRoomUptoSaid : Prop := diskRoomUptoRow.holds Try.pinned (OpenSpec.upto diskRoomSpec)

/-- 'burgesslaw3.DiskNames', WHERE WHAT IT READS IS OF BULK AT MOST 1048576: true; the input reads as it did. -/
def diskNamesUptoRow : OpenClaim := { program := "ytagchhcpmibelaa", sum := "7af4be2fc7320425ccc75581587fc450196e4a6a92deee461c6d2eb69dad4e73", func := "burgess/burgesslaw3.DiskNames", spec := "diskNames", unfollowed := true, recurses := true, plainKeys := false, apart := false, narrowed := true }
def DiskNamesUptoSaid : Prop := diskNamesUptoRow.holds Try.pinned (OpenSpec.upto diskNamesSpec)

/-- 'burgesslaw3.DiskMany', WHERE WHAT IT READS IS OF BULK AT MOST 1048576: true; the input reads as it did. -/
def diskManyUptoRow : OpenClaim := { program := "ytagchhcpmibelaa", sum := "7af4be2fc7320425ccc75581587fc450196e4a6a92deee461c6d2eb69dad4e73", func := "burgess/burgesslaw3.DiskMany", spec := "diskMany", unfollowed := true, recurses := true, plainKeys := false, apart := false, narrowed := true }
def DiskManyUptoSaid : Prop := diskManyUptoRow.holds Try.pinned (OpenSpec.upto diskManySpec)

/-- 'burgesslaw21.IndexBegins', WHERE WHAT IT READS IS OF BULK AT MOST 1048576: true; the input reads as it did. -/
def indexBeginsUptoRow : OpenClaim := { program := "ytagchhcpmibelaa", sum := "7af4be2fc7320425ccc75581587fc450196e4a6a92deee461c6d2eb69dad4e73", func := "burgess/burgesslaw21.IndexBegins", spec := "indexBegins", recurses := true, plainKeys := false, apart := false, narrowed := true }
def IndexBeginsUptoSaid : Prop := indexBeginsUptoRow.holds Try.pinned (OpenSpec.upto indexBeginsSpec)

/-- 'burgesslaw21.IndexDiffs', WHERE WHAT IT READS IS OF BULK AT MOST 1048576: true; the input reads as it did. -/
def indexDiffsUptoRow : OpenClaim := { program := "ytagchhcpmibelaa", sum := "7af4be2fc7320425ccc75581587fc450196e4a6a92deee461c6d2eb69dad4e73", func := "burgess/burgesslaw21.IndexDiffs", spec := "indexDiffs", inPlace := ["internal/bytealg.abigen_runtime_cmpstring"], unfollowed := true, recurses := true, plainKeys := false, apart := false, narrowed := true }
def IndexDiffsUptoSaid : Prop := indexDiffsUptoRow.holds Try.pinned (OpenSpec.upto indexDiffsSpec)

end Rows
end Go.Proofs.Ytagchhcpmibelaa
