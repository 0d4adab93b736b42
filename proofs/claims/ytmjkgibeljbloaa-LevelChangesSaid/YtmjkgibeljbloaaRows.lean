/-
  No cell of these rows narrows 'for every input' (looked for: loops, veiled, ifaces, maps, wideKeys, modest, calm, conditions, laid).
  DERIVED. THE GIVEN ROWS OF THIS SEAT. 7 by the template 'for every input the law returns true; each argument reads behind the call as it read before'; 0 by the template 'total and deterministic' (their statements: YtmjkgibeljbloaaTotals.lean).
  GIVEN WITH THE SEED: the statements are not yours to turn. If you find one false, say at which input.
  Laid BY PROGRAM, IN A SANDBOX (cutbox-rows.mjs): the forced cells as the released guide's own fill.sh prints them over the translation 1340d7bd9b433f39… (all of the seat's roots in one cut). By AI agents, Wed Nov 11 2026. No macro, syntax, notation, axiom, sorry.
-/
import Derived.Test.YtmjkgibeljbloaaChecked
import GoSem.Claim
import GoSem.ClaimJoined
import GoSem.ClaimMapViews
import Derived.JoinedTies
import Derived.KernelRfl
namespace Go.Proofs.Ytmjkgibeljbloaa
/- THE CELL 'sum', in the pinned program and in every row, IS THE sha256 OF THE DUMP (.gsa) THAT YtmjkgibeljbloaaProg.lean LOADS. Nothing in Lean hashes anything: it is a label: what it is worth is what the hold of that sum in a sandbox is worth. -/
noncomputable def Try.pinned : Pinned := { name := "ytmjkgibeljbloaa", sum := "1340d7bd9b433f39c5f9edb9c17461f7067f40dd051c41494eafcc1fb7c74aaf", checked := Try.checked }
namespace Rows
def none {H : Type} : Left H := { results := [], args := [] }

/-- 'burgesslaw11.LevelLooks': WHATEVER THE INPUT: true; the input reads as it did. -/
def levelLooksSpec : ChangeSpec := { name := "levelLooks", fn := fun _ => fun
  | [d] => { results := [.lit (.bool true)], args := [d] }
  | _ => none }
def levelLooksRow : OpenClaim := { program := "ytmjkgibeljbloaa", sum := "1340d7bd9b433f39c5f9edb9c17461f7067f40dd051c41494eafcc1fb7c74aaf", func := "burgess/burgesslaw11.LevelLooks", spec := "levelLooks", unfollowed := true, recurses := true, plainKeys := false, apart := false }
def LevelLooksSaid : Prop := levelLooksRow.holds Try.pinned (OpenSpec.ofChange levelLooksSpec)

/-- ITS FALSE NEIGHBOUR: 'it returns false'. Refute it at one input. -/
def levelLooksWrong : ChangeSpec := { name := "levelLooks", fn := fun _ => fun
  | [d] => { results := [.lit (.bool false)], args := [d] }
  | _ => none }
def LevelLooksWrongFalsely : Prop := levelLooksRow.holds Try.pinned (OpenSpec.ofChange levelLooksWrong)

/-- 'burgesslaw11.LevelDecodes': WHATEVER THE INPUT: true; the input reads as it did. -/
def levelDecodesSpec : ChangeSpec := { name := "levelDecodes", fn := fun _ => fun
  | [d] => { results := [.lit (.bool true)], args := [d] }
  | _ => none }
def levelDecodesRow : OpenClaim := { program := "ytmjkgibeljbloaa", sum := "1340d7bd9b433f39c5f9edb9c17461f7067f40dd051c41494eafcc1fb7c74aaf", func := "burgess/burgesslaw11.LevelDecodes", spec := "levelDecodes", unfollowed := true, recurses := true, plainKeys := false, apart := false }
def LevelDecodesSaid : Prop := levelDecodesRow.holds Try.pinned (OpenSpec.ofChange levelDecodesSpec)

/-- ITS FALSE NEIGHBOUR: 'it returns false'. Refute it at one input. -/
def levelDecodesWrong : ChangeSpec := { name := "levelDecodes", fn := fun _ => fun
  | [d] => { results := [.lit (.bool false)], args := [d] }
  | _ => none }
def LevelDecodesWrongFalsely : Prop := levelDecodesRow.holds Try.pinned (OpenSpec.ofChange levelDecodesWrong)

/-- 'burgesslaw11.LevelBack': WHATEVER THE INPUT: true; the input reads as it did. -/
def levelBackSpec : ChangeSpec := { name := "levelBack", fn := fun _ => fun
  | [d] => { results := [.lit (.bool true)], args := [d] }
  | _ => none }
def levelBackRow : OpenClaim := { program := "ytmjkgibeljbloaa", sum := "1340d7bd9b433f39c5f9edb9c17461f7067f40dd051c41494eafcc1fb7c74aaf", func := "burgess/burgesslaw11.LevelBack", spec := "levelBack", unfollowed := true, recurses := true, plainKeys := false, apart := false }
def LevelBackSaid : Prop := levelBackRow.holds Try.pinned (OpenSpec.ofChange levelBackSpec)

/-- ITS FALSE NEIGHBOUR: 'it returns false'. Refute it at one input. -/
def levelBackWrong : ChangeSpec := { name := "levelBack", fn := fun _ => fun
  | [d] => { results := [.lit (.bool false)], args := [d] }
  | _ => none }
def LevelBackWrongFalsely : Prop := levelBackRow.holds Try.pinned (OpenSpec.ofChange levelBackWrong)

/-- 'burgesslaw11.LevelChanges': WHATEVER THE INPUT: true; the input reads as it did. -/
def levelChangesSpec : ChangeSpec := { name := "levelChanges", fn := fun _ => fun
  | [d1, d2, d3] => { results := [.lit (.bool true)], args := [d1, d2, d3] }
  | _ => none }
def levelChangesRow : OpenClaim := { program := "ytmjkgibeljbloaa", sum := "1340d7bd9b433f39c5f9edb9c17461f7067f40dd051c41494eafcc1fb7c74aaf", func := "burgess/burgesslaw11.LevelChanges", spec := "levelChanges", unfollowed := true, recurses := true, plainKeys := false, apart := false }
def LevelChangesSaid : Prop := levelChangesRow.holds Try.pinned (OpenSpec.ofChange levelChangesSpec)

/-- ITS FALSE NEIGHBOUR: 'it returns false'. Refute it at one input. -/
def levelChangesWrong : ChangeSpec := { name := "levelChanges", fn := fun _ => fun
  | [d1, d2, d3] => { results := [.lit (.bool false)], args := [d1, d2, d3] }
  | _ => none }
def LevelChangesWrongFalsely : Prop := levelChangesRow.holds Try.pinned (OpenSpec.ofChange levelChangesWrong)

/-- 'burgesslaw11.LevelPicks': WHATEVER THE INPUT: true; the input reads as it did. -/
def levelPicksSpec : ChangeSpec := { name := "levelPicks", fn := fun _ => fun
  | [d] => { results := [.lit (.bool true)], args := [d] }
  | _ => none }
def levelPicksRow : OpenClaim := { program := "ytmjkgibeljbloaa", sum := "1340d7bd9b433f39c5f9edb9c17461f7067f40dd051c41494eafcc1fb7c74aaf", func := "burgess/burgesslaw11.LevelPicks", spec := "levelPicks", unfollowed := true, recurses := true, plainKeys := false, apart := false }
def LevelPicksSaid : Prop := levelPicksRow.holds Try.pinned (OpenSpec.ofChange levelPicksSpec)

/-- ITS FALSE NEIGHBOUR: 'it returns false'. Refute it at one input. -/
def levelPicksWrong : ChangeSpec := { name := "levelPicks", fn := fun _ => fun
  | [d] => { results := [.lit (.bool false)], args := [d] }
  | _ => none }
def LevelPicksWrongFalsely : Prop := levelPicksRow.holds Try.pinned (OpenSpec.ofChange levelPicksWrong)

/-- 'burgesslaw11.LevelGone': WHATEVER THE INPUT: true; the input reads as it did. -/
def levelGoneSpec : ChangeSpec := { name := "levelGone", fn := fun _ => fun
  | [d1, d2] => { results := [.lit (.bool true)], args := [d1, d2] }
  | _ => none }
def levelGoneRow : OpenClaim := { program := "ytmjkgibeljbloaa", sum := "1340d7bd9b433f39c5f9edb9c17461f7067f40dd051c41494eafcc1fb7c74aaf", func := "burgess/burgesslaw11.LevelGone", spec := "levelGone", unfollowed := true, recurses := true, plainKeys := false, apart := false }
def LevelGoneSaid : Prop := levelGoneRow.holds Try.pinned (OpenSpec.ofChange levelGoneSpec)

/-- ITS FALSE NEIGHBOUR: 'it returns false'. Refute it at one input. -/
def levelGoneWrong : ChangeSpec := { name := "levelGone", fn := fun _ => fun
  | [d1, d2] => { results := [.lit (.bool false)], args := [d1, d2] }
  | _ => none }
def LevelGoneWrongFalsely : Prop := levelGoneRow.holds Try.pinned (OpenSpec.ofChange levelGoneWrong)

/-- 'burgesslaw11.LevelOrder': WHATEVER THE INPUT: true; the input reads as it did. -/
def levelOrderSpec : ChangeSpec := { name := "levelOrder", fn := fun _ => fun
  | [d1, d2] => { results := [.lit (.bool true)], args := [d1, d2] }
  | _ => none }
def levelOrderRow : OpenClaim := { program := "ytmjkgibeljbloaa", sum := "1340d7bd9b433f39c5f9edb9c17461f7067f40dd051c41494eafcc1fb7c74aaf", func := "burgess/burgesslaw11.LevelOrder", spec := "levelOrder", unfollowed := true, recurses := true, plainKeys := false, apart := false }
def LevelOrderSaid : Prop := levelOrderRow.holds Try.pinned (OpenSpec.ofChange levelOrderSpec)

/-- ITS FALSE NEIGHBOUR: 'it returns false'. Refute it at one input. -/
def levelOrderWrong : ChangeSpec := { name := "levelOrder", fn := fun _ => fun
  | [d1, d2] => { results := [.lit (.bool false)], args := [d1, d2] }
  | _ => none }
def LevelOrderWrongFalsely : Prop := levelOrderRow.holds Try.pinned (OpenSpec.ofChange levelOrderWrong)

/- THE SECOND FORM. 'bulk': how many values and letters a reading holds, each counted each time it is reached (what is shared counts as often as it is met; a slice's spare places count too). A statement '..UptoSaid' is the law's where the arguments, and the package variables that the reading takes, are together of bulk at most 1048576: NARROWER than '..Said'. Prove '..Said' where nothing that the law and all that it calls make is longer than what came in: it says more and counts as full. Else prove '..UptoSaid'. A law counts once. -/
mutual
def uptoBulk {H : Type} : DataW H → Nat
  | .lit (.string bytes) => bytes.length + 1
  | .lit _ => 1
  | .nil => 1
  | .ptr d => uptoBulk d + 1
  | .slice elems spare => uptoBulkAll elems + uptoBulkAll spare + 1
  | .agg parts => uptoBulkAll parts + 1
  | .iface _ d => uptoBulk d + 1
  | .map entries => uptoBulkEntries entries + 1
  | .held _ => 1
def uptoBulkAll {H : Type} : List (DataW H) → Nat
  | [] => 0
  | d :: r => uptoBulk d + uptoBulkAll r
def uptoBulkEntries {H : Type} : List (Lit × DataW H) → Nat
  | [] => 0
  | x :: r => uptoBulkEntry x + uptoBulkEntries r
def uptoBulkEntry {H : Type} : Lit × DataW H → Nat
  | (.string bytes, d) => bytes.length + uptoBulk d + 1
  | (_, d) => uptoBulk d + 1
 end
def uptoSmall : (H : Type) → List (DataW H) → Bool := fun _ ds => decide (uptoBulkAll ds ≤ 1048576)
def OpenSpec.upto (s : _root_.Go.ChangeSpec) : _root_.Go.OpenSpec := { _root_.Go.OpenSpec.ofChange s with cond := some uptoSmall }

/-- 'burgesslaw11.LevelLooks', WHERE WHAT IT READS IS OF BULK AT MOST 1048576: true; the input reads as it did. -/
def levelLooksUptoRow : OpenClaim := { program := "ytmjkgibeljbloaa", sum := "1340d7bd9b433f39c5f9edb9c17461f7067f40dd051c41494eafcc1fb7c74aaf", func := "burgess/burgesslaw11.LevelLooks", spec := "levelLooks", unfollowed := true, recurses := true, plainKeys := false, apart := false, narrowed := true }
def LevelLooksUptoSaid : Prop := levelLooksUptoRow.holds Try.pinned (OpenSpec.upto levelLooksSpec)

/-- 'burgesslaw11.LevelDecodes', WHERE WHAT IT READS IS OF BULK AT MOST 1048576: true; the input reads as it did. -/
def levelDecodesUptoRow : OpenClaim := { program := "ytmjkgibeljbloaa", sum := "1340d7bd9b433f39c5f9edb9c17461f7067f40dd051c41494eafcc1fb7c74aaf", func := "burgess/burgesslaw11.LevelDecodes", spec := "levelDecodes", unfollowed := true, recurses := true, plainKeys := false, apart := false, narrowed := true }
def LevelDecodesUptoSaid : Prop := levelDecodesUptoRow.holds Try.pinned (OpenSpec.upto levelDecodesSpec)

/-- 'burgesslaw11.LevelBack', WHERE WHAT IT READS IS OF BULK AT MOST 1048576: true; the input reads as it did. -/
def levelBackUptoRow : OpenClaim := { program := "ytmjkgibeljbloaa", sum := "1340d7bd9b433f39c5f9edb9c17461f7067f40dd051c41494eafcc1fb7c74aaf", func := "burgess/burgesslaw11.LevelBack", spec := "levelBack", unfollowed := true, recurses := true, plainKeys := false, apart := false, narrowed := true }
def LevelBackUptoSaid : Prop := levelBackUptoRow.holds Try.pinned (OpenSpec.upto levelBackSpec)

/-- 'burgesslaw11.LevelChanges', WHERE WHAT IT READS IS OF BULK AT MOST 1048576: true; the input reads as it did. -/
def levelChangesUptoRow : OpenClaim := { program := "ytmjkgibeljbloaa", sum := "1340d7bd9b433f39c5f9edb9c17461f7067f40dd051c41494eafcc1fb7c74aaf", func := "burgess/burgesslaw11.LevelChanges", spec := "levelChanges", unfollowed := true, recurses := true, plainKeys := false, apart := false, narrowed := true }
def LevelChangesUptoSaid : Prop := levelChangesUptoRow.holds Try.pinned (OpenSpec.upto levelChangesSpec)

/-- 'burgesslaw11.LevelPicks', WHERE WHAT IT READS IS OF BULK AT MOST 1048576: true; the input reads as it did. -/
def levelPicksUptoRow : OpenClaim := { program := "ytmjkgibeljbloaa", sum := "1340d7bd9b433f39c5f9edb9c17461f7067f40dd051c41494eafcc1fb7c74aaf", func := "burgess/burgesslaw11.LevelPicks", spec := "levelPicks", unfollowed := true, recurses := true, plainKeys := false, apart := false, narrowed := true }
def LevelPicksUptoSaid : Prop := levelPicksUptoRow.holds Try.pinned (OpenSpec.upto levelPicksSpec)

/-- 'burgesslaw11.LevelGone', WHERE WHAT IT READS IS OF BULK AT MOST 1048576: true; the input reads as it did. -/
def levelGoneUptoRow : OpenClaim := { program := "ytmjkgibeljbloaa", sum := "1340d7bd9b433f39c5f9edb9c17461f7067f40dd051c41494eafcc1fb7c74aaf", func := "burgess/burgesslaw11.LevelGone", spec := "levelGone", unfollowed := true, recurses := true, plainKeys := false, apart := false, narrowed := true }
def LevelGoneUptoSaid : Prop := levelGoneUptoRow.holds Try.pinned (OpenSpec.upto levelGoneSpec)

/-- 'burgesslaw11.LevelOrder', WHERE WHAT IT READS IS OF BULK AT MOST 1048576: true; the input reads as it did. -/
def levelOrderUptoRow : OpenClaim := { program := "ytmjkgibeljbloaa", sum := "1340d7bd9b433f39c5f9edb9c17461f7067f40dd051c41494eafcc1fb7c74aaf", func := "burgess/burgesslaw11.LevelOrder", spec := "levelOrder", unfollowed := true, recurses := true, plainKeys := false, apart := false, narrowed := true }
def LevelOrderUptoSaid : Prop := levelOrderUptoRow.holds Try.pinned (OpenSpec.upto levelOrderSpec)

end Rows
end Go.Proofs.Ytmjkgibeljbloaa
