/-
  No cell of these rows narrows 'for every input' (looked for: loops, veiled, ifaces, maps, wideKeys, modest, calm, conditions, laid).
  DERIVED. THE GIVEN ROWS OF THIS SEAT. 11 by the template 'for every input the law returns true; each argument reads behind the call as it read before'; 0 by the template 'total and deterministic' (their statements: YtcffefadagfdcaaTotals.lean).
  GIVEN WITH THE SEED: the statements are not yours to turn. If you find one false, say at which input.
  Laid BY PROGRAM, IN A SANDBOX (cutbox-rows.mjs): the forced cells as the released guide's own fill.sh prints them over the translation dfd1b799687b175e… (all of the seat's roots in one cut). By AI agents, Wed Nov 11 2026. No macro, syntax, notation, axiom, sorry.
-/
import Derived.Test.YtcffefadagfdcaaChecked
import GoSem.Claim
import GoSem.ClaimJoined
import GoSem.ClaimMapViews
import Derived.JoinedTies
import Derived.KernelRfl
namespace Go.Proofs.Ytcffefadagfdcaa
/- THE CELL 'sum', in the pinned program and in every row, IS THE sha256 OF THE DUMP (.gsa) THAT YtcffefadagfdcaaProg.lean LOADS. Nothing in Lean hashes anything: it is a label: what it is worth is what the hold of that sum in a sandbox is worth. -/
noncomputable def Try.pinned : Pinned := { name := "ytcffefadagfdcaa", sum := "dfd1b799687b175e48955fb0032e035931c5362fbbffe45d0ca99d1f0136ee2e", checked := Try.checked }
namespace Rows
def none {H : Type} : Left H := { results := [], args := [] }

/-- 'burgesslaw6.BloomMakes': WHATEVER THE INPUT: true; the input reads as it did. -/
def bloomMakesSpec : ChangeSpec := { name := "bloomMakes", fn := fun _ => fun
  | [d1, d2] => { results := [.lit (.bool true)], args := [d1, d2] }
  | _ => none }
def bloomMakesRow : OpenClaim := { program := "ytcffefadagfdcaa", sum := "dfd1b799687b175e48955fb0032e035931c5362fbbffe45d0ca99d1f0136ee2e", func := "burgess/burgesslaw6.BloomMakes", spec := "bloomMakes", apart := false }
def BloomMakesSaid : Prop := bloomMakesRow.holds Try.pinned (OpenSpec.ofChange bloomMakesSpec)

/-- ITS FALSE NEIGHBOUR: 'it returns false'. Refute it at one input. -/
def bloomMakesWrong : ChangeSpec := { name := "bloomMakes", fn := fun _ => fun
  | [d1, d2] => { results := [.lit (.bool false)], args := [d1, d2] }
  | _ => none }
def BloomMakesWrongFalsely : Prop := bloomMakesRow.holds Try.pinned (OpenSpec.ofChange bloomMakesWrong)

/-- 'burgesslaw6.BloomAsks': WHATEVER THE INPUT: true; the input reads as it did. -/
def bloomAsksSpec : ChangeSpec := { name := "bloomAsks", fn := fun _ => fun
  | [d1, d2] => { results := [.lit (.bool true)], args := [d1, d2] }
  | _ => none }
def bloomAsksRow : OpenClaim := { program := "ytcffefadagfdcaa", sum := "dfd1b799687b175e48955fb0032e035931c5362fbbffe45d0ca99d1f0136ee2e", func := "burgess/burgesslaw6.BloomAsks", spec := "bloomAsks", apart := false }
def BloomAsksSaid : Prop := bloomAsksRow.holds Try.pinned (OpenSpec.ofChange bloomAsksSpec)

/-- ITS FALSE NEIGHBOUR: 'it returns false'. Refute it at one input. -/
def bloomAsksWrong : ChangeSpec := { name := "bloomAsks", fn := fun _ => fun
  | [d1, d2] => { results := [.lit (.bool false)], args := [d1, d2] }
  | _ => none }
def BloomAsksWrongFalsely : Prop := bloomAsksRow.holds Try.pinned (OpenSpec.ofChange bloomAsksWrong)

/-- 'burgesslaw6.BloomHas': WHATEVER THE INPUT: true; the input reads as it did. -/
def bloomHasSpec : ChangeSpec := { name := "bloomHas", fn := fun _ => fun
  | [d] => { results := [.lit (.bool true)], args := [d] }
  | _ => none }
def bloomHasRow : OpenClaim := { program := "ytcffefadagfdcaa", sum := "dfd1b799687b175e48955fb0032e035931c5362fbbffe45d0ca99d1f0136ee2e", func := "burgess/burgesslaw6.BloomHas", spec := "bloomHas", apart := false }
def BloomHasSaid : Prop := bloomHasRow.holds Try.pinned (OpenSpec.ofChange bloomHasSpec)

/-- ITS FALSE NEIGHBOUR: 'it returns false'. Refute it at one input. -/
def bloomHasWrong : ChangeSpec := { name := "bloomHas", fn := fun _ => fun
  | [d] => { results := [.lit (.bool false)], args := [d] }
  | _ => none }
def BloomHasWrongFalsely : Prop := bloomHasRow.holds Try.pinned (OpenSpec.ofChange bloomHasWrong)

/-- 'burgesslaw6.BloomTurns': WHATEVER THE INPUT: true; the input reads as it did. -/
def bloomTurnsSpec : ChangeSpec := { name := "bloomTurns", fn := fun _ => fun
  | [d] => { results := [.lit (.bool true)], args := [d] }
  | _ => none }
def bloomTurnsRow : OpenClaim := { program := "ytcffefadagfdcaa", sum := "dfd1b799687b175e48955fb0032e035931c5362fbbffe45d0ca99d1f0136ee2e", func := "burgess/burgesslaw6.BloomTurns", spec := "bloomTurns", apart := false }
def BloomTurnsSaid : Prop := bloomTurnsRow.holds Try.pinned (OpenSpec.ofChange bloomTurnsSpec)

/-- ITS FALSE NEIGHBOUR: 'it returns false'. Refute it at one input. -/
def bloomTurnsWrong : ChangeSpec := { name := "bloomTurns", fn := fun _ => fun
  | [d] => { results := [.lit (.bool false)], args := [d] }
  | _ => none }
def BloomTurnsWrongFalsely : Prop := bloomTurnsRow.holds Try.pinned (OpenSpec.ofChange bloomTurnsWrong)

/-- 'burgesslaw24.BerTags': WHATEVER THE INPUT: true; the input reads as it did. -/
def berTagsSpec : ChangeSpec := { name := "berTags", fn := fun _ => fun
  | [d1, d2, d3] => { results := [.lit (.bool true)], args := [d1, d2, d3] }
  | _ => none }
def berTagsRow : OpenClaim := { program := "ytcffefadagfdcaa", sum := "dfd1b799687b175e48955fb0032e035931c5362fbbffe45d0ca99d1f0136ee2e", func := "burgess/burgesslaw24.BerTags", spec := "berTags", apart := false }
def BerTagsSaid : Prop := berTagsRow.holds Try.pinned (OpenSpec.ofChange berTagsSpec)

/-- ITS FALSE NEIGHBOUR: 'it returns false'. Refute it at one input. -/
def berTagsWrong : ChangeSpec := { name := "berTags", fn := fun _ => fun
  | [d1, d2, d3] => { results := [.lit (.bool false)], args := [d1, d2, d3] }
  | _ => none }
def BerTagsWrongFalsely : Prop := berTagsRow.holds Try.pinned (OpenSpec.ofChange berTagsWrong)

/-- 'burgesslaw24.BerNumbers': WHATEVER THE INPUT: true; the input reads as it did. -/
def berNumbersSpec : ChangeSpec := { name := "berNumbers", fn := fun _ => fun
  | [d1, d2] => { results := [.lit (.bool true)], args := [d1, d2] }
  | _ => none }
def berNumbersRow : OpenClaim := { program := "ytcffefadagfdcaa", sum := "dfd1b799687b175e48955fb0032e035931c5362fbbffe45d0ca99d1f0136ee2e", func := "burgess/burgesslaw24.BerNumbers", spec := "berNumbers", apart := false }
def BerNumbersSaid : Prop := berNumbersRow.holds Try.pinned (OpenSpec.ofChange berNumbersSpec)

/-- ITS FALSE NEIGHBOUR: 'it returns false'. Refute it at one input. -/
def berNumbersWrong : ChangeSpec := { name := "berNumbers", fn := fun _ => fun
  | [d1, d2] => { results := [.lit (.bool false)], args := [d1, d2] }
  | _ => none }
def BerNumbersWrongFalsely : Prop := berNumbersRow.holds Try.pinned (OpenSpec.ofChange berNumbersWrong)

/-- 'burgesslaw24.BerAlls': WHATEVER THE INPUT: true; the input reads as it did. -/
def berAllsSpec : ChangeSpec := { name := "berAlls", fn := fun _ => fun
  | [d] => { results := [.lit (.bool true)], args := [d] }
  | _ => none }
def berAllsRow : OpenClaim := { program := "ytcffefadagfdcaa", sum := "dfd1b799687b175e48955fb0032e035931c5362fbbffe45d0ca99d1f0136ee2e", func := "burgess/burgesslaw24.BerAlls", spec := "berAlls", apart := false }
def BerAllsSaid : Prop := berAllsRow.holds Try.pinned (OpenSpec.ofChange berAllsSpec)

/-- ITS FALSE NEIGHBOUR: 'it returns false'. Refute it at one input. -/
def berAllsWrong : ChangeSpec := { name := "berAlls", fn := fun _ => fun
  | [d] => { results := [.lit (.bool false)], args := [d] }
  | _ => none }
def BerAllsWrongFalsely : Prop := berAllsRow.holds Try.pinned (OpenSpec.ofChange berAllsWrong)

/-- 'burgesslaw24.BerBack': WHATEVER THE INPUT: true; the input reads as it did. -/
def berBackSpec : ChangeSpec := { name := "berBack", fn := fun _ => fun
  | [d1, d2, d3, d4] => { results := [.lit (.bool true)], args := [d1, d2, d3, d4] }
  | _ => none }
def berBackRow : OpenClaim := { program := "ytcffefadagfdcaa", sum := "dfd1b799687b175e48955fb0032e035931c5362fbbffe45d0ca99d1f0136ee2e", func := "burgess/burgesslaw24.BerBack", spec := "berBack", apart := false }
def BerBackSaid : Prop := berBackRow.holds Try.pinned (OpenSpec.ofChange berBackSpec)

/-- ITS FALSE NEIGHBOUR: 'it returns false'. Refute it at one input. -/
def berBackWrong : ChangeSpec := { name := "berBack", fn := fun _ => fun
  | [d1, d2, d3, d4] => { results := [.lit (.bool false)], args := [d1, d2, d3, d4] }
  | _ => none }
def BerBackWrongFalsely : Prop := berBackRow.holds Try.pinned (OpenSpec.ofChange berBackWrong)

/-- 'burgesslaw24.BerCuts': WHATEVER THE INPUT: true; the input reads as it did. -/
def berCutsSpec : ChangeSpec := { name := "berCuts", fn := fun _ => fun
  | [d1, d2, d3] => { results := [.lit (.bool true)], args := [d1, d2, d3] }
  | _ => none }
def berCutsRow : OpenClaim := { program := "ytcffefadagfdcaa", sum := "dfd1b799687b175e48955fb0032e035931c5362fbbffe45d0ca99d1f0136ee2e", func := "burgess/burgesslaw24.BerCuts", spec := "berCuts", apart := false }
def BerCutsSaid : Prop := berCutsRow.holds Try.pinned (OpenSpec.ofChange berCutsSpec)

/-- ITS FALSE NEIGHBOUR: 'it returns false'. Refute it at one input. -/
def berCutsWrong : ChangeSpec := { name := "berCuts", fn := fun _ => fun
  | [d1, d2, d3] => { results := [.lit (.bool false)], args := [d1, d2, d3] }
  | _ => none }
def BerCutsWrongFalsely : Prop := berCutsRow.holds Try.pinned (OpenSpec.ofChange berCutsWrong)

/-- 'burgesslaw24.BerLong': WHATEVER THE INPUT: true; the input reads as it did. -/
def berLongSpec : ChangeSpec := { name := "berLong", fn := fun _ => fun
  | [d1, d2, d3] => { results := [.lit (.bool true)], args := [d1, d2, d3] }
  | _ => none }
def berLongRow : OpenClaim := { program := "ytcffefadagfdcaa", sum := "dfd1b799687b175e48955fb0032e035931c5362fbbffe45d0ca99d1f0136ee2e", func := "burgess/burgesslaw24.BerLong", spec := "berLong", apart := false }
def BerLongSaid : Prop := berLongRow.holds Try.pinned (OpenSpec.ofChange berLongSpec)

/-- ITS FALSE NEIGHBOUR: 'it returns false'. Refute it at one input. -/
def berLongWrong : ChangeSpec := { name := "berLong", fn := fun _ => fun
  | [d1, d2, d3] => { results := [.lit (.bool false)], args := [d1, d2, d3] }
  | _ => none }
def BerLongWrongFalsely : Prop := berLongRow.holds Try.pinned (OpenSpec.ofChange berLongWrong)

/-- 'burgesslaw24.BerShortest': WHATEVER THE INPUT: true; the input reads as it did. -/
def berShortestSpec : ChangeSpec := { name := "berShortest", fn := fun _ => fun
  | [d] => { results := [.lit (.bool true)], args := [d] }
  | _ => none }
def berShortestRow : OpenClaim := { program := "ytcffefadagfdcaa", sum := "dfd1b799687b175e48955fb0032e035931c5362fbbffe45d0ca99d1f0136ee2e", func := "burgess/burgesslaw24.BerShortest", spec := "berShortest", apart := false }
def BerShortestSaid : Prop := berShortestRow.holds Try.pinned (OpenSpec.ofChange berShortestSpec)

/-- ITS FALSE NEIGHBOUR: 'it returns false'. Refute it at one input. -/
def berShortestWrong : ChangeSpec := { name := "berShortest", fn := fun _ => fun
  | [d] => { results := [.lit (.bool false)], args := [d] }
  | _ => none }
def BerShortestWrongFalsely : Prop := berShortestRow.holds Try.pinned (OpenSpec.ofChange berShortestWrong)

/- THE SECOND FORM. 'bulk': how many values and letters a reading holds, each counted each time it is reached (what is shared counts as often as it is met; a slice's spare places count too). A statement '..UptoSaid' is the law's where the arguments, and the package variables that the reading takes, are together of bulk at most 1048576: NARROWER than '..Said'. Prove '..Said' where nothing that the law and all that it calls make is longer than what came in: it says more and counts as full. Else prove '..UptoSaid'. A law counts once. -/
mutual
def uptoBulk {H : Type} : DataW H → Nat
  | .lit (.string bytes) => bytes.length + 1
  | .lit _ => 1
  | .nil => 1
  | .ptr d => uptoBulk d + 1
  | .slice elems spare => uptoBulkAll elems + uptoBulkAll spare + 1
  | .agg parts => uptoBulkAll parts + 1
  | .iface _ d => uptoBulk d + 1
  | .map entries => uptoBulkEntries entries + 1
  | .held _ => 1
def uptoBulkAll {H : Type} : List (DataW H) → Nat
  | [] => 0
  | d :: r => uptoBulk d + uptoBulkAll r
def uptoBulkEntries {H : Type} : List (Lit × DataW H) → Nat
  | [] => 0
  | x :: r => uptoBulkEntry x + uptoBulkEntries r
def uptoBulkEntry {H : Type} : Lit × DataW H → Nat
  | (.string bytes, d) => bytes.length + uptoBulk d + 1
  | (_, d) => uptoBulk d + 1
 end
def uptoSmall : (H : Type) → List (DataW H) → Bool := fun _ ds => decide (uptoBulkAll ds ≤ 1048576)
def OpenSpec.upto (s : _root_.Go.ChangeSpec) : _root_.Go.OpenSpec := { _root_.Go.OpenSpec.ofChange s with cond := some uptoSmall }

/-- 'burgesslaw6.BloomMakes', WHERE WHAT IT READS IS OF BULK AT MOST 1048576: true; the input reads as it did. -/
def bloomMakesUptoRow : OpenClaim := { program := "ytcffefadagfdcaa", sum := "dfd1b799687b175e48955fb0032e035931c5362fbbffe45d0ca99d1f0136ee2e", func := "burgess/burgesslaw6.BloomMakes", spec := "bloomMakes", apart := false, narrowed := true }
def BloomMakesUptoSaid : Prop := bloomMakesUptoRow.holds Try.pinned (OpenSpec.upto bloomMakesSpec)

/-- 'burgesslaw6.BloomAsks', WHERE WHAT IT READS IS OF BULK AT MOST 1048576: true; the input reads as it did. -/
def bloomAsksUptoRow : OpenClaim := { program := "ytcffefadagfdcaa", sum := "dfd1b799687b175e48955fb0032e035931c5362fbbffe45d0ca99d1f0136ee2e", func := "burgess/burgesslaw6.BloomAsks", spec := "bloomAsks", apart := false, narrowed := true }
def BloomAsksUptoSaid : Prop := bloomAsksUptoRow.holds Try.pinned (OpenSpec.upto bloomAsksSpec)

/-- 'burgesslaw6.BloomHas', WHERE WHAT IT READS IS OF BULK AT MOST 1048576: true; the input reads as it did. -/
def bloomHasUptoRow : OpenClaim := { program := "ytcffefadagfdcaa", sum := "dfd1b799687b175e48955fb0032e035931c5362fbbffe45d0ca99d1f0136ee2e", func := "burgess/burgesslaw6.BloomHas", spec := "bloomHas", apart := false, narrowed := true }
def BloomHasUptoSaid : Prop := bloomHasUptoRow.holds Try.pinned (OpenSpec.upto bloomHasSpec)

/-- 'burgesslaw6.BloomTurns', WHERE WHAT IT READS IS OF BULK AT MOST 1048576: true; the input reads as it did. -/
def bloomTurnsUptoRow : OpenClaim := { program := "ytcffefadagfdcaa", sum := "dfd1b799687b175e48955fb0032e035931c5362fbbffe45d0ca99d1f0136ee2e", func := "burgess/burgesslaw6.BloomTurns", spec := "bloomTurns", apart := false, narrowed := true }
def BloomTurnsUptoSaid : Prop := bloomTurnsUptoRow.holds Try.pinned (OpenSpec.upto bloomTurnsSpec)

/-- 'burgesslaw24.BerTags', WHERE WHAT IT READS IS OF BULK AT MOST 1048576: true; the input reads as it did. -/
def berTagsUptoRow : OpenClaim := { program := "ytcffefadagfdcaa", sum := "dfd1b799687b175e48955fb0032e035931c5362fbbffe45d0ca99d1f0136ee2e", func := "burgess/burgesslaw24.BerTags", spec := "berTags", apart := false, narrowed := true }
def BerTagsUptoSaid : Prop := berTagsUptoRow.holds Try.pinned (OpenSpec.upto berTagsSpec)

/-- 'burgesslaw24.BerNumbers', WHERE WHAT IT READS IS OF BULK AT MOST 1048576: true; the input reads as it did. -/
def berNumbersUptoRow : OpenClaim := { program := "ytcffefadagfdcaa", sum := "dfd1b799687b175e48955fb0032e035931c5362fbbffe45d0ca99d1f0136ee2e", func := "burgess/burgesslaw24.BerNumbers", spec := "berNumbers", apart := false, narrowed := true }
def BerNumbersUptoSaid : Prop := berNumbersUptoRow.holds Try.pinned (OpenSpec.upto berNumbersSpec)

/-- 'burgesslaw24.BerAlls', WHERE WHAT IT READS IS OF BULK AT MOST 1048576: true; the input reads as it did. -/
def berAllsUptoRow : OpenClaim := { program := "ytcffefadagfdcaa", sum := "dfd1b799687b175e48955fb0032e035931c5362fbbffe45d0ca99d1f0136ee2e", func := "burgess/burgesslaw24.BerAlls", spec := "berAlls", apart := false, narrowed := true }
def BerAllsUptoSaid : Prop := berAllsUptoRow.holds Try.pinned (OpenSpec.upto berAllsSpec)

/-- 'burgesslaw24.BerBack', WHERE WHAT IT READS IS OF BULK AT MOST 1048576: true; the input reads as it did. -/
def berBackUptoRow : OpenClaim := { program := "ytcffefadagfdcaa", sum := "dfd1b799687b175e48955fb0032e035931c5362fbbffe45d0ca99d1f0136ee2e", func := "burgess/burgesslaw24.BerBack", spec := "berBack", apart := false, narrowed := true }
def BerBackUptoSaid : Prop := berBackUptoRow.holds Try.pinned (OpenSpec.upto berBackSpec)

/-- 'burgesslaw24.BerCuts', WHERE WHAT IT READS IS OF BULK AT MOST 1048576: true; the input reads as it did. -/
def berCutsUptoRow : OpenClaim := { program := "ytcffefadagfdcaa", sum := "dfd1b799687b175e48955fb0032e035931c5362fbbffe45d0ca99d1f0136ee2e", func := "burgess/burgesslaw24.BerCuts", spec := "berCuts", apart := false, narrowed := true }
def BerCutsUptoSaid : Prop := berCutsUptoRow.holds Try.pinned (OpenSpec.upto berCutsSpec)

/-- 'burgesslaw24.BerLong', WHERE WHAT IT READS IS OF BULK AT MOST 1048576: true; the input reads as it did. -/
def berLongUptoRow : OpenClaim := { program := "ytcffefadagfdcaa", sum := "dfd1b799687b175e48955fb0032e035931c5362fbbffe45d0ca99d1f0136ee2e", func := "burgess/burgesslaw24.BerLong", spec := "berLong", apart := false, narrowed := true }
def BerLongUptoSaid : Prop := berLongUptoRow.holds Try.pinned (OpenSpec.upto berLongSpec)

/-- 'burgesslaw24.BerShortest', WHERE WHAT IT READS IS OF BULK AT MOST 1048576: true; the input reads as it did. -/
def berShortestUptoRow : OpenClaim := { program := "ytcffefadagfdcaa", sum := "dfd1b799687b175e48955fb0032e035931c5362fbbffe45d0ca99d1f0136ee2e", func := "burgess/burgesslaw24.BerShortest", spec := "berShortest", apart := false, narrowed := true }
def BerShortestUptoSaid : Prop := berShortestUptoRow.holds Try.pinned (OpenSpec.upto berShortestSpec)

end Rows
end Go.Proofs.Ytcffefadagfdcaa
