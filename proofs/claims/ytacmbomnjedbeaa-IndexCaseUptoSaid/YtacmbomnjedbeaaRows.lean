/-
  No cell of these rows narrows 'for every input' (looked for: loops, veiled, ifaces, maps, wideKeys, modest, calm, conditions, laid).
  DERIVED. THE GIVEN ROWS OF THIS SEAT. 4 by the template 'for every input the law returns true; each argument reads behind the call as it read before'; 0 by the template 'total and deterministic' (their statements: YtacmbomnjedbeaaTotals.lean).
  GIVEN WITH THE SEED: the statements are not yours to turn. If you find one false, say at which input.
  Laid BY PROGRAM, IN A SANDBOX (cutbox-rows.mjs): the forced cells as the released guide's own fill.sh prints them over the translation 79d7c5edfda7d12d… (all of the seat's roots in one cut). By AI agents, Wed Nov 11 2026. No macro, syntax, notation, axiom, sorry.
-/
import Derived.Test.YtacmbomnjedbeaaChecked
import GoSem.Claim
import GoSem.ClaimJoined
import GoSem.ClaimMapViews
import Derived.JoinedTies
import Derived.KernelRfl
namespace Go.Proofs.Ytacmbomnjedbeaa
/- THE CELL 'sum', in the pinned program and in every row, IS THE sha256 OF THE DUMP (.gsa) THAT YtacmbomnjedbeaaProg.lean LOADS. Nothing in Lean hashes anything: it is a label: what it is worth is what the hold of that sum in a sandbox is worth. -/
noncomputable def Try.pinned : Pinned := { name := "ytacmbomnjedbeaa", sum := "79d7c5edfda7d12d6d7b5d45f9ce7c44068afb442c786910856b6557f8eefd93", checked := Try.checked }
namespace Rows
def none {H : Type} : Left H := { results := [], args := [] }

/-- 'burgesslaw21.IndexKeys': WHATEVER THE INPUT: true; the input reads as it did. -/
def indexKeysSpec : ChangeSpec := { name := "indexKeys", fn := fun _ => fun
  | [d] => { results := [.lit (.bool true)], args := [d] }
  | _ => none }
def indexKeysRow : OpenClaim := { program := "ytacmbomnjedbeaa", sum := "79d7c5edfda7d12d6d7b5d45f9ce7c44068afb442c786910856b6557f8eefd93", func := "burgess/burgesslaw21.IndexKeys", spec := "indexKeys", inPlace := ["internal/bytealg.IndexByteString"], unfollowed := true, recurses := true, plainKeys := false, apart := false }
def IndexKeysSaid : Prop := indexKeysRow.holds Try.pinned (OpenSpec.ofChange indexKeysSpec)

/-- ITS FALSE NEIGHBOUR: 'it returns false'. Refute it at one input. -/
def indexKeysWrong : ChangeSpec := { name := "indexKeys", fn := fun _ => fun
  | [d] => { results := [.lit (.bool false)], args := [d] }
  | _ => none }
def IndexKeysWrongFalsely : Prop := indexKeysRow.holds Try.pinned (OpenSpec.ofChange indexKeysWrong)

/-- 'burgesslaw21.IndexFinds': WHATEVER THE INPUT: true; the input reads as it did. -/
def indexFindsSpec : ChangeSpec := { name := "indexFinds", fn := fun _ => fun
  | [d1, d2] => { results := [.lit (.bool true)], args := [d1, d2] }
  | _ => none }
def indexFindsRow : OpenClaim := { program := "ytacmbomnjedbeaa", sum := "79d7c5edfda7d12d6d7b5d45f9ce7c44068afb442c786910856b6557f8eefd93", func := "burgess/burgesslaw21.IndexFinds", spec := "indexFinds", inPlace := ["internal/bytealg.IndexByteString"], unfollowed := true, recurses := true, plainKeys := false, apart := false }
def IndexFindsSaid : Prop := indexFindsRow.holds Try.pinned (OpenSpec.ofChange indexFindsSpec)

/-- ITS FALSE NEIGHBOUR: 'it returns false'. Refute it at one input. -/
def indexFindsWrong : ChangeSpec := { name := "indexFinds", fn := fun _ => fun
  | [d1, d2] => { results := [.lit (.bool false)], args := [d1, d2] }
  | _ => none }
def IndexFindsWrongFalsely : Prop := indexFindsRow.holds Try.pinned (OpenSpec.ofChange indexFindsWrong)

/-- 'burgesslaw21.IndexRise': WHATEVER THE INPUT: true; the input reads as it did. -/
def indexRiseSpec : ChangeSpec := { name := "indexRise", fn := fun _ => fun
  | [d1, d2] => { results := [.lit (.bool true)], args := [d1, d2] }
  | _ => none }
def indexRiseRow : OpenClaim := { program := "ytacmbomnjedbeaa", sum := "79d7c5edfda7d12d6d7b5d45f9ce7c44068afb442c786910856b6557f8eefd93", func := "burgess/burgesslaw21.IndexRise", spec := "indexRise", inPlace := ["internal/bytealg.IndexByteString"], unfollowed := true, recurses := true, plainKeys := false, apart := false }
def IndexRiseSaid : Prop := indexRiseRow.holds Try.pinned (OpenSpec.ofChange indexRiseSpec)

/-- ITS FALSE NEIGHBOUR: 'it returns false'. Refute it at one input. -/
def indexRiseWrong : ChangeSpec := { name := "indexRise", fn := fun _ => fun
  | [d1, d2] => { results := [.lit (.bool false)], args := [d1, d2] }
  | _ => none }
def IndexRiseWrongFalsely : Prop := indexRiseRow.holds Try.pinned (OpenSpec.ofChange indexRiseWrong)

/-- 'burgesslaw21.IndexCase': WHATEVER THE INPUT: true; the input reads as it did. -/
def indexCaseSpec : ChangeSpec := { name := "indexCase", fn := fun _ => fun
  | [d] => { results := [.lit (.bool true)], args := [d] }
  | _ => none }
def indexCaseRow : OpenClaim := { program := "ytacmbomnjedbeaa", sum := "79d7c5edfda7d12d6d7b5d45f9ce7c44068afb442c786910856b6557f8eefd93", func := "burgess/burgesslaw21.IndexCase", spec := "indexCase", inPlace := ["internal/bytealg.IndexByteString"], unfollowed := true, recurses := true, plainKeys := false, apart := false }
def IndexCaseSaid : Prop := indexCaseRow.holds Try.pinned (OpenSpec.ofChange indexCaseSpec)

/-- ITS FALSE NEIGHBOUR: 'it returns false'. Refute it at one input. -/
def indexCaseWrong : ChangeSpec := { name := "indexCase", fn := fun _ => fun
  | [d] => { results := [.lit (.bool false)], args := [d] }
  | _ => none }
def IndexCaseWrongFalsely : Prop := indexCaseRow.holds Try.pinned (OpenSpec.ofChange indexCaseWrong)

/- THE SECOND FORM. 'bulk': how many values and letters a reading holds, each counted each time it is reached (what is shared counts as often as it is met; a slice's spare places count too). A statement '..UptoSaid' is the law's where the arguments, and the package variables that the reading takes, are together of bulk at most 1048576: NARROWER than '..Said'. Prove '..Said' where nothing that the law and all that it calls make is longer than what came in: it says more and counts as full. Else prove '..UptoSaid'. A law counts once. -/
mutual
def uptoBulk {H : Type} : DataW H → Nat
  | .lit (.string bytes) => bytes.length + 1
  | .lit _ => 1
  | .nil => 1
  | .ptr d => uptoBulk d + 1
  | .slice elems spare => uptoBulkAll elems + uptoBulkAll spare + 1
  | .agg parts => uptoBulkAll parts + 1
  | .iface _ d => uptoBulk d + 1
  | .map entries => uptoBulkEntries entries + 1
  | .held _ => 1
def uptoBulkAll {H : Type} : List (DataW H) → Nat
  | [] => 0
  | d :: r => uptoBulk d + uptoBulkAll r
def uptoBulkEntries {H : Type} : List (Lit × DataW H) → Nat
  | [] => 0
  | x :: r => uptoBulkEntry x + uptoBulkEntries r
def uptoBulkEntry {H : Type} : Lit × DataW H → Nat
  | (.string bytes, d) => bytes.length + uptoBulk d + 1
  | (_, d) => uptoBulk d + 1
 end
def uptoSmall : (H : Type) → List (DataW H) → Bool := fun _ ds => decide (uptoBulkAll ds ≤ 1048576)
def OpenSpec.upto (s : _root_.Go.ChangeSpec) : _root_.Go.OpenSpec := { _root_.Go.OpenSpec.ofChange s with cond := some uptoSmall }

/-- 'burgesslaw21.IndexKeys', WHERE WHAT IT READS IS OF BULK AT MOST 1048576: true; the input reads as it did. -/
def indexKeysUptoRow : OpenClaim := { program := "ytacmbomnjedbeaa", sum := "79d7c5edfda7d12d6d7b5d45f9ce7c44068afb442c786910856b6557f8eefd93", func := "burgess/burgesslaw21.IndexKeys", spec := "indexKeys", inPlace := ["internal/bytealg.IndexByteString"], unfollowed := true, recurses := true, plainKeys := false, apart := false, narrowed := true }
def IndexKeysUptoSaid : Prop := indexKeysUptoRow.holds Try.pinned (OpenSpec.upto indexKeysSpec)

/-- 'burgesslaw21.IndexFinds', WHERE WHAT IT READS IS OF BULK AT MOST 1048576: true; the input reads as it did. -/
def indexFindsUptoRow : OpenClaim := { program := "ytacmbomnjedbeaa", sum := "79d7c5edfda7d12d6d7b5d45f9ce7c44068afb442c786910856b6557f8eefd93", func := "burgess/burgesslaw21.IndexFinds", spec := "indexFinds", inPlace := ["internal/bytealg.IndexByteString"], unfollowed := true, recurses := true, plainKeys := false, apart := false, narrowed := true }
def IndexFindsUptoSaid : Prop := indexFindsUptoRow.holds Try.pinned (OpenSpec.upto indexFindsSpec)

/-- 'burgesslaw21.IndexRise', WHERE WHAT IT READS IS OF BULK AT MOST 1048576: true; the input reads as it did. -/
def indexRiseUptoRow : OpenClaim := { program := "ytacmbomnjedbeaa", sum := "79d7c5edfda7d12d6d7b5d45f9ce7c44068afb442c786910856b6557f8eefd93", func := "burgess/burgesslaw21.IndexRise", spec := "indexRise", inPlace := ["internal/bytealg.IndexByteString"], unfollowed := true, recurses := true, plainKeys := false, apart := false, narrowed := true }
def IndexRiseUptoSaid : Prop := indexRiseUptoRow.holds Try.pinned (OpenSpec.upto indexRiseSpec)

/-- 'burgesslaw21.IndexCase', WHERE WHAT IT READS IS OF BULK AT MOST 1048576: true; the input reads as it did. -/
def indexCaseUptoRow : OpenClaim := { program := "ytacmbomnjedbeaa", sum := "79d7c5edfda7d12d6d7b5d45f9ce7c44068afb442c786910856b6557f8eefd93", func := "burgess/burgesslaw21.IndexCase", spec := "indexCase", inPlace := ["internal/bytealg.IndexByteString"], unfollowed := true, recurses := true, plainKeys := false, apart := false, narrowed := true }
def IndexCaseUptoSaid : Prop := indexCaseUptoRow.holds Try.pinned (OpenSpec.upto indexCaseSpec)

end Rows
end Go.Proofs.Ytacmbomnjedbeaa
