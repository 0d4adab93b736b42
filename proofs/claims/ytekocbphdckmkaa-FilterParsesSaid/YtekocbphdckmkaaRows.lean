/-
  NARROWER THAN 'FOR EVERY INPUT', by the rows' own cells (each row's printed sentence says how): FilterLooks: loops · FilterBack: loops.
  DERIVED. THE GIVEN ROWS OF THIS SEAT. 5 by the template 'for every input the law returns true; each argument reads behind the call as it read before'; 0 by the template 'total and deterministic' (their statements: YtekocbphdckmkaaTotals.lean).
  GIVEN WITH THE SEED: the statements are not yours to turn. If you find one false, say at which input.
  Laid BY PROGRAM, IN A SANDBOX (cutbox-rows.mjs): the forced cells as the released guide's own fill.sh prints them over the translation 1dd26603ff668612… (all of the seat's roots in one cut). By AI agents, Wed Nov 11 2026. No macro, syntax, notation, axiom, sorry.
-/
import Derived.Test.YtekocbphdckmkaaChecked
import GoSem.Claim
import GoSem.ClaimJoined
import GoSem.ClaimMapViews
import Derived.JoinedTies
import Derived.KernelRfl
namespace Go.Proofs.Ytekocbphdckmkaa
/- THE CELL 'sum', in the pinned program and in every row, IS THE sha256 OF THE DUMP (.gsa) THAT YtekocbphdckmkaaProg.lean LOADS. Nothing in Lean hashes anything: it is a label: what it is worth is what the hold of that sum in a sandbox is worth. -/
noncomputable def Try.pinned : Pinned := { name := "ytekocbphdckmkaa", sum := "1dd26603ff668612bc5949ecbd4f832405cfca68eee8a349c0c63b32174d8f88", checked := Try.checked }
namespace Rows
def none {H : Type} : Left H := { results := [], args := [] }

/-- 'burgesslaw16.FilterParses': WHATEVER THE INPUT: true; the input reads as it did. -/
def filterParsesSpec : ChangeSpec := { name := "filterParses", fn := fun _ => fun
  | [d] => { results := [.lit (.bool true)], args := [d] }
  | _ => none }
def filterParsesRow : OpenClaim := { program := "ytekocbphdckmkaa", sum := "1dd26603ff668612bc5949ecbd4f832405cfca68eee8a349c0c63b32174d8f88", func := "burgess/burgesslaw16.FilterParses", spec := "filterParses", inPlace := ["internal/bytealg.IndexByteString", "internal/bytealg.IndexString"], recurses := true, named := ["internal/bytealg.MaxLen"], apart := false }
def FilterParsesSaid : Prop := filterParsesRow.holds Try.pinned (OpenSpec.ofChange filterParsesSpec)

/-- ITS FALSE NEIGHBOUR: 'it returns false'. Refute it at one input. -/
def filterParsesWrong : ChangeSpec := { name := "filterParses", fn := fun _ => fun
  | [d] => { results := [.lit (.bool false)], args := [d] }
  | _ => none }
def FilterParsesWrongFalsely : Prop := filterParsesRow.holds Try.pinned (OpenSpec.ofChange filterParsesWrong)

/-- 'burgesslaw16.FilterLooks': WHATEVER THE INPUT: true; the input reads as it did. -/
def filterLooksSpec : ChangeSpec := { name := "filterLooks", fn := fun _ => fun
  | [d1, d2] => { results := [.lit (.bool true)], args := [d1, d2] }
  | _ => none }
def filterLooksRow : OpenClaim := { program := "ytekocbphdckmkaa", sum := "1dd26603ff668612bc5949ecbd4f832405cfca68eee8a349c0c63b32174d8f88", func := "burgess/burgesslaw16.FilterLooks", spec := "filterLooks", inPlace := ["internal/bytealg.IndexByteString", "internal/bytealg.IndexString"], unfollowed := true, recurses := true, named := ["internal/bytealg.MaxLen"], loops := true, apart := false }
def FilterLooksSaid : Prop := filterLooksRow.holds Try.pinned (OpenSpec.ofChange filterLooksSpec)

/-- ITS FALSE NEIGHBOUR: 'it returns false'. Refute it at one input. -/
def filterLooksWrong : ChangeSpec := { name := "filterLooks", fn := fun _ => fun
  | [d1, d2] => { results := [.lit (.bool false)], args := [d1, d2] }
  | _ => none }
def FilterLooksWrongFalsely : Prop := filterLooksRow.holds Try.pinned (OpenSpec.ofChange filterLooksWrong)

/-- 'burgesslaw16.FilterBack': WHATEVER THE INPUT: true; the input reads as it did. -/
def filterBackSpec : ChangeSpec := { name := "filterBack", fn := fun _ => fun
  | [d] => { results := [.lit (.bool true)], args := [d] }
  | _ => none }
def filterBackRow : OpenClaim := { program := "ytekocbphdckmkaa", sum := "1dd26603ff668612bc5949ecbd4f832405cfca68eee8a349c0c63b32174d8f88", func := "burgess/burgesslaw16.FilterBack", spec := "filterBack", inPlace := ["internal/bytealg.IndexByteString", "internal/bytealg.IndexString"], recurses := true, named := ["internal/bytealg.MaxLen"], loops := true, apart := false }
def FilterBackSaid : Prop := filterBackRow.holds Try.pinned (OpenSpec.ofChange filterBackSpec)

/-- ITS FALSE NEIGHBOUR: 'it returns false'. Refute it at one input. -/
def filterBackWrong : ChangeSpec := { name := "filterBack", fn := fun _ => fun
  | [d] => { results := [.lit (.bool false)], args := [d] }
  | _ => none }
def FilterBackWrongFalsely : Prop := filterBackRow.holds Try.pinned (OpenSpec.ofChange filterBackWrong)

/-- 'burgesslaw16.FilterSettles': WHATEVER THE INPUT: true; the input reads as it did. -/
def filterSettlesSpec : ChangeSpec := { name := "filterSettles", fn := fun _ => fun
  | [d] => { results := [.lit (.bool true)], args := [d] }
  | _ => none }
def filterSettlesRow : OpenClaim := { program := "ytekocbphdckmkaa", sum := "1dd26603ff668612bc5949ecbd4f832405cfca68eee8a349c0c63b32174d8f88", func := "burgess/burgesslaw16.FilterSettles", spec := "filterSettles", inPlace := ["internal/bytealg.IndexByteString", "internal/bytealg.IndexString"], recurses := true, named := ["internal/bytealg.MaxLen"], apart := false }
def FilterSettlesSaid : Prop := filterSettlesRow.holds Try.pinned (OpenSpec.ofChange filterSettlesSpec)

/-- ITS FALSE NEIGHBOUR: 'it returns false'. Refute it at one input. -/
def filterSettlesWrong : ChangeSpec := { name := "filterSettles", fn := fun _ => fun
  | [d] => { results := [.lit (.bool false)], args := [d] }
  | _ => none }
def FilterSettlesWrongFalsely : Prop := filterSettlesRow.holds Try.pinned (OpenSpec.ofChange filterSettlesWrong)

/-- 'burgesslaw16.FilterDeep': WHATEVER THE INPUT: true; the input reads as it did. -/
def filterDeepSpec : ChangeSpec := { name := "filterDeep", fn := fun _ => fun
  | [d] => { results := [.lit (.bool true)], args := [d] }
  | _ => none }
def filterDeepRow : OpenClaim := { program := "ytekocbphdckmkaa", sum := "1dd26603ff668612bc5949ecbd4f832405cfca68eee8a349c0c63b32174d8f88", func := "burgess/burgesslaw16.FilterDeep", spec := "filterDeep", inPlace := ["internal/bytealg.IndexByteString", "internal/bytealg.IndexString"], recurses := true, named := ["internal/bytealg.MaxLen"], apart := false }
def FilterDeepSaid : Prop := filterDeepRow.holds Try.pinned (OpenSpec.ofChange filterDeepSpec)

/-- ITS FALSE NEIGHBOUR: 'it returns false'. Refute it at one input. -/
def filterDeepWrong : ChangeSpec := { name := "filterDeep", fn := fun _ => fun
  | [d] => { results := [.lit (.bool false)], args := [d] }
  | _ => none }
def FilterDeepWrongFalsely : Prop := filterDeepRow.holds Try.pinned (OpenSpec.ofChange filterDeepWrong)

/- THE SECOND FORM. 'bulk': how many values and letters a reading holds, each counted each time it is reached (what is shared counts as often as it is met; a slice's spare places count too). A statement '..UptoSaid' is the law's where the arguments, and the package variables that the reading takes, are together of bulk at most 1048576: NARROWER than '..Said'. Prove '..Said' where nothing that the law and all that it calls make is longer than what came in: it says more and counts as full. Else prove '..UptoSaid'. A law counts once. -/
mutual
def uptoBulk {H : Type} : DataW H → Nat
  | .lit (.string bytes) => bytes.length + 1
  | .lit _ => 1
  | .nil => 1
  | .ptr d => uptoBulk d + 1
  | .slice elems spare => uptoBulkAll elems + uptoBulkAll spare + 1
  | .agg parts => uptoBulkAll parts + 1
  | .iface _ d => uptoBulk d + 1
  | .map entries => uptoBulkEntries entries + 1
  | .held _ => 1
def uptoBulkAll {H : Type} : List (DataW H) → Nat
  | [] => 0
  | d :: r => uptoBulk d + uptoBulkAll r
def uptoBulkEntries {H : Type} : List (Lit × DataW H) → Nat
  | [] => 0
  | x :: r => uptoBulkEntry x + uptoBulkEntries r
def uptoBulkEntry {H : Type} : Lit × DataW H → Nat
  | (.string bytes, d) => bytes.length + uptoBulk d + 1
  | (_, d) => uptoBulk d + 1
 end
def uptoSmall : (H : Type) → List (DataW H) → Bool := fun _ ds => decide (uptoBulkAll ds ≤ 1048576)
def OpenSpec.upto (s : _root_.Go.ChangeSpec) : _root_.Go.OpenSpec := { _root_.Go.OpenSpec.ofChange s with cond := some uptoSmall }

/-- 'burgesslaw16.FilterParses', WHERE WHAT IT READS IS OF BULK AT MOST 1048576: true; the input reads as it did. -/
def filterParsesUptoRow : OpenClaim := { program := "ytekocbphdckmkaa", sum := "1dd26603ff668612bc5949ecbd4f832405cfca68eee8a349c0c63b32174d8f88", func := "burgess/burgesslaw16.FilterParses", spec := "filterParses", inPlace := ["internal/bytealg.IndexByteString", "internal/bytealg.IndexString"], recurses := true, named := ["internal/bytealg.MaxLen"], apart := false, narrowed := true }
def FilterParsesUptoSaid : Prop := filterParsesUptoRow.holds Try.pinned (OpenSpec.upto filterParsesSpec)

/-- 'burgesslaw16.FilterLooks', WHERE WHAT IT READS IS OF BULK AT MOST 1048576: true; the input reads as it did. -/
def filterLooksUptoRow : OpenClaim := { program := "ytekocbphdckmkaa", sum := "1dd26603ff668612bc5949ecbd4f832405cfca68eee8a349c0c63b32174d8f88", func := "burgess/burgesslaw16.FilterLooks", spec := "filterLooks", inPlace := ["internal/bytealg.IndexByteString", "internal/bytealg.IndexString"], unfollowed := true, recurses := true, named := ["internal/bytealg.MaxLen"], loops := true, apart := false, narrowed := true }
def FilterLooksUptoSaid : Prop := filterLooksUptoRow.holds Try.pinned (OpenSpec.upto filterLooksSpec)

/-- 'burgesslaw16.FilterBack', WHERE WHAT IT READS IS OF BULK AT MOST 1048576: true; the input reads as it did. -/
def filterBackUptoRow : OpenClaim := { program := "ytekocbphdckmkaa", sum := "1dd26603ff668612bc5949ecbd4f832405cfca68eee8a349c0c63b32174d8f88", func := "burgess/burgesslaw16.FilterBack", spec := "filterBack", inPlace := ["internal/bytealg.IndexByteString", "internal/bytealg.IndexString"], recurses := true, named := ["internal/bytealg.MaxLen"], loops := true, apart := false, narrowed := true }
def FilterBackUptoSaid : Prop := filterBackUptoRow.holds Try.pinned (OpenSpec.upto filterBackSpec)

/-- 'burgesslaw16.FilterSettles', WHERE WHAT IT READS IS OF BULK AT MOST 1048576: true; the input reads as it did. -/
def filterSettlesUptoRow : OpenClaim := { program := "ytekocbphdckmkaa", sum := "1dd26603ff668612bc5949ecbd4f832405cfca68eee8a349c0c63b32174d8f88", func := "burgess/burgesslaw16.FilterSettles", spec := "filterSettles", inPlace := ["internal/bytealg.IndexByteString", "internal/bytealg.IndexString"], recurses := true, named := ["internal/bytealg.MaxLen"], apart := false, narrowed := true }
def FilterSettlesUptoSaid : Prop := filterSettlesUptoRow.holds Try.pinned (OpenSpec.upto filterSettlesSpec)

/-- 'burgesslaw16.FilterDeep', WHERE WHAT IT READS IS OF BULK AT MOST 1048576: true; the input reads as it did. -/
def filterDeepUptoRow : OpenClaim := { program := "ytekocbphdckmkaa", sum := "1dd26603ff668612bc5949ecbd4f832405cfca68eee8a349c0c63b32174d8f88", func := "burgess/burgesslaw16.FilterDeep", spec := "filterDeep", inPlace := ["internal/bytealg.IndexByteString", "internal/bytealg.IndexString"], recurses := true, named := ["internal/bytealg.MaxLen"], apart := false, narrowed := true }
def FilterDeepUptoSaid : Prop := filterDeepUptoRow.holds Try.pinned (OpenSpec.upto filterDeepSpec)

end Rows
end Go.Proofs.Ytekocbphdckmkaa
