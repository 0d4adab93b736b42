/-
  No cell of these rows narrows 'for every input' (looked for: loops, veiled, ifaces, maps, wideKeys, modest, calm, conditions, laid).
  DERIVED. THE GIVEN ROWS OF THIS SEAT. 3 by the template 'for every input the law returns true; each argument reads behind the call as it read before'; 0 by the template 'total and deterministic' (their statements: YtdfjldlfimbimaaTotals.lean).
  GIVEN WITH THE SEED: the statements are not yours to turn. If you find one false, say at which input.
  Laid BY PROGRAM, IN A SANDBOX (cutbox-rows.mjs): the forced cells as the released guide's own fill.sh prints them over the translation ad565f4f0e729290… (all of the seat's roots in one cut). By AI agents, Wed Nov 11 2026. No macro, syntax, notation, axiom, sorry.
-/
import Derived.Test.YtdfjldlfimbimaaChecked
import GoSem.Claim
import GoSem.ClaimJoined
import GoSem.ClaimMapViews
import Derived.JoinedTies
import Derived.KernelRfl
namespace Go.Proofs.Ytdfjldlfimbimaa
/- THE CELL 'sum', in the pinned program and in every row, IS THE sha256 OF THE DUMP (.gsa) THAT YtdfjldlfimbimaaProg.lean LOADS. Nothing in Lean hashes anything: it is a label: what it is worth is what the hold of that sum in a sandbox is worth. -/
noncomputable def Try.pinned : Pinned := { name := "ytdfjldlfimbimaa", sum := "ad565f4f0e729290daf497b3d34e199f8b190cf64c79aec4675620dd453f060a", checked := Try.checked }
namespace Rows
def none {H : Type} : Left H := { results := [], args := [] }

/-- 'burgesslaw14.SchemaTables': WHATEVER THE INPUT: true; the input reads as it did. -/
def schemaTablesSpec : ChangeSpec := { name := "schemaTables", fn := fun _ => fun
  | [d1, d2] => { results := [.lit (.bool true)], args := [d1, d2] }
  | _ => none }
def schemaTablesRow : OpenClaim := { program := "ytdfjldlfimbimaa", sum := "ad565f4f0e729290daf497b3d34e199f8b190cf64c79aec4675620dd453f060a", func := "burgess/burgesslaw14.SchemaTables", spec := "schemaTables", unfollowed := true, recurses := true, apart := false }
def SchemaTablesSaid : Prop := schemaTablesRow.holds Try.pinned (OpenSpec.ofChange schemaTablesSpec)

/-- ITS FALSE NEIGHBOUR: 'it returns false'. Refute it at one input. -/
def schemaTablesWrong : ChangeSpec := { name := "schemaTables", fn := fun _ => fun
  | [d1, d2] => { results := [.lit (.bool false)], args := [d1, d2] }
  | _ => none }
def SchemaTablesWrongFalsely : Prop := schemaTablesRow.holds Try.pinned (OpenSpec.ofChange schemaTablesWrong)

/-- 'burgesslaw14.SchemaChecks': WHATEVER THE INPUT: true; the input reads as it did. -/
def schemaChecksSpec : ChangeSpec := { name := "schemaChecks", fn := fun _ => fun
  | [d] => { results := [.lit (.bool true)], args := [d] }
  | _ => none }
def schemaChecksRow : OpenClaim := { program := "ytdfjldlfimbimaa", sum := "ad565f4f0e729290daf497b3d34e199f8b190cf64c79aec4675620dd453f060a", func := "burgess/burgesslaw14.SchemaChecks", spec := "schemaChecks", apart := false }
def SchemaChecksSaid : Prop := schemaChecksRow.holds Try.pinned (OpenSpec.ofChange schemaChecksSpec)

/-- ITS FALSE NEIGHBOUR: 'it returns false'. Refute it at one input. -/
def schemaChecksWrong : ChangeSpec := { name := "schemaChecks", fn := fun _ => fun
  | [d] => { results := [.lit (.bool false)], args := [d] }
  | _ => none }
def SchemaChecksWrongFalsely : Prop := schemaChecksRow.holds Try.pinned (OpenSpec.ofChange schemaChecksWrong)

/-- 'burgesslaw14.SchemaMusts': WHATEVER THE INPUT: true; the input reads as it did. -/
def schemaMustsSpec : ChangeSpec := { name := "schemaMusts", fn := fun _ => fun
  | [d1, d2] => { results := [.lit (.bool true)], args := [d1, d2] }
  | _ => none }
def schemaMustsRow : OpenClaim := { program := "ytdfjldlfimbimaa", sum := "ad565f4f0e729290daf497b3d34e199f8b190cf64c79aec4675620dd453f060a", func := "burgess/burgesslaw14.SchemaMusts", spec := "schemaMusts", apart := false }
def SchemaMustsSaid : Prop := schemaMustsRow.holds Try.pinned (OpenSpec.ofChange schemaMustsSpec)

/-- ITS FALSE NEIGHBOUR: 'it returns false'. Refute it at one input. -/
def schemaMustsWrong : ChangeSpec := { name := "schemaMusts", fn := fun _ => fun
  | [d1, d2] => { results := [.lit (.bool false)], args := [d1, d2] }
  | _ => none }
def SchemaMustsWrongFalsely : Prop := schemaMustsRow.holds Try.pinned (OpenSpec.ofChange schemaMustsWrong)

/- THE SECOND FORM. 'bulk': how many values and letters a reading holds, each counted each time it is reached (what is shared counts as often as it is met; a slice's spare places count too). A statement '..UptoSaid' is the law's where the arguments, and the package variables that the reading takes, are together of bulk at most 1048576: NARROWER than '..Said'. Prove '..Said' where nothing that the law and all that it calls make is longer than what came in: it says more and counts as full. Else prove '..UptoSaid'. A law counts once. -/
mutual
def uptoBulk {H : Type} : DataW H → Nat
  | .lit (.string bytes) => bytes.length + 1
  | .lit _ => 1
  | .nil => 1
  | .ptr d => uptoBulk d + 1
  | .slice elems spare => uptoBulkAll elems + uptoBulkAll spare + 1
  | .agg parts => uptoBulkAll parts + 1
  | .iface _ d => uptoBulk d + 1
  | .map entries => uptoBulkEntries entries + 1
  | .held _ => 1
def uptoBulkAll {H : Type} : List (DataW H) → Nat
  | [] => 0
  | d :: r => uptoBulk d + uptoBulkAll r
def uptoBulkEntries {H : Type} : List (Lit × DataW H) → Nat
  | [] => 0
  | x :: r => uptoBulkEntry x + uptoBulkEntries r
def uptoBulkEntry {H : Type} : Lit × DataW H → Nat
  | (.string bytes, d) => bytes.length + uptoBulk d + 1
  | (_, d) => uptoBulk d + 1
 end
def uptoSmall : (H : Type) → List (DataW H) → Bool := fun _ ds => decide (uptoBulkAll ds ≤ 1048576)
def OpenSpec.upto (s : _root_.Go.ChangeSpec) : _root_.Go.OpenSpec := { _root_.Go.OpenSpec.ofChange s with cond := some uptoSmall }

/-- 'burgesslaw14.SchemaTables', WHERE WHAT IT READS IS OF BULK AT MOST 1048576: true; the input reads as it did. -/
def schemaTablesUptoRow : OpenClaim := { program := "ytdfjldlfimbimaa", sum := "ad565f4f0e729290daf497b3d34e199f8b190cf64c79aec4675620dd453f060a", func := "burgess/burgesslaw14.SchemaTables", spec := "schemaTables", unfollowed := true, recurses := true, apart := false, narrowed := true }
def SchemaTablesUptoSaid : Prop := schemaTablesUptoRow.holds Try.pinned (OpenSpec.upto schemaTablesSpec)

/-- 'burgesslaw14.SchemaChecks', WHERE WHAT IT READS IS OF BULK AT MOST 1048576: true; the input reads as it did. -/
def schemaChecksUptoRow : OpenClaim := { program := "ytdfjldlfimbimaa", sum := "ad565f4f0e729290daf497b3d34e199f8b190cf64c79aec4675620dd453f060a", func := "burgess/burgesslaw14.SchemaChecks", spec := "schemaChecks", apart := false, narrowed := true }
def SchemaChecksUptoSaid : Prop := schemaChecksUptoRow.holds Try.pinned (OpenSpec.upto schemaChecksSpec)

/-- 'burgesslaw14.SchemaMusts', WHERE WHAT IT READS IS OF BULK AT MOST 1048576: true; the input reads as it did. -/
def schemaMustsUptoRow : OpenClaim := { program := "ytdfjldlfimbimaa", sum := "ad565f4f0e729290daf497b3d34e199f8b190cf64c79aec4675620dd453f060a", func := "burgess/burgesslaw14.SchemaMusts", spec := "schemaMusts", apart := false, narrowed := true }
def SchemaMustsUptoSaid : Prop := schemaMustsUptoRow.holds Try.pinned (OpenSpec.upto schemaMustsSpec)

end Rows
end Go.Proofs.Ytdfjldlfimbimaa
