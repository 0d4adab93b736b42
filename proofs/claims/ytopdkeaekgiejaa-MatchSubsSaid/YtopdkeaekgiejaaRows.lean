/-
  No cell of these rows narrows 'for every input' (looked for: loops, veiled, ifaces, maps, wideKeys, modest, calm, conditions, laid).
  DERIVED. THE GIVEN ROWS OF THIS SEAT. 7 by the template 'for every input the law returns true; each argument reads behind the call as it read before'; 0 by the template 'total and deterministic' (their statements: YtopdkeaekgiejaaTotals.lean).
  GIVEN WITH THE SEED: the statements are not yours to turn. If you find one false, say at which input.
  Laid BY PROGRAM, IN A SANDBOX (cutbox-rows.mjs): the forced cells as the released guide's own fill.sh prints them over the translation e8f425a5e72472f8… (all of the seat's roots in one cut). By AI agents, Wed Nov 11 2026. No macro, syntax, notation, axiom, sorry.
-/
import Derived.Test.YtopdkeaekgiejaaChecked
import GoSem.Claim
import GoSem.ClaimJoined
import GoSem.ClaimMapViews
import Derived.JoinedTies
import Derived.KernelRfl
namespace Go.Proofs.Ytopdkeaekgiejaa
/- THE CELL 'sum', in the pinned program and in every row, IS THE sha256 OF THE DUMP (.gsa) THAT YtopdkeaekgiejaaProg.lean LOADS. Nothing in Lean hashes anything: it is a label: what it is worth is what the hold of that sum in a sandbox is worth. -/
noncomputable def Try.pinned : Pinned := { name := "ytopdkeaekgiejaa", sum := "e8f425a5e72472f80cd5777f465e4891c76674994dd72b2f9ad4f739a18a1bed", checked := Try.checked }
namespace Rows
def none {H : Type} : Left H := { results := [], args := [] }

/-- 'burgesslaw14.SchemaTables': WHATEVER THE INPUT: true; the input reads as it did. -/
def schemaTablesSpec : ChangeSpec := { name := "schemaTables", fn := fun _ => fun
  | [d1, d2] => { results := [.lit (.bool true)], args := [d1, d2] }
  | _ => none }
def schemaTablesRow : OpenClaim := { program := "ytopdkeaekgiejaa", sum := "e8f425a5e72472f80cd5777f465e4891c76674994dd72b2f9ad4f739a18a1bed", func := "burgess/burgesslaw14.SchemaTables", spec := "schemaTables", unfollowed := true, recurses := true, apart := false }
def SchemaTablesSaid : Prop := schemaTablesRow.holds Try.pinned (OpenSpec.ofChange schemaTablesSpec)

/-- ITS FALSE NEIGHBOUR: 'it returns false'. Refute it at one input. -/
def schemaTablesWrong : ChangeSpec := { name := "schemaTables", fn := fun _ => fun
  | [d1, d2] => { results := [.lit (.bool false)], args := [d1, d2] }
  | _ => none }
def SchemaTablesWrongFalsely : Prop := schemaTablesRow.holds Try.pinned (OpenSpec.ofChange schemaTablesWrong)

/-- 'burgesslaw14.SchemaChecks': WHATEVER THE INPUT: true; the input reads as it did. -/
def schemaChecksSpec : ChangeSpec := { name := "schemaChecks", fn := fun _ => fun
  | [d] => { results := [.lit (.bool true)], args := [d] }
  | _ => none }
def schemaChecksRow : OpenClaim := { program := "ytopdkeaekgiejaa", sum := "e8f425a5e72472f80cd5777f465e4891c76674994dd72b2f9ad4f739a18a1bed", func := "burgess/burgesslaw14.SchemaChecks", spec := "schemaChecks", apart := false }
def SchemaChecksSaid : Prop := schemaChecksRow.holds Try.pinned (OpenSpec.ofChange schemaChecksSpec)

/-- ITS FALSE NEIGHBOUR: 'it returns false'. Refute it at one input. -/
def schemaChecksWrong : ChangeSpec := { name := "schemaChecks", fn := fun _ => fun
  | [d] => { results := [.lit (.bool false)], args := [d] }
  | _ => none }
def SchemaChecksWrongFalsely : Prop := schemaChecksRow.holds Try.pinned (OpenSpec.ofChange schemaChecksWrong)

/-- 'burgesslaw14.SchemaMusts': WHATEVER THE INPUT: true; the input reads as it did. -/
def schemaMustsSpec : ChangeSpec := { name := "schemaMusts", fn := fun _ => fun
  | [d1, d2] => { results := [.lit (.bool true)], args := [d1, d2] }
  | _ => none }
def schemaMustsRow : OpenClaim := { program := "ytopdkeaekgiejaa", sum := "e8f425a5e72472f80cd5777f465e4891c76674994dd72b2f9ad4f739a18a1bed", func := "burgess/burgesslaw14.SchemaMusts", spec := "schemaMusts", apart := false }
def SchemaMustsSaid : Prop := schemaMustsRow.holds Try.pinned (OpenSpec.ofChange schemaMustsSpec)

/-- ITS FALSE NEIGHBOUR: 'it returns false'. Refute it at one input. -/
def schemaMustsWrong : ChangeSpec := { name := "schemaMusts", fn := fun _ => fun
  | [d1, d2] => { results := [.lit (.bool false)], args := [d1, d2] }
  | _ => none }
def SchemaMustsWrongFalsely : Prop := schemaMustsRow.holds Try.pinned (OpenSpec.ofChange schemaMustsWrong)

/-- 'burgesslaw15.MatchNorms': WHATEVER THE INPUT: true; the input reads as it did. -/
def matchNormsSpec : ChangeSpec := { name := "matchNorms", fn := fun _ => fun
  | [d1, d2] => { results := [.lit (.bool true)], args := [d1, d2] }
  | _ => none }
def matchNormsRow : OpenClaim := { program := "ytopdkeaekgiejaa", sum := "e8f425a5e72472f80cd5777f465e4891c76674994dd72b2f9ad4f739a18a1bed", func := "burgess/burgesslaw15.MatchNorms", spec := "matchNorms", inPlace := ["internal/bytealg.IndexByteString", "internal/bytealg.IndexString"], named := ["internal/bytealg.MaxLen"], apart := false }
def MatchNormsSaid : Prop := matchNormsRow.holds Try.pinned (OpenSpec.ofChange matchNormsSpec)

/-- ITS FALSE NEIGHBOUR: 'it returns false'. Refute it at one input. -/
def matchNormsWrong : ChangeSpec := { name := "matchNorms", fn := fun _ => fun
  | [d1, d2] => { results := [.lit (.bool false)], args := [d1, d2] }
  | _ => none }
def MatchNormsWrongFalsely : Prop := matchNormsRow.holds Try.pinned (OpenSpec.ofChange matchNormsWrong)

/-- 'burgesslaw15.MatchSubs': WHATEVER THE INPUT: true; the input reads as it did. -/
def matchSubsSpec : ChangeSpec := { name := "matchSubs", fn := fun _ => fun
  | [d1, d2, d3] => { results := [.lit (.bool true)], args := [d1, d2, d3] }
  | _ => none }
def matchSubsRow : OpenClaim := { program := "ytopdkeaekgiejaa", sum := "e8f425a5e72472f80cd5777f465e4891c76674994dd72b2f9ad4f739a18a1bed", func := "burgess/burgesslaw15.MatchSubs", spec := "matchSubs", inPlace := ["internal/bytealg.IndexByteString", "internal/bytealg.IndexString"], named := ["internal/bytealg.MaxLen"], apart := false }
def MatchSubsSaid : Prop := matchSubsRow.holds Try.pinned (OpenSpec.ofChange matchSubsSpec)

/-- ITS FALSE NEIGHBOUR: 'it returns false'. Refute it at one input. -/
def matchSubsWrong : ChangeSpec := { name := "matchSubs", fn := fun _ => fun
  | [d1, d2, d3] => { results := [.lit (.bool false)], args := [d1, d2, d3] }
  | _ => none }
def MatchSubsWrongFalsely : Prop := matchSubsRow.holds Try.pinned (OpenSpec.ofChange matchSubsWrong)

/-- 'burgesslaw15.MatchOnce': WHATEVER THE INPUT: true; the input reads as it did. -/
def matchOnceSpec : ChangeSpec := { name := "matchOnce", fn := fun _ => fun
  | [d1, d2] => { results := [.lit (.bool true)], args := [d1, d2] }
  | _ => none }
def matchOnceRow : OpenClaim := { program := "ytopdkeaekgiejaa", sum := "e8f425a5e72472f80cd5777f465e4891c76674994dd72b2f9ad4f739a18a1bed", func := "burgess/burgesslaw15.MatchOnce", spec := "matchOnce", inPlace := ["internal/bytealg.IndexByteString", "internal/bytealg.IndexString"], named := ["internal/bytealg.MaxLen"], apart := false }
def MatchOnceSaid : Prop := matchOnceRow.holds Try.pinned (OpenSpec.ofChange matchOnceSpec)

/-- ITS FALSE NEIGHBOUR: 'it returns false'. Refute it at one input. -/
def matchOnceWrong : ChangeSpec := { name := "matchOnce", fn := fun _ => fun
  | [d1, d2] => { results := [.lit (.bool false)], args := [d1, d2] }
  | _ => none }
def MatchOnceWrongFalsely : Prop := matchOnceRow.holds Try.pinned (OpenSpec.ofChange matchOnceWrong)

/-- 'burgesslaw15.MatchWhole': WHATEVER THE INPUT: true; the input reads as it did. -/
def matchWholeSpec : ChangeSpec := { name := "matchWhole", fn := fun _ => fun
  | [d1, d2, d3] => { results := [.lit (.bool true)], args := [d1, d2, d3] }
  | _ => none }
def matchWholeRow : OpenClaim := { program := "ytopdkeaekgiejaa", sum := "e8f425a5e72472f80cd5777f465e4891c76674994dd72b2f9ad4f739a18a1bed", func := "burgess/burgesslaw15.MatchWhole", spec := "matchWhole", inPlace := ["internal/bytealg.IndexByteString", "internal/bytealg.IndexString"], named := ["internal/bytealg.MaxLen"], apart := false }
def MatchWholeSaid : Prop := matchWholeRow.holds Try.pinned (OpenSpec.ofChange matchWholeSpec)

/-- ITS FALSE NEIGHBOUR: 'it returns false'. Refute it at one input. -/
def matchWholeWrong : ChangeSpec := { name := "matchWhole", fn := fun _ => fun
  | [d1, d2, d3] => { results := [.lit (.bool false)], args := [d1, d2, d3] }
  | _ => none }
def MatchWholeWrongFalsely : Prop := matchWholeRow.holds Try.pinned (OpenSpec.ofChange matchWholeWrong)

/- THE SECOND FORM. 'bulk': how many values and letters a reading holds, each counted each time it is reached (what is shared counts as often as it is met; a slice's spare places count too). A statement '..UptoSaid' is the law's where the arguments, and the package variables that the reading takes, are together of bulk at most 1048576: NARROWER than '..Said'. Prove '..Said' where nothing that the law and all that it calls make is longer than what came in: it says more and counts as full. Else prove '..UptoSaid'. A law counts once. -/
mutual
def uptoBulk {H : Type} : DataW H → Nat
  | .lit (.string bytes) => bytes.length + 1
  | .lit _ => 1
  | .nil => 1
  | .ptr d => uptoBulk d + 1
  | .slice elems spare => uptoBulkAll elems + uptoBulkAll spare + 1
  | .agg parts => uptoBulkAll parts + 1
  | .iface _ d => uptoBulk d + 1
  | .map entries => uptoBulkEntries entries + 1
  | .held _ => 1
def uptoBulkAll {H : Type} : List (DataW H) → Nat
  | [] => 0
  | d :: r => uptoBulk d + uptoBulkAll r
def uptoBulkEntries {H : Type} : List (Lit × DataW H) → Nat
  | [] => 0
  | x :: r => uptoBulkEntry x + uptoBulkEntries r
def uptoBulkEntry {H : Type} : Lit × DataW H → Nat
  | (.string bytes, d) => bytes.length + uptoBulk d + 1
  | (_, d) => uptoBulk d + 1
 end
def uptoSmall : (H : Type) → List (DataW H) → Bool := fun _ ds => decide (uptoBulkAll ds ≤ 1048576)
def OpenSpec.upto (s : _root_.Go.ChangeSpec) : _root_.Go.OpenSpec := { _root_.Go.OpenSpec.ofChange s with cond := some uptoSmall }

/-- 'burgesslaw14.SchemaTables', WHERE WHAT IT READS IS OF BULK AT MOST 1048576: true; the input reads as it did. -/
def schemaTablesUptoRow : OpenClaim := { program := "ytopdkeaekgiejaa", sum := "e8f425a5e72472f80cd5777f465e4891c76674994dd72b2f9ad4f739a18a1bed", func := "burgess/burgesslaw14.SchemaTables", spec := "schemaTables", unfollowed := true, recurses := true, apart := false, narrowed := true }
def SchemaTablesUptoSaid : Prop := schemaTablesUptoRow.holds Try.pinned (OpenSpec.upto schemaTablesSpec)

/-- 'burgesslaw14.SchemaChecks', WHERE WHAT IT READS IS OF BULK AT MOST 1048576: true; the input reads as it did. -/
def schemaChecksUptoRow : OpenClaim := { program := "ytopdkeaekgiejaa", sum := "e8f425a5e72472f80cd5777f465e4891c76674994dd72b2f9ad4f739a18a1bed", func := "burgess/burgesslaw14.SchemaChecks", spec := "schemaChecks", apart := false, narrowed := true }
def SchemaChecksUptoSaid : Prop := schemaChecksUptoRow.holds Try.pinned (OpenSpec.upto schemaChecksSpec)

/-- 'burgesslaw14.SchemaMusts', WHERE WHAT IT READS IS OF BULK AT MOST 1048576: true; the input reads as it did. -/
def schemaMustsUptoRow : OpenClaim := { program := "ytopdkeaekgiejaa", sum := "e8f425a5e72472f80cd5777f465e4891c76674994dd72b2f9ad4f739a18a1bed", func := "burgess/burgesslaw14.SchemaMusts", spec := "schemaMusts", apart := false, narrowed := true }
def SchemaMustsUptoSaid : Prop := schemaMustsUptoRow.holds Try.pinned (OpenSpec.upto schemaMustsSpec)

/-- 'burgesslaw15.MatchNorms', WHERE WHAT IT READS IS OF BULK AT MOST 1048576: true; the input reads as it did. -/
def matchNormsUptoRow : OpenClaim := { program := "ytopdkeaekgiejaa", sum := "e8f425a5e72472f80cd5777f465e4891c76674994dd72b2f9ad4f739a18a1bed", func := "burgess/burgesslaw15.MatchNorms", spec := "matchNorms", inPlace := ["internal/bytealg.IndexByteString", "internal/bytealg.IndexString"], named := ["internal/bytealg.MaxLen"], apart := false, narrowed := true }
def MatchNormsUptoSaid : Prop := matchNormsUptoRow.holds Try.pinned (OpenSpec.upto matchNormsSpec)

/-- 'burgesslaw15.MatchSubs', WHERE WHAT IT READS IS OF BULK AT MOST 1048576: true; the input reads as it did. -/
def matchSubsUptoRow : OpenClaim := { program := "ytopdkeaekgiejaa", sum := "e8f425a5e72472f80cd5777f465e4891c76674994dd72b2f9ad4f739a18a1bed", func := "burgess/burgesslaw15.MatchSubs", spec := "matchSubs", inPlace := ["internal/bytealg.IndexByteString", "internal/bytealg.IndexString"], named := ["internal/bytealg.MaxLen"], apart := false, narrowed := true }
def MatchSubsUptoSaid : Prop := matchSubsUptoRow.holds Try.pinned (OpenSpec.upto matchSubsSpec)

/-- 'burgesslaw15.MatchOnce', WHERE WHAT IT READS IS OF BULK AT MOST 1048576: true; the input reads as it did. -/
def matchOnceUptoRow : OpenClaim := { program := "ytopdkeaekgiejaa", sum := "e8f425a5e72472f80cd5777f465e4891c76674994dd72b2f9ad4f739a18a1bed", func := "burgess/burgesslaw15.MatchOnce", spec := "matchOnce", inPlace := ["internal/bytealg.IndexByteString", "internal/bytealg.IndexString"], named := ["internal/bytealg.MaxLen"], apart := false, narrowed := true }
def MatchOnceUptoSaid : Prop := matchOnceUptoRow.holds Try.pinned (OpenSpec.upto matchOnceSpec)

/-- 'burgesslaw15.MatchWhole', WHERE WHAT IT READS IS OF BULK AT MOST 1048576: true; the input reads as it did. -/
def matchWholeUptoRow : OpenClaim := { program := "ytopdkeaekgiejaa", sum := "e8f425a5e72472f80cd5777f465e4891c76674994dd72b2f9ad4f739a18a1bed", func := "burgess/burgesslaw15.MatchWhole", spec := "matchWhole", inPlace := ["internal/bytealg.IndexByteString", "internal/bytealg.IndexString"], named := ["internal/bytealg.MaxLen"], apart := false, narrowed := true }
def MatchWholeUptoSaid : Prop := matchWholeUptoRow.holds Try.pinned (OpenSpec.upto matchWholeSpec)

end Rows
end Go.Proofs.Ytopdkeaekgiejaa
