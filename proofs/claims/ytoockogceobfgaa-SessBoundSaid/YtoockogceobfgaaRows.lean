/-
  No cell of these rows narrows 'for every input' (looked for: loops, veiled, ifaces, maps, wideKeys, modest, calm, conditions, laid).
  DERIVED. THE GIVEN ROWS OF THIS SEAT. 3 by the template 'for every input the law returns true; each argument reads behind the call as it read before'; 0 by the template 'total and deterministic' (their statements: YtoockogceobfgaaTotals.lean).
  GIVEN WITH THE SEED: the statements are not yours to turn. If you find one false, say at which input.
  Laid BY PROGRAM, IN A SANDBOX (cutbox-rows.mjs): the forced cells as the released guide's own fill.sh prints them over the translation 53b90c4daa3917c7… (all of the seat's roots in one cut). By AI agents, Wed Nov 11 2026. No macro, syntax, notation, axiom, sorry.
-/
import Derived.Test.YtoockogceobfgaaChecked
import GoSem.Claim
import GoSem.ClaimJoined
import GoSem.ClaimMapViews
import Derived.JoinedTies
import Derived.KernelRfl
namespace Go.Proofs.Ytoockogceobfgaa
/- THE CELL 'sum', in the pinned program and in every row, IS THE sha256 OF THE DUMP (.gsa) THAT YtoockogceobfgaaProg.lean LOADS. Nothing in Lean hashes anything: it is a label: what it is worth is what the hold of that sum in a sandbox is worth. -/
noncomputable def Try.pinned : Pinned := { name := "ytoockogceobfgaa", sum := "53b90c4daa3917c72ea1763aa9aa374e2d6123e45725f740911e5f47beec13b3", checked := Try.checked }
namespace Rows
def none {H : Type} : Left H := { results := [], args := [] }

/-- 'burgesslaw25.MsgResponses': WHATEVER THE INPUT: true; the input reads as it did. -/
def msgResponsesSpec : ChangeSpec := { name := "msgResponses", fn := fun _ => fun
  | [d1, d2, d3] => { results := [.lit (.bool true)], args := [d1, d2, d3] }
  | _ => none }
def msgResponsesRow : OpenClaim := { program := "ytoockogceobfgaa", sum := "53b90c4daa3917c72ea1763aa9aa374e2d6123e45725f740911e5f47beec13b3", func := "burgess/burgesslaw25.MsgResponses", spec := "msgResponses", unfollowed := true, recurses := true, apart := false }
def MsgResponsesSaid : Prop := msgResponsesRow.holds Try.pinned (OpenSpec.ofChange msgResponsesSpec)

/-- ITS FALSE NEIGHBOUR: 'it returns false'. Refute it at one input. -/
def msgResponsesWrong : ChangeSpec := { name := "msgResponses", fn := fun _ => fun
  | [d1, d2, d3] => { results := [.lit (.bool false)], args := [d1, d2, d3] }
  | _ => none }
def MsgResponsesWrongFalsely : Prop := msgResponsesRow.holds Try.pinned (OpenSpec.ofChange msgResponsesWrong)

/-- 'burgesslaw26.SessBound': WHATEVER THE INPUT: true; the input reads as it did. -/
def sessBoundSpec : ChangeSpec := { name := "sessBound", fn := fun _ => fun
  | [d1, d2] => { results := [.lit (.bool true)], args := [d1, d2] }
  | _ => none }
def sessBoundRow : OpenClaim := { program := "ytoockogceobfgaa", sum := "53b90c4daa3917c72ea1763aa9aa374e2d6123e45725f740911e5f47beec13b3", func := "burgess/burgesslaw26.SessBound", spec := "sessBound", unfollowed := true, recurses := true, apart := false }
def SessBoundSaid : Prop := sessBoundRow.holds Try.pinned (OpenSpec.ofChange sessBoundSpec)

/-- ITS FALSE NEIGHBOUR: 'it returns false'. Refute it at one input. -/
def sessBoundWrong : ChangeSpec := { name := "sessBound", fn := fun _ => fun
  | [d1, d2] => { results := [.lit (.bool false)], args := [d1, d2] }
  | _ => none }
def SessBoundWrongFalsely : Prop := sessBoundRow.holds Try.pinned (OpenSpec.ofChange sessBoundWrong)

/-- 'burgesslaw26.SessOfNothing': WHATEVER THE INPUT: true; the input reads as it did. -/
def sessOfNothingSpec : ChangeSpec := { name := "sessOfNothing", fn := fun _ => fun
  | [d] => { results := [.lit (.bool true)], args := [d] }
  | _ => none }
def sessOfNothingRow : OpenClaim := { program := "ytoockogceobfgaa", sum := "53b90c4daa3917c72ea1763aa9aa374e2d6123e45725f740911e5f47beec13b3", func := "burgess/burgesslaw26.SessOfNothing", spec := "sessOfNothing", unfollowed := true, recurses := true, apart := false }
def SessOfNothingSaid : Prop := sessOfNothingRow.holds Try.pinned (OpenSpec.ofChange sessOfNothingSpec)

/-- ITS FALSE NEIGHBOUR: 'it returns false'. Refute it at one input. -/
def sessOfNothingWrong : ChangeSpec := { name := "sessOfNothing", fn := fun _ => fun
  | [d] => { results := [.lit (.bool false)], args := [d] }
  | _ => none }
def SessOfNothingWrongFalsely : Prop := sessOfNothingRow.holds Try.pinned (OpenSpec.ofChange sessOfNothingWrong)

/- THE SECOND FORM. 'bulk': how many values and letters a reading holds, each counted each time it is reached (what is shared counts as often as it is met; a slice's spare places count too). A statement '..UptoSaid' is the law's where the arguments, and the package variables that the reading takes, are together of bulk at most 1048576: NARROWER than '..Said'. Prove '..Said' where nothing that the law and all that it calls make is longer than what came in: it says more and counts as full. Else prove '..UptoSaid'. A law counts once. -/
mutual
def uptoBulk {H : Type} : DataW H → Nat
  | .lit (.string bytes) => bytes.length + 1
  | .lit _ => 1
  | .nil => 1
  | .ptr d => uptoBulk d + 1
  | .slice elems spare => uptoBulkAll elems + uptoBulkAll spare + 1
  | .agg parts => uptoBulkAll parts + 1
  | .iface _ d => uptoBulk d + 1
  | .map entries => uptoBulkEntries entries + 1
  | .held _ => 1
def uptoBulkAll {H : Type} : List (DataW H) → Nat
  | [] => 0
  | d :: r => uptoBulk d + uptoBulkAll r
def uptoBulkEntries {H : Type} : List (Lit × DataW H) → Nat
  | [] => 0
  | x :: r => uptoBulkEntry x + uptoBulkEntries r
def uptoBulkEntry {H : Type} : Lit × DataW H → Nat
  | (.string bytes, d) => bytes.length + uptoBulk d + 1
  | (_, d) => uptoBulk d + 1
 end
def uptoSmall : (H : Type) → List (DataW H) → Bool := fun _ ds => decide (uptoBulkAll ds ≤ 1048576)
def OpenSpec.upto (s : _root_.Go.ChangeSpec) : _root_.Go.OpenSpec := { _root_.Go.OpenSpec.ofChange s with cond := some uptoSmall }

/-- 'burgesslaw25.MsgResponses', WHERE WHAT IT READS IS OF BULK AT MOST 1048576: true; the input reads as it did. -/
def msgResponsesUptoRow : OpenClaim := { program := "ytoockogceobfgaa", sum := "53b90c4daa3917c72ea1763aa9aa374e2d6123e45725f740911e5f47beec13b3", func := "burgess/burgesslaw25.MsgResponses", spec := "msgResponses", unfollowed := true, recurses := true, apart := false, narrowed := true }
def MsgResponsesUptoSaid : Prop := msgResponsesUptoRow.holds Try.pinned (OpenSpec.upto msgResponsesSpec)

/-- 'burgesslaw26.SessBound', WHERE WHAT IT READS IS OF BULK AT MOST 1048576: true; the input reads as it did. -/
def sessBoundUptoRow : OpenClaim := { program := "ytoockogceobfgaa", sum := "53b90c4daa3917c72ea1763aa9aa374e2d6123e45725f740911e5f47beec13b3", func := "burgess/burgesslaw26.SessBound", spec := "sessBound", unfollowed := true, recurses := true, apart := false, narrowed := true }
def SessBoundUptoSaid : Prop := sessBoundUptoRow.holds Try.pinned (OpenSpec.upto sessBoundSpec)

/-- 'burgesslaw26.SessOfNothing', WHERE WHAT IT READS IS OF BULK AT MOST 1048576: true; the input reads as it did. -/
def sessOfNothingUptoRow : OpenClaim := { program := "ytoockogceobfgaa", sum := "53b90c4daa3917c72ea1763aa9aa374e2d6123e45725f740911e5f47beec13b3", func := "burgess/burgesslaw26.SessOfNothing", spec := "sessOfNothing", unfollowed := true, recurses := true, apart := false, narrowed := true }
def SessOfNothingUptoSaid : Prop := sessOfNothingUptoRow.holds Try.pinned (OpenSpec.upto sessOfNothingSpec)

end Rows
end Go.Proofs.Ytoockogceobfgaa
