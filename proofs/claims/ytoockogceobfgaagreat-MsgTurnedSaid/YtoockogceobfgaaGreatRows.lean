/-
  NARROWER THAN 'FOR EVERY INPUT', by the rows' own cells (each row's printed sentence says how): MsgBack: loops · MsgControls: loops · MsgTurned: loops · SessPieces: loops.
  DERIVED. THE GIVEN ROWS OF THIS SEAT. 6 by the template 'for every input the law returns true; each argument reads behind the call as it read before'; 0 by the template 'total and deterministic' (their statements: YtoockogceobfgaaGreatTotals.lean).
  GIVEN WITH THE SEED: the statements are not yours to turn. If you find one false, say at which input.
  Laid BY PROGRAM, IN A SANDBOX (cutbox-rows.mjs): the forced cells as the released guide's own fill.sh prints them over the translation a27ac2e8bca6fcb1… (all of the seat's roots in one cut). By AI agents, Wed Nov 11 2026. No macro, syntax, notation, axiom, sorry.
-/
import Derived.Test.YtoockogceobfgaaGreatChecked
import GoSem.Claim
import GoSem.ClaimJoined
import GoSem.ClaimMapViews
import Derived.JoinedTies
import Derived.KernelRfl
namespace Go.Proofs.YtoockogceobfgaaGreat
/- THE CELL 'sum', in the pinned program and in every row, IS THE sha256 OF THE DUMP (.gsa) THAT YtoockogceobfgaaGreatProg.lean LOADS. Nothing in Lean hashes anything: it is a label: what it is worth is what the hold of that sum in a sandbox is worth. -/
noncomputable def Tryz.pinned : Pinned := { name := "ytoockogceobfgaagreat", sum := "a27ac2e8bca6fcb1c6df7b39b540b836652e254ed97a3fbe7311ff619fc32f1d", checked := Tryz.checked }
namespace Rows
def none {H : Type} : Left H := { results := [], args := [] }

/-- 'burgesslaw25.MsgDecodes': WHATEVER THE INPUT: true; the input reads as it did. -/
def msgDecodesSpec : ChangeSpec := { name := "msgDecodes", fn := fun _ => fun
  | [d] => { results := [.lit (.bool true)], args := [d] }
  | _ => none }
def msgDecodesRow : OpenClaim := { program := "ytoockogceobfgaagreat", sum := "a27ac2e8bca6fcb1c6df7b39b540b836652e254ed97a3fbe7311ff619fc32f1d", func := "burgess/burgesslaw25.MsgDecodes", spec := "msgDecodes", unfollowed := true, recurses := true, apart := false }
def MsgDecodesSaid : Prop := msgDecodesRow.holds Tryz.pinned (OpenSpec.ofChange msgDecodesSpec)

/-- ITS FALSE NEIGHBOUR: 'it returns false'. Refute it at one input. -/
def msgDecodesWrong : ChangeSpec := { name := "msgDecodes", fn := fun _ => fun
  | [d] => { results := [.lit (.bool false)], args := [d] }
  | _ => none }
def MsgDecodesWrongFalsely : Prop := msgDecodesRow.holds Tryz.pinned (OpenSpec.ofChange msgDecodesWrong)

/-- 'burgesslaw25.MsgBack': WHATEVER THE INPUT: true; the input reads as it did. -/
def msgBackSpec : ChangeSpec := { name := "msgBack", fn := fun _ => fun
  | [d] => { results := [.lit (.bool true)], args := [d] }
  | _ => none }
def msgBackRow : OpenClaim := { program := "ytoockogceobfgaagreat", sum := "a27ac2e8bca6fcb1c6df7b39b540b836652e254ed97a3fbe7311ff619fc32f1d", func := "burgess/burgesslaw25.MsgBack", spec := "msgBack", unfollowed := true, recurses := true, loops := true, apart := false }
def MsgBackSaid : Prop := msgBackRow.holds Tryz.pinned (OpenSpec.ofChange msgBackSpec)

/-- ITS FALSE NEIGHBOUR: 'it returns false'. Refute it at one input. -/
def msgBackWrong : ChangeSpec := { name := "msgBack", fn := fun _ => fun
  | [d] => { results := [.lit (.bool false)], args := [d] }
  | _ => none }
def MsgBackWrongFalsely : Prop := msgBackRow.holds Tryz.pinned (OpenSpec.ofChange msgBackWrong)

/-- 'burgesslaw25.MsgControls': WHATEVER THE INPUT: true; the input reads as it did. -/
def msgControlsSpec : ChangeSpec := { name := "msgControls", fn := fun _ => fun
  | [d1, d2] => { results := [.lit (.bool true)], args := [d1, d2] }
  | _ => none }
def msgControlsRow : OpenClaim := { program := "ytoockogceobfgaagreat", sum := "a27ac2e8bca6fcb1c6df7b39b540b836652e254ed97a3fbe7311ff619fc32f1d", func := "burgess/burgesslaw25.MsgControls", spec := "msgControls", unfollowed := true, recurses := true, loops := true, apart := false }
def MsgControlsSaid : Prop := msgControlsRow.holds Tryz.pinned (OpenSpec.ofChange msgControlsSpec)

/-- ITS FALSE NEIGHBOUR: 'it returns false'. Refute it at one input. -/
def msgControlsWrong : ChangeSpec := { name := "msgControls", fn := fun _ => fun
  | [d1, d2] => { results := [.lit (.bool false)], args := [d1, d2] }
  | _ => none }
def MsgControlsWrongFalsely : Prop := msgControlsRow.holds Tryz.pinned (OpenSpec.ofChange msgControlsWrong)

/-- 'burgesslaw25.MsgTurned': WHATEVER THE INPUT: true; the input reads as it did. -/
def msgTurnedSpec : ChangeSpec := { name := "msgTurned", fn := fun _ => fun
  | [d1, d2] => { results := [.lit (.bool true)], args := [d1, d2] }
  | _ => none }
def msgTurnedRow : OpenClaim := { program := "ytoockogceobfgaagreat", sum := "a27ac2e8bca6fcb1c6df7b39b540b836652e254ed97a3fbe7311ff619fc32f1d", func := "burgess/burgesslaw25.MsgTurned", spec := "msgTurned", unfollowed := true, recurses := true, loops := true, apart := false }
def MsgTurnedSaid : Prop := msgTurnedRow.holds Tryz.pinned (OpenSpec.ofChange msgTurnedSpec)

/-- ITS FALSE NEIGHBOUR: 'it returns false'. Refute it at one input. -/
def msgTurnedWrong : ChangeSpec := { name := "msgTurned", fn := fun _ => fun
  | [d1, d2] => { results := [.lit (.bool false)], args := [d1, d2] }
  | _ => none }
def MsgTurnedWrongFalsely : Prop := msgTurnedRow.holds Tryz.pinned (OpenSpec.ofChange msgTurnedWrong)

/-- 'burgesslaw26.SessTakes': WHATEVER THE INPUT: true; the input reads as it did. -/
def sessTakesSpec : ChangeSpec := { name := "sessTakes", fn := fun _ => fun
  | [d] => { results := [.lit (.bool true)], args := [d] }
  | _ => none }
def sessTakesRow : OpenClaim := { program := "ytoockogceobfgaagreat", sum := "a27ac2e8bca6fcb1c6df7b39b540b836652e254ed97a3fbe7311ff619fc32f1d", func := "burgess/burgesslaw26.SessTakes", spec := "sessTakes", unfollowed := true, recurses := true, apart := false }
def SessTakesSaid : Prop := sessTakesRow.holds Tryz.pinned (OpenSpec.ofChange sessTakesSpec)

/-- ITS FALSE NEIGHBOUR: 'it returns false'. Refute it at one input. -/
def sessTakesWrong : ChangeSpec := { name := "sessTakes", fn := fun _ => fun
  | [d] => { results := [.lit (.bool false)], args := [d] }
  | _ => none }
def SessTakesWrongFalsely : Prop := sessTakesRow.holds Tryz.pinned (OpenSpec.ofChange sessTakesWrong)

/-- 'burgesslaw26.SessPieces': WHATEVER THE INPUT: true; the input reads as it did. -/
def sessPiecesSpec : ChangeSpec := { name := "sessPieces", fn := fun _ => fun
  | [d1, d2] => { results := [.lit (.bool true)], args := [d1, d2] }
  | _ => none }
def sessPiecesRow : OpenClaim := { program := "ytoockogceobfgaagreat", sum := "a27ac2e8bca6fcb1c6df7b39b540b836652e254ed97a3fbe7311ff619fc32f1d", func := "burgess/burgesslaw26.SessPieces", spec := "sessPieces", unfollowed := true, recurses := true, loops := true, apart := false }
def SessPiecesSaid : Prop := sessPiecesRow.holds Tryz.pinned (OpenSpec.ofChange sessPiecesSpec)

/-- ITS FALSE NEIGHBOUR: 'it returns false'. Refute it at one input. -/
def sessPiecesWrong : ChangeSpec := { name := "sessPieces", fn := fun _ => fun
  | [d1, d2] => { results := [.lit (.bool false)], args := [d1, d2] }
  | _ => none }
def SessPiecesWrongFalsely : Prop := sessPiecesRow.holds Tryz.pinned (OpenSpec.ofChange sessPiecesWrong)

/- THE SECOND FORM. 'bulk': how many values and letters a reading holds, each counted each time it is reached (what is shared counts as often as it is met; a slice's spare places count too). A statement '..UptoSaid' is the law's where the arguments, and the package variables that the reading takes, are together of bulk at most 1048576: NARROWER than '..Said'. Prove '..Said' where nothing that the law and all that it calls make is longer than what came in: it says more and counts as full. Else prove '..UptoSaid'. A law counts once. -/
mutual
def uptoBulk {H : Type} : DataW H → Nat
  | .lit (.string bytes) => bytes.length + 1
  | .lit _ => 1
  | .nil => 1
  | .ptr d => uptoBulk d + 1
  | .slice elems spare => uptoBulkAll elems + uptoBulkAll spare + 1
  | .agg parts => uptoBulkAll parts + 1
  | .iface _ d => uptoBulk d + 1
  | .map entries => uptoBulkEntries entries + 1
  | .held _ => 1
def uptoBulkAll {H : Type} : List (DataW H) → Nat
  | [] => 0
  | d :: r => uptoBulk d + uptoBulkAll r
def uptoBulkEntries {H : Type} : List (Lit × DataW H) → Nat
  | [] => 0
  | x :: r => uptoBulkEntry x + uptoBulkEntries r
def uptoBulkEntry {H : Type} : Lit × DataW H → Nat
  | (.string bytes, d) => bytes.length + uptoBulk d + 1
  | (_, d) => uptoBulk d + 1
 end
def uptoSmall : (H : Type) → List (DataW H) → Bool := fun _ ds => decide (uptoBulkAll ds ≤ 1048576)
def OpenSpec.upto (s : _root_.Go.ChangeSpec) : _root_.Go.OpenSpec := { _root_.Go.OpenSpec.ofChange s with cond := some uptoSmall }

/-- 'burgesslaw25.MsgDecodes', WHERE WHAT IT READS IS OF BULK AT MOST 1048576: true; the input reads as it did. -/
def msgDecodesUptoRow : OpenClaim := { program := "ytoockogceobfgaagreat", sum := "a27ac2e8bca6fcb1c6df7b39b540b836652e254ed97a3fbe7311ff619fc32f1d", func := "burgess/burgesslaw25.MsgDecodes", spec := "msgDecodes", unfollowed := true, recurses := true, apart := false, narrowed := true }
def MsgDecodesUptoSaid : Prop := msgDecodesUptoRow.holds Tryz.pinned (OpenSpec.upto msgDecodesSpec)

/-- 'burgesslaw25.MsgBack', WHERE WHAT IT READS IS OF BULK AT MOST 1048576: true; the input reads as it did. -/
def msgBackUptoRow : OpenClaim := { program := "ytoockogceobfgaagreat", sum := "a27ac2e8bca6fcb1c6df7b39b540b836652e254ed97a3fbe7311ff619fc32f1d", func := "burgess/burgesslaw25.MsgBack", spec := "msgBack", unfollowed := true, recurses := true, loops := true, apart := false, narrowed := true }
def MsgBackUptoSaid : Prop := msgBackUptoRow.holds Tryz.pinned (OpenSpec.upto msgBackSpec)

/-- 'burgesslaw25.MsgControls', WHERE WHAT IT READS IS OF BULK AT MOST 1048576: true; the input reads as it did. -/
def msgControlsUptoRow : OpenClaim := { program := "ytoockogceobfgaagreat", sum := "a27ac2e8bca6fcb1c6df7b39b540b836652e254ed97a3fbe7311ff619fc32f1d", func := "burgess/burgesslaw25.MsgControls", spec := "msgControls", unfollowed := true, recurses := true, loops := true, apart := false, narrowed := true }
def MsgControlsUptoSaid : Prop := msgControlsUptoRow.holds Tryz.pinned (OpenSpec.upto msgControlsSpec)

/-- 'burgesslaw25.MsgTurned', WHERE WHAT IT READS IS OF BULK AT MOST 1048576: true; the input reads as it did. -/
def msgTurnedUptoRow : OpenClaim := { program := "ytoockogceobfgaagreat", sum := "a27ac2e8bca6fcb1c6df7b39b540b836652e254ed97a3fbe7311ff619fc32f1d", func := "burgess/burgesslaw25.MsgTurned", spec := "msgTurned", unfollowed := true, recurses := true, loops := true, apart := false, narrowed := true }
def MsgTurnedUptoSaid : Prop := msgTurnedUptoRow.holds Tryz.pinned (OpenSpec.upto msgTurnedSpec)

/-- 'burgesslaw26.SessTakes', WHERE WHAT IT READS IS OF BULK AT MOST 1048576: true; the input reads as it did. -/
def sessTakesUptoRow : OpenClaim := { program := "ytoockogceobfgaagreat", sum := "a27ac2e8bca6fcb1c6df7b39b540b836652e254ed97a3fbe7311ff619fc32f1d", func := "burgess/burgesslaw26.SessTakes", spec := "sessTakes", unfollowed := true, recurses := true, apart := false, narrowed := true }
def SessTakesUptoSaid : Prop := sessTakesUptoRow.holds Tryz.pinned (OpenSpec.upto sessTakesSpec)

/-- 'burgesslaw26.SessPieces', WHERE WHAT IT READS IS OF BULK AT MOST 1048576: true; the input reads as it did. -/
def sessPiecesUptoRow : OpenClaim := { program := "ytoockogceobfgaagreat", sum := "a27ac2e8bca6fcb1c6df7b39b540b836652e254ed97a3fbe7311ff619fc32f1d", func := "burgess/burgesslaw26.SessPieces", spec := "sessPieces", unfollowed := true, recurses := true, loops := true, apart := false, narrowed := true }
def SessPiecesUptoSaid : Prop := sessPiecesUptoRow.holds Tryz.pinned (OpenSpec.upto sessPiecesSpec)

end Rows
end Go.Proofs.YtoockogceobfgaaGreat
