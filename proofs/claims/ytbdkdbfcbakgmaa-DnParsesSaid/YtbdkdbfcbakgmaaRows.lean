/-
  No cell of these rows narrows 'for every input' (looked for: loops, veiled, ifaces, maps, wideKeys, modest, calm, conditions, laid).
  DERIVED. THE GIVEN ROWS OF THIS SEAT. 13 by the template 'for every input the law returns true; each argument reads behind the call as it read before'; 0 by the template 'total and deterministic' (their statements: YtbdkdbfcbakgmaaTotals.lean).
  GIVEN WITH THE SEED: the statements are not yours to turn. If you find one false, say at which input.
  Laid BY PROGRAM, IN A SANDBOX (cutbox-rows.mjs): the forced cells as the released guide's own fill.sh prints them over the translation 78a8290f861c3104… (all of the seat's roots in one cut). By AI agents, Wed Nov 11 2026. No macro, syntax, notation, axiom, sorry.
-/
import Derived.Test.YtbdkdbfcbakgmaaChecked
import GoSem.Claim
import GoSem.ClaimJoined
import GoSem.ClaimMapViews
import Derived.JoinedTies
import Derived.KernelRfl
namespace Go.Proofs.Ytbdkdbfcbakgmaa
/- THE CELL 'sum', in the pinned program and in every row, IS THE sha256 OF THE DUMP (.gsa) THAT YtbdkdbfcbakgmaaProg.lean LOADS. Nothing in Lean hashes anything: it is a label: what it is worth is what the hold of that sum in a sandbox is worth. -/
noncomputable def Try.pinned : Pinned := { name := "ytbdkdbfcbakgmaa", sum := "78a8290f861c31047ff54475b3c8eddfa31fb3700c011d55d138581a7ec6f659", checked := Try.checked }
namespace Rows
def none {H : Type} : Left H := { results := [], args := [] }

/-- 'burgesslaw13.DnParses': WHATEVER THE INPUT: true; the input reads as it did. -/
def dnParsesSpec : ChangeSpec := { name := "dnParses", fn := fun _ => fun
  | [d] => { results := [.lit (.bool true)], args := [d] }
  | _ => none }
def dnParsesRow : OpenClaim := { program := "ytbdkdbfcbakgmaa", sum := "78a8290f861c31047ff54475b3c8eddfa31fb3700c011d55d138581a7ec6f659", func := "burgess/burgesslaw13.DnParses", spec := "dnParses", inPlace := ["internal/bytealg.IndexByteString"], apart := false }
def DnParsesSaid : Prop := dnParsesRow.holds Try.pinned (OpenSpec.ofChange dnParsesSpec)

/-- ITS FALSE NEIGHBOUR: 'it returns false'. Refute it at one input. -/
def dnParsesWrong : ChangeSpec := { name := "dnParses", fn := fun _ => fun
  | [d] => { results := [.lit (.bool false)], args := [d] }
  | _ => none }
def DnParsesWrongFalsely : Prop := dnParsesRow.holds Try.pinned (OpenSpec.ofChange dnParsesWrong)

/-- 'burgesslaw13.DnPrints': WHATEVER THE INPUT: true; the input reads as it did. -/
def dnPrintsSpec : ChangeSpec := { name := "dnPrints", fn := fun _ => fun
  | [d] => { results := [.lit (.bool true)], args := [d] }
  | _ => none }
def dnPrintsRow : OpenClaim := { program := "ytbdkdbfcbakgmaa", sum := "78a8290f861c31047ff54475b3c8eddfa31fb3700c011d55d138581a7ec6f659", func := "burgess/burgesslaw13.DnPrints", spec := "dnPrints", inPlace := ["internal/bytealg.IndexByteString"], apart := false }
def DnPrintsSaid : Prop := dnPrintsRow.holds Try.pinned (OpenSpec.ofChange dnPrintsSpec)

/-- ITS FALSE NEIGHBOUR: 'it returns false'. Refute it at one input. -/
def dnPrintsWrong : ChangeSpec := { name := "dnPrints", fn := fun _ => fun
  | [d] => { results := [.lit (.bool false)], args := [d] }
  | _ => none }
def DnPrintsWrongFalsely : Prop := dnPrintsRow.holds Try.pinned (OpenSpec.ofChange dnPrintsWrong)

/-- 'burgesslaw13.DnBack': WHATEVER THE INPUT: true; the input reads as it did. -/
def dnBackSpec : ChangeSpec := { name := "dnBack", fn := fun _ => fun
  | [d] => { results := [.lit (.bool true)], args := [d] }
  | _ => none }
def dnBackRow : OpenClaim := { program := "ytbdkdbfcbakgmaa", sum := "78a8290f861c31047ff54475b3c8eddfa31fb3700c011d55d138581a7ec6f659", func := "burgess/burgesslaw13.DnBack", spec := "dnBack", inPlace := ["internal/bytealg.IndexByteString"], apart := false }
def DnBackSaid : Prop := dnBackRow.holds Try.pinned (OpenSpec.ofChange dnBackSpec)

/-- ITS FALSE NEIGHBOUR: 'it returns false'. Refute it at one input. -/
def dnBackWrong : ChangeSpec := { name := "dnBack", fn := fun _ => fun
  | [d] => { results := [.lit (.bool false)], args := [d] }
  | _ => none }
def DnBackWrongFalsely : Prop := dnBackRow.holds Try.pinned (OpenSpec.ofChange dnBackWrong)

/-- 'burgesslaw13.DnAlike': WHATEVER THE INPUT: true; the input reads as it did. -/
def dnAlikeSpec : ChangeSpec := { name := "dnAlike", fn := fun _ => fun
  | [d1, d2] => { results := [.lit (.bool true)], args := [d1, d2] }
  | _ => none }
def dnAlikeRow : OpenClaim := { program := "ytbdkdbfcbakgmaa", sum := "78a8290f861c31047ff54475b3c8eddfa31fb3700c011d55d138581a7ec6f659", func := "burgess/burgesslaw13.DnAlike", spec := "dnAlike", inPlace := ["internal/bytealg.IndexByteString"], unfollowed := true, recurses := true, apart := false }
def DnAlikeSaid : Prop := dnAlikeRow.holds Try.pinned (OpenSpec.ofChange dnAlikeSpec)

/-- ITS FALSE NEIGHBOUR: 'it returns false'. Refute it at one input. -/
def dnAlikeWrong : ChangeSpec := { name := "dnAlike", fn := fun _ => fun
  | [d1, d2] => { results := [.lit (.bool false)], args := [d1, d2] }
  | _ => none }
def DnAlikeWrongFalsely : Prop := dnAlikeRow.holds Try.pinned (OpenSpec.ofChange dnAlikeWrong)

/-- 'burgesslaw13.DnFolds': WHATEVER THE INPUT: true; the input reads as it did. -/
def dnFoldsSpec : ChangeSpec := { name := "dnFolds", fn := fun _ => fun
  | [d1, d2] => { results := [.lit (.bool true)], args := [d1, d2] }
  | _ => none }
def dnFoldsRow : OpenClaim := { program := "ytbdkdbfcbakgmaa", sum := "78a8290f861c31047ff54475b3c8eddfa31fb3700c011d55d138581a7ec6f659", func := "burgess/burgesslaw13.DnFolds", spec := "dnFolds", inPlace := ["internal/bytealg.IndexByteString"], unfollowed := true, recurses := true, apart := false }
def DnFoldsSaid : Prop := dnFoldsRow.holds Try.pinned (OpenSpec.ofChange dnFoldsSpec)

/-- ITS FALSE NEIGHBOUR: 'it returns false'. Refute it at one input. -/
def dnFoldsWrong : ChangeSpec := { name := "dnFolds", fn := fun _ => fun
  | [d1, d2] => { results := [.lit (.bool false)], args := [d1, d2] }
  | _ => none }
def DnFoldsWrongFalsely : Prop := dnFoldsRow.holds Try.pinned (OpenSpec.ofChange dnFoldsWrong)

/-- 'burgesslaw13.DnBlanks': WHATEVER THE INPUT: true; the input reads as it did. -/
def dnBlanksSpec : ChangeSpec := { name := "dnBlanks", fn := fun _ => fun
  | [d1, d2, d3] => { results := [.lit (.bool true)], args := [d1, d2, d3] }
  | _ => none }
def dnBlanksRow : OpenClaim := { program := "ytbdkdbfcbakgmaa", sum := "78a8290f861c31047ff54475b3c8eddfa31fb3700c011d55d138581a7ec6f659", func := "burgess/burgesslaw13.DnBlanks", spec := "dnBlanks", inPlace := ["internal/bytealg.IndexByteString"], apart := false }
def DnBlanksSaid : Prop := dnBlanksRow.holds Try.pinned (OpenSpec.ofChange dnBlanksSpec)

/-- ITS FALSE NEIGHBOUR: 'it returns false'. Refute it at one input. -/
def dnBlanksWrong : ChangeSpec := { name := "dnBlanks", fn := fun _ => fun
  | [d1, d2, d3] => { results := [.lit (.bool false)], args := [d1, d2, d3] }
  | _ => none }
def DnBlanksWrongFalsely : Prop := dnBlanksRow.holds Try.pinned (OpenSpec.ofChange dnBlanksWrong)

/-- 'burgesslaw13.DnUps': WHATEVER THE INPUT: true; the input reads as it did. -/
def dnUpsSpec : ChangeSpec := { name := "dnUps", fn := fun _ => fun
  | [d] => { results := [.lit (.bool true)], args := [d] }
  | _ => none }
def dnUpsRow : OpenClaim := { program := "ytbdkdbfcbakgmaa", sum := "78a8290f861c31047ff54475b3c8eddfa31fb3700c011d55d138581a7ec6f659", func := "burgess/burgesslaw13.DnUps", spec := "dnUps", inPlace := ["internal/bytealg.IndexByteString"], unfollowed := true, recurses := true, apart := false }
def DnUpsSaid : Prop := dnUpsRow.holds Try.pinned (OpenSpec.ofChange dnUpsSpec)

/-- ITS FALSE NEIGHBOUR: 'it returns false'. Refute it at one input. -/
def dnUpsWrong : ChangeSpec := { name := "dnUps", fn := fun _ => fun
  | [d] => { results := [.lit (.bool false)], args := [d] }
  | _ => none }
def DnUpsWrongFalsely : Prop := dnUpsRow.holds Try.pinned (OpenSpec.ofChange dnUpsWrong)

/-- 'burgesslaw13.DnStrokes': WHATEVER THE INPUT: true; the input reads as it did. -/
def dnStrokesSpec : ChangeSpec := { name := "dnStrokes", fn := fun _ => fun
  | [d] => { results := [.lit (.bool true)], args := [d] }
  | _ => none }
def dnStrokesRow : OpenClaim := { program := "ytbdkdbfcbakgmaa", sum := "78a8290f861c31047ff54475b3c8eddfa31fb3700c011d55d138581a7ec6f659", func := "burgess/burgesslaw13.DnStrokes", spec := "dnStrokes", inPlace := ["internal/bytealg.IndexByteString"], apart := false }
def DnStrokesSaid : Prop := dnStrokesRow.holds Try.pinned (OpenSpec.ofChange dnStrokesSpec)

/-- ITS FALSE NEIGHBOUR: 'it returns false'. Refute it at one input. -/
def dnStrokesWrong : ChangeSpec := { name := "dnStrokes", fn := fun _ => fun
  | [d] => { results := [.lit (.bool false)], args := [d] }
  | _ => none }
def DnStrokesWrongFalsely : Prop := dnStrokesRow.holds Try.pinned (OpenSpec.ofChange dnStrokesWrong)

/-- 'burgesslaw18.AclSays': WHATEVER THE INPUT: true; the input reads as it did. -/
def aclSaysSpec : ChangeSpec := { name := "aclSays", fn := fun _ => fun
  | [d1, d2, d3, d4, d5, d6] => { results := [.lit (.bool true)], args := [d1, d2, d3, d4, d5, d6] }
  | _ => none }
def aclSaysRow : OpenClaim := { program := "ytbdkdbfcbakgmaa", sum := "78a8290f861c31047ff54475b3c8eddfa31fb3700c011d55d138581a7ec6f659", func := "burgess/burgesslaw18.AclSays", spec := "aclSays", unfollowed := true, recurses := true, apart := false }
def AclSaysSaid : Prop := aclSaysRow.holds Try.pinned (OpenSpec.ofChange aclSaysSpec)

/-- ITS FALSE NEIGHBOUR: 'it returns false'. Refute it at one input. -/
def aclSaysWrong : ChangeSpec := { name := "aclSays", fn := fun _ => fun
  | [d1, d2, d3, d4, d5, d6] => { results := [.lit (.bool false)], args := [d1, d2, d3, d4, d5, d6] }
  | _ => none }
def AclSaysWrongFalsely : Prop := aclSaysRow.holds Try.pinned (OpenSpec.ofChange aclSaysWrong)

/-- 'burgesslaw18.AclFirst': WHATEVER THE INPUT: true; the input reads as it did. -/
def aclFirstSpec : ChangeSpec := { name := "aclFirst", fn := fun _ => fun
  | [d1, d2, d3, d4, d5, d6] => { results := [.lit (.bool true)], args := [d1, d2, d3, d4, d5, d6] }
  | _ => none }
def aclFirstRow : OpenClaim := { program := "ytbdkdbfcbakgmaa", sum := "78a8290f861c31047ff54475b3c8eddfa31fb3700c011d55d138581a7ec6f659", func := "burgess/burgesslaw18.AclFirst", spec := "aclFirst", unfollowed := true, recurses := true, apart := false }
def AclFirstSaid : Prop := aclFirstRow.holds Try.pinned (OpenSpec.ofChange aclFirstSpec)

/-- ITS FALSE NEIGHBOUR: 'it returns false'. Refute it at one input. -/
def aclFirstWrong : ChangeSpec := { name := "aclFirst", fn := fun _ => fun
  | [d1, d2, d3, d4, d5, d6] => { results := [.lit (.bool false)], args := [d1, d2, d3, d4, d5, d6] }
  | _ => none }
def AclFirstWrongFalsely : Prop := aclFirstRow.holds Try.pinned (OpenSpec.ofChange aclFirstWrong)

/-- 'burgesslaw18.AclRoot': WHATEVER THE INPUT: true; the input reads as it did. -/
def aclRootSpec : ChangeSpec := { name := "aclRoot", fn := fun _ => fun
  | [d1, d2, d3, d4, d5] => { results := [.lit (.bool true)], args := [d1, d2, d3, d4, d5] }
  | _ => none }
def aclRootRow : OpenClaim := { program := "ytbdkdbfcbakgmaa", sum := "78a8290f861c31047ff54475b3c8eddfa31fb3700c011d55d138581a7ec6f659", func := "burgess/burgesslaw18.AclRoot", spec := "aclRoot", unfollowed := true, recurses := true, apart := false }
def AclRootSaid : Prop := aclRootRow.holds Try.pinned (OpenSpec.ofChange aclRootSpec)

/-- ITS FALSE NEIGHBOUR: 'it returns false'. Refute it at one input. -/
def aclRootWrong : ChangeSpec := { name := "aclRoot", fn := fun _ => fun
  | [d1, d2, d3, d4, d5] => { results := [.lit (.bool false)], args := [d1, d2, d3, d4, d5] }
  | _ => none }
def AclRootWrongFalsely : Prop := aclRootRow.holds Try.pinned (OpenSpec.ofChange aclRootWrong)

/-- 'burgesslaw18.AclGrants': WHATEVER THE INPUT: true; the input reads as it did. -/
def aclGrantsSpec : ChangeSpec := { name := "aclGrants", fn := fun _ => fun
  | [d1, d2, d3, d4, d5, d6] => { results := [.lit (.bool true)], args := [d1, d2, d3, d4, d5, d6] }
  | _ => none }
def aclGrantsRow : OpenClaim := { program := "ytbdkdbfcbakgmaa", sum := "78a8290f861c31047ff54475b3c8eddfa31fb3700c011d55d138581a7ec6f659", func := "burgess/burgesslaw18.AclGrants", spec := "aclGrants", unfollowed := true, recurses := true, apart := false }
def AclGrantsSaid : Prop := aclGrantsRow.holds Try.pinned (OpenSpec.ofChange aclGrantsSpec)

/-- ITS FALSE NEIGHBOUR: 'it returns false'. Refute it at one input. -/
def aclGrantsWrong : ChangeSpec := { name := "aclGrants", fn := fun _ => fun
  | [d1, d2, d3, d4, d5, d6] => { results := [.lit (.bool false)], args := [d1, d2, d3, d4, d5, d6] }
  | _ => none }
def AclGrantsWrongFalsely : Prop := aclGrantsRow.holds Try.pinned (OpenSpec.ofChange aclGrantsWrong)

/-- 'burgesslaw19.DnkeyOrder': WHATEVER THE INPUT: true; the input reads as it did. -/
def dnkeyOrderSpec : ChangeSpec := { name := "dnkeyOrder", fn := fun _ => fun
  | [d1, d2, d3, d4] => { results := [.lit (.bool true)], args := [d1, d2, d3, d4] }
  | _ => none }
def dnkeyOrderRow : OpenClaim := { program := "ytbdkdbfcbakgmaa", sum := "78a8290f861c31047ff54475b3c8eddfa31fb3700c011d55d138581a7ec6f659", func := "burgess/burgesslaw19.DnkeyOrder", spec := "dnkeyOrder", apart := false }
def DnkeyOrderSaid : Prop := dnkeyOrderRow.holds Try.pinned (OpenSpec.ofChange dnkeyOrderSpec)

/-- ITS FALSE NEIGHBOUR: 'it returns false'. Refute it at one input. -/
def dnkeyOrderWrong : ChangeSpec := { name := "dnkeyOrder", fn := fun _ => fun
  | [d1, d2, d3, d4] => { results := [.lit (.bool false)], args := [d1, d2, d3, d4] }
  | _ => none }
def DnkeyOrderWrongFalsely : Prop := dnkeyOrderRow.holds Try.pinned (OpenSpec.ofChange dnkeyOrderWrong)

/- THE SECOND FORM. 'bulk': how many values and letters a reading holds, each counted each time it is reached (what is shared counts as often as it is met; a slice's spare places count too). A statement '..UptoSaid' is the law's where the arguments, and the package variables that the reading takes, are together of bulk at most 1048576: NARROWER than '..Said'. Prove '..Said' where nothing that the law and all that it calls make is longer than what came in: it says more and counts as full. Else prove '..UptoSaid'. A law counts once. -/
mutual
def uptoBulk {H : Type} : DataW H → Nat
  | .lit (.string bytes) => bytes.length + 1
  | .lit _ => 1
  | .nil => 1
  | .ptr d => uptoBulk d + 1
  | .slice elems spare => uptoBulkAll elems + uptoBulkAll spare + 1
  | .agg parts => uptoBulkAll parts + 1
  | .iface _ d => uptoBulk d + 1
  | .map entries => uptoBulkEntries entries + 1
  | .held _ => 1
def uptoBulkAll {H : Type} : List (DataW H) → Nat
  | [] => 0
  | d :: r => uptoBulk d + uptoBulkAll r
def uptoBulkEntries {H : Type} : List (Lit × DataW H) → Nat
  | [] => 0
  | x :: r => uptoBulkEntry x + uptoBulkEntries r
def uptoBulkEntry {H : Type} : Lit × DataW H → Nat
  | (.string bytes, d) => bytes.length + uptoBulk d + 1
  | (_, d) => uptoBulk d + 1
 end
def uptoSmall : (H : Type) → List (DataW H) → Bool := fun _ ds => decide (uptoBulkAll ds ≤ 1048576)
def OpenSpec.upto (s : _root_.Go.ChangeSpec) : _root_.Go.OpenSpec := { _root_.Go.OpenSpec.ofChange s with cond := some uptoSmall }

/-- 'burgesslaw13.DnParses', WHERE WHAT IT READS IS OF BULK AT MOST 1048576: true; the input reads as it did. -/
def dnParsesUptoRow : OpenClaim := { program := "ytbdkdbfcbakgmaa", sum := "78a8290f861c31047ff54475b3c8eddfa31fb3700c011d55d138581a7ec6f659", func := "burgess/burgesslaw13.DnParses", spec := "dnParses", inPlace := ["internal/bytealg.IndexByteString"], apart := false, narrowed := true }
def DnParsesUptoSaid : Prop := dnParsesUptoRow.holds Try.pinned (OpenSpec.upto dnParsesSpec)

/-- 'burgesslaw13.DnPrints', WHERE WHAT IT READS IS OF BULK AT MOST 1048576: true; the input reads as it did. -/
def dnPrintsUptoRow : OpenClaim := { program := "ytbdkdbfcbakgmaa", sum := "78a8290f861c31047ff54475b3c8eddfa31fb3700c011d55d138581a7ec6f659", func := "burgess/burgesslaw13.DnPrints", spec := "dnPrints", inPlace := ["internal/bytealg.IndexByteString"], apart := false, narrowed := true }
def DnPrintsUptoSaid : Prop := dnPrintsUptoRow.holds Try.pinned (OpenSpec.upto dnPrintsSpec)

/-- 'burgesslaw13.DnBack', WHERE WHAT IT READS IS OF BULK AT MOST 1048576: true; the input reads as it did. -/
def dnBackUptoRow : OpenClaim := { program := "ytbdkdbfcbakgmaa", sum := "78a8290f861c31047ff54475b3c8eddfa31fb3700c011d55d138581a7ec6f659", func := "burgess/burgesslaw13.DnBack", spec := "dnBack", inPlace := ["internal/bytealg.IndexByteString"], apart := false, narrowed := true }
def DnBackUptoSaid : Prop := dnBackUptoRow.holds Try.pinned (OpenSpec.upto dnBackSpec)

/-- 'burgesslaw13.DnAlike', WHERE WHAT IT READS IS OF BULK AT MOST 1048576: true; the input reads as it did. -/
def dnAlikeUptoRow : OpenClaim := { program := "ytbdkdbfcbakgmaa", sum := "78a8290f861c31047ff54475b3c8eddfa31fb3700c011d55d138581a7ec6f659", func := "burgess/burgesslaw13.DnAlike", spec := "dnAlike", inPlace := ["internal/bytealg.IndexByteString"], unfollowed := true, recurses := true, apart := false, narrowed := true }
def DnAlikeUptoSaid : Prop := dnAlikeUptoRow.holds Try.pinned (OpenSpec.upto dnAlikeSpec)

/-- 'burgesslaw13.DnFolds', WHERE WHAT IT READS IS OF BULK AT MOST 1048576: true; the input reads as it did. -/
def dnFoldsUptoRow : OpenClaim := { program := "ytbdkdbfcbakgmaa", sum := "78a8290f861c31047ff54475b3c8eddfa31fb3700c011d55d138581a7ec6f659", func := "burgess/burgesslaw13.DnFolds", spec := "dnFolds", inPlace := ["internal/bytealg.IndexByteString"], unfollowed := true, recurses := true, apart := false, narrowed := true }
def DnFoldsUptoSaid : Prop := dnFoldsUptoRow.holds Try.pinned (OpenSpec.upto dnFoldsSpec)

/-- 'burgesslaw13.DnBlanks', WHERE WHAT IT READS IS OF BULK AT MOST 1048576: true; the input reads as it did. -/
def dnBlanksUptoRow : OpenClaim := { program := "ytbdkdbfcbakgmaa", sum := "78a8290f861c31047ff54475b3c8eddfa31fb3700c011d55d138581a7ec6f659", func := "burgess/burgesslaw13.DnBlanks", spec := "dnBlanks", inPlace := ["internal/bytealg.IndexByteString"], apart := false, narrowed := true }
def DnBlanksUptoSaid : Prop := dnBlanksUptoRow.holds Try.pinned (OpenSpec.upto dnBlanksSpec)

/-- 'burgesslaw13.DnUps', WHERE WHAT IT READS IS OF BULK AT MOST 1048576: true; the input reads as it did. -/
def dnUpsUptoRow : OpenClaim := { program := "ytbdkdbfcbakgmaa", sum := "78a8290f861c31047ff54475b3c8eddfa31fb3700c011d55d138581a7ec6f659", func := "burgess/burgesslaw13.DnUps", spec := "dnUps", inPlace := ["internal/bytealg.IndexByteString"], unfollowed := true, recurses := true, apart := false, narrowed := true }
def DnUpsUptoSaid : Prop := dnUpsUptoRow.holds Try.pinned (OpenSpec.upto dnUpsSpec)

/-- 'burgesslaw13.DnStrokes', WHERE WHAT IT READS IS OF BULK AT MOST 1048576: true; the input reads as it did. -/
def dnStrokesUptoRow : OpenClaim := { program := "ytbdkdbfcbakgmaa", sum := "78a8290f861c31047ff54475b3c8eddfa31fb3700c011d55d138581a7ec6f659", func := "burgess/burgesslaw13.DnStrokes", spec := "dnStrokes", inPlace := ["internal/bytealg.IndexByteString"], apart := false, narrowed := true }
def DnStrokesUptoSaid : Prop := dnStrokesUptoRow.holds Try.pinned (OpenSpec.upto dnStrokesSpec)

/-- 'burgesslaw18.AclSays', WHERE WHAT IT READS IS OF BULK AT MOST 1048576: true; the input reads as it did. -/
def aclSaysUptoRow : OpenClaim := { program := "ytbdkdbfcbakgmaa", sum := "78a8290f861c31047ff54475b3c8eddfa31fb3700c011d55d138581a7ec6f659", func := "burgess/burgesslaw18.AclSays", spec := "aclSays", unfollowed := true, recurses := true, apart := false, narrowed := true }
def AclSaysUptoSaid : Prop := aclSaysUptoRow.holds Try.pinned (OpenSpec.upto aclSaysSpec)

/-- 'burgesslaw18.AclFirst', WHERE WHAT IT READS IS OF BULK AT MOST 1048576: true; the input reads as it did. -/
def aclFirstUptoRow : OpenClaim := { program := "ytbdkdbfcbakgmaa", sum := "78a8290f861c31047ff54475b3c8eddfa31fb3700c011d55d138581a7ec6f659", func := "burgess/burgesslaw18.AclFirst", spec := "aclFirst", unfollowed := true, recurses := true, apart := false, narrowed := true }
def AclFirstUptoSaid : Prop := aclFirstUptoRow.holds Try.pinned (OpenSpec.upto aclFirstSpec)

/-- 'burgesslaw18.AclRoot', WHERE WHAT IT READS IS OF BULK AT MOST 1048576: true; the input reads as it did. -/
def aclRootUptoRow : OpenClaim := { program := "ytbdkdbfcbakgmaa", sum := "78a8290f861c31047ff54475b3c8eddfa31fb3700c011d55d138581a7ec6f659", func := "burgess/burgesslaw18.AclRoot", spec := "aclRoot", unfollowed := true, recurses := true, apart := false, narrowed := true }
def AclRootUptoSaid : Prop := aclRootUptoRow.holds Try.pinned (OpenSpec.upto aclRootSpec)

/-- 'burgesslaw18.AclGrants', WHERE WHAT IT READS IS OF BULK AT MOST 1048576: true; the input reads as it did. -/
def aclGrantsUptoRow : OpenClaim := { program := "ytbdkdbfcbakgmaa", sum := "78a8290f861c31047ff54475b3c8eddfa31fb3700c011d55d138581a7ec6f659", func := "burgess/burgesslaw18.AclGrants", spec := "aclGrants", unfollowed := true, recurses := true, apart := false, narrowed := true }
def AclGrantsUptoSaid : Prop := aclGrantsUptoRow.holds Try.pinned (OpenSpec.upto aclGrantsSpec)

/-- 'burgesslaw19.DnkeyOrder', WHERE WHAT IT READS IS OF BULK AT MOST 1048576: true; the input reads as it did. -/
def dnkeyOrderUptoRow : OpenClaim := { program := "ytbdkdbfcbakgmaa", sum := "78a8290f861c31047ff54475b3c8eddfa31fb3700c011d55d138581a7ec6f659", func := "burgess/burgesslaw19.DnkeyOrder", spec := "dnkeyOrder", apart := false, narrowed := true }
def DnkeyOrderUptoSaid : Prop := dnkeyOrderUptoRow.holds Try.pinned (OpenSpec.upto dnkeyOrderSpec)

end Rows
end Go.Proofs.Ytbdkdbfcbakgmaa
