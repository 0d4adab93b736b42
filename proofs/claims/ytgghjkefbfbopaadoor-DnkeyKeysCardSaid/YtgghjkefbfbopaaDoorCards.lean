/-
  DERIVED. GIVEN WITH THE SEED: THE CARDS: each row of YtgghjkefbfbopaaDoorRows.lean that lists a variable, with what it lists TIED to the program's text (the seventh form; the later family's looks); each row that meets fmt, with fmt's text TOLD by the authors' own Lean function (tested against real Go, not proved from fmt's source: count such statements apart). THE CARD IS WHAT COUNTS. Prove the row's statement (the work); the ties are given (YtgghjkefbfbopaaDoorTie.lean); close each card by the builder's one call (the guide's Derived/Test/ToyasCard.lean, 'card_holds'). Laid BY PROGRAM, IN A SANDBOX (cutbox-door.mjs). By AI agents, Wed Nov 11 2026. No macro, syntax, notation, axiom, sorry.
-/
import Derived.Test.YtgghjkefbfbopaaDoorRows
import GoSem.ClaimSeven
namespace Go.Proofs.YtgghjkefbfbopaaDoor
namespace Rows

/-- THE TIED CARD OF 'burgesslaw15.MatchOrder'. -/
def matchOrderCard : Claim7 := { stood := { row := matchOrderRow, standIns := [], harness := (true, "e2303fdea2d607e61157a5aa1ffb4fc452fbaf78987b31adbe8ca93362e52453"), looks := true }, kinds := [], alts := [], laidByText := true, laidKinds := [.data, .data, .data, .sentinel, .sentinel], laidTests := true, laidLooks := .later }
def MatchOrderCardSaid : Prop := Claim7.holds Tryd.pinned (.plain (OpenSpec.ofChange matchOrderSpec)) matchOrderCard

/-- THE TIED CARD OF 'burgesslaw15.MatchNumbers'. -/
def matchNumbersCard : Claim7 := { stood := { row := matchNumbersRow, standIns := [], harness := (true, "e2303fdea2d607e61157a5aa1ffb4fc452fbaf78987b31adbe8ca93362e52453"), looks := true }, kinds := [], alts := [], laidByText := true, laidKinds := [.data, .data, .data, .sentinel, .sentinel], laidTests := true, laidLooks := .later }
def MatchNumbersCardSaid : Prop := Claim7.holds Tryd.pinned (.plain (OpenSpec.ofChange matchNumbersSpec)) matchNumbersCard

/-- THE TIED CARD OF 'burgesslaw19.DnkeyKeys'. -/
def dnkeyKeysCard : Claim7 := { stood := { row := dnkeyKeysRow, standIns := [], harness := (true, "e2303fdea2d607e61157a5aa1ffb4fc452fbaf78987b31adbe8ca93362e52453"), looks := true }, kinds := [], alts := [], laidByText := true, laidKinds := [.data, .pinned], laidTests := true, laidLooks := .later }
def DnkeyKeysCardSaid : Prop := Claim7.holds Tryd.pinned (.plain (OpenSpec.ofChange dnkeyKeysSpec)) dnkeyKeysCard

/-- THE TIED CARD OF 'burgesslaw19.DnkeyBack'. -/
def dnkeyBackCard : Claim7 := { stood := { row := dnkeyBackRow, standIns := [], harness := (true, "e2303fdea2d607e61157a5aa1ffb4fc452fbaf78987b31adbe8ca93362e52453"), looks := true }, kinds := [], alts := [], laidByText := true, laidKinds := [.data, .pinned], laidTests := true, laidLooks := .later }
def DnkeyBackCardSaid : Prop := Claim7.holds Tryd.pinned (.plain (OpenSpec.ofChange dnkeyBackSpec)) dnkeyBackCard

/-- THE SECOND FORM's CARD OF 'burgesslaw15.MatchOrder'. -/
def matchOrderUptoCard : Claim7 := { stood := { row := matchOrderUptoRow, standIns := [], harness := (true, "e2303fdea2d607e61157a5aa1ffb4fc452fbaf78987b31adbe8ca93362e52453"), looks := true }, kinds := [], alts := [], laidByText := true, laidKinds := [.data, .data, .data, .sentinel, .sentinel], laidTests := true, laidLooks := .later }
def MatchOrderUptoCardSaid : Prop := Claim7.holds Tryd.pinned (.plain (OpenSpec.upto matchOrderSpec)) matchOrderUptoCard

/-- THE SECOND FORM's CARD OF 'burgesslaw15.MatchNumbers'. -/
def matchNumbersUptoCard : Claim7 := { stood := { row := matchNumbersUptoRow, standIns := [], harness := (true, "e2303fdea2d607e61157a5aa1ffb4fc452fbaf78987b31adbe8ca93362e52453"), looks := true }, kinds := [], alts := [], laidByText := true, laidKinds := [.data, .data, .data, .sentinel, .sentinel], laidTests := true, laidLooks := .later }
def MatchNumbersUptoCardSaid : Prop := Claim7.holds Tryd.pinned (.plain (OpenSpec.upto matchNumbersSpec)) matchNumbersUptoCard

/-- THE SECOND FORM's CARD OF 'burgesslaw19.DnkeyKeys'. -/
def dnkeyKeysUptoCard : Claim7 := { stood := { row := dnkeyKeysUptoRow, standIns := [], harness := (true, "e2303fdea2d607e61157a5aa1ffb4fc452fbaf78987b31adbe8ca93362e52453"), looks := true }, kinds := [], alts := [], laidByText := true, laidKinds := [.data, .pinned], laidTests := true, laidLooks := .later }
def DnkeyKeysUptoCardSaid : Prop := Claim7.holds Tryd.pinned (.plain (OpenSpec.upto dnkeyKeysSpec)) dnkeyKeysUptoCard

/-- THE SECOND FORM's CARD OF 'burgesslaw19.DnkeyBack'. -/
def dnkeyBackUptoCard : Claim7 := { stood := { row := dnkeyBackUptoRow, standIns := [], harness := (true, "e2303fdea2d607e61157a5aa1ffb4fc452fbaf78987b31adbe8ca93362e52453"), looks := true }, kinds := [], alts := [], laidByText := true, laidKinds := [.data, .pinned], laidTests := true, laidLooks := .later }
def DnkeyBackUptoCardSaid : Prop := Claim7.holds Tryd.pinned (.plain (OpenSpec.upto dnkeyBackSpec)) dnkeyBackUptoCard
end Rows
end Go.Proofs.YtgghjkefbfbopaaDoor
