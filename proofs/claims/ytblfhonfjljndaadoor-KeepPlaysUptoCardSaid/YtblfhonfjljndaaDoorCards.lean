/-
  DERIVED. GIVEN WITH THE SEED: THE CARDS: each row of YtblfhonfjljndaaDoorRows.lean that lists a variable, with what it lists TIED to the program's text (the seventh form; the later family's looks); each row that meets fmt, with fmt's text TOLD by the authors' own Lean function (tested against real Go, not proved from fmt's source: count such statements apart). THE CARD IS WHAT COUNTS. Prove the row's statement (the work); the ties are given (YtblfhonfjljndaaDoorTie.lean); close each card by the builder's one call (the guide's Derived/Test/ToyasCard.lean, 'card_holds'). Laid BY PROGRAM, IN A SANDBOX (cutbox-door.mjs). By AI agents, Wed Nov 11 2026. No macro, syntax, notation, axiom, sorry.
-/
import Derived.Test.YtblfhonfjljndaaDoorRows
import GoSem.ClaimSeven
namespace Go.Proofs.YtblfhonfjljndaaDoor
namespace Rows

/-- THE TIED CARD OF 'burgesslaw4.KeepPlays'. -/
def keepPlaysCard : Claim7 := { stood := { row := keepPlaysRow, standIns := [], harness := (true, "8c587c610ed959a0ed3f9c00e3aa7e1ea9823e39438d50633efe1559e23cabb5"), looks := false }, kinds := [], alts := [], laidByText := true, laidKinds := [.data], laidTests := true, laidLooks := .later }
def KeepPlaysCardSaid : Prop := Claim7.holds Tryd.pinned (.plain (OpenSpec.ofChange keepPlaysSpec)) keepPlaysCard

/-- THE SECOND FORM's CARD OF 'burgesslaw4.KeepPlays'. -/
def keepPlaysUptoCard : Claim7 := { stood := { row := keepPlaysUptoRow, standIns := [], harness := (true, "8c587c610ed959a0ed3f9c00e3aa7e1ea9823e39438d50633efe1559e23cabb5"), looks := false }, kinds := [], alts := [], laidByText := true, laidKinds := [.data], laidTests := true, laidLooks := .later }
def KeepPlaysUptoCardSaid : Prop := Claim7.holds Tryd.pinned (.plain (OpenSpec.upto keepPlaysSpec)) keepPlaysUptoCard
end Rows
end Go.Proofs.YtblfhonfjljndaaDoor
