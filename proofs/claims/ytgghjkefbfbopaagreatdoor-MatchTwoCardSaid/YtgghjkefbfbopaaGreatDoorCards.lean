/-
  DERIVED. GIVEN WITH THE SEED: THE CARDS: each row of YtgghjkefbfbopaaGreatDoorRows.lean that lists a variable, with what it lists TIED to the program's text (the seventh form; the later family's looks); each row that meets fmt, with fmt's text TOLD by the authors' own Lean function (tested against real Go, not proved from fmt's source: count such statements apart). THE CARD IS WHAT COUNTS. Prove the row's statement (the work); the ties are given (YtgghjkefbfbopaaGreatDoorTie.lean); close each card by the builder's one call (the guide's Derived/Test/ToyasCard.lean, 'card_holds'). Laid BY PROGRAM, IN A SANDBOX (cutbox-door.mjs). By AI agents, Wed Nov 11 2026. No macro, syntax, notation, axiom, sorry.
-/
import Derived.Test.YtgghjkefbfbopaaGreatDoorRows
import GoSem.ClaimSeven
namespace Go.Proofs.YtgghjkefbfbopaaGreatDoor
namespace Rows

/-- THE TIED CARD OF 'burgesslaw15.MatchTwo'. -/
def matchTwoCard : Claim7 := { stood := { row := matchTwoRow, standIns := [], harness := (true, "768b3e0f230e70648116fb4df9aaecdf75212970274451ac033a7b38756473ed"), looks := true }, kinds := [], alts := [], laidByText := true, laidKinds := [.data, .data, .data, .sentinel, .sentinel], laidTests := true, laidLooks := .later }
def MatchTwoCardSaid : Prop := Claim7.holds Tryz.pinned (.plain (OpenSpec.ofChange matchTwoSpec)) matchTwoCard

/-- THE SECOND FORM's CARD OF 'burgesslaw15.MatchTwo'. -/
def matchTwoUptoCard : Claim7 := { stood := { row := matchTwoUptoRow, standIns := [], harness := (true, "768b3e0f230e70648116fb4df9aaecdf75212970274451ac033a7b38756473ed"), looks := true }, kinds := [], alts := [], laidByText := true, laidKinds := [.data, .data, .data, .sentinel, .sentinel], laidTests := true, laidLooks := .later }
def MatchTwoUptoCardSaid : Prop := Claim7.holds Tryz.pinned (.plain (OpenSpec.upto matchTwoSpec)) matchTwoUptoCard
end Rows
end Go.Proofs.YtgghjkefbfbopaaGreatDoor
