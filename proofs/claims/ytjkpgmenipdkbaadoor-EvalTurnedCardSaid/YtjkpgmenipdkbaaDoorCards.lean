/-
  DERIVED. GIVEN WITH THE SEED: THE CARDS: each row of YtjkpgmenipdkbaaDoorRows.lean that lists a variable, with what it lists TIED to the program's text (the seventh form; the later family's looks); each row that meets fmt, with fmt's text TOLD by the authors' own Lean function (tested against real Go, not proved from fmt's source: count such statements apart). THE CARD IS WHAT COUNTS. Prove the row's statement (the work); the ties are given (YtjkpgmenipdkbaaDoorTie.lean); close each card by the builder's one call (the guide's Derived/Test/ToyasCard.lean, 'card_holds'). Laid BY PROGRAM, IN A SANDBOX (cutbox-door.mjs). By AI agents, Wed Nov 11 2026. No macro, syntax, notation, axiom, sorry.
-/
import Derived.Test.YtjkpgmenipdkbaaDoorRows
import GoSem.ClaimSeven
namespace Go.Proofs.YtjkpgmenipdkbaaDoor
namespace Rows

/-- THE TIED CARD OF 'burgesslaw17.EvalThree'. -/
def evalThreeCard : Claim7 := { stood := { row := evalThreeRow, standIns := [], harness := (true, "e85bfa5268bdf63b5647262ca9d91d04eed8af041104634b8e8855412d52623f"), looks := true }, kinds := [], alts := [], laidByText := true, laidKinds := [.data, .data, .data, .sentinel, .sentinel], laidTests := true, laidLooks := .later }
def EvalThreeCardSaid : Prop := Claim7.holds Tryd.pinned (.plain (OpenSpec.ofChange evalThreeSpec)) evalThreeCard

/-- THE TIED CARD OF 'burgesslaw17.EvalTurned'. -/
def evalTurnedCard : Claim7 := { stood := { row := evalTurnedRow, standIns := [], harness := (true, "e85bfa5268bdf63b5647262ca9d91d04eed8af041104634b8e8855412d52623f"), looks := true }, kinds := [], alts := [], laidByText := true, laidKinds := [.data, .data, .data, .sentinel, .sentinel], laidTests := true, laidLooks := .later }
def EvalTurnedCardSaid : Prop := Claim7.holds Tryd.pinned (.plain (OpenSpec.ofChange evalTurnedSpec)) evalTurnedCard

/-- THE SECOND FORM's CARD OF 'burgesslaw17.EvalThree'. -/
def evalThreeUptoCard : Claim7 := { stood := { row := evalThreeUptoRow, standIns := [], harness := (true, "e85bfa5268bdf63b5647262ca9d91d04eed8af041104634b8e8855412d52623f"), looks := true }, kinds := [], alts := [], laidByText := true, laidKinds := [.data, .data, .data, .sentinel, .sentinel], laidTests := true, laidLooks := .later }
def EvalThreeUptoCardSaid : Prop := Claim7.holds Tryd.pinned (.plain (OpenSpec.upto evalThreeSpec)) evalThreeUptoCard

/-- THE SECOND FORM's CARD OF 'burgesslaw17.EvalTurned'. -/
def evalTurnedUptoCard : Claim7 := { stood := { row := evalTurnedUptoRow, standIns := [], harness := (true, "e85bfa5268bdf63b5647262ca9d91d04eed8af041104634b8e8855412d52623f"), looks := true }, kinds := [], alts := [], laidByText := true, laidKinds := [.data, .data, .data, .sentinel, .sentinel], laidTests := true, laidLooks := .later }
def EvalTurnedUptoCardSaid : Prop := Claim7.holds Tryd.pinned (.plain (OpenSpec.upto evalTurnedSpec)) evalTurnedUptoCard
end Rows
end Go.Proofs.YtjkpgmenipdkbaaDoor
