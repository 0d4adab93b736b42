/-
  DERIVED. GIVEN WITH THE SEED: THE CARDS: each row of YteihjdefdeckaaaGreatDoorRows.lean that lists a variable, with what it lists TIED to the program's text (the seventh form; the later family's looks); each row that meets fmt, with fmt's text TOLD by the authors' own Lean function (tested against real Go, not proved from fmt's source: count such statements apart). THE CARD IS WHAT COUNTS. Prove the row's statement (the work); the ties are given (YteihjdefdeckaaaGreatDoorTie.lean); close each card by the builder's one call (the guide's Derived/Test/ToyasCard.lean, 'card_holds'). Laid BY PROGRAM, IN A SANDBOX (cutbox-door.mjs). By AI agents, Wed Nov 11 2026. No macro, syntax, notation, axiom, sorry.
-/
import Derived.Test.YteihjdefdeckaaaGreatDoorRows
import GoSem.ClaimSeven
namespace Go.Proofs.YteihjdefdeckaaaGreatDoor
namespace Rows

/-- THE TIED CARD OF 'burgesslaw17.EvalFilters'. -/
def evalFiltersCard : Claim7 := { stood := { row := evalFiltersRow, standIns := [], harness := (true, "f2fd24f92c740bc9836102e26baf9657fb574a0b57aac7dbbddfbee99e796fb8"), looks := true }, kinds := [], alts := [], laidByText := true, laidKinds := [.data, .data, .data, .sentinel, .sentinel], laidTests := true, laidLooks := .later }
def EvalFiltersCardSaid : Prop := Claim7.holds Tryz.pinned (.plain (OpenSpec.ofChange evalFiltersSpec)) evalFiltersCard

/-- THE TIED CARD OF 'burgesslaw17.EvalItems'. -/
def evalItemsCard : Claim7 := { stood := { row := evalItemsRow, standIns := [], harness := (true, "f2fd24f92c740bc9836102e26baf9657fb574a0b57aac7dbbddfbee99e796fb8"), looks := true }, kinds := [], alts := [], laidByText := true, laidKinds := [.data, .data, .data, .sentinel, .sentinel], laidTests := true, laidLooks := .later }
def EvalItemsCardSaid : Prop := Claim7.holds Tryz.pinned (.plain (OpenSpec.ofChange evalItemsSpec)) evalItemsCard

/-- THE TIED CARD OF 'burgesslaw17.EvalTwice'. -/
def evalTwiceCard : Claim7 := { stood := { row := evalTwiceRow, standIns := [], harness := (true, "f2fd24f92c740bc9836102e26baf9657fb574a0b57aac7dbbddfbee99e796fb8"), looks := true }, kinds := [], alts := [], laidByText := true, laidKinds := [.data, .data, .data, .sentinel, .sentinel], laidTests := true, laidLooks := .later }
def EvalTwiceCardSaid : Prop := Claim7.holds Tryz.pinned (.plain (OpenSpec.ofChange evalTwiceSpec)) evalTwiceCard

/-- THE TIED CARD OF 'burgesslaw17.EvalKids'. -/
def evalKidsCard : Claim7 := { stood := { row := evalKidsRow, standIns := [], harness := (true, "f2fd24f92c740bc9836102e26baf9657fb574a0b57aac7dbbddfbee99e796fb8"), looks := true }, kinds := [], alts := [], laidByText := true, laidKinds := [.data, .data, .data, .sentinel, .sentinel], laidTests := true, laidLooks := .later }
def EvalKidsCardSaid : Prop := Claim7.holds Tryz.pinned (.plain (OpenSpec.ofChange evalKidsSpec)) evalKidsCard

/-- THE TIED CARD OF 'burgesslaw17.EvalHas'. -/
def evalHasCard : Claim7 := { stood := { row := evalHasRow, standIns := [], harness := (true, "f2fd24f92c740bc9836102e26baf9657fb574a0b57aac7dbbddfbee99e796fb8"), looks := true }, kinds := [], alts := [], laidByText := true, laidKinds := [.data, .data, .data, .sentinel, .sentinel], laidTests := true, laidLooks := .later }
def EvalHasCardSaid : Prop := Claim7.holds Tryz.pinned (.plain (OpenSpec.ofChange evalHasSpec)) evalHasCard

/-- THE SECOND FORM's CARD OF 'burgesslaw17.EvalFilters'. -/
def evalFiltersUptoCard : Claim7 := { stood := { row := evalFiltersUptoRow, standIns := [], harness := (true, "f2fd24f92c740bc9836102e26baf9657fb574a0b57aac7dbbddfbee99e796fb8"), looks := true }, kinds := [], alts := [], laidByText := true, laidKinds := [.data, .data, .data, .sentinel, .sentinel], laidTests := true, laidLooks := .later }
def EvalFiltersUptoCardSaid : Prop := Claim7.holds Tryz.pinned (.plain (OpenSpec.upto evalFiltersSpec)) evalFiltersUptoCard

/-- THE SECOND FORM's CARD OF 'burgesslaw17.EvalItems'. -/
def evalItemsUptoCard : Claim7 := { stood := { row := evalItemsUptoRow, standIns := [], harness := (true, "f2fd24f92c740bc9836102e26baf9657fb574a0b57aac7dbbddfbee99e796fb8"), looks := true }, kinds := [], alts := [], laidByText := true, laidKinds := [.data, .data, .data, .sentinel, .sentinel], laidTests := true, laidLooks := .later }
def EvalItemsUptoCardSaid : Prop := Claim7.holds Tryz.pinned (.plain (OpenSpec.upto evalItemsSpec)) evalItemsUptoCard

/-- THE SECOND FORM's CARD OF 'burgesslaw17.EvalTwice'. -/
def evalTwiceUptoCard : Claim7 := { stood := { row := evalTwiceUptoRow, standIns := [], harness := (true, "f2fd24f92c740bc9836102e26baf9657fb574a0b57aac7dbbddfbee99e796fb8"), looks := true }, kinds := [], alts := [], laidByText := true, laidKinds := [.data, .data, .data, .sentinel, .sentinel], laidTests := true, laidLooks := .later }
def EvalTwiceUptoCardSaid : Prop := Claim7.holds Tryz.pinned (.plain (OpenSpec.upto evalTwiceSpec)) evalTwiceUptoCard

/-- THE SECOND FORM's CARD OF 'burgesslaw17.EvalKids'. -/
def evalKidsUptoCard : Claim7 := { stood := { row := evalKidsUptoRow, standIns := [], harness := (true, "f2fd24f92c740bc9836102e26baf9657fb574a0b57aac7dbbddfbee99e796fb8"), looks := true }, kinds := [], alts := [], laidByText := true, laidKinds := [.data, .data, .data, .sentinel, .sentinel], laidTests := true, laidLooks := .later }
def EvalKidsUptoCardSaid : Prop := Claim7.holds Tryz.pinned (.plain (OpenSpec.upto evalKidsSpec)) evalKidsUptoCard

/-- THE SECOND FORM's CARD OF 'burgesslaw17.EvalHas'. -/
def evalHasUptoCard : Claim7 := { stood := { row := evalHasUptoRow, standIns := [], harness := (true, "f2fd24f92c740bc9836102e26baf9657fb574a0b57aac7dbbddfbee99e796fb8"), looks := true }, kinds := [], alts := [], laidByText := true, laidKinds := [.data, .data, .data, .sentinel, .sentinel], laidTests := true, laidLooks := .later }
def EvalHasUptoCardSaid : Prop := Claim7.holds Tryz.pinned (.plain (OpenSpec.upto evalHasSpec)) evalHasUptoCard
end Rows
end Go.Proofs.YteihjdefdeckaaaGreatDoor
