/-
  DERIVED. GIVEN WITH THE SEED: THE CARDS: each row of YthohghnfiicndaaDoorRows.lean that lists a variable, with what it lists TIED to the program's text (the seventh form; the later family's looks); each row that meets fmt, with fmt's text TOLD by the authors' own Lean function (tested against real Go, not proved from fmt's source: count such statements apart). THE CARD IS WHAT COUNTS. Prove the row's statement (the work); the ties are given (YthohghnfiicndaaDoorTie.lean); close each card by the builder's one call (the guide's Derived/Test/ToyasCard.lean, 'card_holds'). Laid BY PROGRAM, IN A SANDBOX (cutbox-door.mjs). By AI agents, Wed Nov 11 2026. No macro, syntax, notation, axiom, sorry.
-/
import Derived.Test.YthohghnfiicndaaDoorRows
import GoSem.ClaimSeven
namespace Go.Proofs.YthohghnfiicndaaDoor
namespace Rows

/-- THE TIED CARD OF 'burgesslaw8.TableBuilds'. -/
def tableBuildsCard : Claim7 := { stood := { row := tableBuildsRow, standIns := [], harness := (true, "c7b981f2a87d6b397eb0b236f4fa674ba650c7b907a9dfc1f971780ba5e34159"), looks := false }, kinds := [], alts := [], laidByText := true, laidKinds := [.data], laidTests := true, laidLooks := .later }
def TableBuildsCardSaid : Prop := Claim7.holds Tryd.pinned (.plain (OpenSpec.ofChange tableBuildsSpec)) tableBuildsCard

/-- THE TIED CARD OF 'burgesslaw8.TableOpens'. -/
def tableOpensCard : Claim7 := { stood := { row := tableOpensRow, standIns := [], harness := (true, "c7b981f2a87d6b397eb0b236f4fa674ba650c7b907a9dfc1f971780ba5e34159"), looks := false }, kinds := [], alts := [], laidByText := true, laidKinds := [.data], laidTests := true, laidLooks := .later }
def TableOpensCardSaid : Prop := Claim7.holds Tryd.pinned (.plain (OpenSpec.ofChange tableOpensSpec)) tableOpensCard

/-- THE TIED CARD OF 'burgesslaw8.TableFinds'. -/
def tableFindsCard : Claim7 := { stood := { row := tableFindsRow, standIns := [], harness := (true, "c7b981f2a87d6b397eb0b236f4fa674ba650c7b907a9dfc1f971780ba5e34159"), looks := false }, kinds := [], alts := [], laidByText := true, laidKinds := [.data], laidTests := true, laidLooks := .later }
def TableFindsCardSaid : Prop := Claim7.holds Tryd.pinned (.plain (OpenSpec.ofChange tableFindsSpec)) tableFindsCard

/-- THE TIED CARD OF 'burgesslaw8.TableTurned'. -/
def tableTurnedCard : Claim7 := { stood := { row := tableTurnedRow, standIns := [], harness := (true, "c7b981f2a87d6b397eb0b236f4fa674ba650c7b907a9dfc1f971780ba5e34159"), looks := false }, kinds := [], alts := [], laidByText := true, laidKinds := [.data], laidTests := true, laidLooks := .later }
def TableTurnedCardSaid : Prop := Claim7.holds Tryd.pinned (.plain (OpenSpec.ofChange tableTurnedSpec)) tableTurnedCard

/-- THE TIED CARD OF 'burgesslaw8.TableOfNothing'. -/
def tableOfNothingCard : Claim7 := { stood := { row := tableOfNothingRow, standIns := [], harness := (true, "c7b981f2a87d6b397eb0b236f4fa674ba650c7b907a9dfc1f971780ba5e34159"), looks := false }, kinds := [], alts := [], laidByText := true, laidKinds := [.data], laidTests := true, laidLooks := .later }
def TableOfNothingCardSaid : Prop := Claim7.holds Tryd.pinned (.plain (OpenSpec.ofChange tableOfNothingSpec)) tableOfNothingCard

/-- THE TIED CARD OF 'burgesslaw8.TableSplits'. -/
def tableSplitsCard : Claim7 := { stood := { row := tableSplitsRow, standIns := [], harness := (true, "c7b981f2a87d6b397eb0b236f4fa674ba650c7b907a9dfc1f971780ba5e34159"), looks := false }, kinds := [], alts := [], laidByText := true, laidKinds := [.data], laidTests := true, laidLooks := .later }
def TableSplitsCardSaid : Prop := Claim7.holds Tryd.pinned (.plain (OpenSpec.ofChange tableSplitsSpec)) tableSplitsCard

/-- THE TIED CARD OF 'burgesslaw8.TableOwn'. -/
def tableOwnCard : Claim7 := { stood := { row := tableOwnRow, standIns := [], harness := (true, "c7b981f2a87d6b397eb0b236f4fa674ba650c7b907a9dfc1f971780ba5e34159"), looks := false }, kinds := [], alts := [], laidByText := true, laidKinds := [.data], laidTests := true, laidLooks := .later }
def TableOwnCardSaid : Prop := Claim7.holds Tryd.pinned (.plain (OpenSpec.ofChange tableOwnSpec)) tableOwnCard

/-- THE SECOND FORM's CARD OF 'burgesslaw8.TableBuilds'. -/
def tableBuildsUptoCard : Claim7 := { stood := { row := tableBuildsUptoRow, standIns := [], harness := (true, "c7b981f2a87d6b397eb0b236f4fa674ba650c7b907a9dfc1f971780ba5e34159"), looks := false }, kinds := [], alts := [], laidByText := true, laidKinds := [.data], laidTests := true, laidLooks := .later }
def TableBuildsUptoCardSaid : Prop := Claim7.holds Tryd.pinned (.plain (OpenSpec.upto tableBuildsSpec)) tableBuildsUptoCard

/-- THE SECOND FORM's CARD OF 'burgesslaw8.TableOpens'. -/
def tableOpensUptoCard : Claim7 := { stood := { row := tableOpensUptoRow, standIns := [], harness := (true, "c7b981f2a87d6b397eb0b236f4fa674ba650c7b907a9dfc1f971780ba5e34159"), looks := false }, kinds := [], alts := [], laidByText := true, laidKinds := [.data], laidTests := true, laidLooks := .later }
def TableOpensUptoCardSaid : Prop := Claim7.holds Tryd.pinned (.plain (OpenSpec.upto tableOpensSpec)) tableOpensUptoCard

/-- THE SECOND FORM's CARD OF 'burgesslaw8.TableFinds'. -/
def tableFindsUptoCard : Claim7 := { stood := { row := tableFindsUptoRow, standIns := [], harness := (true, "c7b981f2a87d6b397eb0b236f4fa674ba650c7b907a9dfc1f971780ba5e34159"), looks := false }, kinds := [], alts := [], laidByText := true, laidKinds := [.data], laidTests := true, laidLooks := .later }
def TableFindsUptoCardSaid : Prop := Claim7.holds Tryd.pinned (.plain (OpenSpec.upto tableFindsSpec)) tableFindsUptoCard

/-- THE SECOND FORM's CARD OF 'burgesslaw8.TableTurned'. -/
def tableTurnedUptoCard : Claim7 := { stood := { row := tableTurnedUptoRow, standIns := [], harness := (true, "c7b981f2a87d6b397eb0b236f4fa674ba650c7b907a9dfc1f971780ba5e34159"), looks := false }, kinds := [], alts := [], laidByText := true, laidKinds := [.data], laidTests := true, laidLooks := .later }
def TableTurnedUptoCardSaid : Prop := Claim7.holds Tryd.pinned (.plain (OpenSpec.upto tableTurnedSpec)) tableTurnedUptoCard

/-- THE SECOND FORM's CARD OF 'burgesslaw8.TableOfNothing'. -/
def tableOfNothingUptoCard : Claim7 := { stood := { row := tableOfNothingUptoRow, standIns := [], harness := (true, "c7b981f2a87d6b397eb0b236f4fa674ba650c7b907a9dfc1f971780ba5e34159"), looks := false }, kinds := [], alts := [], laidByText := true, laidKinds := [.data], laidTests := true, laidLooks := .later }
def TableOfNothingUptoCardSaid : Prop := Claim7.holds Tryd.pinned (.plain (OpenSpec.upto tableOfNothingSpec)) tableOfNothingUptoCard

/-- THE SECOND FORM's CARD OF 'burgesslaw8.TableSplits'. -/
def tableSplitsUptoCard : Claim7 := { stood := { row := tableSplitsUptoRow, standIns := [], harness := (true, "c7b981f2a87d6b397eb0b236f4fa674ba650c7b907a9dfc1f971780ba5e34159"), looks := false }, kinds := [], alts := [], laidByText := true, laidKinds := [.data], laidTests := true, laidLooks := .later }
def TableSplitsUptoCardSaid : Prop := Claim7.holds Tryd.pinned (.plain (OpenSpec.upto tableSplitsSpec)) tableSplitsUptoCard

/-- THE SECOND FORM's CARD OF 'burgesslaw8.TableOwn'. -/
def tableOwnUptoCard : Claim7 := { stood := { row := tableOwnUptoRow, standIns := [], harness := (true, "c7b981f2a87d6b397eb0b236f4fa674ba650c7b907a9dfc1f971780ba5e34159"), looks := false }, kinds := [], alts := [], laidByText := true, laidKinds := [.data], laidTests := true, laidLooks := .later }
def TableOwnUptoCardSaid : Prop := Claim7.holds Tryd.pinned (.plain (OpenSpec.upto tableOwnSpec)) tableOwnUptoCard
end Rows
end Go.Proofs.YthohghnfiicndaaDoor
