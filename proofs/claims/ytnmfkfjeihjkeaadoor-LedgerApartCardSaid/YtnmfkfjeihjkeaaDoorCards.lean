/-
  DERIVED. GIVEN WITH THE SEED: THE CARDS: each row of YtnmfkfjeihjkeaaDoorRows.lean that lists a variable, with what it lists TIED to the program's text (the seventh form; the later family's looks); each row that meets fmt, with fmt's text TOLD by the authors' own Lean function (tested against real Go, not proved from fmt's source: count such statements apart). THE CARD IS WHAT COUNTS. Prove the row's statement (the work); the ties are given (YtnmfkfjeihjkeaaDoorTie.lean); close each card by the builder's one call (the guide's Derived/Test/ToyasCard.lean, 'card_holds'). Laid BY PROGRAM, IN A SANDBOX (cutbox-door.mjs). By AI agents, Wed Nov 11 2026. No macro, syntax, notation, axiom, sorry.
-/
import Derived.Test.YtnmfkfjeihjkeaaDoorRows
import GoSem.ClaimSeven
namespace Go.Proofs.YtnmfkfjeihjkeaaDoor
namespace Rows

/-- THE TIED CARD OF 'burgesslaw4.KeepPlays'. -/
def keepPlaysCard : Claim7 := { stood := { row := keepPlaysRow, standIns := [], harness := (true, "ff238d16715b3ce7fe09ab84371a98b6ed5f115650e738bebbbcfa23ebd7a04d"), looks := false }, kinds := [], alts := [], laidByText := true, laidKinds := [.data], laidTests := true, laidLooks := .later }
def KeepPlaysCardSaid : Prop := Claim7.holds Tryd.pinned (.plain (OpenSpec.ofChange keepPlaysSpec)) keepPlaysCard

/-- THE TIED CARD OF 'burgesslaw4.KeepLast'. -/
def keepLastCard : Claim7 := { stood := { row := keepLastRow, standIns := [], harness := (true, "ff238d16715b3ce7fe09ab84371a98b6ed5f115650e738bebbbcfa23ebd7a04d"), looks := false }, kinds := [], alts := [], laidByText := true, laidKinds := [.data], laidTests := true, laidLooks := .later }
def KeepLastCardSaid : Prop := Claim7.holds Tryd.pinned (.plain (OpenSpec.ofChange keepLastSpec)) keepLastCard

/-- THE TIED CARD OF 'burgesslaw4.KeepOfNothing'. -/
def keepOfNothingCard : Claim7 := { stood := { row := keepOfNothingRow, standIns := [], harness := (true, "ff238d16715b3ce7fe09ab84371a98b6ed5f115650e738bebbbcfa23ebd7a04d"), looks := false }, kinds := [], alts := [], laidByText := true, laidKinds := [.data], laidTests := true, laidLooks := .later }
def KeepOfNothingCardSaid : Prop := Claim7.holds Tryd.pinned (.plain (OpenSpec.ofChange keepOfNothingSpec)) keepOfNothingCard

/-- THE TIED CARD OF 'burgesslaw4.KeepApart'. -/
def keepApartCard : Claim7 := { stood := { row := keepApartRow, standIns := [], harness := (true, "ff238d16715b3ce7fe09ab84371a98b6ed5f115650e738bebbbcfa23ebd7a04d"), looks := false }, kinds := [], alts := [], laidByText := true, laidKinds := [.data], laidTests := true, laidLooks := .later }
def KeepApartCardSaid : Prop := Claim7.holds Tryd.pinned (.plain (OpenSpec.ofChange keepApartSpec)) keepApartCard

/-- THE TIED CARD OF 'burgesslaw5.LedgerJumps'. -/
def ledgerJumpsCard : Claim7 := { stood := { row := ledgerJumpsRow, standIns := [], harness := (true, "ff238d16715b3ce7fe09ab84371a98b6ed5f115650e738bebbbcfa23ebd7a04d"), looks := false }, kinds := [], alts := [], laidByText := true, laidKinds := [.data], laidTests := true, laidLooks := .later }
def LedgerJumpsCardSaid : Prop := Claim7.holds Tryd.pinned (.plain (OpenSpec.ofChange ledgerJumpsSpec)) ledgerJumpsCard

/-- THE TIED CARD OF 'burgesslaw5.LedgerOfNothing'. -/
def ledgerOfNothingCard : Claim7 := { stood := { row := ledgerOfNothingRow, standIns := [], harness := (true, "ff238d16715b3ce7fe09ab84371a98b6ed5f115650e738bebbbcfa23ebd7a04d"), looks := false }, kinds := [], alts := [], laidByText := true, laidKinds := [.data], laidTests := true, laidLooks := .later }
def LedgerOfNothingCardSaid : Prop := Claim7.holds Tryd.pinned (.plain (OpenSpec.ofChange ledgerOfNothingSpec)) ledgerOfNothingCard

/-- THE TIED CARD OF 'burgesslaw5.LedgerTorn'. -/
def ledgerTornCard : Claim7 := { stood := { row := ledgerTornRow, standIns := [], harness := (true, "ff238d16715b3ce7fe09ab84371a98b6ed5f115650e738bebbbcfa23ebd7a04d"), looks := false }, kinds := [], alts := [], laidByText := true, laidKinds := [.data], laidTests := true, laidLooks := .later }
def LedgerTornCardSaid : Prop := Claim7.holds Tryd.pinned (.plain (OpenSpec.ofChange ledgerTornSpec)) ledgerTornCard

/-- THE TIED CARD OF 'burgesslaw5.LedgerApart'. -/
def ledgerApartCard : Claim7 := { stood := { row := ledgerApartRow, standIns := [], harness := (true, "ff238d16715b3ce7fe09ab84371a98b6ed5f115650e738bebbbcfa23ebd7a04d"), looks := false }, kinds := [], alts := [], laidByText := true, laidKinds := [.data], laidTests := true, laidLooks := .later }
def LedgerApartCardSaid : Prop := Claim7.holds Tryd.pinned (.plain (OpenSpec.ofChange ledgerApartSpec)) ledgerApartCard

/-- THE SECOND FORM's CARD OF 'burgesslaw4.KeepPlays'. -/
def keepPlaysUptoCard : Claim7 := { stood := { row := keepPlaysUptoRow, standIns := [], harness := (true, "ff238d16715b3ce7fe09ab84371a98b6ed5f115650e738bebbbcfa23ebd7a04d"), looks := false }, kinds := [], alts := [], laidByText := true, laidKinds := [.data], laidTests := true, laidLooks := .later }
def KeepPlaysUptoCardSaid : Prop := Claim7.holds Tryd.pinned (.plain (OpenSpec.upto keepPlaysSpec)) keepPlaysUptoCard

/-- THE SECOND FORM's CARD OF 'burgesslaw4.KeepLast'. -/
def keepLastUptoCard : Claim7 := { stood := { row := keepLastUptoRow, standIns := [], harness := (true, "ff238d16715b3ce7fe09ab84371a98b6ed5f115650e738bebbbcfa23ebd7a04d"), looks := false }, kinds := [], alts := [], laidByText := true, laidKinds := [.data], laidTests := true, laidLooks := .later }
def KeepLastUptoCardSaid : Prop := Claim7.holds Tryd.pinned (.plain (OpenSpec.upto keepLastSpec)) keepLastUptoCard

/-- THE SECOND FORM's CARD OF 'burgesslaw4.KeepOfNothing'. -/
def keepOfNothingUptoCard : Claim7 := { stood := { row := keepOfNothingUptoRow, standIns := [], harness := (true, "ff238d16715b3ce7fe09ab84371a98b6ed5f115650e738bebbbcfa23ebd7a04d"), looks := false }, kinds := [], alts := [], laidByText := true, laidKinds := [.data], laidTests := true, laidLooks := .later }
def KeepOfNothingUptoCardSaid : Prop := Claim7.holds Tryd.pinned (.plain (OpenSpec.upto keepOfNothingSpec)) keepOfNothingUptoCard

/-- THE SECOND FORM's CARD OF 'burgesslaw4.KeepApart'. -/
def keepApartUptoCard : Claim7 := { stood := { row := keepApartUptoRow, standIns := [], harness := (true, "ff238d16715b3ce7fe09ab84371a98b6ed5f115650e738bebbbcfa23ebd7a04d"), looks := false }, kinds := [], alts := [], laidByText := true, laidKinds := [.data], laidTests := true, laidLooks := .later }
def KeepApartUptoCardSaid : Prop := Claim7.holds Tryd.pinned (.plain (OpenSpec.upto keepApartSpec)) keepApartUptoCard

/-- THE SECOND FORM's CARD OF 'burgesslaw5.LedgerJumps'. -/
def ledgerJumpsUptoCard : Claim7 := { stood := { row := ledgerJumpsUptoRow, standIns := [], harness := (true, "ff238d16715b3ce7fe09ab84371a98b6ed5f115650e738bebbbcfa23ebd7a04d"), looks := false }, kinds := [], alts := [], laidByText := true, laidKinds := [.data], laidTests := true, laidLooks := .later }
def LedgerJumpsUptoCardSaid : Prop := Claim7.holds Tryd.pinned (.plain (OpenSpec.upto ledgerJumpsSpec)) ledgerJumpsUptoCard

/-- THE SECOND FORM's CARD OF 'burgesslaw5.LedgerOfNothing'. -/
def ledgerOfNothingUptoCard : Claim7 := { stood := { row := ledgerOfNothingUptoRow, standIns := [], harness := (true, "ff238d16715b3ce7fe09ab84371a98b6ed5f115650e738bebbbcfa23ebd7a04d"), looks := false }, kinds := [], alts := [], laidByText := true, laidKinds := [.data], laidTests := true, laidLooks := .later }
def LedgerOfNothingUptoCardSaid : Prop := Claim7.holds Tryd.pinned (.plain (OpenSpec.upto ledgerOfNothingSpec)) ledgerOfNothingUptoCard

/-- THE SECOND FORM's CARD OF 'burgesslaw5.LedgerTorn'. -/
def ledgerTornUptoCard : Claim7 := { stood := { row := ledgerTornUptoRow, standIns := [], harness := (true, "ff238d16715b3ce7fe09ab84371a98b6ed5f115650e738bebbbcfa23ebd7a04d"), looks := false }, kinds := [], alts := [], laidByText := true, laidKinds := [.data], laidTests := true, laidLooks := .later }
def LedgerTornUptoCardSaid : Prop := Claim7.holds Tryd.pinned (.plain (OpenSpec.upto ledgerTornSpec)) ledgerTornUptoCard

/-- THE SECOND FORM's CARD OF 'burgesslaw5.LedgerApart'. -/
def ledgerApartUptoCard : Claim7 := { stood := { row := ledgerApartUptoRow, standIns := [], harness := (true, "ff238d16715b3ce7fe09ab84371a98b6ed5f115650e738bebbbcfa23ebd7a04d"), looks := false }, kinds := [], alts := [], laidByText := true, laidKinds := [.data], laidTests := true, laidLooks := .later }
def LedgerApartUptoCardSaid : Prop := Claim7.holds Tryd.pinned (.plain (OpenSpec.upto ledgerApartSpec)) ledgerApartUptoCard
end Rows
end Go.Proofs.YtnmfkfjeihjkeaaDoor
