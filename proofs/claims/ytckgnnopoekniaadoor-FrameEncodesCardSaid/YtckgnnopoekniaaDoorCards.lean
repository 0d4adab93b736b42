/-
  DERIVED. GIVEN WITH THE SEED: THE CARDS: each row of YtckgnnopoekniaaDoorRows.lean that lists a variable, with what it lists TIED to the program's text (the seventh form; the later family's looks); each row that meets fmt, with fmt's text TOLD by the authors' own Lean function (tested against real Go, not proved from fmt's source: count such statements apart). THE CARD IS WHAT COUNTS. Prove the row's statement (the work); the ties are given (YtckgnnopoekniaaDoorTie.lean); close each card by the builder's one call (the guide's Derived/Test/ToyasCard.lean, 'card_holds'). Laid BY PROGRAM, IN A SANDBOX (cutbox-door.mjs). By AI agents, Wed Nov 11 2026. No macro, syntax, notation, axiom, sorry.
-/
import Derived.Test.YtckgnnopoekniaaDoorRows
import GoSem.ClaimSeven
namespace Go.Proofs.YtckgnnopoekniaaDoor
namespace Rows

/-- THE TIED CARD OF 'burgesslaw2.FrameEncodes'. -/
def frameEncodesCard : Claim7 := { stood := { row := frameEncodesRow, standIns := [], harness := (true, "d00bd4f93ae1570d9d8c8e7fdca0e45705382cd3f99fa9d8cf416c38ba755f4d"), looks := false }, kinds := [], alts := [], laidByText := true, laidKinds := [.data], laidTests := true, laidLooks := .later }
def FrameEncodesCardSaid : Prop := Claim7.holds Tryd.pinned (.plain (OpenSpec.ofChange frameEncodesSpec)) frameEncodesCard

/-- THE TIED CARD OF 'burgesslaw2.FrameDecodes'. -/
def frameDecodesCard : Claim7 := { stood := { row := frameDecodesRow, standIns := [], harness := (true, "d00bd4f93ae1570d9d8c8e7fdca0e45705382cd3f99fa9d8cf416c38ba755f4d"), looks := false }, kinds := [], alts := [], laidByText := true, laidKinds := [.data], laidTests := true, laidLooks := .later }
def FrameDecodesCardSaid : Prop := Claim7.holds Tryd.pinned (.plain (OpenSpec.ofChange frameDecodesSpec)) frameDecodesCard

/-- THE TIED CARD OF 'burgesslaw2.FrameSees'. -/
def frameSeesCard : Claim7 := { stood := { row := frameSeesRow, standIns := [], harness := (true, "d00bd4f93ae1570d9d8c8e7fdca0e45705382cd3f99fa9d8cf416c38ba755f4d"), looks := false }, kinds := [], alts := [], laidByText := true, laidKinds := [.data], laidTests := true, laidLooks := .later }
def FrameSeesCardSaid : Prop := Claim7.holds Tryd.pinned (.plain (OpenSpec.ofChange frameSeesSpec)) frameSeesCard

/-- THE TIED CARD OF 'burgesslaw2.FrameTears'. -/
def frameTearsCard : Claim7 := { stood := { row := frameTearsRow, standIns := [], harness := (true, "d00bd4f93ae1570d9d8c8e7fdca0e45705382cd3f99fa9d8cf416c38ba755f4d"), looks := false }, kinds := [], alts := [], laidByText := true, laidKinds := [.data], laidTests := true, laidLooks := .later }
def FrameTearsCardSaid : Prop := Claim7.holds Tryd.pinned (.plain (OpenSpec.ofChange frameTearsSpec)) frameTearsCard

/-- THE TIED CARD OF 'burgesslaw2.FrameRows'. -/
def frameRowsCard : Claim7 := { stood := { row := frameRowsRow, standIns := [], harness := (true, "d00bd4f93ae1570d9d8c8e7fdca0e45705382cd3f99fa9d8cf416c38ba755f4d"), looks := false }, kinds := [], alts := [], laidByText := true, laidKinds := [.data], laidTests := true, laidLooks := .later }
def FrameRowsCardSaid : Prop := Claim7.holds Tryd.pinned (.plain (OpenSpec.ofChange frameRowsSpec)) frameRowsCard

/-- THE SECOND FORM's CARD OF 'burgesslaw2.FrameEncodes'. -/
def frameEncodesUptoCard : Claim7 := { stood := { row := frameEncodesUptoRow, standIns := [], harness := (true, "d00bd4f93ae1570d9d8c8e7fdca0e45705382cd3f99fa9d8cf416c38ba755f4d"), looks := false }, kinds := [], alts := [], laidByText := true, laidKinds := [.data], laidTests := true, laidLooks := .later }
def FrameEncodesUptoCardSaid : Prop := Claim7.holds Tryd.pinned (.plain (OpenSpec.upto frameEncodesSpec)) frameEncodesUptoCard

/-- THE SECOND FORM's CARD OF 'burgesslaw2.FrameDecodes'. -/
def frameDecodesUptoCard : Claim7 := { stood := { row := frameDecodesUptoRow, standIns := [], harness := (true, "d00bd4f93ae1570d9d8c8e7fdca0e45705382cd3f99fa9d8cf416c38ba755f4d"), looks := false }, kinds := [], alts := [], laidByText := true, laidKinds := [.data], laidTests := true, laidLooks := .later }
def FrameDecodesUptoCardSaid : Prop := Claim7.holds Tryd.pinned (.plain (OpenSpec.upto frameDecodesSpec)) frameDecodesUptoCard

/-- THE SECOND FORM's CARD OF 'burgesslaw2.FrameSees'. -/
def frameSeesUptoCard : Claim7 := { stood := { row := frameSeesUptoRow, standIns := [], harness := (true, "d00bd4f93ae1570d9d8c8e7fdca0e45705382cd3f99fa9d8cf416c38ba755f4d"), looks := false }, kinds := [], alts := [], laidByText := true, laidKinds := [.data], laidTests := true, laidLooks := .later }
def FrameSeesUptoCardSaid : Prop := Claim7.holds Tryd.pinned (.plain (OpenSpec.upto frameSeesSpec)) frameSeesUptoCard

/-- THE SECOND FORM's CARD OF 'burgesslaw2.FrameTears'. -/
def frameTearsUptoCard : Claim7 := { stood := { row := frameTearsUptoRow, standIns := [], harness := (true, "d00bd4f93ae1570d9d8c8e7fdca0e45705382cd3f99fa9d8cf416c38ba755f4d"), looks := false }, kinds := [], alts := [], laidByText := true, laidKinds := [.data], laidTests := true, laidLooks := .later }
def FrameTearsUptoCardSaid : Prop := Claim7.holds Tryd.pinned (.plain (OpenSpec.upto frameTearsSpec)) frameTearsUptoCard

/-- THE SECOND FORM's CARD OF 'burgesslaw2.FrameRows'. -/
def frameRowsUptoCard : Claim7 := { stood := { row := frameRowsUptoRow, standIns := [], harness := (true, "d00bd4f93ae1570d9d8c8e7fdca0e45705382cd3f99fa9d8cf416c38ba755f4d"), looks := false }, kinds := [], alts := [], laidByText := true, laidKinds := [.data], laidTests := true, laidLooks := .later }
def FrameRowsUptoCardSaid : Prop := Claim7.holds Tryd.pinned (.plain (OpenSpec.upto frameRowsSpec)) frameRowsUptoCard
end Rows
end Go.Proofs.YtckgnnopoekniaaDoor
