/-
  DERIVED. GIVEN WITH THE SEED: THE CARDS: each row of YtmhdhabgdlefjaaGreatDoorRows.lean that lists a variable, with what it lists TIED to the program's text (the seventh form; the later family's looks); each row that meets fmt, with fmt's text TOLD by the authors' own Lean function (tested against real Go, not proved from fmt's source: count such statements apart). THE CARD IS WHAT COUNTS. Prove the row's statement (the work); the ties are given (YtmhdhabgdlefjaaGreatDoorTie.lean); close each card by the builder's one call (the guide's Derived/Test/ToyasCard.lean, 'card_holds'). Laid BY PROGRAM, IN A SANDBOX (cutbox-door.mjs). By AI agents, Wed Nov 11 2026. No macro, syntax, notation, axiom, sorry.
-/
import Derived.Test.YtmhdhabgdlefjaaGreatDoorRows
import GoSem.ClaimSeven
namespace Go.Proofs.YtmhdhabgdlefjaaGreatDoor
namespace Rows

/-- THE TIED CARD OF 'kitbaglaw09.UnitTells'. -/
def unitTellsCard : Claim7 := { stood := { row := unitTellsRow, standIns := [], harness := (true, "147e5c2469010ca0c89589bccc9e023cc0e2e684c2522932d903db1c4443b1c1"), looks := false }, kinds := [], alts := [], laidByText := true, laidKinds := [.data, .data, .data, .data, .data], laidTests := true, laidLooks := .later }
def UnitTellsCardSaid : Prop := Claim7.holds Tryz.pinned (.plain (OpenSpec.ofChange unitTellsSpec)) unitTellsCard

/-- THE TIED CARD OF 'kitbaglaw09.UnitProducts'. -/
def unitProductsCard : Claim7 := { stood := { row := unitProductsRow, standIns := [], harness := (true, "147e5c2469010ca0c89589bccc9e023cc0e2e684c2522932d903db1c4443b1c1"), looks := false }, kinds := [], alts := [], laidByText := true, laidKinds := [.data, .data, .data, .data, .data], laidTests := true, laidLooks := .later }
def UnitProductsCardSaid : Prop := Claim7.holds Tryz.pinned (.plain (OpenSpec.ofChange unitProductsSpec)) unitProductsCard

/-- THE TIED CARD OF 'kitbaglaw09.UnitGroup'. -/
def unitGroupCard : Claim7 := { stood := { row := unitGroupRow, standIns := [], harness := (true, "147e5c2469010ca0c89589bccc9e023cc0e2e684c2522932d903db1c4443b1c1"), looks := false }, kinds := [], alts := [], laidByText := true, laidKinds := [.data, .data, .data, .data, .data], laidTests := true, laidLooks := .later }
def UnitGroupCardSaid : Prop := Claim7.holds Tryz.pinned (.plain (OpenSpec.ofChange unitGroupSpec)) unitGroupCard

/-- THE TIED CARD OF 'kitbaglaw09.UnitDims'. -/
def unitDimsCard : Claim7 := { stood := { row := unitDimsRow, standIns := [], harness := (true, "147e5c2469010ca0c89589bccc9e023cc0e2e684c2522932d903db1c4443b1c1"), looks := false }, kinds := [], alts := [], laidByText := true, laidKinds := [.data, .data, .data, .data, .data], laidTests := true, laidLooks := .later }
def UnitDimsCardSaid : Prop := Claim7.holds Tryz.pinned (.plain (OpenSpec.ofChange unitDimsSpec)) unitDimsCard

/-- THE SECOND FORM's CARD OF 'kitbaglaw09.UnitTells'. -/
def unitTellsUptoCard : Claim7 := { stood := { row := unitTellsUptoRow, standIns := [], harness := (true, "147e5c2469010ca0c89589bccc9e023cc0e2e684c2522932d903db1c4443b1c1"), looks := false }, kinds := [], alts := [], laidByText := true, laidKinds := [.data, .data, .data, .data, .data], laidTests := true, laidLooks := .later }
def UnitTellsUptoCardSaid : Prop := Claim7.holds Tryz.pinned (.plain (OpenSpec.upto unitTellsSpec)) unitTellsUptoCard

/-- THE SECOND FORM's CARD OF 'kitbaglaw09.UnitProducts'. -/
def unitProductsUptoCard : Claim7 := { stood := { row := unitProductsUptoRow, standIns := [], harness := (true, "147e5c2469010ca0c89589bccc9e023cc0e2e684c2522932d903db1c4443b1c1"), looks := false }, kinds := [], alts := [], laidByText := true, laidKinds := [.data, .data, .data, .data, .data], laidTests := true, laidLooks := .later }
def UnitProductsUptoCardSaid : Prop := Claim7.holds Tryz.pinned (.plain (OpenSpec.upto unitProductsSpec)) unitProductsUptoCard

/-- THE SECOND FORM's CARD OF 'kitbaglaw09.UnitGroup'. -/
def unitGroupUptoCard : Claim7 := { stood := { row := unitGroupUptoRow, standIns := [], harness := (true, "147e5c2469010ca0c89589bccc9e023cc0e2e684c2522932d903db1c4443b1c1"), looks := false }, kinds := [], alts := [], laidByText := true, laidKinds := [.data, .data, .data, .data, .data], laidTests := true, laidLooks := .later }
def UnitGroupUptoCardSaid : Prop := Claim7.holds Tryz.pinned (.plain (OpenSpec.upto unitGroupSpec)) unitGroupUptoCard

/-- THE SECOND FORM's CARD OF 'kitbaglaw09.UnitDims'. -/
def unitDimsUptoCard : Claim7 := { stood := { row := unitDimsUptoRow, standIns := [], harness := (true, "147e5c2469010ca0c89589bccc9e023cc0e2e684c2522932d903db1c4443b1c1"), looks := false }, kinds := [], alts := [], laidByText := true, laidKinds := [.data, .data, .data, .data, .data], laidTests := true, laidLooks := .later }
def UnitDimsUptoCardSaid : Prop := Claim7.holds Tryz.pinned (.plain (OpenSpec.upto unitDimsSpec)) unitDimsUptoCard
end Rows
end Go.Proofs.YtmhdhabgdlefjaaGreatDoor
