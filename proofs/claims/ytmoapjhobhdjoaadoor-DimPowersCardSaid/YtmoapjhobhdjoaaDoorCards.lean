/-
  DERIVED. GIVEN WITH THE SEED: THE CARDS: each row of YtmoapjhobhdjoaaDoorRows.lean that lists a variable, with what it lists TIED to the program's text (the seventh form; the later family's looks); each row that meets fmt, with fmt's text TOLD by the authors' own Lean function (tested against real Go, not proved from fmt's source: count such statements apart). THE CARD IS WHAT COUNTS. Prove the row's statement (the work); the ties are given (YtmoapjhobhdjoaaDoorTie.lean); close each card by the builder's one call (the guide's Derived/Test/ToyasCard.lean, 'card_holds'). Laid BY PROGRAM, IN A SANDBOX (cutbox-door.mjs). By AI agents, Wed Nov 11 2026. No macro, syntax, notation, axiom, sorry.
-/
import Derived.Test.YtmoapjhobhdjoaaDoorRows
import GoSem.ClaimSeven
namespace Go.Proofs.YtmoapjhobhdjoaaDoor
namespace Rows

/-- THE TIED CARD OF 'kitbaglaw08.DimBack'. -/
def dimBackCard : Claim7 := { stood := { row := dimBackRow, standIns := [], harness := (true, "2ade9c7ce8a67bda8c3c25c2e2058472ef1ba84e365b9ae8c3278f72d4bec709"), looks := true }, kinds := [], alts := [], laidByText := true, laidKinds := [.data, .data, .data, .data, .sentinel, .sentinel, .data, .pinned], laidTests := true, laidLooks := .later }
def DimBackCardSaid : Prop := Claim7.holds Tryd.pinned (.plain (OpenSpec.ofChange dimBackSpec)) dimBackCard

/-- THE TIED CARD OF 'kitbaglaw08.DimGroup'. -/
def dimGroupCard : Claim7 := { stood := { row := dimGroupRow, standIns := [], harness := (true, "2ade9c7ce8a67bda8c3c25c2e2058472ef1ba84e365b9ae8c3278f72d4bec709"), looks := true }, kinds := [], alts := [], laidByText := true, laidKinds := [.data, .data, .data, .data, .sentinel, .sentinel, .data, .pinned], laidTests := true, laidLooks := .later }
def DimGroupCardSaid : Prop := Claim7.holds Tryd.pinned (.plain (OpenSpec.ofChange dimGroupSpec)) dimGroupCard

/-- THE TIED CARD OF 'kitbaglaw08.DimPowers'. -/
def dimPowersCard : Claim7 := { stood := { row := dimPowersRow, standIns := [], harness := (true, "2ade9c7ce8a67bda8c3c25c2e2058472ef1ba84e365b9ae8c3278f72d4bec709"), looks := true }, kinds := [], alts := [], laidByText := true, laidKinds := [.data, .data, .data, .data, .sentinel, .sentinel, .data, .pinned], laidTests := true, laidLooks := .later }
def DimPowersCardSaid : Prop := Claim7.holds Tryd.pinned (.plain (OpenSpec.ofChange dimPowersSpec)) dimPowersCard

/-- THE SECOND FORM's CARD OF 'kitbaglaw08.DimBack'. -/
def dimBackUptoCard : Claim7 := { stood := { row := dimBackUptoRow, standIns := [], harness := (true, "2ade9c7ce8a67bda8c3c25c2e2058472ef1ba84e365b9ae8c3278f72d4bec709"), looks := true }, kinds := [], alts := [], laidByText := true, laidKinds := [.data, .data, .data, .data, .sentinel, .sentinel, .data, .pinned], laidTests := true, laidLooks := .later }
def DimBackUptoCardSaid : Prop := Claim7.holds Tryd.pinned (.plain (OpenSpec.upto dimBackSpec)) dimBackUptoCard

/-- THE SECOND FORM's CARD OF 'kitbaglaw08.DimGroup'. -/
def dimGroupUptoCard : Claim7 := { stood := { row := dimGroupUptoRow, standIns := [], harness := (true, "2ade9c7ce8a67bda8c3c25c2e2058472ef1ba84e365b9ae8c3278f72d4bec709"), looks := true }, kinds := [], alts := [], laidByText := true, laidKinds := [.data, .data, .data, .data, .sentinel, .sentinel, .data, .pinned], laidTests := true, laidLooks := .later }
def DimGroupUptoCardSaid : Prop := Claim7.holds Tryd.pinned (.plain (OpenSpec.upto dimGroupSpec)) dimGroupUptoCard

/-- THE SECOND FORM's CARD OF 'kitbaglaw08.DimPowers'. -/
def dimPowersUptoCard : Claim7 := { stood := { row := dimPowersUptoRow, standIns := [], harness := (true, "2ade9c7ce8a67bda8c3c25c2e2058472ef1ba84e365b9ae8c3278f72d4bec709"), looks := true }, kinds := [], alts := [], laidByText := true, laidKinds := [.data, .data, .data, .data, .sentinel, .sentinel, .data, .pinned], laidTests := true, laidLooks := .later }
def DimPowersUptoCardSaid : Prop := Claim7.holds Tryd.pinned (.plain (OpenSpec.upto dimPowersSpec)) dimPowersUptoCard
end Rows
end Go.Proofs.YtmoapjhobhdjoaaDoor
