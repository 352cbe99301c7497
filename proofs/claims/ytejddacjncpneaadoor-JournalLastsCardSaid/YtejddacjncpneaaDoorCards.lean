/-
  DERIVED. GIVEN WITH THE SEED: THE CARDS: each row of YtejddacjncpneaaDoorRows.lean that lists a variable, with what it lists TIED to the program's text (the seventh form; the later family's looks); each row that meets fmt, with fmt's text TOLD by the authors' own Lean function (tested against real Go, not proved from fmt's source: count such statements apart). THE CARD IS WHAT COUNTS. Prove the row's statement (the work); the ties are given (YtejddacjncpneaaDoorTie.lean); close each card by the builder's one call (the guide's Derived/Test/ToyasCard.lean, 'card_holds'). Laid BY PROGRAM, IN A SANDBOX (cutbox-door.mjs). By AI agents, Wed Nov 11 2026. No macro, syntax, notation, axiom, sorry.
-/
import Derived.Test.YtejddacjncpneaaDoorRows
import GoSem.ClaimSeven
namespace Go.Proofs.YtejddacjncpneaaDoor
namespace Rows

/-- THE TIED CARD OF 'kitbaglaw03.JournalLasts'. -/
def journalLastsCard : Claim7 := { stood := { row := journalLastsRow, standIns := [], harness := (true, "4610138fa7e956638a8f1917ac0837d249d744d6d98446be17d9322a2ee21170"), looks := true }, kinds := [], alts := [], laidByText := true, laidKinds := [.data, .data, .data, .sentinel, .sentinel], laidTests := true, laidLooks := .later }
def JournalLastsCardSaid : Prop := Claim7.holds Tryd.pinned (.plain (OpenSpec.ofChange journalLastsSpec)) journalLastsCard

/-- THE TIED CARD OF 'kitbaglaw03.JournalStays'. -/
def journalStaysCard : Claim7 := { stood := { row := journalStaysRow, standIns := [], harness := (true, "4610138fa7e956638a8f1917ac0837d249d744d6d98446be17d9322a2ee21170"), looks := true }, kinds := [], alts := [], laidByText := true, laidKinds := [.data, .data, .data, .sentinel, .sentinel], laidTests := true, laidLooks := .later }
def JournalStaysCardSaid : Prop := Claim7.holds Tryd.pinned (.plain (OpenSpec.ofChange journalStaysSpec)) journalStaysCard

/-- THE TIED CARD OF 'kitbaglaw03.JournalReads'. -/
def journalReadsCard : Claim7 := { stood := { row := journalReadsRow, standIns := [], harness := (true, "4610138fa7e956638a8f1917ac0837d249d744d6d98446be17d9322a2ee21170"), looks := true }, kinds := [], alts := [], laidByText := true, laidKinds := [.data, .data, .data, .sentinel, .sentinel], laidTests := true, laidLooks := .later }
def JournalReadsCardSaid : Prop := Claim7.holds Tryd.pinned (.plain (OpenSpec.ofChange journalReadsSpec)) journalReadsCard

/-- THE SECOND FORM's CARD OF 'kitbaglaw03.JournalLasts'. -/
def journalLastsUptoCard : Claim7 := { stood := { row := journalLastsUptoRow, standIns := [], harness := (true, "4610138fa7e956638a8f1917ac0837d249d744d6d98446be17d9322a2ee21170"), looks := true }, kinds := [], alts := [], laidByText := true, laidKinds := [.data, .data, .data, .sentinel, .sentinel], laidTests := true, laidLooks := .later }
def JournalLastsUptoCardSaid : Prop := Claim7.holds Tryd.pinned (.plain (OpenSpec.upto journalLastsSpec)) journalLastsUptoCard

/-- THE SECOND FORM's CARD OF 'kitbaglaw03.JournalStays'. -/
def journalStaysUptoCard : Claim7 := { stood := { row := journalStaysUptoRow, standIns := [], harness := (true, "4610138fa7e956638a8f1917ac0837d249d744d6d98446be17d9322a2ee21170"), looks := true }, kinds := [], alts := [], laidByText := true, laidKinds := [.data, .data, .data, .sentinel, .sentinel], laidTests := true, laidLooks := .later }
def JournalStaysUptoCardSaid : Prop := Claim7.holds Tryd.pinned (.plain (OpenSpec.upto journalStaysSpec)) journalStaysUptoCard

/-- THE SECOND FORM's CARD OF 'kitbaglaw03.JournalReads'. -/
def journalReadsUptoCard : Claim7 := { stood := { row := journalReadsUptoRow, standIns := [], harness := (true, "4610138fa7e956638a8f1917ac0837d249d744d6d98446be17d9322a2ee21170"), looks := true }, kinds := [], alts := [], laidByText := true, laidKinds := [.data, .data, .data, .sentinel, .sentinel], laidTests := true, laidLooks := .later }
def JournalReadsUptoCardSaid : Prop := Claim7.holds Tryd.pinned (.plain (OpenSpec.upto journalReadsSpec)) journalReadsUptoCard
end Rows
end Go.Proofs.YtejddacjncpneaaDoor
