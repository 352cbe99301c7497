/- What the listed variable holds, and a world in which it holds it. -/
import Derived.Test.YtdhpdkfohbafgaaDoorCa2
import Derived.Test.YtdhpdkfohbafgaaDoorLaw
import Derived.Test.YtdhpdkfohbafgaaDoorCards
import Derived.Test.YtdhpdkfohbafgaaDoorTie
import Derived.ProofKit
import Derived.Lib.LaidIn
import Derived.Shelf.Vars
set_option maxRecDepth 100000
namespace Go.Proofs.YtdhpdkfohbafgaaDoor.Ca
open Go.RowKit Go.WideShapes Go.ChangeShapes

theorem own : ownKnob Tryd.prog.godebug = none := by kernel_rfl
theorem env_of {W : World} (h : laidMetH Tryd.prog Rows.calendarBackRow.laid W) : Env W := by
  have hL : laidMet Tryd.prog Rows.calendarBackRow.laid W := h
  have h0 : Lib.TabIs Tryd.prog W "kitbag/calendar.daysBefore" .i64 [0, 31, 59, 90, 120, 151, 181, 212, 243, 273, 304, 334] :=
    Lib.tabIs_of_head (g := 0) (t := 40) (e := 3) (n := 12) (by kernel_rfl) (by kernel_rfl) Tryd.underlying40 Tryd.underlying3 (by kernel_rfl) (by kernel_rfl) hL
  intro r hr
  have := h0.cell (g := 0) (by kernel_rfl) r hr
  rw [this]
  have : r = 0 ∨ r = 1 ∨ r = 2 ∨ r = 3 ∨ r = 4 ∨ r = 5 ∨ r = 6 ∨ r = 7 ∨ r = 8 ∨ r = 9 ∨ r = 10 ∨ r = 11 := by omega
  rcases this with rfl | rfl | rfl | rfl | rfl | rfl | rfl | rfl | rfl | rfl | rfl | rfl <;> rfl

noncomputable def laidWorld (os : Os) : World :=
  let w0 := World.holding Tryd.prog os ⟨#[], #[], []⟩
  let put (h : Array Obj) (g : Nat) (cs : Array Value) : Array Obj := h.modify g fun
    | .cells _ t frozen => .cells cs t frozen
    | o => o
  { w0 with heap := put w0.heap 0 (([0, 31, 59, 90, 120, 151, 181, 212, 243, 273, 304, 334] : List Int).map fun z => Value.int .i64 z).toArray }
theorem laid_met (os : Os) (args : Array Value) : laidMet Tryd.prog Rows.calendarBackRow.laid ((laidWorld os).forCall (fun _ _ => 0) ⟨#[], args, []⟩).memory :=
  laidMet_of_run' 8 (by kernel_rfl) (by kernel_rfl)
end Go.Proofs.YtdhpdkfohbafgaaDoor.Ca
