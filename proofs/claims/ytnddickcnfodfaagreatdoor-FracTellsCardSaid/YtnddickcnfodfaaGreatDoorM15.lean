/- What the listed variables hold, and a world in which they hold it. -/
import Derived.Test.YtnddickcnfodfaaGreatDoorM10
import Derived.Test.YtnddickcnfodfaaGreatDoorLaw
import Derived.Test.YtnddickcnfodfaaGreatDoorCards
import Derived.Test.YtnddickcnfodfaaGreatDoorTie
import Derived.ProofKit
import Derived.Stop.LaidErr
import Derived.Lib.LaidIn
import Derived.Shelf.Vars
set_option maxRecDepth 100000
namespace Go.Proofs.YtnddickcnfodfaaGreatDoor.Bi
open Go.RowKit Go.WideShapes Go.ChangeShapes

theorem own : ownKnob Tryz.prog.godebug = none := by kernel_rfl
theorem env_of {W : World} (h : laidMetH Tryz.prog Rows.fracTellsRow.laid W) : Env W := by
  have hL : laidMet Tryz.prog Rows.fracTellsRow.laid W := h
  have h0 : Lib.TabIs Tryz.prog W "internal/strconv.uint64pow10" .u64 Lib.pow10Tab :=
    Lib.tabIs_of_head (g := 1) (t := 130) (e := 60) (n := 20) (by kernel_rfl) (by kernel_rfl) Tryz.underlying130 Tryz.underlying60 (by kernel_rfl) (by kernel_rfl) hL.tail.tail
  refine ⟨h0, ?_⟩
  have c0 := h0.cell (g := 1) (by kernel_rfl) 0 (by decide)
  rcases Nat.lt_or_ge 1 W.heap.size with h' | h'
  · omega
  · simp [World.cell?, Array.getElem?_eq_none h'] at c0

noncomputable def laidWorld (os : Os) : World :=
  let w0 := World.settled Tryz.prog os
  let put (h : Array Obj) (g : Nat) (cs : Array Value) : Array Obj := h.modify g fun
    | .cells _ t frozen => .cells cs t frozen
    | o => o
  let h1 := put w0.heap 1 (Lib.pow10Tab.map fun z => Value.int .u64 z).toArray
  let h2 := put h1 2 (([0, 1, 28, 2, 29, 14, 24, 3, 30, 22, 20, 15, 25, 17, 4, 8, 31, 27, 13, 23, 21, 19, 16, 7, 26, 12, 18, 6, 11, 5, 10, 9] : List Int).map fun z => Value.int .u8 z).toArray
  let h3 := put h2 3 (([0, 1, 56, 2, 57, 49, 28, 3, 61, 58, 42, 50, 38, 29, 17, 4, 62, 47, 59, 36, 45, 43, 51, 22, 53, 39, 33, 30, 24, 18, 12, 5, 63, 55, 48, 27, 60, 41, 37, 16, 46, 35, 44, 21, 52, 32, 23, 11, 54, 26, 40, 15, 34, 20, 31, 10, 25, 14, 19, 9, 13, 8, 7, 6] : List Int).map fun z => Value.int .u8 z).toArray
  { w0 with heap := h3 }
theorem laid_met (os : Os) (args : Array Value) : laidMet Tryz.prog Rows.fracTellsRow.laid ((laidWorld os).forCall (fun _ _ => 0) ⟨#[], args, []⟩).memory :=
  laidMet_of_run' 8 (by kernel_rfl) (by kernel_rfl)
end Go.Proofs.YtnddickcnfodfaaGreatDoor.Bi
