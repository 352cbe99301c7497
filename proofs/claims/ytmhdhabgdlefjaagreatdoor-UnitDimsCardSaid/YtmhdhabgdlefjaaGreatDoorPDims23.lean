/- The contract of the reference of dim: Div. -/
import Derived.Deep.RegionHeld3
import Derived.Deep.CutRange
import Derived.Deep.CutBlock
import Derived.Deep.RegionWith
import Derived.Test.YtmhdhabgdlefjaaGreatDoorPDims21
set_option maxRecDepth 100000
namespace Go.Proofs.YtmhdhabgdlefjaaGreatDoor.Dm
open Go.RowKit

/-- The boxes of the reference's Div, and what is below. -/
def Dv (w : World) (f g : Nat → Int) (W : World) : Prop := At W w.heap.size f ∧ At W (w.heap.size + 1) g ∧ At W (w.heap.size + 1 + 1) zf ∧ RowKit.Below w.heap.size w W
theorem Dv.later {w W W' : World} {f g : Nat → Int} (h : Dv w f g W) (hb : RowKit.Below W.heap.size W W') : Dv w f g W' :=
  ⟨h.1.below0 hb, h.2.1.below0 hb, h.2.2.1.below0 hb, h.2.2.2.trans (hb.mono h.2.2.2.size)⟩
theorem Dv.cells {w W : World} {f g : Nat → Int} (h : Dv w f g W) : W.cell? ⟨w.heap.size, 0, none⟩ = some (.int .i64 (f 0)) ∧ W.cell? ⟨w.heap.size, 1, none⟩ = some (.int .i64 (f 1)) ∧ W.cell? ⟨w.heap.size, 2, none⟩ = some (.int .i64 (f 2)) ∧ W.cell? ⟨w.heap.size, 3, none⟩ = some (.int .i64 (f 3)) ∧ W.cell? ⟨w.heap.size, 4, none⟩ = some (.int .i64 (f 4)) ∧ W.cell? ⟨w.heap.size, 5, none⟩ = some (.int .i64 (f 5)) ∧ W.cell? ⟨w.heap.size + 1, 0, none⟩ = some (.int .i64 (g 0)) ∧ W.cell? ⟨w.heap.size + 1, 1, none⟩ = some (.int .i64 (g 1)) ∧ W.cell? ⟨w.heap.size + 1, 2, none⟩ = some (.int .i64 (g 2)) ∧ W.cell? ⟨w.heap.size + 1, 3, none⟩ = some (.int .i64 (g 3)) ∧ W.cell? ⟨w.heap.size + 1, 4, none⟩ = some (.int .i64 (g 4)) ∧ W.cell? ⟨w.heap.size + 1, 5, none⟩ = some (.int .i64 (g 5)) :=
  ⟨h.1.cell 0 (by omega), h.1.cell 1 (by omega), h.1.cell 2 (by omega), h.1.cell 3 (by omega), h.1.cell 4 (by omega), h.1.cell 5 (by omega), h.2.1.cell 0 (by omega), h.2.1.cell 1 (by omega), h.2.1.cell 2 (by omega), h.2.1.cell 3 (by omega), h.2.1.cell 4 (by omega), h.2.1.cell 5 (by omega)⟩
end Go.Proofs.YtmhdhabgdlefjaaGreatDoor.Dm
