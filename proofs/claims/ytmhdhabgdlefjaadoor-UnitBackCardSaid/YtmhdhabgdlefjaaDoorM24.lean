/- The contract of the reference of dim: Div. -/
import Derived.Deep.RegionHeld3
import Derived.Deep.CutRange
import Derived.Deep.CutBlock
import Derived.Test.YtmhdhabgdlefjaaDoorM23
set_option maxRecDepth 100000
namespace Go.Proofs.YtmhdhabgdlefjaaDoor.Dm
open Go.RowKit

theorem mulR_DE8 (f g : Nat → Int) : ∃ X k, mulR f g = DE X k := by
  unfold mulR inR
  split
  · split
    · exact ⟨_, _, rfl⟩
    · exact ⟨_, _, rfl⟩
  · exact ⟨_, _, rfl⟩
/-- The boxes of the reference's Div, and what is below. -/
def Dv (w : World) (f g : Nat → Int) (W : World) : Prop := At W w.heap.size f ∧ At W (w.heap.size + 1) g ∧ At W (w.heap.size + 1 + 1) zf ∧ RowKit.Below w.heap.size w W
theorem Dv.later {w W W' : World} {f g : Nat → Int} (h : Dv w f g W) (hb : RowKit.Below W.heap.size W W') : Dv w f g W' :=
  ⟨h.1.below0 hb, h.2.1.below0 hb, h.2.2.1.below0 hb, h.2.2.2.trans (hb.mono h.2.2.2.size)⟩
theorem Dv.cells {w W : World} {f g : Nat → Int} (h : Dv w f g W) : W.cell? ⟨w.heap.size, 0, none⟩ = some (.int .i64 (f 0)) ∧ W.cell? ⟨w.heap.size, 1, none⟩ = some (.int .i64 (f 1)) ∧ W.cell? ⟨w.heap.size, 2, none⟩ = some (.int .i64 (f 2)) ∧ W.cell? ⟨w.heap.size, 3, none⟩ = some (.int .i64 (f 3)) ∧ W.cell? ⟨w.heap.size, 4, none⟩ = some (.int .i64 (f 4)) ∧ W.cell? ⟨w.heap.size, 5, none⟩ = some (.int .i64 (f 5)) ∧ W.cell? ⟨w.heap.size + 1, 0, none⟩ = some (.int .i64 (g 0)) ∧ W.cell? ⟨w.heap.size + 1, 1, none⟩ = some (.int .i64 (g 1)) ∧ W.cell? ⟨w.heap.size + 1, 2, none⟩ = some (.int .i64 (g 2)) ∧ W.cell? ⟨w.heap.size + 1, 3, none⟩ = some (.int .i64 (g 3)) ∧ W.cell? ⟨w.heap.size + 1, 4, none⟩ = some (.int .i64 (g 4)) ∧ W.cell? ⟨w.heap.size + 1, 5, none⟩ = some (.int .i64 (g 5)) :=
  ⟨h.1.cell 0 (by omega), h.1.cell 1 (by omega), h.1.cell 2 (by omega), h.1.cell 3 (by omega), h.1.cell 4 (by omega), h.1.cell 5 (by omega), h.2.1.cell 0 (by omega), h.2.1.cell 1 (by omega), h.2.1.cell 2 (by omega), h.2.1.cell 3 (by omega), h.2.1.cell 4 (by omega), h.2.1.cell 5 (by omega)⟩
theorem At.zc {w : World} {b : Nat} (h : At w b zf) : w.cell? ⟨b, 0, none⟩ = some (.int .i64 0) ∧ w.cell? ⟨b, 1, none⟩ = some (.int .i64 0) ∧ w.cell? ⟨b, 2, none⟩ = some (.int .i64 0) ∧ w.cell? ⟨b, 3, none⟩ = some (.int .i64 0) ∧ w.cell? ⟨b, 4, none⟩ = some (.int .i64 0) ∧ w.cell? ⟨b, 5, none⟩ = some (.int .i64 0) ∧ w.frozen? ⟨b, 0, none⟩ = false ∧ w.frozen? ⟨b, 1, none⟩ = false ∧ w.frozen? ⟨b, 2, none⟩ = false ∧ w.frozen? ⟨b, 3, none⟩ = false ∧ w.frozen? ⟨b, 4, none⟩ = false ∧ w.frozen? ⟨b, 5, none⟩ = false :=
  ⟨h.cell 0 (by omega), h.cell 1 (by omega), h.cell 2 (by omega), h.cell 3 (by omega), h.cell 4 (by omega), h.cell 5 (by omega), h.froz 0, h.froz 1, h.froz 2, h.froz 3, h.froz 4, h.froz 5⟩
theorem At.six {w : World} {b : Nat} {h V : Nat → Int} (ha : At w b h) : At ((((((w.setCell ⟨b, 0, none⟩ (.int .i64 (V 0))).setCell ⟨b, 1, none⟩ (.int .i64 (V 1))).setCell ⟨b, 2, none⟩ (.int .i64 (V 2))).setCell ⟨b, 3, none⟩ (.int .i64 (V 3))).setCell ⟨b, 4, none⟩ (.int .i64 (V 4))).setCell ⟨b, 5, none⟩ (.int .i64 (V 5))) b V :=
  ((((((ha.set 0 (by omega) _).set 1 (by omega) _).set 2 (by omega) _).set 3 (by omega) _).set 4 (by omega) _).set 5 (by omega) _).eq (fun i hi => by
    rcases lt6 hi with rfl | rfl | rfl | rfl | rfl | rfl <;> rfl)
theorem At.sixo {w : World} {b b' : Nat} {h V : Nat → Int} (ha : At w b h) (hne : b ≠ b') : At ((((((w.setCell ⟨b', 0, none⟩ (.int .i64 (V 0))).setCell ⟨b', 1, none⟩ (.int .i64 (V 1))).setCell ⟨b', 2, none⟩ (.int .i64 (V 2))).setCell ⟨b', 3, none⟩ (.int .i64 (V 3))).setCell ⟨b', 4, none⟩ (.int .i64 (V 4))).setCell ⟨b', 5, none⟩ (.int .i64 (V 5))) b h :=
  (((((ha.other hne 0 _).other hne 1 _).other hne 2 _).other hne 3 _).other hne 4 _).other hne 5 _
theorem Dv.six {w W : World} {f g V : Nat → Int} {b : Nat} (h : Dv w f g W) (hb : w.heap.size + 1 + 1 < b) : Dv w f g ((((((W.setCell ⟨b, 0, none⟩ (.int .i64 (V 0))).setCell ⟨b, 1, none⟩ (.int .i64 (V 1))).setCell ⟨b, 2, none⟩ (.int .i64 (V 2))).setCell ⟨b, 3, none⟩ (.int .i64 (V 3))).setCell ⟨b, 4, none⟩ (.int .i64 (V 4))).setCell ⟨b, 5, none⟩ (.int .i64 (V 5))) :=
  ⟨h.1.sixo (by omega), h.2.1.sixo (by omega), h.2.2.1.sixo (by omega), (((((h.2.2.2.setCell (by simp; omega) _).setCell (by simp; omega) _).setCell (by simp; omega) _).setCell (by simp; omega) _).setCell (by simp; omega) _).setCell (by simp; omega) _⟩
theorem drew_below (W : World) : RowKit.Below W.heap.size W W.drew := ⟨rfl, rfl, rfl, Nat.le_refl _, fun _ _ => rfl⟩

end Go.Proofs.YtmhdhabgdlefjaaDoor.Dm
