/- The contracts of inRange, Mul and Div. -/
import Derived.Laws.ResultCell
import Derived.Laws.Unary
import Derived.Test.YtmhdhabgdlefjaaGreatDoorPDims19
set_option maxRecDepth 100000
namespace Go.Proofs.YtmhdhabgdlefjaaGreatDoor.Dm
open Go.RowKit

theorem At.below0 {w w' : World} {b : Nat} {f : Nat → Int} (h : At w b f) (hb : RowKit.Below w.heap.size w w') : At w' b f := h.below hb h.lt
theorem below_row {B : Nat} {a w : World} (h : RowKit.Below B a w) {b : Nat} (hb : B ≤ b) (c : Array Value) : RowKit.Below B a (w.setRow b c) :=
  ⟨h.os, h.tape, h.output, by simpa using h.size, fun k hk => (setRow_other w b k c (by omega)).trans (h.block k hk)⟩
theorem below_alloc (w : World) (o : Obj) : RowKit.Below w.heap.size w (w.alloc o) := (Below.refl _ _).alloc (Nat.le_refl _) o
theorem At.oth {w : World} {b b' : Nat} {f : Nat → Int} (h : At w b f) (hne : b ≠ b') (c : Array Value) : At (w.setRow b' c) b f := by
  unfold At at *; rw [setRow_other w b' b c hne]; exact h
theorem rightG (f : Nat → Int) (w : World) : Calls Tryz.prog 28 #[.agg (cl f)] w (Gives (.bool (ok f)) w) :=
  (right_any f w).mono fun e w' h => ⟨h.1, by rw [h.2]; exact below_alloc _ _⟩

theorem ia_at (b : Nat) (r : Nat) (hr : r < 6) (W : World) : (Instr.indexAt 23 (.pointer (some ⟨b, 0, none⟩)) (.int .i64 (r : Int))).run Tryz.prog W = .ok (.pointer (some ⟨b, r, none⟩)) W := by
  rcases lt6 hr with rfl | rfl | rfl | rfl | rfl | rfl <;> rfl
end Go.Proofs.YtmhdhabgdlefjaaGreatDoor.Dm
