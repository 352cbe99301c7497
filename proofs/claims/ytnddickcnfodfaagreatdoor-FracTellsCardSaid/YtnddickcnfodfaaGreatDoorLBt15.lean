/- kitbagref04: Int (all but arguments below the least int). -/
import Derived.Test.YtnddickcnfodfaaGreatDoorLBt14
set_option maxRecDepth 100000
namespace Go.Proofs.YtnddickcnfodfaaGreatDoor.Bi
open Go.RowKit

/-- The box of one argument. -/
structure Bu (w : World) (sa : Int) (va : Value) (W : World) : Prop where
  cells : W.cell? ⟨w.heap.size, 0, none⟩ = some (.int .i64 sa) ∧ W.cell? ⟨w.heap.size, 1, none⟩ = some va
  below : RowKit.Below w.heap.size w W
  size : w.heap.size < W.heap.size
theorem Bu.start (w : World) (sa : Int) (va : Value) : Bu w sa va (w.alloc (.cells #[.int .i64 sa, va] 24)) := by
  have h' := alloc_at w (.cells #[.int .i64 sa, va] 24)
  exact ⟨⟨by rw [cell_of_row _ _ _ _ _ _ h']; rfl, by rw [cell_of_row _ _ _ _ _ _ h']; rfl⟩, below_alloc _ _, by simp⟩
theorem Bu.later {w W W' : World} {sa : Int} {va : Value} (h : Bu w sa va W) (hb : RowKit.Below W.heap.size W W') : Bu w sa va W' := by
  have hz := h.size
  obtain ⟨c0, c1⟩ := h.cells
  have hc : ∀ b o, b < W.heap.size → W'.cell? ⟨b, o, none⟩ = W.cell? ⟨b, o, none⟩ := fun b o hb' => hb.cell (p := ⟨b, o, none⟩) hb'
  exact ⟨⟨(hc _ _ (by omega)).trans c0, (hc _ _ (by omega)).trans c1⟩, h.below.trans (hb.mono h.below.size), Nat.lt_of_lt_of_le hz hb.size⟩
theorem Bu.heap {w W W' : World} {sa : Int} {va : Value} (h : Bu w sa va W) (hb : W'.heap = W.heap) (h1 : W'.os = W.os) (h2 : W'.tape = W.tape) (h3 : W'.output = W.output) : Bu w sa va W' :=
  h.later ⟨h1, h2, h3, by rw [hb]; exact Nat.le_refl _, fun k _ => by rw [hb]⟩

theorem val_drop_le {l : List Int} (h : Dig l) (k : Nat) : 0 ≤ val (l.drop k) ∧ val (l.drop k) ≤ val l := by
  have h1 := (val_bd (h.drop k)).1
  have h2 := (val_bd (h.take k)).1
  have h3 := val_split l k
  have h4 := P_pos (l.take k).length
  have h5 : val (l.drop k) ≤ P (l.take k).length * val (l.drop k) := by
    have h6 := Int.mul_le_mul_of_nonneg_right (show (1 : Int) ≤ P (l.take k).length by omega) h1
    rwa [Int.one_mul] at h6
  omega

end Go.Proofs.YtnddickcnfodfaaGreatDoor.Bi
