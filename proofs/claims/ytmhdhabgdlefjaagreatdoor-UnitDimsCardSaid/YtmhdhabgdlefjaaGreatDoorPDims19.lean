/- Dimensions as values; the contracts of Right and inRange. -/
import Derived.Below
import Derived.Laws.Rows
import Derived.Laws.Tables
import Derived.IntWalk
import Derived.OwnWalk
import Derived.Deep.Draws
import Derived.Deep.QuietTactic
import Derived.BigQuiet
import Derived.Deep.LoopGhost
import Derived.Test.YtmhdhabgdlefjaaGreatDoorChecked
import Derived.Test.YtmhdhabgdlefjaaGreatDoorPDims18
set_option maxRecDepth 100000
namespace Go.Proofs.YtmhdhabgdlefjaaGreatDoor.Dm
open Go.RowKit

/-- What a call returns, where nothing that was there is turned. -/
def Gives (v : Value) (w : World) (e : Ending) (w' : World) : Prop := e = .returned v ∧ RowKit.Below w.heap.size w w'
/-- A dimension's cells. -/
def cl (f : Nat → Int) : Array Value := #[.int .i64 (f 0), .int .i64 (f 1), .int .i64 (f 2), .int .i64 (f 3), .int .i64 (f 4), .int .i64 (f 5)]
theorem cl_at (f : Nat → Int) (k : Nat) (h : k < 6) : (cl f)[k]? = some (.int .i64 (f k)) := by
  rcases lt6 h with rfl | rfl | rfl | rfl | rfl | rfl <;> rfl
theorem cl_eq {f g : Nat → Int} (h : ∀ i, i < 6 → f i = g i) : cl f = cl g := by
  unfold cl; rw [h 0 (by omega), h 1 (by omega), h 2 (by omega), h 3 (by omega), h 4 (by omega), h 5 (by omega)]
theorem cl_set (f : Nat → Int) (k : Nat) (h : k < 6) (v : Int) : (cl f).setIfInBounds k (.int .i64 v) = cl (up f k v) := by
  rcases lt6 h with rfl | rfl | rfl | rfl | rfl | rfl <;> rfl
theorem idx_at (f : Nat → Int) (k : Nat) (h : k < 6) (w : World) : (Instr.index 23 (.agg (cl f)) (.int .i64 (k : Int))).run Tryz.prog w = .ok (.int .i64 (f k)) w := by
  rcases lt6 h with rfl | rfl | rfl | rfl | rfl | rfl <;> rfl
theorem infoDim (f : Nat → Int) : (Tryz.prog.info? 23).map (·.size) = some (cl f).size := by kernel_rfl
/-- The block b holds a dimension. -/
def At (w : World) (b : Nat) (f : Nat → Int) : Prop := w.heap[b]? = some (.cells (cl f) 23 (0, 0))
theorem At.fresh (w : World) (f : Nat → Int) : At (w.alloc (.cells (cl f) 23)) w.heap.size f := heap_alloc_new w _
theorem At.lt {w : World} {b : Nat} {f : Nat → Int} (h : At w b f) : b < w.heap.size := (Array.getElem?_eq_some_iff.1 h).1
theorem At.alloc {w : World} {b : Nat} {f : Nat → Int} (h : At w b f) (o : Obj) : At (w.alloc o) b f := by
  have hl := h.lt
  unfold At at *; rw [Below.heap_alloc _ _ _ hl]; exact h
theorem At.below {w w' : World} {B b : Nat} {f : Nat → Int} (h : At w b f) (hb : RowKit.Below B w w') (hB : b < B) : At w' b f := by
  unfold At at *; rw [hb.block b hB]; exact h
theorem At.cell {w : World} {b : Nat} {f : Nat → Int} (h : At w b f) (k : Nat) (hk : k < 6) : w.cell? ⟨b, k, none⟩ = some (.int .i64 (f k)) := by
  rw [cell_of_row w b k _ _ _ h]; exact cl_at f k hk
theorem At.eq {w : World} {b : Nat} {f g : Nat → Int} (h : At w b f) (e : ∀ i, i < 6 → f i = g i) : At w b g := by
  unfold At at *; rw [← cl_eq e]; exact h
theorem At.row {w : World} {b : Nat} {f g : Nat → Int} (h : At w b f) : At (w.setRow b (cl g)) b g := setRow_heap w b _ _ _ _ h
theorem At.set {w : World} {b : Nat} {f : Nat → Int} (h : At w b f) (k : Nat) (hk : k < 6) (v : Int) : At (w.setCell ⟨b, k, none⟩ (.int .i64 v)) b (up f k v) := by
  unfold At at *
  rw [← cl_set f k hk]
  exact heap_setCell_same w b k _ _ _ h
theorem At.other {w : World} {b b' : Nat} {f : Nat → Int} (h : At w b f) (hne : b ≠ b') (k : Nat) (v : Value) : At (w.setCell ⟨b', k, none⟩ v) b f := by
  unfold At at *; rw [Below.heap_setCell _ _ _ _ hne]; exact h

set_option maxHeartbeats 1000000 in
theorem right_any (f : Nat → Int) (w : World) : Calls Tryz.prog 28 #[.agg (cl f)] w fun e w' => e = .returned (.bool (ok f)) ∧ w' = w.alloc (.cells (cl f) 23) := by
  have HI : Hid (∀ k : Nat, k < 6 → ∀ w, (Instr.index 23 (.agg (cl f)) (.int .i64 (k : Int))).run Tryz.prog w = .ok (.int .i64 (f k)) w) := fun k hk w => idx_at f k hk w
  have HG : Hid (At (w.alloc (.cells (cl f) 23)) w.heap.size f) := At.fresh w f
  have HF := Lib.hid (infoDim f)
  have HOK : Hid ((∀ i, i < 6 → -9 ≤ f i ∧ f i ≤ 9) → ok f = true) := Lib.hid (ok_iff f).2
  have HNO : Hid (∀ i, i < 6 → ¬ (-9 ≤ f i ∧ f i ≤ 9) → ok f = false) := fun i hi h => by
    rw [Bool.eq_false_iff]; intro h'; exact h ((ok_iff f).1 h' i hi)
  obtain ⟨b, hb⟩ : ∃ b, ok f = b := ⟨_, rfl⟩
  obtain ⟨C, hC⟩ : ∃ C, cl f = C := ⟨_, rfl⟩
  rw [hb] at HOK HNO
  unfold At at HG
  rw [hC] at HI HG HF
  rw [hb, hC]
  clear hb hC
  go_enter Tryz.func28, Tryz.ntmps28
  go_wp2_with (refine wpList_load_row rfl _ _ rfl _ rfl _ _ _ _ HG.out Tryz.underlying23 rfl HF.out ?_)
  go_loop [6] (fun i => ∃ k : Nat, k ≤ 6 ∧ i = .int .i64 k ∧ ∀ j, j < k → -9 ≤ f j ∧ f j ≤ 9) (fun i => 6 - (RowKit.intOf i).toNat)
  case atStart => exact ⟨0, by omega, rfl, fun j h => by omega⟩
  case round =>
    obtain ⟨k, hk, rfl, hall⟩ := hrel
    have HA := Lib.hid hall
    clear hall
    by_cases hlt : k < 6
    · have hidx := HI.out k hlt
      have HN := Lib.hid (HNO.out k hlt)
      have hlt2 : decide ((k : Int) < 6) = true := by simp; omega
      obtain ⟨x, hx⟩ : ∃ x, f k = x := ⟨_, rfl⟩
      rw [hx] at hidx HN
      have HX := Lib.hid hx
      clear hx
      by_cases h1 : x < -9
      · have g1 : decide (x < -9) = true := by simpa using h1
        have HB : Hid (b = false) := Lib.hid (HN.out (fun c => by omega))
        go_wp2_with fail
        go_ret
        exact ⟨by rw [HB.out]; rfl, rfl⟩
      · have g1 : decide (x < -9) = false := by simpa using h1
        by_cases h2 : 9 < x
        · have g2 : decide (9 < x) = true := by simpa using h2
          have HB : Hid (b = false) := Lib.hid (HN.out (fun c => by omega))
          go_wp2_with fail
          go_ret
          exact ⟨by rw [HB.out]; rfl, rfl⟩
        · have g2 : decide (9 < x) = false := by simpa using h2
          have HP : Hid (-9 ≤ x ∧ x ≤ 9) := Lib.hid ⟨by omega, by omega⟩
          clear h1 h2
          go_wp2_with fail
          go_round
          case rel =>
            refine ⟨k + 1, by omega, by go_num, fun j hj => ?_⟩
            rcases Nat.lt_or_ge j k with h | h
            · exact HA.out j h
            · obtain rfl : j = k := by omega
              rw [HX.out]; exact HP.out
          case measure => simp [RowKit.intOf]; omega
    · have HB : Hid (b = true) := Lib.hid (HOK.out (fun i hi => HA.out i (by omega)))
      have hlt2 : decide ((k : Int) < 6) = false := by simp; omega
      go_wp2_with fail
      go_ret
      exact ⟨by rw [HB.out]; rfl, rfl⟩
end Go.Proofs.YtmhdhabgdlefjaaGreatDoor.Dm
