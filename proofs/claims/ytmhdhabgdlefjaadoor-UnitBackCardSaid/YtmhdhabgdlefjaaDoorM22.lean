/- The contracts of Mul and Div at any arguments, and of Pow. -/
import Derived.ChangeKeysEq
import Derived.Test.YtmhdhabgdlefjaaDoorM21
set_option maxRecDepth 100000
namespace Go.Proofs.YtmhdhabgdlefjaaDoor.Dm
open Go.RowKit

theorem cells3 : Tryd.prog.cellsOf 3 = 1 := by kernel_rfl
theorem part_at (f : Nat → Int) (k : Nat) (h : k < 6) (W : World) : (part 3 (cl f) (k * 1)).run Tryd.prog W = .ok (.int .i64 (f k)) W := by
  rcases lt6 h with rfl | rfl | rfl | rfl | rfl | rfl <;> rfl
theorem eq_int (d : Nat) (a b : Int) (W : World) : (Op.equalIn (d + 1) 3 (.int .i64 a) (.int .i64 b)).run Tryd.prog W = .ok (a == b) W := by
  simp [Op.equalIn, run_underlying Tryd.underlying3]
theorem eq_items (d : Nat) (f g : Nat → Int) (W : World) : ∀ L : List Nat, (∀ j ∈ L, j < 6) → (Op.eqItems (d + 1) 3 1 (cl f) (cl g) L).run Tryd.prog W = .ok (L.all (fun j => f j == g j)) W
  | [], _ => by simp [Op.eqItems]
  | j :: L, h => by
    have ih := eq_items d f g W L (fun i hi => h i (by simp [hi]))
    simp only [Op.eqItems, Sem.run_bind, part_at _ j (h j (by simp)), Result.andThen_ok, eq_int]
    by_cases e : f j = g j
    · have : (f j == g j) = true := by simpa using e
      rw [this]
      simp only [Bool.not_true, Bool.false_eq_true, if_false, ih]
      simp [e]
    · have : (f j == g j) = false := by simpa using e
      rw [this]
      simp [e]
theorem infoInt : ∃ i, Tryd.prog.info? 3 = some i := by
  cases h : Tryd.prog.info? 3 with
  | some i => exact ⟨i, rfl⟩
  | none => exact absurd (show (Tryd.prog.info? 3).isSome = true by kernel_rfl) (by rw [h]; simp)
/-- Two dimensions are the same. -/
def eqB (f g : Nat → Int) : Bool := (List.range 6).all (fun j => f j == g j)
theorem eqB_iff (f g : Nat → Int) : eqB f g = true ↔ ∀ i, i < 6 → f i = g i := by simp only [eqB, List.all_eq_true, List.mem_range, beq_iff_eq]
theorem eq_dim (f g : Nat → Int) (W : World) : (Op.equalIn 10000 23 (.agg (cl f)) (.agg (cl g))).run Tryd.prog W = .ok (eqB f g) W := by
  obtain ⟨i, hi⟩ := infoInt
  rw [run_equalIn_array (w := W) 9999 _ _ Tryd.underlying23 hi, cells3, eq_items 9998 f g W _ (fun j hj => List.mem_range.1 hj)]
  rfl

def mulR (f g : Nat → Int) : Value := if ok f && ok g then inR (sumF f g) else DE zf 1
def divR (f g : Nat → Int) : Value := if ok f && ok g then inR (difF f g) else DE zf 1
def mulF (f : Nat → Int) (n : Int) : Nat → Int := fun i => f i * n
def powR (f : Nat → Int) (n : Int) : Value := if ok f then inR (mulF f n) else DE zf 1

section
variable (f g : Nat → Int) (w : World)
theorem one_at (f : Nat → Int) (w : World) : At (w.alloc (.cells (cl f) 23)) w.heap.size f := At.fresh w f
theorem three_at : At (((w.alloc (.cells (cl f) 23)).alloc (.cells (cl g) 23)).alloc (.cells (cl zf) 23)) w.heap.size f ∧
    At (((w.alloc (.cells (cl f) 23)).alloc (.cells (cl g) 23)).alloc (.cells (cl zf) 23)) (w.heap.size + 1) g ∧
    At (((w.alloc (.cells (cl f) 23)).alloc (.cells (cl g) 23)).alloc (.cells (cl zf) 23)) (w.heap.size + 1 + 1) zf ∧
    RowKit.Below w.heap.size w (((w.alloc (.cells (cl f) 23)).alloc (.cells (cl g) 23)).alloc (.cells (cl zf) 23)) := by
  refine ⟨((At.fresh w f).alloc _).alloc _, ?_, ?_, (((Below.refl _ _).alloc (Nat.le_refl _) _).alloc (by simp) _).alloc (by simp; omega) _⟩
  · have := (At.fresh (w.alloc (.cells (cl f) 23)) g).alloc (.cells (cl zf) 23)
    simpa using this
  · have := At.fresh ((w.alloc (.cells (cl f) 23)).alloc (.cells (cl g) 23)) zf
    simpa using this
theorem two_at : At ((w.alloc (.cells (cl f) 23)).alloc (.cells (cl zf) 23)) w.heap.size f ∧
    At ((w.alloc (.cells (cl f) 23)).alloc (.cells (cl zf) 23)) (w.heap.size + 1) zf ∧
    RowKit.Below w.heap.size w ((w.alloc (.cells (cl f) 23)).alloc (.cells (cl zf) 23)) := by
  refine ⟨(At.fresh w f).alloc _, ?_, ((Below.refl _ _).alloc (Nat.le_refl _) _).alloc (by simp) _⟩
  have := At.fresh (w.alloc (.cells (cl f) 23)) zf
  simpa using this
end

theorem mul_bd {x n : Int} (hx : -9 ≤ x ∧ x ≤ 9) (hn : -9 ≤ n ∧ n ≤ 9) : -81 ≤ x * n ∧ x * n ≤ 81 := by
  have : n = -9 ∨ n = -8 ∨ n = -7 ∨ n = -6 ∨ n = -5 ∨ n = -4 ∨ n = -3 ∨ n = -2 ∨ n = -1 ∨ n = 0 ∨ n = 1 ∨ n = 2 ∨ n = 3 ∨ n = 4 ∨ n = 5 ∨ n = 6 ∨ n = 7 ∨ n = 8 ∨ n = 9 := by omega
  rcases this with rfl | rfl | rfl | rfl | rfl | rfl | rfl | rfl | rfl | rfl | rfl | rfl | rfl | rfl | rfl | rfl | rfl | rfl | rfl <;> omega
theorem mul_far {x n : Int} (hx : x ≠ 0) (hn : n < -9 ∨ 9 < n) : ¬ (-9 ≤ x * n ∧ x * n ≤ 9) := by
  intro h
  have h1 : x * n = 0 ∨ 10 ≤ (x * n).natAbs := by
    rw [Int.natAbs_mul]
    have : 1 ≤ x.natAbs := by omega
    have : 10 ≤ n.natAbs := by omega
    right
    calc 10 = 1 * 10 := rfl
      _ ≤ x.natAbs * n.natAbs := Nat.mul_le_mul (by omega) (by omega)
  rcases h1 with h1 | h1
  · rcases Int.mul_eq_zero.1 h1 with h1 | h1 <;> omega
  · omega
end Go.Proofs.YtmhdhabgdlefjaaDoor.Dm
