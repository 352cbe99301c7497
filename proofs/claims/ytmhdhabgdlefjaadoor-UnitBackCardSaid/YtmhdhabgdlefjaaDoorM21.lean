/- The contracts of inRange, Mul and Div. -/
import Derived.Laws.ResultCell
import Derived.Laws.Unary
import Derived.Test.YtmhdhabgdlefjaaDoorM20
set_option maxRecDepth 100000
namespace Go.Proofs.YtmhdhabgdlefjaaDoor.Dm
open Go.RowKit

theorem ret_cell {fn : Func} {p u : Tmp} (h : fn.results = #[.cell p 23, .tmp u]) (tmps : Array Value) (w : World) (b : Nat) (f : Nat → Int) (hp : tmps.getD p undef = .pointer (some ⟨b, 0, none⟩)) (ha : At w b f) :
    (results fn tmps).run Tryd.prog w = .ok (.tuple #[.agg (cl f), tmps.getD u undef]) w := by
  have hl := run_loadVar_row (P := Tryd.prog) w b 23 23 (cl f) (0, 0) _ ha Tryd.underlying23 rfl (infoDim f)
  rw [results_cell_tmp h, hp]
  simp [asAddr, Result.andThen, hl]
theorem At.below0 {w w' : World} {b : Nat} {f : Nat → Int} (h : At w b f) (hb : RowKit.Below w.heap.size w w') : At w' b f := h.below hb h.lt
theorem below_row {B : Nat} {a w : World} (h : RowKit.Below B a w) {b : Nat} (hb : B ≤ b) (c : Array Value) : RowKit.Below B a (w.setRow b c) :=
  ⟨h.os, h.tape, h.output, by simpa using h.size, fun k hk => (setRow_other w b k c (by omega)).trans (h.block k hk)⟩
theorem below_alloc (w : World) (o : Obj) : RowKit.Below w.heap.size w (w.alloc o) := (Below.refl _ _).alloc (Nat.le_refl _) o
/-- A dimension and an error, as results. -/
def DE (f : Nat → Int) (n : Int) : Value := .tuple #[.agg (cl f), .int .i64 n]
/-- What is returned if the result is f. -/
def inR (f : Nat → Int) : Value := if ok f then DE f 0 else DE zf 3
theorem At.oth {w : World} {b b' : Nat} {f : Nat → Int} (h : At w b f) (hne : b ≠ b') (c : Array Value) : At (w.setRow b' c) b f := by
  unfold At at *; rw [setRow_other w b' b c hne]; exact h
theorem rightG (f : Nat → Int) (w : World) : Calls Tryd.prog 17 #[.agg (cl f)] w (Gives (.bool (ok f)) w) :=
  (right_any f w).mono fun e w' h => ⟨h.1, by rw [h.2]; exact below_alloc _ _⟩

theorem build0 (W : World) : (Instr.build 23 #[]).run Tryd.prog W = .ok (.agg (cl zf)) W := run_build W _ #[] (cl zf) (by kernel_rfl)

/-- The exponents of what Mul and Div return, before they are tested. -/
def sumF (f g : Nat → Int) : Nat → Int := fun i => f i + g i
def difF (f g : Nat → Int) : Nat → Int := fun i => f i - g i
def partF (h f : Nat → Int) (k : Nat) : Nat → Int := fun i => if i < k then h i else f i
theorem partF_up (h f : Nat → Int) (k : Nat) : up (partF h f k) k (h k) = partF h f (k + 1) := by
  funext j
  unfold up partF
  by_cases e : j = k
  · subst e; rw [if_pos rfl, if_pos (by omega)]
  · rw [if_neg e]
    by_cases c : j < k
    · rw [if_pos c, if_pos (by omega)]
    · rw [if_neg c, if_neg (by omega)]
theorem partF_at (h f : Nat → Int) (k : Nat) : partF h f k k = f k := by unfold partF; rw [if_neg (by omega)]
theorem partF_all (h f : Nat → Int) : ∀ i, i < 6 → partF h f 6 i = h i := fun i hi => by unfold partF; rw [if_pos hi]
theorem partF_0 (h f : Nat → Int) : partF h f 0 = f := by funext i; unfold partF; rw [if_neg (by omega)]
theorem ia_at (b : Nat) (r : Nat) (hr : r < 6) (W : World) : (Instr.indexAt 23 (.pointer (some ⟨b, 0, none⟩)) (.int .i64 (r : Int))).run Tryd.prog W = .ok (.pointer (some ⟨b, r, none⟩)) W := by
  rcases lt6 hr with rfl | rfl | rfl | rfl | rfl | rfl <;> rfl
theorem At.froz {w : World} {b : Nat} {f : Nat → Int} (h : At w b f) (k : Nat) : w.frozen? ⟨b, k, none⟩ = false := frozen_of_row w b k _ _ h
theorem inR_eq {f g : Nat → Int} (h : ∀ i, i < 6 → f i = g i) : inR f = inR g := by unfold inR DE; rw [ok_eq h, cl_eq h]

end Go.Proofs.YtmhdhabgdlefjaaDoor.Dm
