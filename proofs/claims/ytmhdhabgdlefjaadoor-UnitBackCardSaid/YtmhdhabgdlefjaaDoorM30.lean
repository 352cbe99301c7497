/- The contracts of the reference of unit: fraction, base, prefix. The contracts of the reference of unit: prefix, Symbol. -/
import Derived.Test.YtmhdhabgdlefjaaDoorM28
import Derived.Test.YtmhdhabgdlefjaaDoorM29
import Derived.Deep.CutRange
set_option maxRecDepth 100000
namespace Go.Proofs.YtmhdhabgdlefjaaDoor.Un
open Go.RowKit Bi Dm

/-- A fraction and a truth value, as results. -/
def FVB (r : Rat) (bb : Bool) (w : World) (e : Ending) (w' : World) : Prop := ∃ s a n c b m d, e = .returned (.tuple #[.agg #[.int .i64 s, .slice a n c, .int .i64 1, .slice b m d], .bool bb]) ∧ Fr w' s (.slice a n c) (.slice b m d) r ∧ RowKit.Below w.heap.size w w' ∧ Fresh w.heap.size (.slice a n c) ∧ Fresh w.heap.size (.slice b m d)
theorem rfint_r {z : Int} {r : Rat} (hz : -9223372036854775808 ≤ z ∧ z ≤ 9223372036854775807) (h : (z : Rat) = r) (w : World) : Calls Tryd.prog 16 #[.int .i64 z] w (FV r w) := by subst h; exact rfint_k z hz w

end Go.Proofs.YtmhdhabgdlefjaaDoor.Un

namespace Go.Proofs.YtmhdhabgdlefjaaDoor.Un
open Go.RowKit Bi Dm

/-- A unit and a truth value, as results. -/
def UVB (f : Nat → Int) (r : Rat) (bb : Bool) (w : World) (e : Ending) (w' : World) : Prop := ∃ s a n c b m d, e = .returned (.tuple #[.agg (uc f s (.slice a n c) 1 (.slice b m d)), .bool bb]) ∧ Fr w' s (.slice a n c) (.slice b m d) r ∧ RowKit.Below w.heap.size w w' ∧ Fresh w.heap.size (.slice a n c) ∧ Fresh w.heap.size (.slice b m d)
theorem sym_not (l : List UInt8) {v : Nat × Int × Rat} (h : symL l = some v) : symL l ≠ none := by rw [h]; exact fun h => by cases h
theorem no_bytes (s : ByteArray) (l : List UInt8) (h : s.data.toList ≠ l) : (s.toList == (⟨l.toArray⟩ : ByteArray).toList) = false ∧ (s.toList == l) = false ∧ (s.data.toList == l) = false := by
  rw [ByteArray.toList_eq, ByteArray.toList_eq]
  have : (s.data.toList == l) = false := by rw [beq_eq_false_iff_ne]; exact h
  exact ⟨this, this, this⟩

end Go.Proofs.YtmhdhabgdlefjaaDoor.Un
