/- Quotients, remainders and orders of the laws of big. -/
import Derived.Test.YtpcagodnlbdclaaDoorBi30
namespace Go.Proofs.YtpcagodnlbdclaaDoor.Bi
open Go.RowKit

theorem fdiv_abs (a b : Int) : (a.fdiv b).natAbs ≤ a.natAbs := by
  rcases Int.lt_or_le b 0 with h | h
  · have e := Int.neg_fdiv_neg a b
    rw [← e, Int.fdiv_eq_ediv_of_nonneg _ (by omega)]
    have := Int.natAbs_ediv_le_natAbs (-a) (-b)
    rwa [Int.natAbs_neg a] at this
  · rw [Int.fdiv_eq_ediv_of_nonneg _ h]
    exact Int.natAbs_ediv_le_natAbs a b
theorem fmod_pos (a : Int) {b : Int} (h : 0 < b) : 0 ≤ a.fmod b ∧ a.fmod b < b := ⟨Int.fmod_nonneg_of_pos a h, Int.fmod_lt_of_pos a h⟩
theorem fmod_neg (a : Int) {b : Int} (h : b < 0) : b < a.fmod b ∧ a.fmod b ≤ 0 := by
  have e := Int.neg_fmod_neg a b
  have := fmod_pos (-a) (b := -b) (by omega)
  omega
theorem Sz.fdiv {k : Nat} {a b : Int} (h : Sz k a) : Sz k (a.fdiv b) := by
  have := fdiv_abs a b
  unfold Sz at *
  omega
theorem Sz.fmod {k : Nat} {a b : Int} (h : Sz k b) (h0 : b ≠ 0) : Sz k (a.fmod b) := by
  unfold Sz at *
  rcases Int.lt_or_gt_of_ne h0 with h1 | h1
  · have := fmod_neg a h1; omega
  · have := fmod_pos a h1; omega
section
variable {w : World} {sa sb : Int} {va vb : Value} {a b : Int}
theorem cmp_t (ha : Num w sa va a) (hb : Num w sb vb b) {k : Int} (h : cmpI a b = k) : Calls Tryd.prog 29 #[.agg #[.int .i64 sa, va], .agg #[.int .i64 sb, vb]] w fun e w' => e = .returned (.int .i64 k) ∧ RowKit.Below w.heap.size w w' := by
  have := cmp_k ha hb
  rwa [h] at this
theorem same_b (ha : Num w sa va a) (hb : Num w sb vb b) {k : Bool} (h : decide (a = b) = k) : Calls Tryd.prog 31 #[.agg #[.int .i64 sa, va], .agg #[.int .i64 sb, vb]] w fun e w' => e = .returned (.bool k) ∧ RowKit.Below w.heap.size w w' := by
  have := same_k ha hb
  rwa [h] at this
end
theorem cmpI_swap (a b : Int) : cmpI b a = -cmpI a b := by
  rcases Int.lt_trichotomy a b with h | h | h
  · rw [cmpI_lt h, cmpI_gt h]; rfl
  · subst h; rw [cmpI_eq]; rfl
  · rw [cmpI_lt h, cmpI_gt h]
theorem cmpI_subs (a b : Int) : (a - b).sign = cmpI a b := by
  rcases Int.lt_trichotomy a b with h | h | h
  · rw [cmpI_lt h, Int.sign_eq_neg_one_of_neg (by omega)]
  · subst h; rw [cmpI_eq, Int.sub_self]; rfl
  · rw [cmpI_gt h, Int.sign_eq_one_of_pos (by omega)]
theorem cmpI_add (a b c : Int) : cmpI (a + c) (b + c) = cmpI a b := by
  rw [← cmpI_subs, ← cmpI_subs, show a + c - (b + c) = a - b by omega]
theorem cmpI_mul (a b c : Int) : cmpI (a * c) (b * c) = cmpI a b * c.sign := by
  rw [← cmpI_subs, ← cmpI_subs, ← Int.sub_mul, Int.sign_mul]
end Go.Proofs.YtpcagodnlbdclaaDoor.Bi
