/- What BigInts and BigBack want besides. -/
import Derived.Test.YtkijkofdhfjodaaDoorM11
import Derived.Laws.Concat
set_option maxRecDepth 100000
namespace Go.Proofs.YtkijkofdhfjodaaDoor.Bi
open Go.RowKit

section
variable {w : World} {sa : Int} {va : Value} {z : Int}
theorem int_in (ha : Num w sa va z) (h : -9223372036854775808 ≤ z ∧ z ≤ 9223372036854775807) {k : Int} (hk : z = k) : Calls Tryd.prog 15 #[.agg #[.int .i64 sa, va]] w fun e w' => e = .returned (.tuple #[.int .i64 k, .bool true]) ∧ RowKit.Below w.heap.size w w' := by
  have := int_k ha
  rw [intS_in h] at this
  subst hk
  exact this
theorem int_out (ha : Num w sa va z) (h : ¬ (-9223372036854775808 ≤ z ∧ z ≤ 9223372036854775807)) : Calls Tryd.prog 15 #[.agg #[.int .i64 sa, va]] w fun e w' => e = .returned (.tuple #[.int .i64 0, .bool false]) ∧ RowKit.Below w.heap.size w w' := by
  have := int_k ha
  rw [intS_out h] at this
  exact this
theorem text_l (ha : Num w sa va z) (la : Len 100000 z) (he : Env w) {l : List UInt8} (h : Go.Lib.itoa z = l) : Calls Tryd.prog 26 #[.agg #[.int .i64 sa, va]] w fun e w' => e = .returned (.string ⟨l.toArray⟩) ∧ RowKit.Below w.heap.size w w' := by
  subst h; exact text_k ha la he
theorem text_s (ha : Num w sa va z) (la : Len 100000 z) (he : Env w) {s : ByteArray} (h : Go.Lib.itoa z = s.data.toList) : Calls Tryd.prog 26 #[.agg #[.int .i64 sa, va]] w fun e w' => e = .returned (.string s) ∧ RowKit.Below w.heap.size w w' := by
  have := text_k ha la he
  rw [h] at this
  exact this
end
theorem of_v {k z : Int} (h : k = z) (hz : -9223372036854775808 ≤ z ∧ z ≤ 9223372036854775807) (w : World) : Calls Tryd.prog 30 #[.int .i64 k] w (BV z w) := by
  subst h; exact of_k k hz w
theorem read_s {s : ByteArray} {z : Int} (h : readS s.data.toList = some z) (hs : s.size ≤ 100000) (w : World) : Calls Tryd.prog 17 #[.string s] w (BVE z 0 w) := by
  have := read_any s hs w
  rw [h] at this
  exact this.mono fun _ _ h => h.bve
theorem str_ne {x y : List UInt8} (h : x ≠ y) : ((⟨x.toArray⟩ : ByteArray).toList == (⟨y.toArray⟩ : ByteArray).toList) = false := by
  rw [Lib.toList_data, Lib.toList_data, beq_eq_false_iff_ne]
  simpa using h
theorem mul_in30 {a b : Int} (h1 : -1073741824 < a) (h2 : a < 1073741824) (h3 : -1073741824 < b) (h4 : b < 1073741824) : -1152921504606846976 ≤ a * b ∧ a * b ≤ 1152921504606846976 := by
  have e : (a * b).natAbs = a.natAbs * b.natAbs := Int.natAbs_mul a b
  have : a.natAbs * b.natAbs ≤ 1073741824 * 1073741824 := Nat.mul_le_mul (by omega) (by omega)
  omega
theorem nDig_le : ∀ (k u : Nat), u < 10 ^ (k + 1) → Go.Lib.nDigits u ≤ k + 1
  | 0, u, h => by rw [Go.Lib.nDigits_small (by simpa using h)]; omega
  | k + 1, u, h => by
    by_cases h10 : u < 10
    · rw [Go.Lib.nDigits_small h10]; omega
    · rw [Go.Lib.nDigits_big h10]
      have := nDig_le k (u / 10) (by rw [Nat.pow_succ] at h; omega)
      omega
theorem P_dec : ∀ k, P k ≤ (10 : Int) ^ (7 * k)
  | 0 => by simp [P]
  | k + 1 => by
    have := P_dec k
    rw [P_succ, show 7 * (k + 1) = 7 * k + 7 by omega, Int.pow_add]
    have h2 : (10 : Int) ^ 7 = 10000000 := by decide
    rw [h2]
    have h3 := P_pos k
    omega
theorem itoa_size {k : Nat} {z : Int} (h : Sz k z) (hk : 1 ≤ k) : (Go.Lib.itoa z).length ≤ 7 * k + 1 := by
  have h1 : z.natAbs < 10 ^ (7 * k) := by
    have h2 := P_dec k
    have h3 : ((10 ^ (7 * k) : Nat) : Int) = (10 : Int) ^ (7 * k) := by push_cast; rfl
    unfold Sz at h
    omega
  have h4 : Go.Lib.nDigits z.natAbs ≤ 7 * k := by
    have := nDig_le (7 * k - 1) z.natAbs (by rwa [show 7 * k - 1 + 1 = 7 * k by omega])
    omega
  unfold Go.Lib.itoa
  split
  · rw [List.length_cons, Go.Lib.decDigits_length]; omega
  · rw [Go.Lib.decDigits_length, show z.toNat = z.natAbs by omega]; omega
theorem size_of (x : List UInt8) : (⟨x.toArray⟩ : ByteArray).size = x.length := by show x.toArray.size = _; simp
end Go.Proofs.YtkijkofdhfjodaaDoor.Bi
