/- The text of a fraction. -/
import Derived.Lib.CutLaws
import Derived.Lib.IndexBytes
import Derived.Laws.Concat
import Derived.Test.YtmhjejnkphdjpaaPB11
set_option maxRecDepth 100000
namespace Go.Proofs.Ytmhjejnkphdjpaa.Bi
open Go

/-- The text of a fraction: its numerator, a slash, its denominator. -/
def fTextL (a : Rat) : List UInt8 := Lib.itoa a.num ++ 47 :: Lib.itoa (a.den : Int)
theorem nDigits_le : ∀ (k u : Nat), u < 10 ^ (k + 1) → Lib.nDigits u ≤ k + 1
  | 0, u, h => by rw [Lib.nDigits_small (by simpa using h)]; omega
  | k + 1, u, h => by
    by_cases h10 : u < 10
    · rw [Lib.nDigits_small h10]; omega
    · rw [Lib.nDigits_big h10]
      have := nDigits_le k (u / 10) (by rw [Nat.pow_succ] at h; omega)
      omega
theorem P_ten : ∀ k, P k ≤ (10 : Int) ^ (7 * k)
  | 0 => by simp [P]
  | k + 1 => by
    have := P_ten k
    rw [P_succ, show 7 * (k + 1) = 7 * k + 7 by omega, Int.pow_add]
    have h2 : (10 : Int) ^ 7 = 10000000 := by decide
    rw [h2]
    have h3 := P_pos k
    omega
theorem itoa_len {k : Nat} {z : Int} (h : Sz k z) (hk : 1 ≤ k) : (Lib.itoa z).length ≤ 7 * k + 1 := by
  have h1 : z.natAbs < 10 ^ (7 * k) := by
    have h2 := P_ten k
    have h3 : ((10 ^ (7 * k) : Nat) : Int) = (10 : Int) ^ (7 * k) := by push_cast; rfl
    unfold Sz at h
    omega
  have h4 : Lib.nDigits z.natAbs ≤ 7 * k := by
    have := nDigits_le (7 * k - 1) z.natAbs (by rwa [show 7 * k - 1 + 1 = 7 * k by omega])
    omega
  unfold Lib.itoa
  split
  · rw [List.length_cons, Lib.decDigits_length]; omega
  · rw [Lib.decDigits_length, show z.toNat = z.natAbs by omega]; omega
end Go.Proofs.Ytmhjejnkphdjpaa.Bi
