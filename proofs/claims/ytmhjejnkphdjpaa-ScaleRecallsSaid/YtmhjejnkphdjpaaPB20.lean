/- Plain facts on the encoding. Plain facts on what the readers read: numbers and strings. No program. -/
import Derived.Lib.CutLaws
import Derived.Lib.IndexBytes
import Derived.Lib.ItoaLen
import Derived.Lib.AtoiAll
set_option maxRecDepth 100000
namespace Go.Proofs.Ytmhjejnkphdjpaa.Wi
open Go

theorem nDigits_le : ∀ (k u : Nat), 1 ≤ k → u < 10 ^ k → Lib.nDigits u ≤ k
  | 0, _, h, _ => by omega
  | 1, u, _, h => by rw [Lib.nDigits_small (by simpa using h)]; omega
  | k + 2, u, _, h => by
    by_cases h1 : u < 10
    · rw [Lib.nDigits_small h1]; omega
    · rw [Lib.nDigits_big h1]
      have := nDigits_le (k + 1) (u / 10) (by omega) (by rw [Nat.pow_succ] at h; omega)
      omega
end Go.Proofs.Ytmhjejnkphdjpaa.Wi

namespace Go.Proofs.Ytmhjejnkphdjpaa.Wi
open Go

end Go.Proofs.Ytmhjejnkphdjpaa.Wi
