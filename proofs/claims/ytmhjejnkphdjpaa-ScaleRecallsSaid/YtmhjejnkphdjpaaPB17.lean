/- BigTells: program and reference give the same, for arguments that are valid or not. -/
import Derived.Test.YtmhjejnkphdjpaaPB16
import Derived.Test.YtmhjejnkphdjpaaPB11
import Derived.Laws.Concat
set_option maxRecDepth 100000
namespace Go.Proofs.Ytmhjejnkphdjpaa.Bi
open Go.RowKit Go.Lib

/-- Both arguments are numbers, or one is none. -/
theorem both (s t : Int) (l m : List Int) : (∃ a b : Int, s = a.sign ∧ l = digs a.natAbs ∧ t = b.sign ∧ m = digs b.natAbs) ∨ (rightB s l && rightB t m) = false := by
  cases h1 : rightB s l
  · exact .inr rfl
  · cases h2 : rightB t m
    · exact .inr rfl
    · obtain ⟨a, e1, e2⟩ := right_of h1
      obtain ⟨b, e3, e4⟩ := right_of h2
      exact .inl ⟨a, b, e1, e2, e3, e4⟩
end Go.Proofs.Ytmhjejnkphdjpaa.Bi
