/- BigTells: program and reference give the same, for arguments that are valid or not. -/
import Derived.Test.YtmhdhabgdlefjaaGreatDoorPTells14
import Derived.Test.YtmhdhabgdlefjaaGreatDoorPTells11
import Derived.Laws.Concat
set_option maxRecDepth 100000
namespace Go.Proofs.YtmhdhabgdlefjaaGreatDoor.Bi
open Go.RowKit Go.Lib

/-- Both arguments are numbers, or one is none. -/
theorem both (s t : Int) (l m : List Int) : (∃ a b : Int, s = a.sign ∧ l = digs a.natAbs ∧ t = b.sign ∧ m = digs b.natAbs) ∨ (rightB s l && rightB t m) = false := by
  cases h1 : rightB s l
  · exact .inr rfl
  · cases h2 : rightB t m
    · exact .inr rfl
    · obtain ⟨a, e1, e2⟩ := right_of h1
      obtain ⟨b, e3, e4⟩ := right_of h2
      exact .inl ⟨a, b, e1, e2, e3, e4⟩
theorem mul_pair (s t : Int) (l m : List Int) (hl : l.length ≤ 62) (hm : m.length ≤ 62) : ∃ z er : Int, ∀ (W : World) (va vb : Value), Arg W va s l → Arg W vb t m →
    Calls Tryz.prog 87 #[va, vb] W (Ans z er W) ∧ Calls Tryz.prog 71 #[va, vb] W (Ans z er W) := by
  rcases both s t l m with ⟨a, b, rfl, rfl, rfl, rfl⟩ | h
  · exact ⟨a * b, 0, fun W va vb ha hb => ⟨mul_ok va vb a b W ha hb (by omega) (by omega), rmul_ok va vb a b W ha hb (by omega) (by omega)⟩⟩
  · exact ⟨0, 1, fun W va vb ha hb => ⟨mul_bad va vb s t l m W ha hb h, rmul_bad va vb s t l m W ha hb h⟩⟩
theorem div_pair (s t : Int) (l m : List Int) (hl : l.length ≤ 62) (hm : m.length ≤ 62) : ∃ z r er : Int, ∀ (W : World) (va vb : Value), Arg W va s l → Arg W vb t m →
    Calls Tryz.prog 110 #[va, vb] W (AnsD z r er W) ∧ Calls Tryz.prog 93 #[va, vb] W (AnsD z r er W) := by
  rcases both s t l m with ⟨a, b, rfl, rfl, rfl, rfl⟩ | h
  · by_cases h0 : b = 0
    · exact ⟨0, 0, 15, fun W va vb ha hb => ⟨div_zero va vb a b W ha hb h0, rdiv_zero va vb a b W ha hb (by omega) (by omega) h0⟩⟩
    · exact ⟨a.fdiv b, a.fmod b, 0, fun W va vb ha hb => ⟨div_ok va vb a b W ha hb (by omega) (by omega) h0, rdiv_ok va vb a b W ha hb (by omega) (by omega) h0⟩⟩
  · exact ⟨0, 0, 1, fun W va vb ha hb => ⟨div_bad va vb s t l m W ha hb h, rdiv_bad va vb s t l m W ha hb h⟩⟩
end Go.Proofs.YtmhdhabgdlefjaaGreatDoor.Bi
