/- BigTells: program and reference give the same, for arguments that are valid or not. -/
import Derived.Test.YtmhdhabgdlefjaaDoorM15
import Derived.Test.YtmhdhabgdlefjaaDoorM14
set_option maxRecDepth 100000
namespace Go.Proofs.YtmhdhabgdlefjaaDoor.Bi
open Go.RowKit Go.Lib

/-- Both arguments are numbers, or one is none. -/
theorem both (s t : Int) (l m : List Int) : (∃ a b : Int, s = a.sign ∧ l = digs a.natAbs ∧ t = b.sign ∧ m = digs b.natAbs) ∨ (rightB s l && rightB t m) = false := by
  cases h1 : rightB s l
  · exact .inr rfl
  · cases h2 : rightB t m
    · exact .inr rfl
    · obtain ⟨a, e1, e2⟩ := right_of h1
      obtain ⟨b, e3, e4⟩ := right_of h2
      exact .inl ⟨a, b, e1, e2, e3, e4⟩
theorem div_pair (s t : Int) (l m : List Int) (hl : l.length ≤ 62) (hm : m.length ≤ 62) : ∃ z r er : Int, ∀ (W : World) (va vb : Value), Arg W va s l → Arg W vb t m →
    Calls Tryd.prog 78 #[va, vb] W (AnsD z r er W) ∧ Calls Tryd.prog 52 #[va, vb] W (AnsD z r er W) := by
  rcases both s t l m with ⟨a, b, rfl, rfl, rfl, rfl⟩ | h
  · by_cases h0 : b = 0
    · exact ⟨0, 0, 15, fun W va vb ha hb => ⟨div_zero va vb a b W ha hb h0, rdiv_zero va vb a b W ha hb (by omega) (by omega) h0⟩⟩
    · exact ⟨a.fdiv b, a.fmod b, 0, fun W va vb ha hb => ⟨div_ok va vb a b W ha hb (by omega) (by omega) h0, rdiv_ok va vb a b W ha hb (by omega) (by omega) h0⟩⟩
  · exact ⟨0, 0, 1, fun W va vb ha hb => ⟨div_bad va vb s t l m W ha hb h, rdiv_bad va vb s t l m W ha hb h⟩⟩
theorem gcd_pair (s t : Int) (l m : List Int) (hl : l.length ≤ 62) (hm : m.length ≤ 62) : ∃ z er : Int, ∀ (W : World) (va vb : Value), Arg W va s l → Arg W vb t m →
    Calls Tryd.prog 19 #[va, vb] W (Ans z er W) ∧ Calls Tryd.prog 51 #[va, vb] W (Ans z er W) := by
  rcases both s t l m with ⟨a, b, rfl, rfl, rfl, rfl⟩ | h
  · exact ⟨(Nat.gcd a.natAbs b.natAbs : Nat), 0, fun W va vb ha hb => ⟨gcd_gen va vb a b W ha hb (by omega) (by omega) (.inl euclid_all), rgcd_ok va vb a b W ha hb (by omega) (by omega)⟩⟩
  · exact ⟨0, 1, fun W va vb ha hb => ⟨gcd_bad va vb s t l m W ha hb h, rgcd_bad va vb s t l m W ha hb h⟩⟩
theorem neg_pair (s : Int) (l : List Int) (hl : l.length ≤ 62) : ∃ z : Int, ∀ (W : World) (va : Value), Arg W va s l →
    Calls Tryd.prog 62 #[va] W (AnsB z W) ∧ Calls Tryd.prog 50 #[va] W (AnsB z W) := by
  cases h : rightB s l
  · exact ⟨0, fun W va ha => ⟨neg_bad va s l W ha h, rneg_bad va s l W ha h⟩⟩
  · obtain ⟨a, rfl, rfl⟩ := right_of h
    exact ⟨-a, fun W va ha => ⟨neg_ok va a W ha (by omega), rneg_ok va a W ha (by omega)⟩⟩
end Go.Proofs.YtmhdhabgdlefjaaDoor.Bi
