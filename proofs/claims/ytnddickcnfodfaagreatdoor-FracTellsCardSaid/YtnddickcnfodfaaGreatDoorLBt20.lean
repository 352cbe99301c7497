/- BigTells: program and reference give the same, for arguments that are valid or not. -/
import Derived.Test.YtnddickcnfodfaaGreatDoorLBt19
import Derived.Test.YtnddickcnfodfaaGreatDoorM16
set_option maxRecDepth 100000
namespace Go.Proofs.YtnddickcnfodfaaGreatDoor.Bi
open Go.RowKit Go.Lib

/-- Both arguments are numbers, or one is none. -/
theorem both (s t : Int) (l m : List Int) : (∃ a b : Int, s = a.sign ∧ l = digs a.natAbs ∧ t = b.sign ∧ m = digs b.natAbs) ∨ (rightB s l && rightB t m) = false := by
  cases h1 : rightB s l
  · exact .inr rfl
  · cases h2 : rightB t m
    · exact .inr rfl
    · obtain ⟨a, e1, e2⟩ := right_of h1
      obtain ⟨b, e3, e4⟩ := right_of h2
      exact .inl ⟨a, b, e1, e2, e3, e4⟩
theorem add_pair (s t : Int) (l m : List Int) (hl : l.length ≤ 62) (hm : m.length ≤ 62) : ∃ z er : Int, ∀ (W : World) (va vb : Value), Arg W va s l → Arg W vb t m →
    Calls Tryz.prog 69 #[va, vb] W (Ans z er W) ∧ Calls Tryz.prog 47 #[va, vb] W (Ans z er W) := by
  rcases both s t l m with ⟨a, b, rfl, rfl, rfl, rfl⟩ | h
  · exact ⟨a + b, 0, fun W va vb ha hb => ⟨add_ok va vb a b W ha hb (by omega) (by omega), radd_ok va vb a b W ha hb (by omega) (by omega)⟩⟩
  · exact ⟨0, 1, fun W va vb ha hb => ⟨add_bad va vb s t l m W ha hb h, radd_bad va vb s t l m W ha hb h⟩⟩
theorem mul_pair (s t : Int) (l m : List Int) (hl : l.length ≤ 62) (hm : m.length ≤ 62) : ∃ z er : Int, ∀ (W : World) (va vb : Value), Arg W va s l → Arg W vb t m →
    Calls Tryz.prog 70 #[va, vb] W (Ans z er W) ∧ Calls Tryz.prog 46 #[va, vb] W (Ans z er W) := by
  rcases both s t l m with ⟨a, b, rfl, rfl, rfl, rfl⟩ | h
  · exact ⟨a * b, 0, fun W va vb ha hb => ⟨mul_ok va vb a b W ha hb (by omega) (by omega), rmul_ok va vb a b W ha hb (by omega) (by omega)⟩⟩
  · exact ⟨0, 1, fun W va vb ha hb => ⟨mul_bad va vb s t l m W ha hb h, rmul_bad va vb s t l m W ha hb h⟩⟩
theorem sub_pair (s t : Int) (l m : List Int) (hl : l.length ≤ 62) (hm : m.length ≤ 62) : ∃ z er : Int, ∀ (W : World) (va vb : Value), Arg W va s l → Arg W vb t m →
    Calls Tryz.prog 76 #[va, vb] W (Ans z er W) ∧ Calls Tryz.prog 49 #[va, vb] W (Ans z er W) := by
  rcases both s t l m with ⟨a, b, rfl, rfl, rfl, rfl⟩ | h
  · refine ⟨a - b, 0, fun W va vb ha hb => ⟨sub_ok va vb a b W ha hb (by omega) (by omega), ?_⟩⟩
    refine rsub_any va vb _ _ b (a - b) 0 W ha hb (by omega) (fun W v h1 h2 => ?_)
    have := radd_ok va v a (-b) W h1 h2 (by omega) (by rw [Int.natAbs_neg]; omega)
    rwa [← Int.sub_eq_add_neg] at this
  · refine ⟨0, 1, fun W va vb ha hb => ⟨sub_bad va vb s t l m W ha hb h, ?_⟩⟩
    cases h2 : rightB t m
    · exact rsub_bad va vb s t l m W ha hb h2
    · obtain ⟨b, rfl, rfl⟩ := right_of h2
      rw [h2, Bool.and_true] at h
      refine rsub_any va vb s l b 0 1 W ha hb (by omega) (fun W v h3 h4 => ?_)
      exact radd_bad va v s _ l _ W h3 h4.arg (by rw [h]; rfl)
theorem div_pair (s t : Int) (l m : List Int) (hl : l.length ≤ 62) (hm : m.length ≤ 62) : ∃ z r er : Int, ∀ (W : World) (va vb : Value), Arg W va s l → Arg W vb t m →
    Calls Tryz.prog 89 #[va, vb] W (AnsD z r er W) ∧ Calls Tryz.prog 60 #[va, vb] W (AnsD z r er W) := by
  rcases both s t l m with ⟨a, b, rfl, rfl, rfl, rfl⟩ | h
  · by_cases h0 : b = 0
    · exact ⟨0, 0, 15, fun W va vb ha hb => ⟨div_zero va vb a b W ha hb h0, rdiv_zero va vb a b W ha hb (by omega) (by omega) h0⟩⟩
    · exact ⟨a.fdiv b, a.fmod b, 0, fun W va vb ha hb => ⟨div_ok va vb a b W ha hb (by omega) (by omega) h0, rdiv_ok va vb a b W ha hb (by omega) (by omega) h0⟩⟩
  · exact ⟨0, 0, 1, fun W va vb ha hb => ⟨div_bad va vb s t l m W ha hb h, rdiv_bad va vb s t l m W ha hb h⟩⟩
theorem gcd_pair (s t : Int) (l m : List Int) (hl : l.length ≤ 62) (hm : m.length ≤ 62) : ∃ z er : Int, ∀ (W : World) (va vb : Value), Arg W va s l → Arg W vb t m →
    Calls Tryz.prog 54 #[va, vb] W (Ans z er W) ∧ Calls Tryz.prog 59 #[va, vb] W (Ans z er W) := by
  rcases both s t l m with ⟨a, b, rfl, rfl, rfl, rfl⟩ | h
  · exact ⟨(Nat.gcd a.natAbs b.natAbs : Nat), 0, fun W va vb ha hb => ⟨gcd_gen va vb a b W ha hb (by omega) (by omega) (.inl euclid_all), rgcd_ok va vb a b W ha hb (by omega) (by omega)⟩⟩
  · exact ⟨0, 1, fun W va vb ha hb => ⟨gcd_bad va vb s t l m W ha hb h, rgcd_bad va vb s t l m W ha hb h⟩⟩
theorem cmp_pair (s t : Int) (l m : List Int) : ∃ c : Int, ∀ (W : World) (va vb : Value), Arg W va s l → Arg W vb t m →
    Calls Tryz.prog 93 #[va, vb] W (fun e w' => e = .returned (.int .i64 c) ∧ RowKit.Below W.heap.size W w') ∧ Calls Tryz.prog 62 #[va, vb] W (fun e w' => e = .returned (.int .i64 c) ∧ RowKit.Below W.heap.size W w') := by
  rcases both s t l m with ⟨a, b, rfl, rfl, rfl, rfl⟩ | h
  · exact ⟨cmpI a b, fun W va vb ha hb => ⟨compareB_ok va vb a b W ha hb, rcompare_ok va vb a b W ha hb⟩⟩
  · exact ⟨0, fun W va vb ha hb => ⟨compareB_bad va vb s t l m W ha hb h, rcompare_bad va vb s t l m W ha hb h⟩⟩
theorem read_pair (s : ByteArray) (hs : s.size ≤ 400) : ∃ z er : Int, ∀ W : World,
    Calls Tryz.prog 52 #[.string s] W (Ans z er W) ∧ Calls Tryz.prog 53 #[.string s] W (Ans z er W) := by
  have h1 := read_any s (by omega)
  have h2 := rread_any s (by omega)
  cases hr : readS s.data.toList with
  | none => rw [hr] at h1 h2; exact ⟨0, 2, fun W => ⟨h1 W, h2 W⟩⟩
  | some z => rw [hr] at h1 h2; exact ⟨z, 0, fun W => ⟨h1 W, h2 W⟩⟩
theorem text_pair (s : Int) (l : List Int) (hl : l.length ≤ 62) : ∃ t : ByteArray, ∀ (W : World) (va : Value), Env W → Arg W va s l →
    Calls Tryz.prog 66 #[va] W (fun e w' => e = .returned (.string t) ∧ RowKit.Below W.heap.size W w') ∧ Calls Tryz.prog 67 #[va] W (fun e w' => e = .returned (.string t) ∧ RowKit.Below W.heap.size W w') := by
  cases h : rightB s l
  · exact ⟨⟨#[]⟩, fun W va _ ha => ⟨text_bad va s l W ha h, rtext_bad va s l W ha h⟩⟩
  · obtain ⟨a, rfl, rfl⟩ := right_of h
    exact ⟨⟨(itoa a).toArray⟩, fun W va he ha => ⟨text_ok va a W ha he (by omega), rtext_ok va a W ha (by omega)⟩⟩
theorem neg_pair (s : Int) (l : List Int) (hl : l.length ≤ 62) : ∃ z : Int, ∀ (W : World) (va : Value), Arg W va s l →
    Calls Tryz.prog 55 #[va] W (AnsB z W) ∧ Calls Tryz.prog 58 #[va] W (AnsB z W) := by
  cases h : rightB s l
  · exact ⟨0, fun W va ha => ⟨neg_bad va s l W ha h, rneg_bad va s l W ha h⟩⟩
  · obtain ⟨a, rfl, rfl⟩ := right_of h
    exact ⟨-a, fun W va ha => ⟨neg_ok va a W ha (by omega), rneg_ok va a W ha (by omega)⟩⟩
end Go.Proofs.YtnddickcnfodfaaGreatDoor.Bi
