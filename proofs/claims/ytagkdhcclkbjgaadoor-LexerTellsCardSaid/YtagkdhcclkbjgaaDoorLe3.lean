/- The contracts of the tests of single bytes. -/
import Derived.WalkKit
import Derived.WalkSmall
import Derived.Outline
import Derived.Test.YtagkdhcclkbjgaaDoorChecked
import Derived.Test.YtagkdhcclkbjgaaDoorLe2
set_option maxRecDepth 100000
namespace Go.Proofs.YtagkdhcclkbjgaaDoor.Le
open Go.RowKit

theorem isLetter_any (c : UInt8) (w : World) : Calls Tryd.prog 35 #[.int .u8 (c.toNat : Int)] w fun e w' => e = .returned (.bool (letB c)) ∧ w' = w := by
  obtain ⟨R, hR⟩ : ∃ R : Int, (c.toNat : Int) = R := ⟨_, rfl⟩
  have hb : letB c = ((decide (97 ≤ R) && decide (R ≤ 122)) || (decide (65 ≤ R) && decide (R ≤ 90))) := by
    unfold letB; rw [Bool.eq_iff_iff]; simp; omega
  rw [hb, hR]
  clear hb hR
  by_cases h1 : 97 ≤ R <;> by_cases h2 : R ≤ 122 <;> by_cases h3 : 65 ≤ R <;> by_cases h4 : R ≤ 90
  all_goals
    first
    | (exfalso; omega)
    | (go_enter Tryd.func35, Tryd.ntmps35
       go_wp2
       go_ret
       exact ⟨by simp [h1, h2, h3, h4], rfl⟩)
theorem letter_any (c : UInt8) (w : World) : Calls Tryd.prog 38 #[.int .u8 (c.toNat : Int)] w fun e w' => e = .returned (.bool (letB c)) ∧ w' = w := by
  obtain ⟨R, hR⟩ : ∃ R : Int, (c.toNat : Int) = R := ⟨_, rfl⟩
  have hb : letB c = ((decide (97 ≤ R) && decide (R ≤ 122)) || (decide (65 ≤ R) && decide (R ≤ 90))) := by
    unfold letB; rw [Bool.eq_iff_iff]; simp; omega
  rw [hb, hR]
  clear hb hR
  by_cases h1 : 97 ≤ R <;> by_cases h2 : R ≤ 122 <;> by_cases h3 : 65 ≤ R <;> by_cases h4 : R ≤ 90
  all_goals
    first
    | (exfalso; omega)
    | (go_enter Tryd.func38, Tryd.ntmps38
       go_wp2
       go_ret
       exact ⟨by simp [h1, h2, h3, h4], rfl⟩)
theorem isDigit_any (c : UInt8) (w : World) : Calls Tryd.prog 43 #[.int .u8 (c.toNat : Int)] w fun e w' => e = .returned (.bool (digB c)) ∧ w' = w := by
  obtain ⟨R, hR⟩ : ∃ R : Int, (c.toNat : Int) = R := ⟨_, rfl⟩
  have hb : digB c = (decide (48 ≤ R) && decide (R ≤ 57)) := by
    unfold digB; rw [Bool.eq_iff_iff]; simp; omega
  rw [hb, hR]
  clear hb hR
  by_cases h1 : 48 ≤ R <;> by_cases h2 : R ≤ 57
  all_goals
    go_enter Tryd.func43, Tryd.ntmps43
    go_wp2
    go_ret
    exact ⟨by simp [h1, h2], rfl⟩
theorem digit_any (c : UInt8) (w : World) : Calls Tryd.prog 31 #[.int .u8 (c.toNat : Int)] w fun e w' => e = .returned (.bool (digB c)) ∧ w' = w := by
  obtain ⟨R, hR⟩ : ∃ R : Int, (c.toNat : Int) = R := ⟨_, rfl⟩
  have hb : digB c = (decide (48 ≤ R) && decide (R ≤ 57)) := by
    unfold digB; rw [Bool.eq_iff_iff]; simp; omega
  rw [hb, hR]
  clear hb hR
  by_cases h1 : 48 ≤ R <;> by_cases h2 : R ≤ 57
  all_goals
    go_enter Tryd.func31, Tryd.ntmps31
    go_wp2
    go_ret
    exact ⟨by simp [h1, h2], rfl⟩
theorem isPlain_any (c : UInt8) (w : World) : Calls Tryd.prog 52 #[.int .u8 (c.toNat : Int)] w fun e w' => e = .returned (.bool (plainB c)) ∧ w' = w := by
  obtain ⟨R, hR⟩ : ∃ R : Int, (c.toNat : Int) = R := ⟨_, rfl⟩
  have hb : plainB c = (decide (32 ≤ R) && decide (R ≤ 126)) := by
    unfold plainB; rw [Bool.eq_iff_iff]; simp; omega
  rw [hb, hR]
  clear hb hR
  by_cases h1 : 32 ≤ R <;> by_cases h2 : R ≤ 126
  all_goals
    go_enter Tryd.func52, Tryd.ntmps52
    go_wp2
    go_ret
    exact ⟨by simp [h1, h2], rfl⟩
theorem needsEscape_any (c : UInt8) (w : World) : Calls Tryd.prog 53 #[.int .u8 (c.toNat : Int)] w fun e w' => e = .returned (.bool (escB c)) ∧ w' = w := by
  obtain ⟨R, hR⟩ : ∃ R : Int, (c.toNat : Int) = R := ⟨_, rfl⟩
  have hb : escB c = (decide (R = 34) || decide (R = 92)) := by
    unfold escB; rw [Bool.eq_iff_iff]; simp; omega
  rw [hb, hR]
  clear hb hR
  by_cases h1 : R = 34
  · subst h1
    go_enter Tryd.func53, Tryd.ntmps53
    go_wp2
    go_ret
    exact ⟨rfl, rfl⟩
  · have h1' : (R == 34) = false := by simpa using h1
    by_cases h2 : R = 92
    · subst h2
      clear h1' h1
      go_enter Tryd.func53, Tryd.ntmps53
      go_wp2
      go_ret
      exact ⟨rfl, rfl⟩
    · have h2' : (R == 92) = false := by simpa using h2
      go_enter Tryd.func53, Tryd.ntmps53
      go_wp2
      go_ret
      exact ⟨by simp [h1, h2], rfl⟩
theorem blank_any (c : UInt8) (w : World) : Calls Tryd.prog 27 #[.int .u8 (c.toNat : Int)] w fun e w' => e = .returned (.bool (blankB c)) ∧ w' = w := by
  obtain ⟨R, hR⟩ : ∃ R : Int, (c.toNat : Int) = R := ⟨_, rfl⟩
  have hb : blankB c = (decide (R = 9) || decide (R = 10) || decide (R = 32)) := by
    unfold blankB; rw [Bool.eq_iff_iff]; simp; omega
  rw [hb, hR]
  clear hb hR
  by_cases h1 : R = 9
  · subst h1
    go_enter Tryd.func27, Tryd.ntmps27
    go_wp2
    go_ret
    exact ⟨rfl, rfl⟩
  · have h1' : (R == 9) = false := by simpa using h1
    by_cases h2 : R = 10
    · subst h2
      clear h1' h1
      go_enter Tryd.func27, Tryd.ntmps27
      go_wp2
      go_ret
      exact ⟨rfl, rfl⟩
    · have h2' : (R == 10) = false := by simpa using h2
      by_cases h3 : R = 32
      · subst h3
        clear h1' h1 h2 h2'
        go_enter Tryd.func27, Tryd.ntmps27
        go_wp2
        go_ret
        exact ⟨rfl, rfl⟩
      · have h3' : (R == 32) = false := by simpa using h3
        go_enter Tryd.func27, Tryd.ntmps27
        go_wp2
        go_ret
        exact ⟨by simp [h1, h2, h3], rfl⟩

theorem isNameByte_any (c : UInt8) (w : World) : Calls Tryd.prog 37 #[.int .u8 (c.toNat : Int)] w fun e w' => e = .returned (.bool (nameB c)) ∧ w' = w := by
  have H1 := Lib.hid (isLetter_any c)
  have H2 := Lib.hid (isDigit_any c)
  have hb : nameB c = (letB c || digB c || decide (c.toNat = 95)) := rfl
  rw [hb]
  clear hb
  rcases hl : letB c with _ | _
  · rw [hl] at H1
    rcases hd : digB c with _ | _
    · rw [hd] at H2
      clear hl hd
      by_cases h3 : c.toNat = 95
      · have h3' : ((c.toNat : Int) == 95) = true := by simp; omega
        have HE : Hid (decide (c.toNat = 95) = true) := Lib.hid (by simpa using h3)
        clear h3
        go_enter Tryd.func37, Tryd.ntmps37
        go_wp2_with fail
        refine (H1.out _).mono ?_
        rintro e w1 ⟨rfl, rfl⟩
        go_wp2_with fail
        refine (H2.out _).mono ?_
        rintro e w1 ⟨rfl, rfl⟩
        go_wp2_with fail
        go_ret
        exact ⟨by rw [HE.out]; rfl, rfl⟩
      · have h3' : ((c.toNat : Int) == 95) = false := by simp; omega
        have HE : Hid (decide (c.toNat = 95) = false) := Lib.hid (by simpa using h3)
        clear h3
        go_enter Tryd.func37, Tryd.ntmps37
        go_wp2_with fail
        refine (H1.out _).mono ?_
        rintro e w1 ⟨rfl, rfl⟩
        go_wp2_with fail
        refine (H2.out _).mono ?_
        rintro e w1 ⟨rfl, rfl⟩
        go_wp2_with fail
        go_ret
        exact ⟨by rw [HE.out]; rfl, rfl⟩
    · rw [hd] at H2
      clear hl hd
      go_enter Tryd.func37, Tryd.ntmps37
      go_wp2_with fail
      refine (H1.out _).mono ?_
      rintro e w1 ⟨rfl, rfl⟩
      go_wp2_with fail
      refine (H2.out _).mono ?_
      rintro e w1 ⟨rfl, rfl⟩
      go_wp2_with fail
      go_ret
      exact ⟨rfl, rfl⟩
  · rw [hl] at H1
    clear hl
    go_enter Tryd.func37, Tryd.ntmps37
    go_wp2_with fail
    refine (H1.out _).mono ?_
    rintro e w1 ⟨rfl, rfl⟩
    go_wp2_with fail
    go_ret
    exact ⟨rfl, rfl⟩
end Go.Proofs.YtagkdhcclkbjgaaDoor.Le
