/- The order of rationals, for FracOrder. -/
import Derived.Test.YtbbjogkapcakpaaGreatDoorM14
set_option maxRecDepth 100000
namespace Go.Proofs.YtbbjogkapcakpaaGreatDoor.Bi
open Go.RowKit

theorem rat_tri (a b : Rat) : a < b ∨ a = b ∨ b < a := by
  rcases Rat.le_total (a := a) (b := b) with h | h
  · by_cases e : a = b
    · exact .inr (.inl e)
    · exact .inl (Rat.lt_of_le_of_ne h e)
  · by_cases e : a = b
    · exact .inr (.inl e)
    · exact .inr (.inr (Rat.lt_of_le_of_ne h (fun e' => e e'.symm)))
theorem rat_lt_trans {a b c : Rat} (h : a < b) (k : b < c) : a < c := by
  refine Rat.lt_of_le_of_ne (Rat.le_trans (Rat.le_of_lt h) (Rat.le_of_lt k)) fun e => ?_
  subst e
  exact (Rat.not_le.2 h) (Rat.le_of_lt k)
theorem sign_sub (a b : Rat) : (a - b).num.sign = cmpR a b := by
  rcases rat_tri a b with h | h | h
  · rw [cmpR_lt.2 h]
    have h1 : 0 < b - a := (Rat.lt_iff_sub_pos a b).1 h
    have h2 : (a - b) = -(b - a) := (Rat.neg_sub _ _).symm
    rw [h2, Rat.neg_num, Int.sign_neg]
    have h3 : 0 < (b - a).num := by
      have := (Rat.lt_iff 0 (b - a)).1 h1
      simpa using this
    rw [Int.sign_eq_one_of_pos h3]
  · subst h
    rw [cmpR_eq.2 rfl, Rat.sub_self]; rfl
  · rw [cmpR_gt.2 h]
    have h1 : 0 < a - b := (Rat.lt_iff_sub_pos b a).1 h
    have h3 : 0 < (a - b).num := by
      have := (Rat.lt_iff 0 (a - b)).1 h1
      simpa using this
    exact Int.sign_eq_one_of_pos h3
theorem cmpR_add (a b c : Rat) : cmpR (a + c) (b + c) = cmpR a b := by
  unfold cmpR
  simp only [Rat.add_lt_add_right]
  by_cases e : a = b
  · subst e; simp
  · have : a + c ≠ b + c := fun h => e (Rat.add_right_cancel c h)
    simp [e, this]
theorem cmpR_neg (a b : Rat) : cmpR (-a) (-b) = cmpR b a := by
  rcases rat_tri a b with h | h | h
  · rw [cmpR_gt.2 h, cmpR_gt.2 (Rat.neg_lt_neg h)]
  · subst h; rw [cmpR_eq.2 rfl, cmpR_eq.2 rfl]
  · rw [cmpR_lt.2 h, cmpR_lt.2 (Rat.neg_lt_neg h)]
theorem num_sign_mul (a b : Rat) : (a * b).num.sign = a.num.sign * b.num.sign := by
  have e := Rat.num_mul a b
  have h : (a * b).num * ((a.num * b.num).natAbs.gcd (a.den * b.den) : Nat) = a.num * b.num := by
    rw [e]
    exact Int.ediv_mul_cancel (Int.ofNat_dvd_left.2 (Nat.gcd_dvd_left _ _))
  have hp : (0 : Int) < ((a.num * b.num).natAbs.gcd (a.den * b.den) : Nat) := by
    have : 0 < (a.num * b.num).natAbs.gcd (a.den * b.den) := Nat.gcd_pos_of_pos_right _ (Nat.mul_pos a.den_pos b.den_pos)
    omega
  rw [← Int.sign_mul, ← h, Int.sign_mul, Int.sign_eq_one_of_pos hp, Int.mul_one]
theorem cmpR_mul (a b c : Rat) : cmpR (a * c) (b * c) = cmpR a b * c.num.sign := by
  rw [← sign_sub, ← sign_sub, ← num_sign_mul]
  congr 2
  rw [Rat.sub_eq_add_neg, Rat.sub_eq_add_neg, Rat.add_mul, Rat.neg_mul]
theorem rmin_lt {a b : Rat} (h : a < b) : rmin a b = a := by unfold rmin; rw [if_neg (fun h' => Rat.lt_irrefl (rat_lt_trans h h'))]
theorem rmin_eq {a b : Rat} (h : a = b) : rmin a b = a := by subst h; unfold rmin; rw [if_neg Rat.lt_irrefl]
theorem rmin_gt {a b : Rat} (h : b < a) : rmin a b = b := by unfold rmin; rw [if_pos h]
theorem rmax_lt {a b : Rat} (h : a < b) : rmax a b = b := by unfold rmax; rw [if_pos h]
theorem rmax_eq {a b : Rat} (h : a = b) : rmax a b = a := by subst h; unfold rmax; rw [if_neg Rat.lt_irrefl]
theorem rmax_gt {a b : Rat} (h : b < a) : rmax a b = a := by unfold rmax; rw [if_neg (fun h' => Rat.lt_irrefl (rat_lt_trans h h'))]
theorem rat_swap (a b : Rat) : b + a = a + b := Rat.add_comm b a
end Go.Proofs.YtbbjogkapcakpaaGreatDoor.Bi
