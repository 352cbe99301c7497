/- The calendar's mathematics: where the months begin, how long they are, and in which one a day lies. -/
import Derived.Lib.Hide
namespace Go.Proofs.YtdhpdkfohbafgaaDoor.Ca

/-- The 29ths of February up to the end of a year. -/
def lp (y : Nat) : Nat := y / 4 - y / 100 + y / 400
def dbL : List Nat := [0, 31, 59, 90, 120, 151, 181, 212, 243, 273, 304, 334]
def db (r : Nat) : Nat := dbL.getD r 0
/-- The last year whose February is over when a month begins. -/
def endY (m : Nat) : Nat := 2000 + m / 12 - (if m % 12 < 2 then 1 else 0)
/-- The days ahead of a month; months are counted from January 2000 on. -/
def st (m : Nat) : Nat := 365 * (m / 12) + db (m % 12) + lp (endY m) - 484
def leapB (y : Nat) : Bool := y % 4 == 0 && (y % 100 != 0 || y % 400 == 0)
def lenY (y m : Nat) : Nat := if m = 2 then (if leapB y then 29 else 28) else if m = 4 ∨ m = 6 ∨ m = 9 ∨ m = 11 then 30 else 31
def len (m : Nat) : Nat := lenY (2000 + m / 12) (m % 12 + 1)

theorem lp_succ (y : Nat) : lp (y + 1) = lp y + (if leapB (y + 1) then 1 else 0) := by
  unfold lp leapB
  by_cases h4 : (y + 1) % 4 = 0
  · by_cases h1 : (y + 1) % 100 = 0
    · by_cases h0 : (y + 1) % 400 = 0
      · simp [h4, h1, h0]; omega
      · simp [h4, h1, h0]; omega
    · have h0 : (y + 1) % 400 ≠ 0 := by omega
      simp [h4, h1, h0]; omega
  · have h1 : (y + 1) % 100 ≠ 0 := by omega
    have h0 : (y + 1) % 400 ≠ 0 := by omega
    simp [h4, h1, h0]; omega
theorem lp_mono {a b : Nat} (h : a ≤ b) : lp a ≤ lp b := by
  induction h with
  | refl => exact Nat.le_refl _
  | step _ ih => rw [Nat.succ_eq_add_one, lp_succ]; omega
theorem lp_ge {y : Nat} (h : 1999 ≤ y) : 484 ≤ lp y := by have := lp_mono h; rwa [show lp 1999 = 484 by decide] at this
theorem lp_le (y : Nat) : lp y ≤ y := by unfold lp; omega

theorem st_at (q r : Nat) (hr : r < 12) : st (12 * q + r) = 365 * q + db r + lp (if r < 2 then 1999 + q else 2000 + q) - 484 := by
  unfold st endY
  rw [show (12 * q + r) / 12 = q by omega, show (12 * q + r) % 12 = r by omega]
  split
  · rw [show 2000 + q - 1 = 1999 + q by omega]
  · rw [show 2000 + q - 0 = 2000 + q by omega]
theorem len_at (q r : Nat) (hr : r < 12) : len (12 * q + r) = lenY (2000 + q) (r + 1) := by
  unfold len
  rw [show (12 * q + r) / 12 = q by omega, show (12 * q + r) % 12 = r by omega]

theorem st_succ (m : Nat) : st (m + 1) = st m + len m := by
  obtain ⟨q, r, hr, rfl⟩ : ∃ q r, r < 12 ∧ m = 12 * q + r := ⟨m / 12, m % 12, by omega, by omega⟩
  have h1 := lp_ge (y := 1999 + q) (by omega)
  have h2 := lp_succ (1999 + q)
  rw [show 1999 + q + 1 = 2000 + q by omega] at h2
  rw [len_at q r hr, st_at q r hr]
  by_cases h11 : r = 11
  · subst h11
    rw [show 12 * q + 11 + 1 = 12 * (q + 1) + 0 by omega, st_at (q + 1) 0 (by omega), show 1999 + (q + 1) = 2000 + q by omega]
    simp [db, dbL, lenY]
    omega
  · rw [show 12 * q + r + 1 = 12 * q + (r + 1) by omega, st_at q (r + 1) (by omega)]
    have : r = 0 ∨ r = 1 ∨ r = 2 ∨ r = 3 ∨ r = 4 ∨ r = 5 ∨ r = 6 ∨ r = 7 ∨ r = 8 ∨ r = 9 ∨ r = 10 := by omega
    cases hl : leapB (2000 + q) <;> simp [hl] at h2 <;> rcases this with rfl | rfl | rfl | rfl | rfl | rfl | rfl | rfl | rfl | rfl | rfl <;> simp [db, dbL, lenY, hl] <;> omega

theorem len_ge (m : Nat) : 28 ≤ len m := by
  unfold len lenY
  repeat' split
  all_goals omega
theorem len_le (m : Nat) : len m ≤ 31 := by
  unfold len lenY
  repeat' split
  all_goals omega
theorem st_mono {a b : Nat} (h : a ≤ b) : st a ≤ st b := by
  induction h with
  | refl => exact Nat.le_refl _
  | step _ ih => rw [Nat.succ_eq_add_one, st_succ]; omega
theorem st_lt {a b : Nat} (h : a < b) : st a + 28 ≤ st b := by
  have h1 := st_mono (show a + 1 ≤ b by omega)
  have h2 := st_succ a
  have h3 := len_ge a
  omega
theorem st_le (m : Nat) : st m ≤ 31 * m := by
  induction m with
  | zero => decide
  | succ n ih => have := st_succ n; have := len_le n; omega
theorem st_0 : st 0 = 0 := by decide
theorem st_last : st 3286 = 100016 := by decide

theorem ex_mo (d n : Nat) (h : d < st n) : ∃ m, m < n ∧ st m ≤ d ∧ d < st (m + 1) := by
  induction n with
  | zero => rw [st_0] at h; omega
  | succ n ih =>
    rcases Nat.lt_or_ge d (st n) with h1 | h1
    · obtain ⟨m, h2, h3⟩ := ih h1
      exact ⟨m, by omega, h3⟩
    · exact ⟨n, by omega, h1, h⟩

/-- The month in which a day lies. -/
def mo (d : Nat) : Nat := (List.range 3288).countP (fun i => !decide (d < st (i + 1)))
theorem count_range (p : Nat → Bool) (n m : Nat) (hm : m ≤ n) (h1 : ∀ t, t < m → p t = true) (h2 : ∀ t, m ≤ t → t < n → p t = false) : (List.range n).countP p = m := by
  induction n generalizing m with
  | zero => obtain rfl : m = 0 := by omega
            rfl
  | succ n ih =>
    rw [List.range_succ, List.countP_append]
    rcases Nat.lt_or_ge m (n + 1) with hlt | hge
    · rw [ih m (by omega) h1 (fun t a b => h2 t a (by omega))]
      simp [h2 n (by omega) (by omega)]
    · obtain rfl : m = n + 1 := by omega
      rw [ih n (Nat.le_refl _) (fun t a => h1 t (by omega)) (fun t a b => by omega)]
      simp [h1 n (by omega)]
theorem mo_eq {d m : Nat} (hm : m ≤ 3288) (h1 : st m ≤ d) (h2 : d < st (m + 1)) : mo d = m := by
  unfold mo
  refine count_range _ 3288 m hm (fun t ht => ?_) (fun t ht _ => ?_)
  · have := st_mono (show t + 1 ≤ m by omega); simp; omega
  · have := st_mono (show m + 1 ≤ t + 1 by omega); simp; omega
theorem mo_spec {d : Nat} (h : d ≤ 100000) : mo d ≤ 3285 ∧ st (mo d) ≤ d ∧ d < st (mo d + 1) := by
  obtain ⟨m, h1, h2, h3⟩ := ex_mo d 3286 (by rw [st_last]; omega)
  rw [mo_eq (by omega) h2 h3]
  exact ⟨by omega, h2, h3⟩
theorem mo_uniq {d m k : Nat} (h1 : st m ≤ d) (h2 : d < st (m + 1)) (h3 : st k ≤ d) (h4 : d < st (k + 1)) : m = k := by
  rcases Nat.lt_trichotomy m k with h | h | h
  · have := st_mono (show m + 1 ≤ k by omega); omega
  · exact h
  · have := st_mono (show k + 1 ≤ m by omega); omega
theorem mo_le {c d : Nat} (hd : d ≤ 100000) (h : c ≤ d) : mo c ≤ mo d := by
  have h1 := mo_spec (show c ≤ 100000 by omega)
  have h2 := mo_spec hd
  rcases Nat.lt_or_ge (mo d) (mo c) with h3 | h3
  · have := st_mono (show mo d + 1 ≤ mo c by omega); omega
  · exact h3
end Go.Proofs.YtdhpdkfohbafgaaDoor.Ca
