/- The contracts of the reference of the calendar: weekdays, months; and that both return the same. -/
import Derived.Test.YtdhpdkfohbafgaaDoorCa7
set_option maxRecDepth 100000
namespace Go.Proofs.YtdhpdkfohbafgaaDoor.Ca
open Go.RowKit Go.Shelf Go.Lib Go.Sort

theorem radd_in (d : Nat) (hd : d ≤ 100000) (m : Int) (t : Nat) (ht : (mo d : Int) + m = t) (ht2 : t < 3288) (w : World) :
    Calls Tryd.prog 16 #[.int .i64 (d : Nat), .int .i64 m] w fun e w' => e = .returned (addV (addN d t)) ∧ w' = w := by
  have hmo := (mo_spec hd).1
  have hl := len_ge t
  have hdm := (dm_spec hd).1
  have e1 : 12 * (t / 12) + t % 12 = t := by omega
  have hin := rday_in (t / 12) (t % 12) (min (dm d) (len t)) (by omega) (by omega) (by omega) (by rw [e1]; omega)
  rw [e1] at hin
  obtain ⟨va, vb, hv⟩ : ∃ va vb, addV (addN d t) = .tuple #[.int .i64 va, .int .i64 vb] := by
    unfold addV; split
    · exact ⟨_, _, rfl⟩
    · exact ⟨_, _, rfl⟩
  have hv2 : addV (st t + min (dm d) (len t) - 1) = .tuple #[.int .i64 va, .int .i64 vb] := hv
  rw [hv2] at hin
  rw [hv]
  refine radd_core d hd m (by omega) (by omega) (24000 + t) (by omega) va vb ?_ w
  rw [show (24000 + t) / 12 = 2000 + t / 12 by omega, show (24000 + t) % 12 + 1 = t % 12 + 1 by omega]
  exact hin
set_option maxHeartbeats 1000000 in
theorem radd_far (d : Nat) (hd : d ≤ 100000) (m : Int) (h : m < -5000 ∨ 5000 < m) (w : World) :
    Calls Tryd.prog 16 #[.int .i64 (d : Nat), .int .i64 m] w fun e w' => e = .returned badD ∧ w' = w := by
  have HD := Lib.hid (rdate_ok d hd)
  by_cases h1 : m < -5000
  · have g1 : decide (m < -5000) = true := by simp; omega
    clear h h1
    go_enter Tryd.func16, Tryd.ntmps16
    go_wp2_with fail
    refine (HD.out _).mono ?_
    rintro e w0 ⟨rfl, rfl⟩
    go_wp2_with fail
    go_ret2
    exact ⟨rfl, rfl⟩
  · have g1 : decide (m < -5000) = false := by simp; omega
    have g2 : decide (5000 < m) = true := by simp; omega
    clear h h1
    go_enter Tryd.func16, Tryd.ntmps16
    go_wp2_with fail
    refine (HD.out _).mono ?_
    rintro e w0 ⟨rfl, rfl⟩
    go_wp2_with fail
    go_ret2
    exact ⟨rfl, rfl⟩
theorem radd_out (d : Nat) (hd : d ≤ 100000) (m : Int) (ht : (mo d : Int) + m < 0 ∨ 3288 ≤ (mo d : Int) + m) (w : World) :
    Calls Tryd.prog 16 #[.int .i64 (d : Nat), .int .i64 m] w fun e w' => e = .returned badD ∧ w' = w := by
  have hmo := (mo_spec hd).1
  by_cases h : m < -5000 ∨ 5000 < m
  · exact radd_far d hd m h w
  · obtain ⟨Z, hZ⟩ : ∃ Z : Nat, (Z : Int) = 24000 + mo d + m := ⟨(24000 + mo d + m).toNat, by omega⟩
    refine radd_core d hd m (by omega) (by omega) Z hZ 0 3 (fun w => ?_) w
    by_cases h2 : Z / 12 < 2000 ∨ 2300 < Z / 12
    · exact rday_out _ _ _ (by omega) w
    · obtain ⟨k, hk⟩ : ∃ k : Nat, Z = 24000 + k := ⟨Z - 24000, by omega⟩
      subst hk
      have hl := len_ge k
      have hdm := (dm_spec hd).1
      have e1 : 12 * (k / 12) + k % 12 = k := by omega
      have hin := rday_in (k / 12) (k % 12) (min (dm d) (len k)) (by omega) (by omega) (by omega) (by rw [e1]; omega) w
      rw [e1, addV_far] at hin
      · rw [show (24000 + k) / 12 = 2000 + k / 12 by omega, show (24000 + k) % 12 + 1 = k % 12 + 1 by omega]
        exact hin
      · have := st_mono (show 3288 ≤ k by omega)
        have := st_3288
        omega
theorem radd_bad (a : Int) (ha : a < 0 ∨ 100000 < a) (m : Int) (w : World) :
    Calls Tryd.prog 16 #[.int .i64 a, .int .i64 m] w fun e w' => e = .returned badD ∧ w' = w := by
  have HD := Lib.hid (rdate_bad a ha)
  clear ha
  go_enter Tryd.func16, Tryd.ntmps16
  go_wp2_with fail
  refine (HD.out _).mono ?_
  rintro e w0 ⟨rfl, rfl⟩
  go_wp2_with fail
  go_ret2
  exact ⟨rfl, rfl⟩
theorem rweek_ok (d : Nat) (hd : d ≤ 100000) (w : World) : Calls Tryd.prog 14 #[.int .i64 (d : Nat)] w
    fun e w' => e = .returned (.tuple #[.int .i64 ((d + 5) % 7 : Nat), .int .i64 0]) ∧ w' = w := by
  have HY := Lib.hid (valid_yes d hd)
  obtain ⟨r, hr⟩ : ∃ r, (d + 5) % 7 = r := ⟨_, rfl⟩
  have d2 : Int.tmod (5 + (d : Int)) 7 = (r : Int) := by rw [show 5 + (d : Int) = ((d + 5 : Nat) : Int) by omega, show (7 : Int) = ((7 : Nat) : Int) by rfl, rem_nat, hr]
  have br : r < 7 := by omega
  rw [hr]
  clear hr
  go_enter Tryd.func14, Tryd.ntmps14
  go_wp2_with fail
  refine (HY.out _).mono ?_
  rintro e w1 ⟨rfl, rfl⟩
  go_wp2_with fail
  go_ret2
  exact ⟨rfl, rfl⟩
theorem rweek_bad (a : Int) (ha : a < 0 ∨ 100000 < a) (w : World) : Calls Tryd.prog 14 #[.int .i64 a] w
    fun e w' => e = .returned badD ∧ w' = w := by
  have HY := Lib.hid (valid_no a ha)
  clear ha
  go_enter Tryd.func14, Tryd.ntmps14
  go_wp2_with fail
  refine (HY.out _).mono ?_
  rintro e w1 ⟨rfl, rfl⟩
  go_wp2_with fail
  go_ret2
  exact ⟨rfl, rfl⟩
set_option maxHeartbeats 1000000 in
theorem rmonth_ok (d : Nat) (hd : d ≤ 100000) (w : World) : Calls Tryd.prog 18 #[.int .i64 (d : Nat)] w
    fun e w' => e = .returned (.tuple #[.int .i64 (first d : Nat), .int .i64 (last d : Nat), .int .i64 0]) ∧ w' = w := by
  obtain ⟨h9, h10, h11⟩ := mo_spec hd
  have HD := Lib.hid (rdate_ok d hd)
  have HL : Hid (∀ w, Calls Tryd.prog 24 #[.int .i64 (yr d : Nat), .int .i64 (mn d : Nat)] w fun e w' => e = .returned (.int .i64 (len (mo d) : Nat)) ∧ w' = w) := rlength_any _ _
  have hst := st_succ (mo d)
  have hdm : dm d = d - st (mo d) + 1 := rfl
  have hll := len_le (mo d)
  have HF : Hid ((first d : Int) = (d : Int) - (dm d : Int) + 1 ∧ (last d : Int) = min 100000 ((d : Int) - (dm d : Int) + 1 + (len (mo d) : Int) - 1)) := Lib.hid (by unfold first last; omega)
  have hd1 : dm d ≤ 31 := by omega
  rw [HF.out.1, HF.out.2]
  clear HF h10 h11 hst hdm
  obtain ⟨Y, hY⟩ : ∃ z, yr d = z := ⟨_, rfl⟩
  obtain ⟨D, hD⟩ : ∃ z, dm d = z := ⟨_, rfl⟩
  obtain ⟨R, hR⟩ : ∃ z, mn d = z := ⟨_, rfl⟩
  obtain ⟨L, hL⟩ : ∃ z, len (mo d) = z := ⟨_, rfl⟩
  rw [hY, hD, hR] at HD
  rw [hY, hR, hL] at HL
  rw [hD] at hd1 ⊢
  rw [hL] at hll ⊢
  clear hY hD hR hL h9
  go_enter Tryd.func18, Tryd.ntmps18
  go_wp2_with fail
  refine (HD.out _).mono ?_
  rintro e w0 ⟨rfl, rfl⟩
  go_wp2_with fail
  refine (HL.out _).mono ?_
  rintro e w0 ⟨rfl, rfl⟩
  go_wp2_with fail
  go_ret3
  exact ⟨rfl, rfl⟩
theorem rmonth_bad (a : Int) (ha : a < 0 ∨ 100000 < a) (w : World) : Calls Tryd.prog 18 #[.int .i64 a] w
    fun e w' => e = .returned (.tuple #[.int .i64 0, .int .i64 0, .int .i64 3]) ∧ w' = w := by
  have HD := Lib.hid (rdate_bad a ha)
  clear ha
  go_enter Tryd.func18, Tryd.ntmps18
  go_wp2_with fail
  refine (HD.out _).mono ?_
  rintro e w0 ⟨rfl, rfl⟩
  go_wp2_with fail
  go_ret3
  exact ⟨rfl, rfl⟩

/-- What the program returns for arguments, and the reference for the same ones. -/
def Same (f g : Nat) (args : Array Value) (v : Value) : Prop := (∀ w, Env w → Calls Tryd.prog f args w (Gives v w)) ∧ (∀ w, Calls Tryd.prog g args w fun e w' => e = .returned v ∧ w' = w)
theorem day_cases (a : Int) : (∃ d : Nat, a = d ∧ d ≤ 100000) ∨ (a < 0 ∨ 100000 < a) := by
  by_cases h : a < 0 ∨ 100000 < a
  · exact .inr h
  · exact .inl ⟨a.toNat, by omega, by omega⟩
theorem same_date (a : Int) : ∃ y m d e : Int, Same 9 10 #[.int .i64 a] (.tuple #[.int .i64 y, .int .i64 m, .int .i64 d, .int .i64 e]) := by
  rcases day_cases a with ⟨d, rfl, hd⟩ | h
  · exact ⟨_, _, _, _, fun w he => date_ok d hd w he, fun w => rdate_ok d hd w⟩
  · exact ⟨_, _, _, _, fun w _ => date_bad a h w, fun w => rdate_bad a h w⟩
theorem same_day (y m d : Int) : ∃ n e : Int, Same 11 12 #[.int .i64 y, .int .i64 m, .int .i64 d] (.tuple #[.int .i64 n, .int .i64 e]) := by
  by_cases h : IsDate y m d
  · obtain ⟨n, hn, rfl, rfl, rfl⟩ := h
    exact ⟨_, _, fun w he => day_ok n hn w he, fun w => rday_ok n hn w⟩
  · exact ⟨_, _, fun w he => day_bad y m d h w he, fun w => rday_bad y m d h w⟩
theorem same_week (a : Int) : ∃ n e : Int, Same 13 14 #[.int .i64 a] (.tuple #[.int .i64 n, .int .i64 e]) := by
  rcases day_cases a with ⟨d, rfl, hd⟩ | h
  · exact ⟨_, _, fun w _ => week_ok d hd w, fun w => rweek_ok d hd w⟩
  · exact ⟨_, _, fun w _ => week_bad a h w, fun w => rweek_bad a h w⟩
theorem same_add (a m : Int) : ∃ n e : Int, Same 15 16 #[.int .i64 a, .int .i64 m] (.tuple #[.int .i64 n, .int .i64 e]) := by
  rcases day_cases a with ⟨d, rfl, hd⟩ | h
  · by_cases ht : (mo d : Int) + m < 0 ∨ 3288 ≤ (mo d : Int) + m
    · exact ⟨_, _, fun w he => add_out d hd m ht w he, fun w => radd_out d hd m ht w⟩
    · obtain ⟨t, ht2⟩ : ∃ t : Nat, (mo d : Int) + m = t := ⟨((mo d : Int) + m).toNat, by omega⟩
      obtain ⟨va, vb, hv⟩ : ∃ va vb, addV (addN d t) = .tuple #[.int .i64 va, .int .i64 vb] := by
        unfold addV; split
        · exact ⟨_, _, rfl⟩
        · exact ⟨_, _, rfl⟩
      refine ⟨va, vb, fun w he => ?_, fun w => ?_⟩
      · rw [← hv]; exact add_in d hd m t ht2 (by omega) w he
      · rw [← hv]; exact radd_in d hd m t ht2 (by omega) w
  · exact ⟨_, _, fun w _ => add_bad a h m w, fun w => radd_bad a h m w⟩
theorem same_month (a : Int) : ∃ n l e : Int, Same 17 18 #[.int .i64 a] (.tuple #[.int .i64 n, .int .i64 l, .int .i64 e]) := by
  rcases day_cases a with ⟨d, rfl, hd⟩ | h
  · exact ⟨_, _, _, fun w he => month_ok d hd w he, fun w => rmonth_ok d hd w⟩
  · exact ⟨_, _, _, fun w _ => month_bad a h w, fun w => rmonth_bad a h w⟩
end Go.Proofs.YtdhpdkfohbafgaaDoor.Ca
