/- The contracts of the reference of the calendar. -/
import Derived.Test.YtdhpdkfohbafgaaDoorCa4
set_option maxRecDepth 100000
namespace Go.Proofs.YtdhpdkfohbafgaaDoor.Ca
open Go.RowKit Go.Shelf Go.Lib Go.Sort

theorem valid_yes (d : Nat) (hd : d ≤ 100000) (w : World) : Calls Tryd.prog 23 #[.int .i64 (d : Nat)] w fun e w' => e = .returned (.bool true) ∧ w' = w := by
  have h1 : decide (0 ≤ (d : Int)) = true := by simp
  have h2 : decide ((d : Int) ≤ 100000) = true := by simp; omega
  go_enter Tryd.func23, Tryd.ntmps23
  go_wp2_with fail
  go_ret
  exact ⟨rfl, rfl⟩
theorem valid_no (a : Int) (ha : a < 0 ∨ 100000 < a) (w : World) : Calls Tryd.prog 23 #[.int .i64 a] w fun e w' => e = .returned (.bool false) ∧ w' = w := by
  by_cases h : a < 0
  · have h1 : decide (0 ≤ a) = false := by simp; omega
    clear ha
    go_enter Tryd.func23, Tryd.ntmps23
    go_wp2_with fail
    go_ret
    exact ⟨rfl, rfl⟩
  · have h1 : decide (0 ≤ a) = true := by simp; omega
    have h2 : decide (a ≤ 100000) = false := by simp; omega
    clear ha
    go_enter Tryd.func23, Tryd.ntmps23
    go_wp2_with fail
    go_ret
    exact ⟨rfl, rfl⟩

set_option maxHeartbeats 1000000 in
theorem rleap_any (y : Nat) (w : World) : Calls Tryd.prog 27 #[.int .i64 (y : Nat)] w fun e w' => e = .returned (.bool (leapB y)) ∧ w' = w := by
  have h1 : Int.tmod (y : Int) 4 = ((y % 4 : Nat) : Int) := rem_nat y 4
  have h2 : Int.tmod (y : Int) 100 = ((y % 100 : Nat) : Int) := rem_nat y 100
  have h3 : Int.tmod (y : Int) 400 = ((y % 400 : Nat) : Int) := rem_nat y 400
  have HE : Hid (leapB y = (y % 4 == 0 && (y % 100 != 0 || y % 400 == 0))) := Lib.hid rfl
  obtain ⟨a, ha⟩ : ∃ a, y % 4 = a := ⟨_, rfl⟩
  obtain ⟨b, hb⟩ : ∃ a, y % 100 = a := ⟨_, rfl⟩
  obtain ⟨c, hc⟩ : ∃ a, y % 400 = a := ⟨_, rfl⟩
  rw [ha] at h1 HE; rw [hb] at h2 HE; rw [hc] at h3 HE
  rw [HE.out]
  clear HE
  have la : a < 4 := by omega
  have lb : b < 100 := by omega
  have lc : c < 400 := by omega
  clear ha hb hc
  have wa : IntKind.i64.wrap (a : Int) = (a : Int) := IntWalk.i64_in _ (by omega)
  have wb : IntKind.i64.wrap (b : Int) = (b : Int) := IntWalk.i64_in _ (by omega)
  have wc : IntKind.i64.wrap (c : Int) = (c : Int) := IntWalk.i64_in _ (by omega)
  by_cases h4 : a = 0
  · subst h4
    by_cases h5 : b = 0
    · subst h5
      by_cases h6 : c = 0
      · subst h6
        go_enter Tryd.func27, Tryd.ntmps27
        go_wp2_with fail
        go_ret
        exact ⟨rfl, rfl⟩
      · have g : ((c : Int) == 0) = false := by rw [beq_eq_false_iff_ne]; omega
        rw [show ((0 : Nat) == 0 && ((0 : Nat) != 0 || c == 0)) = false by simp; exact h6]
        go_enter Tryd.func27, Tryd.ntmps27
        go_wp2_with fail
        go_ret
        exact ⟨rfl, rfl⟩
    · have g : ((b : Int) != 0) = true := by simp; omega
      rw [show ((0 : Nat) == 0 && (b != 0 || c == 0)) = true by simp; exact .inl h5]
      go_enter Tryd.func27, Tryd.ntmps27
      go_wp2_with fail
      go_ret
      exact ⟨rfl, rfl⟩
  · have g : ((a : Int) == 0) = false := by rw [beq_eq_false_iff_ne]; omega
    rw [show (a == 0 && (b != 0 || c == 0)) = false by simp; intro hh; exact absurd hh h4]
    go_enter Tryd.func27, Tryd.ntmps27
    go_wp2_with fail
    go_ret
    exact ⟨rfl, rfl⟩

set_option maxHeartbeats 1000000 in
theorem rlength_any (y m : Nat) (w : World) : Calls Tryd.prog 24 #[.int .i64 (y : Nat), .int .i64 (m : Nat)] w fun e w' => e = .returned (.int .i64 (lenY y m : Nat)) ∧ w' = w := by
  have HL := Lib.hid (rleap_any y)
  by_cases h2 : m = 2
  · subst h2
    rcases hl : leapB y with _ | _
    all_goals
      rw [hl] at HL
      have HE : Hid (lenY y 2 = if leapB y then 29 else 28) := Lib.hid rfl
      rw [hl] at HE
      clear hl
      go_enter Tryd.func24, Tryd.ntmps24
      go_wp2_with fail
      refine (HL.out _).mono ?_
      rintro e w1 ⟨rfl, rfl⟩
      go_wp2_with fail
      go_ret
      exact ⟨by rw [HE.out]; rfl, rfl⟩
  have g2 : ((m : Int) == 2) = false := by rw [beq_eq_false_iff_ne]; omega
  by_cases h4 : m = 4
  · subst h4
    go_enter Tryd.func24, Tryd.ntmps24
    go_wp2_with fail
    go_ret
    exact ⟨rfl, rfl⟩
  have g4 : ((m : Int) == 4) = false := by rw [beq_eq_false_iff_ne]; omega
  by_cases h6 : m = 6
  · subst h6
    go_enter Tryd.func24, Tryd.ntmps24
    go_wp2_with fail
    go_ret
    exact ⟨rfl, rfl⟩
  have g6 : ((m : Int) == 6) = false := by rw [beq_eq_false_iff_ne]; omega
  by_cases h9 : m = 9
  · subst h9
    go_enter Tryd.func24, Tryd.ntmps24
    go_wp2_with fail
    go_ret
    exact ⟨rfl, rfl⟩
  have g9 : ((m : Int) == 9) = false := by rw [beq_eq_false_iff_ne]; omega
  by_cases h11 : m = 11
  · subst h11
    go_enter Tryd.func24, Tryd.ntmps24
    go_wp2_with fail
    go_ret
    exact ⟨rfl, rfl⟩
  have g11 : ((m : Int) == 11) = false := by rw [beq_eq_false_iff_ne]; omega
  have HE : Hid (lenY y m = 31) := Lib.hid (by unfold lenY; rw [if_neg h2, if_neg (by omega)])
  clear h2 h4 h6 h9 h11
  go_enter Tryd.func24, Tryd.ntmps24
  go_wp2_with fail
  go_ret
  exact ⟨by rw [HE.out]; rfl, rfl⟩

set_option maxHeartbeats 2000000 in
theorem rdate_ok (d : Nat) (hd : d ≤ 100000) (w : World) : Calls Tryd.prog 10 #[.int .i64 (d : Nat)] w
    fun e w' => e = .returned (.tuple #[.int .i64 (yr d : Nat), .int .i64 (mn d : Nat), .int .i64 (dm d : Nat), .int .i64 0]) ∧ w' = w := by
  have HY := Lib.hid (valid_yes d hd)
  have HV : Hid (∀ k, st k ≤ d → d < st (k + 1) → k ≤ 3288 → yr d = 2000 + k / 12 ∧ mn d = k % 12 + 1 ∧ dm d = d - st k + 1) := Lib.hid (fun k h1 h2 h3 => by
    unfold yr mn dm; rw [mo_eq h3 h1 h2]; exact ⟨rfl, rfl, rfl⟩)
  have HK : Hid (∀ k, st k ≤ d → k ≤ 3285) := Lib.hid (fun k h => by
    rcases Nat.lt_or_ge 3285 k with h1 | h1
    · have := st_mono (show 3286 ≤ k by omega); rw [st_last] at this; omega
    · exact h1)
  obtain ⟨y, hy⟩ : ∃ y, yr d = y := ⟨_, rfl⟩
  obtain ⟨m, hm⟩ : ∃ y, mn d = y := ⟨_, rfl⟩
  obtain ⟨c, hc⟩ : ∃ y, dm d = y := ⟨_, rfl⟩
  rw [hy, hm, hc] at HV ⊢
  clear hy hm hc
  go_enter Tryd.func10, Tryd.ntmps10
  go_wp2_with fail
  refine (HY.out _).mono ?_
  rintro e w0 ⟨rfl, rfl⟩
  go_wp2_with fail
  go_loopw [0, 6, 7] (fun a b c W => ∃ k : Nat, st k ≤ d ∧ a = .int .i64 (d - st k : Nat) ∧ b = .int .i64 (2000 + k / 12 : Nat) ∧ c = .int .i64 (k % 12 + 1 : Nat) ∧ W = w0) (fun a _ _ _ => (intOf a).toNat)
  case atStart => exact ⟨0, by rw [st_0]; omega, by rw [st_0]; rfl, rfl, rfl, rfl⟩
  case round =>
    obtain ⟨k, h1, rfl, rfl, rfl, rfl⟩ := hrel
    have h2 := HK.out k h1
    have HL : Hid (∀ w, Calls Tryd.prog 24 #[.int .i64 (2000 + k / 12 : Nat), .int .i64 (k % 12 + 1 : Nat)] w fun e w' => e = .returned (.int .i64 (len k : Nat)) ∧ w' = w) := rlength_any _ _
    have h3 := st_succ k
    have h4 := len_ge k
    have h5 := len_le k
    obtain ⟨A, hA⟩ : ∃ z, d - st k = z := ⟨_, rfl⟩
    obtain ⟨L, hL⟩ : ∃ z, len k = z := ⟨_, rfl⟩
    obtain ⟨Y, hY⟩ : ∃ z, 2000 + k / 12 = z := ⟨_, rfl⟩
    obtain ⟨R, hR⟩ : ∃ z, k % 12 + 1 = z := ⟨_, rfl⟩
    rw [hL] at HL h3 h4 h5
    rw [hA]
    rw [hY, hR] at HL ⊢
    by_cases hlt : A < L
    · have HV2 := Lib.hid (HV.out k h1 (by omega) (by omega))
      rw [hA, hY, hR] at HV2
      have g : decide (L ≤ A) = false := by simp; omega
      have bA : A ≤ 100000 := by omega
      clear h3 h4 h5 h2 h1 hlt hA hL hY hR HV HK
      go_wp2_with fail
      refine (HL.out _).mono ?_
      rintro e w1 ⟨rfl, rfl⟩
      go_wp2_with fail
      (try simp only [Exit.inBlock, Exit.then])
      refine bodyPost_ret (results_tmp4 rfl _ _ _) rfl ?_
      exact ⟨by rw [HV2.out.1, HV2.out.2.1, HV2.out.2.2]; rfl, rfl⟩
    · have g : decide (L ≤ A) = true := by simp; omega
      have HN : Hid (st (k + 1) ≤ d ∧ ((d - st (k + 1) : Nat) : Int) = (A : Int) - (L : Int)) := Lib.hid (by omega)
      have HM : Hid ((A : Int) - (L : Int) < A ∧ 0 ≤ (A : Int) - (L : Int)) := Lib.hid (by omega)
      have bA : A ≤ 100000 := by omega
      have bY : Y ≤ 3000 := by omega
      have bR : R ≤ 12 := by omega
      by_cases h12 : R = 12
      · have HN2 : Hid (2000 + (k + 1) / 12 = Y + 1 ∧ (k + 1) % 12 + 1 = 1) := Lib.hid (by omega)
        have g2 : decide (12 < (R : Int) + 1) = true := by simp; omega
        clear h3 h2 h1 hlt hA hL hY hR HV HK h12
        go_wp2_with fail
        refine (HL.out _).mono ?_
        rintro e w1 ⟨rfl, rfl⟩
        go_wp2_with fail
        refine (HL.out _).mono ?_
        rintro e w1 ⟨rfl, rfl⟩
        go_wp2_with fail
        go_roundw
        case rel => exact ⟨k + 1, HN.out.1, (by rw [HN.out.2]), (by first | (rw [HN2.out.1]; done) | (rw [HN2.out.1]; rfl)), (by first | (rw [HN2.out.2]; done) | (rw [HN2.out.2]; rfl)), trivial⟩
        case measure => have := HM.out; simp [intOf]; omega
      · have HN2 : Hid (2000 + (k + 1) / 12 = Y ∧ (k + 1) % 12 + 1 = R + 1) := Lib.hid (by omega)
        have g2 : decide (12 < (R : Int) + 1) = false := by simp; omega
        clear h3 h2 h1 hlt hA hL hY hR HV HK h12
        go_wp2_with fail
        refine (HL.out _).mono ?_
        rintro e w1 ⟨rfl, rfl⟩
        go_wp2_with fail
        refine (HL.out _).mono ?_
        rintro e w1 ⟨rfl, rfl⟩
        go_wp2_with fail
        go_roundw
        case rel => exact ⟨k + 1, HN.out.1, (by rw [HN.out.2]), (by first | (rw [HN2.out.1]; done) | (rw [HN2.out.1]; rfl)), (by first | (rw [HN2.out.2]; done) | (rw [HN2.out.2]; rfl)), trivial⟩
        case measure => have := HM.out; simp [intOf]; omega
theorem rdate_bad (a : Int) (ha : a < 0 ∨ 100000 < a) (w : World) : Calls Tryd.prog 10 #[.int .i64 a] w
    fun e w' => e = .returned (.tuple #[.int .i64 0, .int .i64 0, .int .i64 0, .int .i64 3]) ∧ w' = w := by
  have HY := Lib.hid (valid_no a ha)
  clear ha
  go_enter Tryd.func10, Tryd.ntmps10
  go_wp2_with fail
  refine (HY.out _).mono ?_
  rintro e w1 ⟨rfl, rfl⟩
  go_wp2_with fail
  (try simp only [Exit.inBlock, Exit.then])
  refine bodyPost_ret (results_tmp4 rfl _ _ _) rfl ?_
  exact ⟨rfl, rfl⟩
end Go.Proofs.YtdhpdkfohbafgaaDoor.Ca
