/- The contracts of the reference of the calendar: sums, weekdays, months; and the same results of both. -/
import Derived.Test.YtdhpdkfohbafgaaDoorCa6
set_option maxRecDepth 100000
namespace Go.Proofs.YtdhpdkfohbafgaaDoor.Ca
open Go.RowKit Go.Shelf Go.Lib Go.Sort

def badD : Value := .tuple #[.int .i64 0, .int .i64 3]
set_option maxHeartbeats 1000000 in
theorem rday_out (y m d : Int) (h : y < 2000 ∨ 2300 < y ∨ m < 1 ∨ 12 < m ∨ d < 1) (w : World) : Calls Tryd.prog 12 #[.int .i64 y, .int .i64 m, .int .i64 d] w
    fun e w' => e = .returned badD ∧ w' = w := by
  have H := Lib.hid h
  clear h
  by_cases h1 : y < 2000
  · have g1 : decide (y < 2000) = true := by simp; omega
    go_enter Tryd.func12, Tryd.ntmps12
    go_wp2_with fail
    go_ret2
    exact ⟨rfl, rfl⟩
  have g1 : decide (y < 2000) = false := by simp; omega
  by_cases h2 : 2300 < y
  · have g2 : decide (2300 < y) = true := by simp; omega
    go_enter Tryd.func12, Tryd.ntmps12
    go_wp2_with fail
    go_ret2
    exact ⟨rfl, rfl⟩
  have g2 : decide (2300 < y) = false := by simp; omega
  by_cases h3 : m < 1
  · have g3 : decide (m < 1) = true := by simp; omega
    go_enter Tryd.func12, Tryd.ntmps12
    go_wp2_with fail
    go_ret2
    exact ⟨rfl, rfl⟩
  have g3 : decide (m < 1) = false := by simp; omega
  by_cases h4 : 12 < m
  · have g4 : decide (12 < m) = true := by simp; omega
    go_enter Tryd.func12, Tryd.ntmps12
    go_wp2_with fail
    go_ret2
    exact ⟨rfl, rfl⟩
  have g4 : decide (12 < m) = false := by simp; omega
  have h5 : d < 1 := by have := H.out; omega
  have g5 : decide (d < 1) = true := by simp; omega
  go_enter Tryd.func12, Tryd.ntmps12
  go_wp2_with fail
  go_ret2
  exact ⟨rfl, rfl⟩
set_option maxHeartbeats 1000000 in
theorem rday_long (q r c : Nat) (hq : q ≤ 300) (hr : r < 12) (h2 : len (12 * q + r) < c) (w : World) :
    Calls Tryd.prog 12 #[.int .i64 (2000 + q : Nat), .int .i64 (r + 1 : Nat), .int .i64 (c : Nat)] w fun e w' => e = .returned badD ∧ w' = w := by
  have HLR : Hid (∀ w, Calls Tryd.prog 24 #[.int .i64 (2000 + q : Nat), .int .i64 (r + 1 : Nat)] w fun e w' => e = .returned (.int .i64 (len (12 * q + r) : Nat)) ∧ w' = w) := fun w => by
    rw [len_at q r hr]; exact rlength_any _ _ w
  have hlg := len_ge (12 * q + r)
  obtain ⟨Y, hY⟩ : ∃ z, 2000 + q = z := ⟨_, rfl⟩
  obtain ⟨R, hR⟩ : ∃ z, r + 1 = z := ⟨_, rfl⟩
  obtain ⟨L, hL⟩ : ∃ z, len (12 * q + r) = z := ⟨_, rfl⟩
  rw [hL] at h2 HLR hlg
  rw [hY] at HLR ⊢
  rw [hR] at HLR ⊢
  have g1' : decide ((Y : Int) < 2000) = false := by simp; omega
  have g2' : decide (2300 < (Y : Int)) = false := by simp; omega
  have g3' : decide ((R : Int) < 1) = false := by simp; omega
  have g4' : decide (12 < (R : Int)) = false := by simp; omega
  have g5' : decide ((c : Int) < 1) = false := by simp; omega
  have g6 : decide (L < c) = true := by simp; omega
  clear hY hL hR h2 hq hr hlg
  go_enter Tryd.func12, Tryd.ntmps12
  go_wp2_with fail
  refine (HLR.out _).mono ?_
  rintro e w0 ⟨rfl, rfl⟩
  go_wp2_with fail
  go_ret2
  exact ⟨rfl, rfl⟩
theorem st_3288 : 100000 < st 3288 := by decide
theorem addV_far (n : Nat) (h : 100000 < n) : addV n = badD := by unfold addV badD; rw [if_neg (by omega)]
theorem addV_near (n : Nat) (h : n ≤ 100000) : addV n = .tuple #[.int .i64 (n : Nat), .int .i64 0] := by unfold addV; rw [if_pos h]
theorem rday_ok (n : Nat) (hn : n ≤ 100000) (w : World) : Calls Tryd.prog 12 #[.int .i64 (yr n : Nat), .int .i64 (mn n : Nat), .int .i64 (dm n : Nat)] w
    fun e w' => e = .returned (.tuple #[.int .i64 (n : Nat), .int .i64 0]) ∧ w' = w := by
  obtain ⟨h6, h7, h8⟩ := dm_spec hn
  have h9 := (mo_spec hn).1
  have e1 : 12 * (mo n / 12) + mo n % 12 = mo n := by omega
  have := rday_in (mo n / 12) (mo n % 12) (dm n) (by omega) (by omega) h6 (by rw [e1]; exact h7) w
  rw [e1, h8, addV_near n hn] at this
  exact this
theorem rday_bad (y m d : Int) (h : ¬ IsDate y m d) (w : World) : Calls Tryd.prog 12 #[.int .i64 y, .int .i64 m, .int .i64 d] w
    fun e w' => e = .returned badD ∧ w' = w := by
  by_cases h1 : y < 2000 ∨ 2300 < y ∨ m < 1 ∨ 12 < m ∨ d < 1
  · exact rday_out y m d h1 w
  · obtain ⟨q, hq⟩ : ∃ q : Nat, y = ((2000 + q : Nat) : Int) := ⟨(y - 2000).toNat, by omega⟩
    obtain ⟨r, hr⟩ : ∃ r : Nat, m = ((r + 1 : Nat) : Int) := ⟨(m - 1).toNat, by omega⟩
    obtain ⟨c, hc⟩ : ∃ c : Nat, d = c := ⟨d.toNat, by omega⟩
    subst hq hr hc
    by_cases h2 : len (12 * q + r) < c
    · exact rday_long q r c (by omega) (by omega) h2 w
    · have hin := rday_in q r c (by omega) (by omega) (by omega) (by omega) w
      rw [addV_far] at hin
      · exact hin
      · rcases Nat.lt_or_ge (st (12 * q + r) + c - 1) 100001 with h3 | h3
        · exfalso
          have h4 : 12 * q + r < 3288 := by
            rcases Nat.lt_or_ge (12 * q + r) 3288 with h5 | h5
            · exact h5
            · have := st_mono h5; have := st_3288; omega
          exact h (isDate_of _ _ _ (by omega) (by omega) (by omega) (by omega) (12 * q + r) c (by omega) rfl (by omega) (by omega) (by omega))
        · omega

set_option maxHeartbeats 4000000 in
theorem radd_core (d : Nat) (hd : d ≤ 100000) (m : Int) (hm1 : -5000 ≤ m) (hm2 : m ≤ 5000) (Z : Nat) (hZ : (Z : Int) = 24000 + mo d + m) (va vb : Int)
    (hday : ∀ w, Calls Tryd.prog 12 #[.int .i64 (Z / 12 : Nat), .int .i64 (Z % 12 + 1 : Nat), .int .i64 (min (dm d) (lenY (Z / 12) (Z % 12 + 1)) : Nat)] w fun e w' => e = .returned (.tuple #[.int .i64 va, .int .i64 vb]) ∧ w' = w) (w : World) :
    Calls Tryd.prog 16 #[.int .i64 (d : Nat), .int .i64 m] w fun e w' => e = .returned (.tuple #[.int .i64 va, .int .i64 vb]) ∧ w' = w := by
  have HD := Lib.hid (rdate_ok d hd)
  have HDAY := Lib.hid hday
  have HL := Lib.hid (rlength_any (Z / 12) (Z % 12 + 1))
  have hmo := (mo_spec hd).1
  have eY : yr d = (24000 + mo d) / 12 := by unfold yr; omega
  have eM : mn d = (24000 + mo d) % 12 + 1 := by unfold mn; omega
  rw [eY, eM] at HD
  obtain ⟨M, hM⟩ : ∃ z, mo d = z := ⟨_, rfl⟩
  obtain ⟨D, hD⟩ : ∃ z, dm d = z := ⟨_, rfl⟩
  obtain ⟨L, hL⟩ : ∃ z, lenY (Z / 12) (Z % 12 + 1) = z := ⟨_, rfl⟩
  rw [hM] at HD hZ hmo
  rw [hD] at HD HDAY
  rw [hL] at HL HDAY
  clear hday hM hD hL eY eM
  have g1 : decide (m < -5000) = false := by simp; omega
  have g2 : decide (5000 < m) = false := by simp; omega
  obtain ⟨P, hP⟩ : ∃ P : Nat, m.toNat = P := ⟨_, rfl⟩
  obtain ⟨Y0, hY0⟩ : ∃ z, (24000 + M) / 12 = z := ⟨_, rfl⟩
  obtain ⟨R0, hR0⟩ : ∃ z, (24000 + M) % 12 + 1 = z := ⟨_, rfl⟩
  rw [hY0, hR0] at HD
  have H0 := Lib.hid (show Y0 = (24000 + M) / 12 ∧ R0 = (24000 + M) % 12 + 1 from ⟨hY0.symm, hR0.symm⟩)
  clear hY0 hR0
  have HZ := Lib.hid (show (Z : Int) = 24000 + M + m ∧ m.toNat = P ∧ M ≤ 3285 from ⟨hZ, hP, hmo⟩)
  clear hZ hP hmo
  go_enter Tryd.func16, Tryd.ntmps16
  go_wp2_with fail
  refine (HD.out _).mono ?_
  rintro e w0 ⟨rfl, rfl⟩
  go_wp2_with fail
  go_loop [6, 7, 10] (fun a b c => ∃ i : Nat, i ≤ P ∧ a = .int .i64 ((24000 + M + i) / 12 : Nat) ∧ b = .int .i64 ((24000 + M + i) % 12 + 1 : Nat) ∧ c = .int .i64 (i : Nat)) (fun _ _ c => 5001 - (intOf c).toNat)
  case atStart => exact ⟨0, by omega, by rw [H0.out.1]; rfl, by rw [H0.out.2]; rfl, rfl⟩
  case round =>
    obtain ⟨i, hi, rfl, rfl, rfl⟩ := hrel
    have hz := HZ.out
    obtain ⟨Y, hY⟩ : ∃ z, (24000 + M + i) / 12 = z := ⟨_, rfl⟩
    obtain ⟨R, hR⟩ : ∃ z, (24000 + M + i) % 12 + 1 = z := ⟨_, rfl⟩
    rw [hY, hR]
    by_cases hlt : (i : Int) < m
    · have g3 : decide ((i : Int) < m) = true := by simp; omega
      have bY : Y ≤ 3000 := by omega
      have bR : R ≤ 12 := by omega
      have bi : i ≤ 5000 := by omega
      have HMS : Hid (5001 - (i + 1) < 5001 - i ∧ i + 1 ≤ P) := Lib.hid (by omega)
      by_cases h12 : R = 12
      · have HN : Hid ((24000 + M + (i + 1)) / 12 = Y + 1 ∧ (24000 + M + (i + 1)) % 12 + 1 = 1) := Lib.hid (by omega)
        have g4 : decide (12 < (R : Int) + 1) = true := by simp; omega
        clear hz hlt hi hY hR h12
        go_wp2_with fail
        go_round
        case rel => exact ⟨i + 1, HMS.out.2, (by rw [HN.out.1]; first | rfl | (congr 1; omega)), (by rw [HN.out.2]; first | rfl | (congr 1; omega)), (by first | rfl | (congr 1; omega))⟩
        case measure => have := HMS.out; simp [intOf]; omega
      · have HN : Hid ((24000 + M + (i + 1)) / 12 = Y ∧ (24000 + M + (i + 1)) % 12 + 1 = R + 1) := Lib.hid (by omega)
        have g4 : decide (12 < (R : Int) + 1) = false := by simp; omega
        clear hz hlt hi hY hR h12
        go_wp2_with fail
        go_round
        case rel => exact ⟨i + 1, HMS.out.2, (by rw [HN.out.1]), (by rw [HN.out.2]; first | rfl | (congr 1; omega)), (by first | rfl | (congr 1; omega))⟩
        case measure => have := HMS.out; simp [intOf]; omega
    · have g3 : decide ((i : Int) < m) = false := by simp; omega
      have HI : Hid (i = P) := Lib.hid (by omega)
      have HYR : Hid (Y = (24000 + M + P) / 12 ∧ R = (24000 + M + P) % 12 + 1) := Lib.hid (by omega)
      clear hz hlt hi hY hR
      go_wp2_with fail
      go_loop [6, 7, 11] (fun a b c => ∃ (i : Nat) (z : Int), z = -(i : Int) ∧ (i = 0 ∨ m ≤ z) ∧ a = .int .i64 ((24000 + M + P - i) / 12 : Nat) ∧ b = .int .i64 ((24000 + M + P - i) % 12 + 1 : Nat) ∧ c = .int .i64 z) (fun _ _ c => (5000 + intOf c).toNat)
      case atStart => exact ⟨0, 0, rfl, .inl rfl, by rw [HYR.out.1]; rfl, by rw [HYR.out.2]; rfl, rfl⟩
      case round =>
        obtain ⟨j, z, hj, hjm, rfl, rfl, rfl⟩ := hrel
        have hz := HZ.out
        obtain ⟨Y, hY⟩ : ∃ z, (24000 + M + P - j) / 12 = z := ⟨_, rfl⟩
        obtain ⟨R, hR⟩ : ∃ z, (24000 + M + P - j) % 12 + 1 = z := ⟨_, rfl⟩
        rw [hY, hR]
        by_cases hlt : m < z
        · have g5 : decide (m < z) = true := by simp; omega
          have bY : Y ≤ 3000 := by omega
          have bY1 : 1 ≤ Y := by omega
          have bR : R ≤ 12 := by omega
          have bz : z ≤ 0 := by omega
          have bz2 : -5000 < z := by omega
          have HMS : Hid (z - 1 = -((j + 1 : Nat) : Int) ∧ m ≤ z - 1) := Lib.hid (by omega)
          by_cases h12 : R = 1
          · have HN : Hid ((((24000 + M + P - (j + 1)) / 12 : Nat) : Int) = (Y : Int) - 1 ∧ (24000 + M + P - (j + 1)) % 12 + 1 = 12) := Lib.hid (by omega)
            have g4 : decide ((R : Int) - 1 < 1) = true := by simp; omega
            have br1 : 1 ≤ R := by omega
            clear hz hlt hj hjm hY hR h12
            go_wp2_with fail
            go_round
            case rel => exact ⟨j + 1, z - 1, HMS.out.1, .inr HMS.out.2, (by rw [HN.out.1]), (by rw [HN.out.2]; first | rfl | (congr 1; omega)), (by first | rfl | (congr 1; omega))⟩
            case measure => simp [intOf]; omega
          · have HN : Hid ((24000 + M + P - (j + 1)) / 12 = Y ∧ (((24000 + M + P - (j + 1)) % 12 + 1 : Nat) : Int) = (R : Int) - 1) := Lib.hid (by omega)
            have g4 : decide ((R : Int) - 1 < 1) = false := by simp; omega
            have br1 : 1 ≤ R := by omega
            clear hz hlt hj hjm hY hR h12
            go_wp2_with fail
            go_round
            case rel => exact ⟨j + 1, z - 1, HMS.out.1, .inr HMS.out.2, (by rw [HN.out.1]), (by rw [HN.out.2]), (by first | rfl | (congr 1; omega))⟩
            case measure => simp [intOf]; omega
        · have g5 : decide (m < z) = false := by simp; omega
          have eZ : 24000 + M + P - j = Z := by omega
          rw [eZ] at hY hR
          rw [hY, hR] at HL HDAY
          rw [show ((min D L : Nat) : Int) = min (D : Int) (L : Int) by omega] at HDAY
          clear hz hlt hj hjm hY hR eZ
          go_wp2_with fail
          refine (HL.out _).mono ?_
          rintro e w1 ⟨rfl, rfl⟩
          go_wp2_with fail
          refine (HDAY.out _).mono ?_
          rintro e w1 ⟨rfl, rfl⟩
          go_wp2_with fail
          go_ret2
          exact ⟨rfl, rfl⟩
end Go.Proofs.YtdhpdkfohbafgaaDoor.Ca
