/- The contracts of the reference of the calendar: the day with a date, sums, months. -/
import Derived.Test.YtdhpdkfohbafgaaDoorCa5
set_option maxRecDepth 100000
namespace Go.Proofs.YtdhpdkfohbafgaaDoor.Ca
open Go.RowKit Go.Shelf Go.Lib Go.Sort

theorem st_year (q : Nat) : st (12 * (q + 1)) = st (12 * q) + 365 + (if leapB (2000 + q) then 1 else 0) := by
  have h1 := lp_ge (y := 1999 + q) (by omega)
  have h2 := lp_succ (1999 + q)
  rw [show 1999 + q + 1 = 2000 + q by omega] at h2
  have h3 := st_at q 0 (by omega)
  have h4 := st_at (q + 1) 0 (by omega)
  rw [if_pos (by omega)] at h3 h4
  rw [show 1999 + (q + 1) = 2000 + q by omega] at h4
  simp only [Nat.add_zero] at h3 h4
  have h5 : db 0 = 0 := rfl
  omega

set_option maxHeartbeats 4000000 in
theorem rday_in (q r c : Nat) (hq : q ≤ 300) (hr : r < 12) (h1 : 1 ≤ c) (h2 : c ≤ len (12 * q + r)) (w : World) :
    Calls Tryd.prog 12 #[.int .i64 (2000 + q : Nat), .int .i64 (r + 1 : Nat), .int .i64 (c : Nat)] w fun e w' => e = .returned (addV (st (12 * q + r) + c - 1)) ∧ w' = w := by
  have HL : Hid (∀ j, j < 12 → ∀ w, Calls Tryd.prog 24 #[.int .i64 (2000 + q : Nat), .int .i64 (j + 1 : Nat)] w fun e w' => e = .returned (.int .i64 (len (12 * q + j) : Nat)) ∧ w' = w) := fun j hj w => by
    rw [len_at q j hj]; exact rlength_any _ _ w
  have HLR := Lib.hid (HL.out r hr)
  have hll := len_le (12 * q + r)
  have hq0 := st_le (12 * q)
  have hqr := st_le (12 * q + r)
  have HST : Hid (∀ j, st (12 * q + (j + 1)) = st (12 * q + j) + len (12 * q + j) ∧ len (12 * q + j) ≤ 31) := fun j => ⟨st_succ _, len_le _⟩
  have HMON : Hid (∀ i, i ≤ q → st (12 * i) ≤ st (12 * q)) := fun i hi => st_mono (by omega)
  have hfin : ∀ n, n = st (12 * q + r) + c - 1 → addV n = addV (st (12 * q + r) + c - 1) := fun n h => by rw [h]
  have HFIN := Lib.hid hfin
  have e0 : st (12 * q + 0) = st (12 * q) := rfl
  have E0 := Lib.hid e0
  obtain ⟨Y, hY⟩ : ∃ z, 2000 + q = z := ⟨_, rfl⟩
  obtain ⟨R, hR⟩ : ∃ z, r + 1 = z := ⟨_, rfl⟩
  obtain ⟨L, hL⟩ : ∃ z, len (12 * q + r) = z := ⟨_, rfl⟩
  obtain ⟨S0, hS0⟩ : ∃ z, st (12 * q) = z := ⟨_, rfl⟩
  obtain ⟨S1, hS1⟩ : ∃ z, st (12 * q + r) = z := ⟨_, rfl⟩
  rw [hS1] at hqr HFIN ⊢
  rw [hS0] at HMON hq0 E0
  rw [hL] at h2 HLR hll
  rw [hY] at HL HLR ⊢
  rw [hR] at HLR ⊢
  have g1 : decide (Y < 2000) = false := by simp; omega
  have g2 : decide (2300 < Y) = false := by simp; omega
  have g3 : decide (R < 1) = false := by simp; omega
  have g4 : decide (12 < R) = false := by simp; omega
  have g5 : decide (c < 1) = false := by simp; omega
  have g1' : decide ((Y : Int) < 2000) = false := by simp; omega
  have g2' : decide (2300 < (Y : Int)) = false := by simp; omega
  have g3' : decide ((R : Int) < 1) = false := by simp; omega
  have g4' : decide (12 < (R : Int)) = false := by simp; omega
  have g5' : decide ((c : Int) < 1) = false := by simp; omega
  have g6 : decide (L < c) = false := by simp; omega
  have bc : c ≤ 31 := by omega
  have bY : Y ≤ 2300 := by omega
  have bR : R ≤ 12 := by omega
  have b0 : S0 ≤ 111600 := by omega
  have b1 : S1 ≤ 112000 := by omega
  have hS1' := Lib.hid hS1
  have hyq := Lib.hid hY
  have hrr := Lib.hid hR
  have HQ : Hid (q ≤ 300 ∧ r < 12) := Lib.hid ⟨hq, hr⟩
  clear hfin e0 hY hL hS0 hS1 h2 hR hq hr hq0 hqr hll
  go_enter Tryd.func12, Tryd.ntmps12
  go_wp2_with fail
  refine (HLR.out _).mono ?_
  rintro e w0 ⟨rfl, rfl⟩
  go_wp2_with fail
  go_loop [8, 9] (fun a b => ∃ j n : Nat, j ≤ r ∧ a = .int .i64 (n : Nat) ∧ b = .int .i64 (j + 1 : Nat) ∧ n + 1 + S0 = c + st (12 * q + j)) (fun _ b => 13 - (intOf b).toNat)
  case atStart => exact ⟨0, c - 1, by omega, by congr 1; omega, rfl, by rw [E0.out]; omega⟩
  case round =>
    obtain ⟨j, n, hj, rfl, rfl, hn⟩ := hrel
    have hr := HQ.out.2
    by_cases hlt : j < r
    · have HLJ := Lib.hid (HL.out j (by omega))
      have hst := HST.out j
      obtain ⟨LJ, hLJ⟩ : ∃ z, len (12 * q + j) = z := ⟨_, rfl⟩
      obtain ⟨SJ, hSJ⟩ : ∃ z, st (12 * q + j) = z := ⟨_, rfl⟩
      rw [hLJ, hSJ] at hst
      rw [hLJ] at HLJ
      rw [hSJ] at hn
      have bs : SJ ≤ 200000 := by have := st_le (12 * q + j); have := HQ.out.1; omega
      obtain ⟨J, hJ⟩ : ∃ z, j + 1 = z := ⟨_, rfl⟩
      have HN : Hid (J ≤ r ∧ n + LJ + 1 + S0 = c + st (12 * q + J)) := Lib.hid ⟨by omega, by rw [← hJ, hst.1]; omega⟩
      rw [hJ] at HLJ ⊢
      have gl : decide (J < R) = true := by have := hrr.out; simp; omega
      have bn : n ≤ 300000 := by omega
      have bj : J ≤ 12 := by omega
      have bl : LJ ≤ 31 := hst.2
      have HMS : Hid (13 - (J + 1) < 13 - J) := Lib.hid (by omega)
      clear hn hst hLJ hSJ hlt hj hJ bs hr
      go_wp2_with fail
      refine (HLJ.out _).mono ?_
      rintro e w1 ⟨rfl, rfl⟩
      go_wp2_with fail
      go_round
      case rel => exact ⟨J, n + LJ, HN.out.1, (by first | rfl | (congr 1; omega)), (by first | rfl | (congr 1; omega)), HN.out.2⟩
      case measure => have := HMS.out; simp [intOf]; omega
    · obtain rfl : j = r := by omega
      have gl : decide (j + 1 < R) = false := by have := hrr.out; simp; omega
      rw [hS1'.out] at hn
      have HN0 := Lib.hid hn
      have bn : n ≤ 300000 := by omega
      clear hn hlt hj hr
      obtain ⟨J, hJ⟩ : ∃ z, j + 1 = z := ⟨_, rfl⟩
      rw [hJ] at gl ⊢
      clear hJ
      go_wp2_with fail
      go_loop [8, 10] (fun a b => ∃ i N : Nat, i ≤ q ∧ a = .int .i64 (N : Nat) ∧ b = .int .i64 (2000 + i : Nat) ∧ N + 1 + S0 = c + S1 + st (12 * i)) (fun _ b => 2301 - (intOf b).toNat)
      case atStart => exact ⟨0, n, by omega, rfl, rfl, by have := HN0.out; rw [show st (12 * 0) = 0 from st_0]; omega⟩
      case round =>
        obtain ⟨i, N, hi, rfl, rfl, hN⟩ := hrel
        by_cases hlt : i < q
        · have HLE := Lib.hid (rleap_any (2000 + i))
          have hst := st_year i
          have hmo := HMON.out i (by omega)
          obtain ⟨SI, hSI⟩ : ∃ z, st (12 * i) = z := ⟨_, rfl⟩
          rw [hSI] at hst hN hmo
          obtain ⟨Yi, hYi⟩ : ∃ z, 2000 + i = z := ⟨_, rfl⟩
          rw [hYi] at hst HLE ⊢
          have gl : decide (Yi < Y) = true := by have := hyq.out; simp; omega
          have bN : N ≤ 400000 := by omega
          have bi : Yi ≤ 2300 := by have := HQ.out.1; omega
          have HYI : Hid (2000 + (i + 1) = Yi + 1 ∧ i + 1 ≤ q) := Lib.hid (by omega)
          have HMS : Hid (2301 - (Yi + 1) < 2301 - Yi) := Lib.hid (by omega)
          rcases hl : leapB Yi with _ | _
          · rw [hl] at HLE hst
            have HN : Hid (N + 365 + 1 + S0 = c + S1 + st (12 * (i + 1))) := Lib.hid (by rw [hst]; simp; omega)
            clear hst hN hlt hi hSI hYi hl hmo
            go_wp2_with fail
            refine (HLE.out _).mono ?_
            rintro e w1 ⟨rfl, rfl⟩
            go_wp2_with fail
            go_round
            case rel => exact ⟨i + 1, N + 365, HYI.out.2, (by first | rfl | (congr 1; omega)), (by rw [HYI.out.1]; first | rfl | (congr 1; omega)), HN.out⟩
            case measure => have := HMS.out; simp [intOf]; omega
          · rw [hl] at HLE hst
            have HN : Hid (N + 365 + 1 + 1 + S0 = c + S1 + st (12 * (i + 1))) := Lib.hid (by rw [hst]; simp; omega)
            clear hst hN hlt hi hSI hYi hl hmo
            go_wp2_with fail
            refine (HLE.out _).mono ?_
            rintro e w1 ⟨rfl, rfl⟩
            go_wp2_with fail
            go_round
            case rel => exact ⟨i + 1, N + 365 + 1, HYI.out.2, (by first | rfl | (congr 1; omega)), (by rw [HYI.out.1]; first | rfl | (congr 1; omega)), HN.out⟩
            case measure => have := HMS.out; simp [intOf]; omega
        · obtain rfl : i = q := by omega
          have gl : decide (2000 + i < Y) = false := by have := hyq.out; simp; omega
          rw [show st (12 * i) = S0 from by have := HMON.out i (Nat.le_refl _); exact E0.out] at hN
          have eN : N = S1 + c - 1 := by omega
          have EN := Lib.hid (HFIN.out N eN)
          clear hN hlt hi eN
          obtain ⟨Yi, hYi⟩ : ∃ z, 2000 + i = z := ⟨_, rfl⟩
          rw [hYi] at gl ⊢
          clear hYi
          by_cases hv : N ≤ 100000
          · have HV := Lib.hid (valid_yes N hv)
            have HA : Hid (addV (S1 + c - 1) = .tuple #[.int .i64 (N : Nat), .int .i64 0]) := Lib.hid (by rw [← EN.out]; unfold addV; rw [if_pos hv])
            clear hv
            go_wp2_with fail
            refine (HV.out _).mono ?_
            rintro e w1 ⟨rfl, rfl⟩
            go_wp2_with fail
            go_ret2
            exact ⟨by rw [HA.out]; rfl, rfl⟩
          · have HV := Lib.hid (valid_no (N : Int) (by omega))
            have HA : Hid (addV (S1 + c - 1) = .tuple #[.int .i64 0, .int .i64 3]) := Lib.hid (by rw [← EN.out]; unfold addV; rw [if_neg hv])
            clear hv
            go_wp2_with fail
            refine (HV.out _).mono ?_
            rintro e w1 ⟨rfl, rfl⟩
            go_wp2_with fail
            go_ret2
            exact ⟨by rw [HA.out]; rfl, rfl⟩
end Go.Proofs.YtdhpdkfohbafgaaDoor.Ca
