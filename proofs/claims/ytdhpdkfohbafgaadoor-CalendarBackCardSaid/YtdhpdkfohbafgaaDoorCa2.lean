/- The contracts of the calendar's functions: the days ahead of a month, and a month's length. -/
import Derived.Lib.LaidTab
import Derived.Below
import Derived.Laws.Rows
import Derived.IntWalk
import Derived.OwnWalk
import Derived.Deep.Draws
import Derived.Deep.QuietTactic
import Derived.BigQuiet
import Derived.Deep.LoopGhost
import Derived.Test.YtdhpdkfohbafgaaDoorChecked
import Derived.Test.YtdhpdkfohbafgaaDoorCa1
set_option maxRecDepth 100000
namespace Go.Proofs.YtdhpdkfohbafgaaDoor.Ca
open Go.RowKit

/-- What a call returns, where nothing that was there is turned. -/
def Gives (v : Value) (w : World) (e : Ending) (w' : World) : Prop := e = .returned v ∧ RowKit.Below w.heap.size w w'
/-- What the calls read of the package-level variables. -/
def Env (w : World) : Prop := ∀ r, r < 12 → w.cell? ⟨0, r, none⟩ = some (.int .i64 (db r : Nat))
theorem lt_of_cell {w : World} {b o : Nat} {v : Value} (h : w.cell? ⟨b, o, none⟩ = some v) : b < w.heap.size := by
  rcases Nat.lt_or_ge b w.heap.size with h' | h'
  · exact h'
  · simp [World.cell?, Array.getElem?_eq_none h'] at h
theorem Env.below {w w' : World} (he : Env w) (h : RowKit.Below w.heap.size w w') : Env w' := fun r hr => by
  rw [h.cell (by simpa using lt_of_cell (he r hr))]; exact he r hr

theorem quo_nat (a b : Nat) : Int.tdiv (a : Int) (b : Int) = ((a / b : Nat) : Int) := by rw [Int.tdiv_eq_ediv_of_nonneg (by omega)]; rfl
theorem rem_nat (a b : Nat) : Int.tmod (a : Int) (b : Int) = ((a % b : Nat) : Int) := by rw [Int.tmod_eq_emod_of_nonneg (by omega)]; rfl
theorem i64_nat (z : Int) (n : Nat) (h : z = n) (hn : n ≤ 9223372036854775807) : IntKind.i64.wrap z = (n : Int) := by rw [h]; exact IntWalk.i64_in _ (by omega)

set_option maxHeartbeats 1000000 in
theorem leap_any (y : Nat) (hy : y ≤ 1000000) (w : World) : Calls Tryd.prog 30 #[.int .i64 (y : Nat)] w fun e w' => e = .returned (.int .i64 (lp y : Nat)) ∧ w' = w := by
  have h1 : Int.tdiv (y : Int) 4 = ((y / 4 : Nat) : Int) := quo_nat y 4
  have h2 : Int.tdiv (y : Int) 100 = ((y / 100 : Nat) : Int) := quo_nat y 100
  have h3 : Int.tdiv (y : Int) 400 = ((y / 400 : Nat) : Int) := quo_nat y 400
  obtain ⟨a, ha⟩ : ∃ a, y / 4 = a := ⟨_, rfl⟩
  obtain ⟨b, hb⟩ : ∃ a, y / 100 = a := ⟨_, rfl⟩
  obtain ⟨c, hc⟩ : ∃ a, y / 400 = a := ⟨_, rfl⟩
  rw [ha] at h1; rw [hb] at h2; rw [hc] at h3
  have ba : a ≤ 1000000 := by omega
  have bb : b ≤ 1000000 := by omega
  have bc : c ≤ 1000000 := by omega
  have HE : Hid ((lp y : Int) = (a : Int) - b + c) := Lib.hid (by unfold lp; omega)
  clear ha hb hc hy
  go_enter Tryd.func30, Tryd.ntmps30
  go_wp2_with fail
  go_ret
  exact ⟨by rw [HE.out]; rfl, rfl⟩

theorem db_at (r : Nat) (hr : r < 12) (W : World) : (Instr.indexAt 40 (.pointer (some ⟨0, 0, none⟩)) (.int .i64 (r : Int))).run Tryd.prog W = .ok (.pointer (some ⟨0, r, none⟩)) W := by
  have : r = 0 ∨ r = 1 ∨ r = 2 ∨ r = 3 ∨ r = 4 ∨ r = 5 ∨ r = 6 ∨ r = 7 ∨ r = 8 ∨ r = 9 ∨ r = 10 ∨ r = 11 := by omega
  rcases this with rfl | rfl | rfl | rfl | rfl | rfl | rfl | rfl | rfl | rfl | rfl | rfl <;> rfl

set_option maxHeartbeats 2000000 in
theorem start_any (m : Nat) (hm : m ≤ 100000) (w : World) (he : Env w) : Calls Tryd.prog 22 #[.int .i64 (m : Nat)] w fun e w' => e = .returned (.int .i64 (st m : Nat)) ∧ ∃ q, w' = w.drewN q := by
  obtain ⟨q, r, hr, rfl⟩ : ∃ q r, r < 12 ∧ m = 12 * q + r := ⟨m / 12, m % 12, by omega, by omega⟩
  have h1 : Int.tdiv ((12 * q + r : Nat) : Int) 12 = (q : Int) := by rw [show (12 : Int) = ((12 : Nat) : Int) by rfl, quo_nat]; congr 1; omega
  have h2 : Int.tmod ((12 * q + r : Nat) : Int) 12 = (r : Int) := by rw [show (12 : Int) = ((12 : Nat) : Int) by rfl, rem_nat]; congr 1; omega
  have hcell := he r hr
  have hidx := db_at r hr
  have hge := lp_ge (y := if r < 2 then 1999 + q else 2000 + q) (by split <;> omega)
  have hle := lp_le (if r < 2 then 1999 + q else 2000 + q)
  have hst := st_at q r hr
  have hdb : db r ≤ 334 := by
    have : r = 0 ∨ r = 1 ∨ r = 2 ∨ r = 3 ∨ r = 4 ∨ r = 5 ∨ r = 6 ∨ r = 7 ∨ r = 8 ∨ r = 9 ∨ r = 10 ∨ r = 11 := by omega
    rcases this with rfl | rfl | rfl | rfl | rfl | rfl | rfl | rfl | rfl | rfl | rfl | rfl <;> decide
  obtain ⟨D, hD⟩ : ∃ D, db r = D := ⟨_, rfl⟩
  obtain ⟨M, hM⟩ : ∃ M, 12 * q + r = M := ⟨_, rfl⟩
  rw [hD] at hcell hst hdb
  rw [hM] at h1 h2 hst ⊢
  have bq : q ≤ 10000 := by omega
  have HL2 : Hid (∀ w, Calls Tryd.prog 30 #[.int .i64 1999] w fun e w' => e = .returned (.int .i64 484) ∧ w' = w) := leap_any 1999 (by omega)
  clear he hD
  by_cases h : r < 2
  · rw [if_pos h] at hge hle hst
    have HY0 : ∀ w, Calls Tryd.prog 30 #[.int .i64 (2000 + (q : Int) - 1)] w fun e w' => e = .returned (.int .i64 (lp (1999 + q) : Nat)) ∧ w' = w := by
      have := leap_any (1999 + q) (by omega)
      rwa [show ((1999 + q : Nat) : Int) = 2000 + (q : Int) - 1 by omega] at this
    have HY := Lib.hid HY0
    clear HY0
    obtain ⟨B, hB⟩ : ∃ B, lp (1999 + q) = B := ⟨_, rfl⟩
    rw [hB] at HY hge hle hst
    have bB : B ≤ 20000 := by omega
    have hlt : decide ((r : Int) < 2) = true := by simp; omega
    have w1 : IntKind.i64.wrap (2000 + (q : Int) - 2000) = (q : Int) := i64_nat _ q (by omega) (by omega)
    have w2 : IntKind.i64.wrap (365 * (q : Int)) = 365 * (q : Int) := IntWalk.i64_in _ (by omega)
    have w3 : IntKind.i64.wrap (365 * (q : Int) + (D : Int)) = 365 * (q : Int) + (D : Int) := IntWalk.i64_in _ (by omega)
    have w4 : IntKind.i64.wrap (365 * (q : Int) + (D : Int) + (B : Int)) = 365 * (q : Int) + (D : Int) + (B : Int) := IntWalk.i64_in _ (by omega)
    have w5 : IntKind.i64.wrap (365 * (q : Int) + (D : Int) + (B : Int) - 484) = 365 * (q : Int) + (D : Int) + (B : Int) - 484 := IntWalk.i64_in _ (by omega)
    have HR : Hid ((st M : Int) = 365 * (q : Int) + (D : Int) + (B : Int) - 484) := Lib.hid (by omega)
    clear hB hst hge hle h hM hm
    go_enter Tryd.func22, Tryd.ntmps22
    go_wp2_with fail
    go_quiet ((go_at_call 30; first | with_reducible exact Calls.quiet_of_same (HY.out _) | with_reducible exact Calls.quiet_of_same (HL2.out _)))
    all_goals go_wp2_with fail
    all_goals go_ret
    all_goals exact ⟨by rw [HR.out]; rfl, _, rfl⟩
  · rw [if_neg h] at hge hle hst
    have HY0 : ∀ w, Calls Tryd.prog 30 #[.int .i64 (2000 + (q : Int))] w fun e w' => e = .returned (.int .i64 (lp (2000 + q) : Nat)) ∧ w' = w := by
      have := leap_any (2000 + q) (by omega)
      rwa [show ((2000 + q : Nat) : Int) = 2000 + (q : Int) by omega] at this
    have HY := Lib.hid HY0
    clear HY0
    obtain ⟨B, hB⟩ : ∃ B, lp (2000 + q) = B := ⟨_, rfl⟩
    rw [hB] at HY hge hle hst
    have bB : B ≤ 20000 := by omega
    have hlt : decide ((r : Int) < 2) = false := by simp; omega
    have w1 : IntKind.i64.wrap (2000 + (q : Int) - 2000) = (q : Int) := i64_nat _ q (by omega) (by omega)
    have w2 : IntKind.i64.wrap (365 * (q : Int)) = 365 * (q : Int) := IntWalk.i64_in _ (by omega)
    have w3 : IntKind.i64.wrap (365 * (q : Int) + (D : Int)) = 365 * (q : Int) + (D : Int) := IntWalk.i64_in _ (by omega)
    have w4 : IntKind.i64.wrap (365 * (q : Int) + (D : Int) + (B : Int)) = 365 * (q : Int) + (D : Int) + (B : Int) := IntWalk.i64_in _ (by omega)
    have w5 : IntKind.i64.wrap (365 * (q : Int) + (D : Int) + (B : Int) - 484) = 365 * (q : Int) + (D : Int) + (B : Int) - 484 := IntWalk.i64_in _ (by omega)
    have HR : Hid ((st M : Int) = 365 * (q : Int) + (D : Int) + (B : Int) - 484) := Lib.hid (by omega)
    clear hB hst hge hle h hM hm
    go_enter Tryd.func22, Tryd.ntmps22
    go_wp2_with fail
    go_quiet ((go_at_call 30; first | with_reducible exact Calls.quiet_of_same (HY.out _) | with_reducible exact Calls.quiet_of_same (HL2.out _)))
    all_goals go_wp2_with fail
    all_goals go_ret
    all_goals exact ⟨by rw [HR.out]; rfl, _, rfl⟩

theorem below_drewN (w : World) (q : Nat) : RowKit.Below w.heap.size w (w.drewN q) := ⟨rfl, rfl, rfl, Nat.le_refl _, fun _ _ => rfl⟩
theorem Env.drewN {w : World} (he : Env w) (q : Nat) : Env (w.drewN q) := he.below (below_drewN w q)

set_option maxHeartbeats 1000000 in
theorem closure_any (b d i : Nat) (hi : i ≤ 10000) (w : World) (he : Env w) (hb : w.cell? ⟨b, 0, none⟩ = some (.int .i64 (d : Nat))) :
    Calls Tryd.prog 29 #[.int .i64 (i : Nat), .pointer (some ⟨b, 0, none⟩)] w fun e w' => e = .returned (.bool (decide (d < st (i + 1)))) ∧ ∃ q, w' = w.drewN q := by
  have HS : Hid (∀ n, Calls Tryd.prog 22 #[.int .i64 ((i : Int) + 1)] (w.drewN n) fun e w' => e = .returned (.int .i64 (st (i + 1) : Nat)) ∧ ∃ q, w' = (w.drewN n).drewN q) := fun n => start_any (i + 1) (by omega) (w.drewN n) (he.drewN n)
  obtain ⟨B, hB⟩ : ∃ B, st (i + 1) = B := ⟨_, rfl⟩
  rw [hB] at HS ⊢
  have w1 : IntKind.i64.wrap ((i : Int) + 1) = (i : Int) + 1 := IntWalk.i64_in _ (by omega)
  have HR : Hid (decide ((d : Int) < (B : Int)) = decide (d < B)) := Lib.hid (by rw [decide_eq_decide]; omega)
  clear hB he
  go_enter Tryd.func29, Tryd.ntmps29
  go_wp2_with fail
  go_quiet ((go_at_call 22; with_reducible exact Calls.quiet_of (HS.out _)))
  all_goals go_wp2_with fail
  all_goals go_ret
  all_goals exact ⟨by rw [← HR.out]; rfl, _, rfl⟩
end Go.Proofs.YtdhpdkfohbafgaaDoor.Ca
