/- The contract of CalendarWeeks. -/
import Derived.Test.YtdhpdkfohbafgaaDoorCa9
set_option maxRecDepth 100000
namespace Go.Proofs.YtdhpdkfohbafgaaDoor.Ca
open Go.RowKit Go.Shelf Go.Lib Go.Sort

set_option maxHeartbeats 4000000 in
theorem weeks_any (a : Int) (w : World) (he : Env w) : Calls Tryd.prog 5 #[.int .i64 a] w (Gives (.bool true) w) := by
  have HE := Lib.hid he
  clear he
  by_cases h1 : a < 0
  · have g1 : decide (a < 0) = true := by simp; omega
    go_enter Tryd.func5, Tryd.ntmps5
    go_wp2_with fail
    refine (sane_any _ HE.out).mono ?_
    rintro e w1 ⟨rfl, hb⟩
    have HB1 := Lib.hid hb
    clear hb
    go_wp2_with fail
    go_ret
    exact ⟨rfl, HB1.out⟩
  have g1 : decide (a < 0) = false := by simp; omega
  by_cases h2 : 99993 < a
  · have g2 : decide (99993 < a) = true := by simp; omega
    go_enter Tryd.func5, Tryd.ntmps5
    go_wp2_with fail
    refine (sane_any _ HE.out).mono ?_
    rintro e w1 ⟨rfl, hb⟩
    have HB1 := Lib.hid hb
    clear hb
    go_wp2_with fail
    go_ret
    exact ⟨rfl, HB1.out⟩
  have g2 : decide (99993 < a) = false := by simp; omega
  obtain ⟨d, rfl⟩ : ∃ d : Nat, a = d := ⟨a.toNat, by omega⟩
  have g2' : decide (99993 < d) = false := by simp; omega
  have W1 := Lib.hid (week_ok d (by omega))
  have W2 : Hid (∀ w, Calls Tryd.prog 13 #[.int .i64 ((d : Int) + 1)] w (Gives (.tuple #[.int .i64 (((d + 5) % 7 + 1) % 7 : Nat), .int .i64 0]) w)) := Lib.hid (by
    have := week_ok (d + 1) (by omega)
    rwa [show (d + 1 + 5) % 7 = ((d + 5) % 7 + 1) % 7 by omega] at this)
  have W3 : Hid (∀ w, Calls Tryd.prog 13 #[.int .i64 ((d : Int) + 7)] w (Gives (.tuple #[.int .i64 ((d + 5) % 7 : Nat), .int .i64 0]) w)) := Lib.hid (by
    have := week_ok (d + 7) (by omega)
    rwa [show (d + 7 + 5) % 7 = (d + 5) % 7 by omega] at this)
  have hx : (d + 5) % 7 < 7 := by omega
  obtain ⟨x, hX⟩ : ∃ x, (d + 5) % 7 = x := ⟨_, rfl⟩
  obtain ⟨y, hY⟩ : ∃ y, ((d + 5) % 7 + 1) % 7 = y := ⟨_, rfl⟩
  rw [hX] at hY
  rw [hX] at W1 W2 W3 hx
  rw [hY] at W2
  have t : Int.tmod ((x : Int) + 1) 7 = (y : Int) := by rw [show (x : Int) + 1 = ((x + 1 : Nat) : Int) by omega, show (7 : Int) = ((7 : Nat) : Int) by rfl, rem_nat, hY]
  have by7 : y < 7 := by omega
  have bd : d ≤ 100000 := by omega
  have x1 : decide (0 ≤ (x : Int)) = true := by simp
  have x2 : decide ((x : Int) ≤ 6) = true := by simp; omega
  have x3 : decide (x ≤ 6) = true := by simp; omega
  clear hX hY h1 h2
  go_enter Tryd.func5, Tryd.ntmps5
  go_wp2_with fail
  refine (sane_any _ HE.out).mono ?_
  rintro e w1 ⟨rfl, hb⟩
  have HB1 := Lib.hid hb
  clear hb
  go_wp2_with fail
  refine (W1.out _).mono ?_
  rintro e w2 ⟨rfl, hb⟩
  have HB2 := Lib.hid (HB1.out.trans (hb.mono HB1.out.size))
  clear hb
  go_wp2_with fail
  refine (W2.out _).mono ?_
  rintro e w3 ⟨rfl, hb⟩
  have HB3 := Lib.hid (HB2.out.trans (hb.mono HB2.out.size))
  clear hb
  go_wp2_with fail
  refine (W3.out _).mono ?_
  rintro e w4 ⟨rfl, hb⟩
  have HB4 := Lib.hid (HB3.out.trans (hb.mono HB3.out.size))
  clear hb
  go_wp2_with fail
  go_ret
  exact ⟨rfl, HB4.out⟩
end Go.Proofs.YtdhpdkfohbafgaaDoor.Ca
